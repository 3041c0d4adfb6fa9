/-
  SpanG, SpanH, RefA3, Awake3: one text.
-/
import Derived.Test.YtihpojllalnmcaaSA2
import Derived.Test.YtihpojllalnmcaaShelf
import Derived.Laws.StructEq
/-
  CONTRACTS of the library's functions as span calls them; Has, Make, Within.
-/
namespace Go.Proofs.Ytihpojllalnmcaa
open Go.RowKit Go.Shelf
open Go.Sort (HoldsK PermIn SortedIn SWO grow putRowK putRow)

theorem getE_eq {l : List Sp} {j : Nat} (h : j < l.length) : l[j]! = l.getD j (0, 0) := by
  rw [getElem!_pos l j h]; simp [List.getD, List.getElem?_eq_getElem h]
theorem spC_hc {w : World} {B : Nat} {b off : Nat} {l : List Sp} (h : PIn w B (some ⟨b, off, none⟩) l) (j : Nat) (hj : j < l.length) (i : Nat) (v : Value) (hi : (spC l[j]!)[i]? = some v) : w.cell? ⟨b, off + j * 2 + i, none⟩ = some v := by
  obtain ⟨b', off', e, _, c0, c1⟩ := h j hj
  cases e
  rw [getE_eq hj] at hi
  match i, hi with
  | 0, hi => simp [spC] at hi; rw [← hi]; exact c0
  | 1, hi => simp [spC] at hi; rw [← hi]; exact c1
  | i + 2, hi => simp [spC] at hi
theorem PIn.some' {w : World} {B : Nat} {a : Option Addr} {l : List Sp} (h : PIn w B a l) (hl : l ≠ []) : ∃ b off, a = some ⟨b, off, none⟩ ∧ b < B := by
  obtain ⟨b, off, e, hb, _⟩ := h 0 (List.length_pos_iff.2 hl)
  exact ⟨b, off, e, hb⟩

/-! slices.ContainsFunc -/
theorem ltLo (x y : Sp) : ltOf (fun x y : Sp => Lib.compareInt x.1 y.1) x y = decide (x.1 < y.1) := by
  unfold ltOf Lib.compareInt
  by_cases h1 : x.1 < y.1
  · simp [h1]
  · by_cases h2 : y.1 < x.1 <;> simp [h1, h2]
theorem swoLo : SWO (ltOf fun x y : Sp => Lib.compareInt x.1 y.1) where
  irrefl x := by rw [ltLo]; simp
  trans x y z h1 h2 := by rw [ltLo] at *; simp at *; omega
  ntrans x y z h1 h2 := by rw [ltLo] at *; simp at *; omega
end Go.Proofs.Ytihpojllalnmcaa


/-
  CONTRACTS: a copy of spans, sorted; Make.
-/
namespace Go.Proofs.Ytihpojllalnmcaa
open Go.RowKit Go.Shelf
open Go.Sort (HoldsK PermIn SortedIn SWO grow putRowK putRow)

theorem flatP_one (l : List Sp) : ∀ u ∈ flatP l, u.oneCell' = true := by
  induction l with
  | nil => simp [flatP]
  | cons s t ih =>
    intro u hu
    rw [show flatP (s :: t) = spC s ++ flatP t from rfl] at hu
    rcases List.mem_append.1 hu with h | h
    · simp [spC] at h; rcases h with rfl | rfl <;> rfl
    · exact ih u h
theorem flatP_hc {w : World} {B b off : Nat} {l : List Sp} (h : PIn w B (some ⟨b, off, none⟩) l) (j : Nat) (u : Value) (hj : (flatP l)[j]? = some u) : w.cell? ⟨b, off + j, none⟩ = some u := by
  have hlt : j < (flatP l).length := (List.getElem?_eq_some_iff.1 hj).1
  rw [flatP_length] at hlt
  have hk : j / 2 < l.length := by omega
  obtain ⟨b', off', e, _, c0, c1⟩ := h (j / 2) hk
  cases e
  obtain ⟨g0, g1⟩ := flatP_get l (j / 2) hk
  rcases Nat.mod_two_eq_zero_or_one j with hm | hm
  · have he : j / 2 * 2 = j := by omega
    rw [he] at g0 c0
    rw [g0] at hj; cases hj; exact c0
  · have he : j / 2 * 2 + 1 = j := by omega
    rw [he] at g1
    rw [Nat.add_assoc, he] at c1
    rw [g1] at hj; cases hj; exact c1

def ClonePost (w : World) (l : List Sp) (e : Ending) (w' : World) : Prop := ∃ v, e = .returned v ∧ OwnsP 59 w' w.heap.size v l ∧ Below w.heap.size w w'
theorem below_sorted {w : World} {B g n : Nat} {os : Array Obj} (d : Array Sp) (hg : B ≤ g) (hB : B ≤ w.heap.size) : Below B w (sortWorldK spC 2 w g 0 n d os) := by
  refine ⟨rfl, rfl, rfl, by simp [sortWorldK, grow, putRowK, putRow, Go.Sort.mapBlock, Go.Sort.ahead], fun k hk => ?_⟩
  have : g ≠ k := by omega
  unfold sortWorldK
  rw [Go.Sort.heap_grow_old _ _ (by simp [putRowK, putRow, Go.Sort.mapBlock, Go.Sort.ahead]; omega)]
  simp [putRowK, putRow, Go.Sort.mapBlock, Go.Sort.ahead, Array.getElem?_modify, this]
/-- The spans, sorted by their starts. -/
def SortPost (base : Nat) (a : Option Addr) (l : List Sp) (w : World) (e : Ending) (w' : World) : Prop :=
  e = .returned (.tuple #[]) ∧ ∃ d : List Sp, d.Perm l ∧ d.Pairwise (fun x y => x.1 ≤ y.1) ∧ PIn w' w'.heap.size a d ∧ Below base w w'
theorem pairwise_of {d : Array Sp} (h : SortedIn (ltOf fun x y : Sp => Lib.compareInt x.1 y.1) 0 d.size d) : d.toList.Pairwise (fun x y => x.1 ≤ y.1) := by
  rw [List.pairwise_iff_getElem]
  intro i j hi hj hij
  have := h i j (Nat.zero_le _) hij (by simpa using hj)
  rw [ltLo, decide_eq_false_iff_not, getElem!_pos d i (by simpa using hi), getElem!_pos d j (by simpa using hj)] at this
  simpa using this
theorem pIn_of_holds {w : World} {g : Nat} {d : Array Sp} (hg : g < w.heap.size) (h : HoldsK spC 2 w g 0 d) : PIn w w.heap.size (some ⟨g, 0, none⟩) d.toList := fun k hk => by
  have hk' : k < d.size := by simpa using hk
  have c0 := (Go.Sort.HoldsK.cell h (i := k) (c := 0) hk' (by omega)).1
  have c1 := (Go.Sort.HoldsK.cell h (i := k) (c := 1) hk' (by omega)).1
  have e : d[k]! = d.toList.getD k (0, 0) := by rw [getElem!_pos d k hk']; simp [List.getD, hk']
  rw [e] at c0 c1
  exact ⟨g, 0, rfl, hg, c0, c1⟩
theorem holds_of_pIn {w : World} {g : Nat} {l : List Sp} (h : ∀ j u, (flatP l)[j]? = some u → w.cell? ⟨g, 0 + j, none⟩ = some u) (hf : ∀ i, w.frozen? ⟨g, i, none⟩ = false) : HoldsK spC 2 w g 0 l.toArray := by
  intro j hj
  refine ⟨?_, hf _⟩
  rw [Go.Sort.size_flatK] at hj
  have hj' : j < l.length * 2 := by simpa using hj
  rw [id, Go.Sort.get_flatK _ _ _ _ hj]
  have hk : j / 2 < l.length := by omega
  obtain ⟨g0, g1⟩ := flatP_get l (j / 2) hk
  have e : l.toArray[j / 2]! = l.getD (j / 2) (0, 0) := by rw [getElem!_pos l.toArray (j / 2) (by simpa using hk)]; simp [List.getD, List.getElem?_eq_getElem hk]
  rw [e]
  rcases Nat.mod_two_eq_zero_or_one j with hm | hm
  · rw [hm]
    have he : j / 2 * 2 = j := by omega
    rw [he] at g0
    exact h j _ g0
  · rw [hm]
    have he : j / 2 * 2 + 1 = j := by omega
    rw [he] at g1
    exact h j _ g1
theorem fold_len : ∀ (d l : List Sp), (d.foldl ext l).length ≤ l.length + d.length
  | [], l => by simp
  | s :: d, l => by
    have h1 := fold_len d (ext l s)
    have h2 := ext_len l s
    simp only [List.foldl_cons, List.length_cons]; omega
theorem fold_take {d : List Sp} {k : Nat} (h : k < d.length) : (d.take (k + 1)).foldl ext [] = ext ((d.take k).foldl ext []) (d.getD k (0, 0)) := by
  rw [take_more h, List.foldl_append]; rfl
theorem made {l d : List Sp} (hall : ∀ s ∈ l, oneB s = true) (hp : d.Perm l) (hs : d.Pairwise (fun x y => x.1 ≤ y.1)) : d.foldl ext [] = setOf (hasB l) := by
  obtain ⟨h1, h2⟩ := fold_ext d [] rfl (fun s h => hall s (hp.mem_iff.1 h)) (fun s h => by
    have := (oneB_iff s).1 (hall s (hp.mem_iff.1 h)); show (0 : Int) ≤ s.1; omega) hs
  exact setOf_eq h1 fun k _ _ => by rw [h2, hasB_nil, Bool.false_or, hasB_perm hp]
def makeP (l : List Sp) : List Sp × Int := if l.all oneB = true then limP (setOf (hasB l)) else ([], 1)

end Go.Proofs.Ytihpojllalnmcaa


/-
  CONTRACTS: the statements' own Refs, same, alike, few; the document's Same, on spans.
-/
namespace Go.Proofs.Ytihpojllalnmcaa
open Go.RowKit Go.Shelf

theorem Try.infoRef : (Try.prog.info? 102).map (fun i => (i.zero, i.size, i.bytes)) = some (some (.agg #[.int .i64 0, .int .i64 0]), 2, 16) := by kernel_rfl
/-- A list of spans that was given, as arguments show it. -/
def ListArg (w : World) (l : List Sp) (e : Ending) (w' : World) : Prop := ∃ a n c, e = .returned (.slice a n c) ∧ Arg w' a n c l ∧ Below w.heap.size w w'
theorem Arg.of_own {t : TypeId} {w : World} {base : Nat} {a : Option Addr} {n c : Nat} {l : List Sp} (h : OwnsP t w base (.slice a n c) l) (hn : n = l.length) : Arg w a n c l := by
  subst hn
  obtain ⟨a', c', hv, h1, h2, h3, _⟩ := h.arg
  cases hv
  exact ⟨rfl, by unfold maxLen at h2; omega, h1, h2, h3⟩
theorem ownsP_of_row {t : TypeId} {w : World} {base n : Nat} {v : Value} {l : List Sp} (h : w.ownsRow base t 2 v n (flatP l)) (hn : n = l.length) : OwnsP t w base v l := by subst hn; exact h
theorem Arg.len {w : World} {a : Option Addr} {n c : Nat} {l : List Sp} (h : Arg w a n c l) : n = l.length := h.1

theorem neqRef (x y p q : Int) (w : World) : (binOp .neq 102 (.agg #[.int .i64 x, .int .i64 y]) (.agg #[.int .i64 p, .int .i64 q])).run Try.prog w = .ok (.bool (!decide ((x, y) = (p, q)))) w := by
  have u3 := Try.underlying3
  have a3 := Try.isAgg3
  have z3 := Try.sizeOf3
  have hS : Try.prog.underlying 102 = some (.struct (Try.prog.fieldsOf 102)) := by kernel_rfl
  have hp : Try.prog.stoodInHeld 102 = false := by kernel_rfl
  rw [run_neq_struct, show (10000 : Nat) = 9999 + 1 from rfl, run_equalIn_agg w 9999 102 _ _ hS hp]
  simp only [Program.fieldsOf, Try.underlying102]
  go_simp
  by_cases h1 : x = p <;> by_cases h2 : y = q <;> simp [h1, h2]

end Go.Proofs.Ytihpojllalnmcaa


/-
  CONTRACTS: slices.Equal at spans; Within; awake.
-/
namespace Go.Proofs.Ytihpojllalnmcaa
open Go.RowKit Go.Shelf

theorem eqSpanIn (x y p q : Int) (w : World) : (Op.equalIn 10000 59 (.agg #[.int .i64 x, .int .i64 y]) (.agg #[.int .i64 p, .int .i64 q])).run Try.prog w = .ok (x == p && y == q) w := by
  have u3 := Try.underlying3
  have a3 := Try.isAgg3
  have z3 := Try.sizeOf3
  have hS : Try.prog.underlying 59 = some (.struct (Try.prog.fieldsOf 59)) := by kernel_rfl
  have hp : Try.prog.stoodInHeld 59 = false := by kernel_rfl
  rw [show (10000 : Nat) = 9999 + 1 from rfl, run_equalIn_agg w 9999 59 _ _ hS hp]
  simp only [Program.fieldsOf, Try.underlying59]
  go_simp
  by_cases h1 : x = p <;> by_cases h2 : y = q <;> simp [h1, h2]
theorem eqSpan (x y p q : Int) (w : World) : (binOp .eql 59 (.agg #[.int .i64 x, .int .i64 y]) (.agg #[.int .i64 p, .int .i64 q])).run Try.prog w = .ok (.bool (x == p && y == q)) w := by
  rw [run_eql_struct, eqSpanIn]; rfl
theorem neqSpan : NeqAt Try.prog 59 (fun x => .agg (spC x).toArray) (fun x y : Sp => x.1 == y.1 && x.2 == y.2) :=
  ⟨fun x y w => by
    show (binOp .neq 59 (.agg #[.int .i64 x.1, .int .i64 x.2]) (.agg #[.int .i64 y.1, .int .i64 y.2])).run Try.prog w = _
    rw [run_neq_struct, eqSpanIn]; rfl, GuardAt.agg _ (by kernel_rfl)⟩
theorem eqSp (x y : Sp) : (x.1 == y.1 && x.2 == y.2) = decide (x = y) := by
  rw [Bool.eq_iff_iff]; simp [Prod.ext_iff]
theorem allEq_iff (l k : List Sp) : Lib.allEq (fun x y : Sp => x.1 == y.1 && x.2 == y.2) l k = decide (l = k) := by
  by_cases h : l = k
  · subst h
    rw [decide_eq_true rfl]
    exact Lib.allEq_all _ _ _ rfl fun j _ => by simp
  · rw [decide_eq_false h]
    by_cases hl : l.length = k.length
    · by_cases hall : ∀ j, j < l.length → l.getD j (0, 0) = k.getD j (0, 0)
      · refine absurd (List.ext_getElem hl fun j h1 h2 => ?_) h
        have := hall j h1
        simpa [List.getD, List.getElem?_eq_getElem h1, List.getElem?_eq_getElem h2] using this
      · obtain ⟨j, hj⟩ := Classical.not_forall.1 hall
        obtain ⟨hj, hne⟩ := Classical.not_imp.1 hj
        refine Lib.allEq_elem _ _ _ j hj (by omega) ?_
        rw [getE_eq hj, getE_eq (by omega), eqSp]
        exact decide_eq_false hne
    · exact Lib.allEq_len _ _ _ hl

def withinB (A B : List Sp) : Bool := decide ((meetP A B).2 = 0) && decide ((meetP A B).1 = A)
theorem limP_yes {L : List Sp} (h : L.length ≤ 64) : limP L = (L, 0) := if_pos h
theorem chkB_of {l : List Sp} (h : canB (-1) l = true) (hl : l.length ≤ 64) : chkB l = true := by unfold chkB; rw [h, decide_eq_true hl]; rfl
theorem mixP_yes (f : Bool → Bool → Bool) {A B : List Sp} (hA : chkB A = true) (hB : chkB B = true) : mixP f A B = limP (setOf fun j => f (hasB A j) (hasB B j)) := if_pos ⟨hA, hB⟩
theorem makeP_yes {l : List Sp} (h : l.all oneB = true) : makeP l = limP (setOf (hasB l)) := if_pos h
theorem make_ex : makeP [(5, 7), (1, 3), (3, 4)] = ([(1, 4), (5, 7)], 0) := by
  have h1 : ([(5, 7), (1, 3), (3, 4)] : List Sp).all oneB = true := by decide
  rw [makeP_yes h1]
  have e : ([(1, 4), (5, 7)] : List Sp) = setOf (hasB [(5, 7), (1, 3), (3, 4)]) := by
    refine setOf_eq (by decide) fun k _ _ => ?_
    rw [Bool.eq_iff_iff]
    simp only [hasB_cons, hasB_nil, Bool.or_eq_true, inB_iff]
    simp
    omega
  rw [← e]
  exact limP_yes (by simp)
theorem meet_ex : meetP [(1, 4), (5, 7)] [(3, 6)] = ([(3, 4), (5, 6)], 0) := by
  have h1 : chkB ([(1, 4), (5, 7)] : List Sp) = true := by decide
  have h2 : chkB ([(3, 6)] : List Sp) = true := by decide
  unfold meetP
  rw [mixP_yes _ h1 h2]
  have e : ([(3, 4), (5, 6)] : List Sp) = setOf fun j => hasB [(1, 4), (5, 7)] j && hasB [(3, 6)] j := by
    refine setOf_eq (by decide) fun k _ _ => ?_
    rw [Bool.eq_iff_iff]
    simp only [hasB_cons, hasB_nil, Bool.or_eq_true, Bool.and_eq_true, inB_iff]
    simp
    omega
  rw [← e]
  exact limP_yes (by simp)
/-- Spans that a literal lays in a new block. -/
theorem arg_new (w : World) (t : TypeId) (l : List Sp) (cs : Array Value) (h : cs.toList = flatP l) (hl : l.length ≤ 1000) : Arg (w.alloc (.cells cs t)) (some ⟨w.heap.size, 0, none⟩) l.length l.length l := by
  refine ⟨rfl, by omega, Nat.le_refl _, by unfold maxLen; omega, fun k hk => ⟨w.heap.size, 0, rfl, by simp, ?_, ?_⟩⟩
  · have := (flatP_get l k hk).1
    rw [← h] at this
    rw [Nat.zero_add, ← this]; simp
  · have := (flatP_get l k hk).2
    rw [← h] at this
    rw [Nat.zero_add, ← this]; simp
/-- A list of two spans, its cells. -/
theorem Arg.two {w : World} {a : Option Addr} {n c : Nat} {x y : Sp} (h : Arg w a n c [x, y]) : n = 2 ∧ ∃ b off, a = some ⟨b, off, none⟩ ∧ b < w.heap.size ∧ w.cell? ⟨b, off, none⟩ = some (.int .i64 x.1) ∧ w.cell? ⟨b, off + 1, none⟩ = some (.int .i64 x.2) ∧ w.cell? ⟨b, off + 2, none⟩ = some (.int .i64 y.1) ∧ w.cell? ⟨b, off + 2 + 1, none⟩ = some (.int .i64 y.2) := by
  obtain ⟨hn, _, _, _, hp⟩ := h
  obtain ⟨b, off, e, hb, c0, c1⟩ := hp 0 (by simp)
  obtain ⟨b', off', e', _, d0, d1⟩ := hp 1 (by simp)
  rw [e] at e'
  cases e'
  exact ⟨hn, b, off, e, hb, c0, c1, d0, d1⟩

end Go.Proofs.Ytihpojllalnmcaa
