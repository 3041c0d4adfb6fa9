/-
  MutF, MutG, Awake4, Law4A: one text.
-/
import Derived.Test.YtihpojllalnmcaaMA2
import Derived.Test.YtihpojllalnmcaaVA
import Derived.Shelf.Strings.Builder1
import Derived.IntWalk
/-
  CONTRACTS of strings.Builder as the program writes it: a builder that the call itself has made.
-/
namespace Go.Proofs.Ytihpojllalnmcaa
open Go.RowKit Go.Shelf

theorem row_bytes {B n : Nat} {w : World} {v : Value} {xs : List Value} (h : w.ownsRow B 5 1 v n xs) {g : Nat} {cs : Array Value} {t : TypeId} {fz : Nat × Nat} (e : w.heap[g]? = some (.cells cs t fz)) (ht : t ≠ 5) : some g ≠ v.ownBlock := by
  rcases h.2 with ⟨rfl, _⟩ | ⟨g', cap', cur', rfl, _, hg, _⟩
  · simp [Value.ownBlock]
  · intro he
    have : g = g' := by simpa [Value.ownBlock] using he
    subst this
    rw [hg] at e
    cases e
    exact ht rfl
theorem strCells_bytes (l : List UInt8) (s : ByteArray) : Lib.byteCells l ++ Lib.strCells s = Lib.byteCells (l ++ s.data.toList) := by simp [Lib.byteCells, Lib.strCells]

end Go.Proofs.Ytihpojllalnmcaa


/-
  CONTRACT of Text (of a mutation).
-/
namespace Go.Proofs.Ytihpojllalnmcaa
open Go.RowKit Go.Shelf

def bl (s : ByteArray) : List UInt8 := s.data.toList
def numsT (ns : List Int) : List UInt8 := ns.flatMap fun n => bl (numS n)
def pairsT (l : List Sp) : List UInt8 := l.flatMap fun p => bl (numS p.1) ++ bl (wholeS p.2)
def tailT (k lo hi old : Int) : List UInt8 := if k = 2 then bl (numS lo) ++ bl (numS hi) else if k = 4 then bl (wholeS old) else []
def bodyT (c s k : Int) (l : List Sp) (lo hi old : Int) : List UInt8 := numsT [c, s, k, (l.length : Int)] ++ pairsT l ++ tailT k lo hi old
def textT (c s k : Int) (l : List Sp) (lo hi old : Int) : List UInt8 := if chkM c s k l lo hi old = true then bodyT c s k l lo hi old else []
theorem numsT_snoc (l : List Int) (x : Int) : numsT (l ++ [x]) = numsT l ++ bl (numS x) := by simp [numsT]
theorem pairsT_snoc (l : List Sp) (p : Sp) : pairsT (l ++ [p]) = pairsT l ++ bl (numS p.1) ++ bl (wholeS p.2) := by simp [pairsT]
theorem numS_size {n : Int} (h : n ≤ 9223372036854775807) : (numS n).size ≤ 9 := by
  unfold numS
  split
  · show (0 : Nat) ≤ 9; omega
  · have := numL_len9 (n := n.toNat) (by omega)
    show (numL n.toNat).toArray.size ≤ 9
    simpa using this
theorem wholeS_size (z : Int) : (wholeS z).size ≤ 9 := by
  cases h : mayZ z
  · rw [wholeS_no h]; show (0 : Nat) ≤ 9; omega
  · rw [wholeS_yes h]
    have h1 := foldZ_le h
    have h2 := foldZ_nonneg z
    have := numL_len9 (n := (foldZ z).toNat) (by omega)
    show (numL (foldZ z).toNat).toArray.size ≤ 9
    simpa using this

theorem cellsLow {W4 W : World} {B g i : Nat} {v : Value} (h : Below B W4 W) (hg : g < B) (e : W4.cell? ⟨g, i, none⟩ = some v) : W.cell? ⟨g, i, none⟩ = some v := (h.cell (p := ⟨g, i, none⟩) hg).trans e
theorem ret_str {a b : List UInt8} (h : a = b) : Ending.returned (.string ⟨a.toArray⟩) = .returned (.string ⟨b.toArray⟩) := by rw [h]
end Go.Proofs.Ytihpojllalnmcaa


/-
  CONTRACT of awake (of the statements on mutations).
-/
namespace Go.Proofs.Ytihpojllalnmcaa
open Go.RowKit Go.Shelf

theorem touch_ex : touchL 1 1 5 [(9, 3), (4, 3)] 0 0 0 = [(4, 5), (9, 10)] := by
  have h1 : chkM 1 1 5 [(9, 3), (4, 3)] 0 0 0 = true := by decide +kernel
  unfold touchL
  rw [if_pos h1, if_neg (by decide)]
  refine (setOf_eq (by decide) fun k _ _ => ?_).symm
  rw [Bool.eq_iff_iff]
  simp only [List.map, sing, hasB_cons, hasB_nil, Bool.or_eq_true, inB_iff]
  simp
  omega
theorem text_ex : textT 1 2 1 [(5, 7)] 0 0 0 = [1, 2, 1, 1, 5, 14] := by decide +kernel

end Go.Proofs.Ytihpojllalnmcaa


/-
  MUTATIONS AND STAMPS by value that came in; THE WALK of MutOrder.
-/
namespace Go.Proofs.Ytihpojllalnmcaa
open Go.RowKit Go.Shelf Go.ChangeShapes Go.WideShapes Go.Deep

theorem argP_of {H : Type} {enc : TypeId × Value → H} {w : World} {base : Nat} {spare : Nat → Bool} {held : Bool} {t e : TypeId} {f0 f1 : Field} {fuel : Nat} {v : Value} {x : DataW H × List MemPlace}
    (ht : Try.prog.underlying t = some (.slice e)) (he : Try.prog.underlying e = some (.struct #[f0, f1])) (ce : Try.prog.cellsOf e = 2) (o0 : f0.offset = 0) (o1 : f1.offset = 1) (t0 : f0.type = 3) (t1 : f1.type = 3) (ci : Try.prog.cellsOf 3 = 1)
    (hf : DataW.trod enc Try.prog w base spare held fuel t [v] = some x) : ∃ a n c ps, v = .slice a n c ∧ Arg w a n c ps := by
  rcases open_slice_pairs ht he ce o0 o1 (by rw [t0]; exact ci) (by rw [t1]; exact ci) hf with ⟨hcs, _⟩ | ⟨x, len, c, m, n, V0, V1, D0, D1, P0, P1, hcs, _, hl, hm, hmm, _, hx⟩
  · exact ⟨none, 0, 0, [], by simpa using hcs, rfl, by simp, Nat.le_refl _, Nat.zero_le _, PIn.nil _ _ _⟩
  · have hlm : len ≤ m := by rw [hmm]; split <;> omega
    have each : ∀ i, i < len → ∃ q : Int × Int, w.cell? (x.add (i * 2)) = some (.int .i64 q.1) ∧ w.cell? (x.add (i * 2 + 1)) = some (.int .i64 q.2) := by
      intro i hi'
      obtain ⟨c1, c2, r1, r2⟩ := hx i (by omega)
      rw [t0] at r1
      rw [t1] at r2
      obtain ⟨y0, e0, _, _⟩ := DataW.trod_int Try.underlying3 r1
      obtain ⟨y1, e1, _, _⟩ := DataW.trod_int Try.underlying3 r2
      simp at e0 e1
      rw [e0] at c1
      rw [e1] at c2
      exact ⟨(y0, y1), c1, c2⟩
    let q : Nat → Int × Int := fun i => if h : i < len then Classical.choose (each i h) else (0, 0)
    have hq : ∀ i (h : i < len), w.cell? (x.add (i * 2)) = some (.int .i64 (q i).1) ∧ w.cell? (x.add (i * 2 + 1)) = some (.int .i64 (q i).2) := by
      intro i h
      have := Classical.choose_spec (each i h)
      simp only [q, dif_pos h]
      exact this
    have hlen : ((List.range len).map q).length = len := by simp
    refine ⟨some x, len, c, (List.range len).map q, by simpa using hcs, hlen.symm, by rw [hlen]; unfold maxLen at hm; omega, by rw [hlen]; exact hl, hm, fun k hk => ?_⟩
    rw [hlen] at hk
    obtain ⟨b, off, spot⟩ := x
    obtain ⟨c1, c2⟩ := hq k hk
    have hspot : spot = none := by simpa [Addr.add] using World.cell?_spot (hq 0 (by omega)).1
    subst hspot
    have h2 : ((List.range len).map q).getD k (0, 0) = q k := by simp [List.getD, hk]
    rw [h2]
    rw [addr_add] at c1 c2
    exact ⟨b, off, rfl, World.block_lt_of_cell? w _ c1, c1, c2⟩
/-! How stamps stand. -/
theorem cmp_cases (t1 c1 s1 t2 c2 s2 : Int) : (cmpS t1 c1 s1 t2 c2 s2 = 0 ∧ t1 = t2 ∧ c1 = c2 ∧ s1 = s2) ∨ (cmpS t1 c1 s1 t2 c2 s2 = -1 ∧ (t1 < t2 ∨ t1 = t2 ∧ (c1 < c2 ∨ c1 = c2 ∧ s1 < s2))) ∨ (cmpS t1 c1 s1 t2 c2 s2 = 1 ∧ (t2 < t1 ∨ t1 = t2 ∧ (c2 < c1 ∨ c1 = c2 ∧ s2 < s1))) := by
  unfold cmpS befB
  by_cases h1 : t1 = t2
  · by_cases h2 : c1 = c2
    · by_cases h3 : s1 = s2
      · left; simp [h1, h2, h3]
      · by_cases h4 : s1 < s2
        · right; left; simp [h1, h2, h3, h4]
        · right; right; simp [h1, h2, h3, h4]; omega
    · by_cases h4 : c1 < c2
      · right; left; simp [h1, h2, h4]
      · right; right; simp [h1, h2, h4]; omega
  · by_cases h4 : t1 < t2
    · right; left; simp [h1, h4]
    · right; right; simp [h1, h4]; omega
theorem cmp_neg (t1 c1 s1 t2 c2 s2 : Int) : cmpS t1 c1 s1 t2 c2 s2 = -cmpS t2 c2 s2 t1 c1 s1 := by
  rcases cmp_cases t1 c1 s1 t2 c2 s2 with ⟨e, h⟩ | ⟨e, h⟩ | ⟨e, h⟩ <;> rcases cmp_cases t2 c2 s2 t1 c1 s1 with ⟨f, g⟩ | ⟨f, g⟩ | ⟨f, g⟩ <;> rw [e, f] <;> omega
theorem cmp_trans {t1 c1 s1 t2 c2 s2 t3 c3 s3 : Int} (h1 : cmpS t1 c1 s1 t2 c2 s2 ≤ 0) (h2 : cmpS t2 c2 s2 t3 c3 s3 ≤ 0) : cmpS t1 c1 s1 t3 c3 s3 ≤ 0 := by
  rcases cmp_cases t1 c1 s1 t2 c2 s2 with ⟨e, h⟩ | ⟨e, h⟩ | ⟨e, h⟩ <;> rcases cmp_cases t2 c2 s2 t3 c3 s3 with ⟨f, g⟩ | ⟨f, g⟩ | ⟨f, g⟩ <;> rcases cmp_cases t1 c1 s1 t3 c3 s3 with ⟨j, i⟩ | ⟨j, i⟩ | ⟨j, i⟩ <;> omega
theorem cmp_bd (t1 c1 s1 t2 c2 s2 : Int) : -1 ≤ cmpS t1 c1 s1 t2 c2 s2 ∧ cmpS t1 c1 s1 t2 c2 s2 ≤ 1 := by
  rcases cmp_cases t1 c1 s1 t2 c2 s2 with ⟨e, h⟩ | ⟨e, h⟩ | ⟨e, h⟩ <;> omega

/-- Three boxes of three cells, behind calls. -/
theorem st9 {w W : World} {ta tb tc : TypeId} {a0 a1 a2 b0 b1 b2 c0 c1 c2 : Value} (h : Below (((w.alloc (.cells #[a0, a1, a2] ta)).alloc (.cells #[b0, b1, b2] tb)).alloc (.cells #[c0, c1, c2] tc)).heap.size (((w.alloc (.cells #[a0, a1, a2] ta)).alloc (.cells #[b0, b1, b2] tb)).alloc (.cells #[c0, c1, c2] tc)) W) :
    W.cell? ⟨w.heap.size, 0, none⟩ = some a0 ∧ W.cell? ⟨w.heap.size, 1, none⟩ = some a1 ∧ W.cell? ⟨w.heap.size, 2, none⟩ = some a2 ∧ W.cell? ⟨w.heap.size + 1, 0, none⟩ = some b0 ∧ W.cell? ⟨w.heap.size + 1, 1, none⟩ = some b1 ∧ W.cell? ⟨w.heap.size + 1, 2, none⟩ = some b2 ∧
    W.cell? ⟨w.heap.size + 2, 0, none⟩ = some c0 ∧ W.cell? ⟨w.heap.size + 2, 1, none⟩ = some c1 ∧ W.cell? ⟨w.heap.size + 2, 2, none⟩ = some c2 := by
  have A := fun i => h.cell (p := ⟨w.heap.size, i, none⟩) (by simp; omega)
  have B := fun i => h.cell (p := ⟨w.heap.size + 1, i, none⟩) (by simp)
  have C := fun i => h.cell (p := ⟨w.heap.size + 2, i, none⟩) (by simp)
  rw [A, A, A, B, B, B, C, C, C]
  have z1 : (w.alloc (.cells #[a0, a1, a2] ta)).heap.size = w.heap.size + 1 := by simp
  have z2 : ((w.alloc (.cells #[a0, a1, a2] ta)).alloc (.cells #[b0, b1, b2] tb)).heap.size = w.heap.size + 2 := by simp
  have n1 : ∀ i, (((w.alloc (.cells #[a0, a1, a2] ta)).alloc (.cells #[b0, b1, b2] tb)).alloc (.cells #[c0, c1, c2] tc)).cell? ⟨w.heap.size, i, none⟩ = (w.alloc (.cells #[a0, a1, a2] ta)).cell? ⟨w.heap.size, i, none⟩ := fun i => by
    rw [World.cell?_alloc_lt _ _ ⟨w.heap.size, i, none⟩ (by rw [z2]; show w.heap.size < _; omega), World.cell?_alloc_lt _ _ ⟨w.heap.size, i, none⟩ (by rw [z1]; show w.heap.size < _; omega)]
  have n2 : ∀ i, (((w.alloc (.cells #[a0, a1, a2] ta)).alloc (.cells #[b0, b1, b2] tb)).alloc (.cells #[c0, c1, c2] tc)).cell? ⟨w.heap.size + 1, i, none⟩ = #[b0, b1, b2][i]? := fun i => by
    rw [World.cell?_alloc_lt _ _ ⟨w.heap.size + 1, i, none⟩ (by rw [z2]; show w.heap.size + 1 < _; omega), ← z1]
    exact cell_of_row _ _ _ _ _ _ (heap_alloc_new _ _)
  have n3 : ∀ i, (((w.alloc (.cells #[a0, a1, a2] ta)).alloc (.cells #[b0, b1, b2] tb)).alloc (.cells #[c0, c1, c2] tc)).cell? ⟨w.heap.size + 2, i, none⟩ = #[c0, c1, c2][i]? := fun i => by
    rw [← z2]
    exact cell_of_row _ _ _ _ _ _ (heap_alloc_new _ _)
  have n0 : ∀ i, (w.alloc (.cells #[a0, a1, a2] ta)).cell? ⟨w.heap.size, i, none⟩ = #[a0, a1, a2][i]? := fun i => cell_of_row _ _ _ _ _ _ (heap_alloc_new _ _)
  rw [n1, n1, n1, n2, n2, n2, n3, n3, n3, n0, n0, n0]
  exact ⟨rfl, rfl, rfl, rfl, rfl, rfl, rfl, rfl, rfl⟩
end Go.Proofs.Ytihpojllalnmcaa
