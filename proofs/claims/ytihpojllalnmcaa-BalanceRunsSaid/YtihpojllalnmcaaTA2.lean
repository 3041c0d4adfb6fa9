/-
  TabC, TabD, TabE, TabF, TabG, TabH, TabI: one text.
-/
import Derived.Test.YtihpojllalnmcaaTA1
import Derived.Shelf.Spec.SlicesInsert
import Derived.Lib.AppendZerosOnto
import Derived.Laws.NewBlocks
/-
  CONTRACTS of slices.Clone and slices.Insert (of one pair), on pairs, in a row of the call's own; of with.
-/
namespace Go.Proofs.Ytihpojllalnmcaa
open Go.RowKit Go.Shelf Go.Lib

theorem Try.infoPair : (Try.prog.info? 68).map (fun i => (i.zero, i.size, i.bytes)) = some (some (.agg #[.int .i64 0, .int .i64 0]), 2, 16) := by kernel_rfl

/-! Cells that are set one behind the other in a row. -/
def setL (l : List Value) (o : Nat) : List Value → List Value
  | [] => l
  | v :: r => setL (l.set o v) (o + 1) r
theorem setL_app : ∀ (X A B C : List Value), B.length = X.length → setL (A ++ B ++ C) A.length X = A ++ X ++ C
  | [], A, B, C, h => by have : B = [] := List.eq_nil_of_length_eq_zero (by simpa using h); subst this; rfl
  | v :: r, A, b :: B, C, h => by
    show setL ((A ++ (b :: B) ++ C).set A.length v) (A.length + 1) r = _
    have e : (A ++ (b :: B) ++ C).set A.length v = (A ++ [v]) ++ B ++ C := by
      rw [List.append_assoc, List.set_append_right _ _ (Nat.le_refl _), Nat.sub_self]
      simp
    rw [e, show A.length + 1 = (A ++ [v]).length by simp, setL_app r (A ++ [v]) B C (by simpa using h)]
    simp
  | v :: r, A, [], C, h => by simp at h
theorem setL_len : ∀ (X l : List Value) (o : Nat), (setL l o X).length = l.length
  | [], _, _ => rfl
  | v :: r, l, o => by show (setL (l.set o v) (o + 1) r).length = _; rw [setL_len r, List.length_set]
theorem heap_setL (g : Nat) (t : TypeId) : ∀ (X : List Value) (o : Nat) (w : World) (cur : Array Value), w.heap[g]? = some (.cells cur t (0, 0)) → (w.setCells g o X).heap[g]? = some (.cells (setL cur.toList o X).toArray t (0, 0))
  | [], _, w, cur, h => by simpa [setL, World.setCells] using h
  | v :: r, o, w, cur, h => by
    show ((w.setCell ⟨g, o, none⟩ v).setCells g (o + 1) r).heap[g]? = _
    rw [heap_setL g t r (o + 1) (w.setCell ⟨g, o, none⟩ v) (cur.setIfInBounds o v) (heap_setCell_same w g o cur t v h), Array.toList_setIfInBounds]
    rfl
theorem below_setL {B g : Nat} {a : World} (hg : B ≤ g) : ∀ (X : List Value) (o : Nat) (w : World), Below B a w → Below B a (w.setCells g o X)
  | [], _, _, h => h
  | v :: r, o, w, h => below_setL hg r (o + 1) (w.setCell ⟨g, o, none⟩ v) (h.setCell (p := ⟨g, o, none⟩) hg v)

/-- copy, of elements of two cells. -/
theorem run_copy2 (w : World) (dT sT ty elem : TypeId) (b o dLen dCap : Nat) (a : Addr) (sLen sCap : Nat) (cs : List Value)
    (hu : Try.prog.underlying dT = some (.slice elem)) (hs : (Try.prog.info? elem).map (·.size) = some 2) (hn : cs.length = Nat.min sLen dLen * 2)
    (hsrc : ∀ j v, cs[j]? = some v → w.cell? (a.add j) = some v) (hc : ∀ j, j < cs.length → (w.cell? ⟨b, o + j, none⟩).isSome = true) (hf : ∀ j, j < cs.length → w.frozen? ⟨b, o + j, none⟩ = false) (h1 : ∀ v ∈ cs, v.oneCell' = true) :
    (Builtin.copy_ #[dT, sT] ty #[.slice (some ⟨b, o, none⟩) dLen dCap, .slice (some a) sLen sCap]).run Try.prog w = .ok (goInt (Nat.min sLen dLen)) (w.setCells b o cs) := by
  have hl := run_loadCells_list (P := Try.prog) w a cs hsrc
  have hst := run_storeCells_cells (P := Try.prog) b o cs 0 w (by simpa using hc) (by simpa using hf) h1
  cases hq : Try.prog.info? elem with
  | none => simp [hq] at hs
  | some i =>
    have hi : i.size = 2 := by simpa [hq] using hs
    simp [Builtin.copy_, run_underlying hu, Builtin.lenOf, Builtin.firstCells, sizeOf, typeInfo, hq, hi, ← hn, hl, hst]

def ClonePairPost (w : World) (l : List Sp) (e : Ending) (w' : World) : Prop := ∃ v, e = .returned v ∧ OwnsP 68 w' w.heap.size v l ∧ Below w.heap.size w w'
/-- A row of the call's own, and what is in it. -/
def InsPost (base : Nat) (l : List Sp) (w : World) (e : Ending) (w' : World) : Prop := ∃ v, e = .returned v ∧ OwnsP 68 w' base v l ∧ Below base w w'

theorem flatP_take (l : List Sp) (k : Nat) (hk : k ≤ l.length) : (flatP l).take (k * 2) = flatP (l.take k) := by
  have e : flatP l = flatP (l.take k) ++ flatP (l.drop k) := by rw [← flatP_append, List.take_append_drop]
  rw [e]
  exact List.take_left' (by rw [flatP_length, List.length_take, Nat.min_eq_left hk])
theorem mid_list {cur : List Value} {l : List Sp} {i n : Nat} (x y : Value) (hn : l.length = n) (hi : i ≤ n) (ht : cur.take (n * 2) = flatP l) (hs : (n + 1) * 2 ≤ cur.length) :
    (setL (setL cur ((i + 1) * 2) (flatP (l.drop i))) (i * 2) [x, y]).take ((n + 1) * 2) = flatP (l.take i) ++ [x, y] ++ flatP (l.drop i) := by
  have hA : cur.take (i * 2) = flatP (l.take i) := by rw [← flatP_take l i (by omega), ← ht, List.take_take, Nat.min_eq_left (by omega)]
  have hD : (flatP (l.drop i)).length = (n - i) * 2 := by rw [flatP_length, List.length_drop, hn]
  have hc : cur = cur.take ((i + 1) * 2) ++ (cur.drop ((i + 1) * 2)).take ((n - i) * 2) ++ cur.drop ((n + 1) * 2) := by
    rw [List.append_assoc, show (n + 1) * 2 = (i + 1) * 2 + (n - i) * 2 by omega, ← List.drop_drop, List.take_append_drop, List.take_append_drop]
  have h1 : setL cur ((i + 1) * 2) (flatP (l.drop i)) = cur.take ((i + 1) * 2) ++ flatP (l.drop i) ++ cur.drop ((n + 1) * 2) := by
    have := setL_app (flatP (l.drop i)) (cur.take ((i + 1) * 2)) ((cur.drop ((i + 1) * 2)).take ((n - i) * 2)) (cur.drop ((n + 1) * 2)) (by rw [hD, List.length_take, List.length_drop]; omega)
    rwa [← hc, List.length_take, Nat.min_eq_left (by omega)] at this
  have h2 : cur.take ((i + 1) * 2) = cur.take (i * 2) ++ (cur.drop (i * 2)).take 2 := by rw [show (i + 1) * 2 = i * 2 + 2 by omega, List.take_add]
  have h3 := setL_app [x, y] (cur.take (i * 2)) ((cur.drop (i * 2)).take 2) (flatP (l.drop i) ++ cur.drop ((n + 1) * 2)) (by rw [List.length_take, List.length_drop]; simp; omega)
  rw [List.length_take, Nat.min_eq_left (by omega)] at h3
  rw [h1, h2, List.append_assoc, h3, hA, ← List.append_assoc]
  exact List.take_left' (by rw [List.length_append, List.length_append, flatP_length, List.length_take, hD]; simp; omega)
theorem grow_list {l : List Sp} {i n : Nat} (x y : Value) (Z : List Value) (hn : l.length = n) (hi : i ≤ n) (hs : (n + 1 - i) * 2 ≤ Z.length) :
    (setL (setL (flatP (l.take i) ++ Z) (i * 2) [x, y]) ((i + 1) * 2) (flatP (l.drop i))).take ((n + 1) * 2) = flatP (l.take i) ++ [x, y] ++ flatP (l.drop i) := by
  have hA : (flatP (l.take i)).length = i * 2 := by rw [flatP_length, List.length_take, Nat.min_eq_left (by omega)]
  have hD : (flatP (l.drop i)).length = (n - i) * 2 := by rw [flatP_length, List.length_drop, hn]
  have hZ : Z = Z.take 2 ++ Z.drop 2 := (List.take_append_drop _ _).symm
  have h1 := setL_app [x, y] (flatP (l.take i)) (Z.take 2) (Z.drop 2) (by rw [List.length_take]; simp; omega)
  rw [List.append_assoc, ← hZ, hA] at h1
  have hZ2 : Z.drop 2 = (Z.drop 2).take ((n - i) * 2) ++ (Z.drop 2).drop ((n - i) * 2) := (List.take_append_drop _ _).symm
  have h2 := setL_app (flatP (l.drop i)) (flatP (l.take i) ++ [x, y]) ((Z.drop 2).take ((n - i) * 2)) ((Z.drop 2).drop ((n - i) * 2)) (by rw [hD, List.length_take, List.length_drop]; omega)
  rw [List.append_assoc (flatP (l.take i) ++ [x, y]), ← hZ2, List.length_append, hA] at h2
  rw [h1, show (i + 1) * 2 = i * 2 + [x, y].length by simp; omega, h2]
  exact List.take_left' (by rw [List.length_append, List.length_append, hA, hD]; simp; omega)
theorem flatP_mid (l : List Sp) (i : Nat) (key val : Int) : flatP (l.take i ++ (key, val) :: l.drop i) = flatP (l.take i) ++ [.int .i64 key, .int .i64 val] ++ flatP (l.drop i) := by
  rw [flatP_append, show (key, val) :: l.drop i = [(key, val)] ++ l.drop i from rfl, flatP_append, ← List.append_assoc]
  rfl
theorem shape_row {w : World} {g : Nat} {cur : Array Value} {t : TypeId} (h : w.heap[g]? = some (.cells cur t (0, 0))) : w.shape? g = some (t, cur.size) := by
  simp [World.shape?, h]

end Go.Proofs.Ytihpojllalnmcaa


/-
  CONTRACTS of slices.Insert (of one pair) where there is no room; of with.
-/
namespace Go.Proofs.Ytihpojllalnmcaa
open Go.RowKit Go.Shelf Go.Lib

end Go.Proofs.Ytihpojllalnmcaa


/-
  CONTRACTS of with; of slices.IndexFunc, slices.DeleteFunc on pairs, in a row of the call's own.
-/
namespace Go.Proofs.Ytihpojllalnmcaa
open Go.RowKit Go.Shelf Go.Lib

theorem flatP_set1 : ∀ (l : List Sp) (k : Nat) (z : Int), k < l.length → (flatP l).set (k * 2 + 1) (.int .i64 z) = flatP (l.set k ((l.getD k (0, 0)).1, z))
  | [], _, _, h => absurd h (Nat.not_lt_zero _)
  | s :: t, 0, z, _ => rfl
  | s :: t, k + 1, z, h => by
    show ((.int .i64 s.1) :: (.int .i64 s.2) :: flatP t).set ((k + 1) * 2 + 1) _ = (.int .i64 s.1) :: (.int .i64 s.2) :: flatP (t.set k _)
    rw [show (k + 1) * 2 + 1 = (k * 2 + 1) + 1 + 1 by omega, List.set_cons_succ, List.set_cons_succ, flatP_set1 t k z (by simpa using h)]
    rfl

/-- A predicate of pairs that makes memory of its own, in whatever world that is grown from w, as of block base. -/
def PredG (g : Nat) (lb : Array Value) (p : Sp → Bool) (base : Nat) (w : World) : Prop :=
  ∀ (W : World) (x : Sp), Below base w W → Calls Try.prog g (#[.agg #[.int .i64 x.1, .int .i64 x.2]] ++ lb) W (Gives W (.bool (p x)))
def fstP (p : Sp → Bool) : List Sp → Nat
  | [] => 0
  | x :: t => if p x = true then 0 else fstP p t + 1
theorem fstP_le (p : Sp → Bool) : ∀ l : List Sp, fstP p l ≤ l.length
  | [] => Nat.le_refl _
  | x :: t => by unfold fstP; have := fstP_le p t; split <;> simp; omega
theorem fstP_take (p : Sp → Bool) : ∀ l : List Sp, (l.take (fstP p l)).filter (fun x => !p x) = l.take (fstP p l)
  | [] => rfl
  | x :: t => by
    unfold fstP
    by_cases h : p x = true
    · rw [if_pos h]; rfl
    · rw [if_neg h, List.take_succ_cons, List.filter_cons_of_pos (by simp [h]), fstP_take p t]
theorem fstP_hit (p : Sp → Bool) : ∀ l : List Sp, fstP p l < l.length → p (l.getD (fstP p l) (0, 0)) = true
  | [], h => absurd h (Nat.not_lt_zero _)
  | x :: t, h => by
    unfold fstP at h ⊢
    by_cases hx : p x = true
    · rw [if_pos hx]; exact hx
    · rw [if_neg hx] at h ⊢
      exact fstP_hit p t (by simpa using h)
def idxV (p : Sp → Bool) (l : List Sp) : Int := if fstP p l < l.length then (fstP p l : Int) else -1

set_option maxRecDepth 100000 in
set_option maxHeartbeats 1000000 in
theorem idxF_any (g : Nat) (lb : Array Value) (p : Sp → Bool) (base : Nat) (a : Option Addr) (n c : Nat) (l : List Sp) (w : World) (eg : ∀ args w, (callFunc g args).run Try.prog w = .ok (.enter g args) w)
    (hA : Arg w a n c l) (hbase : base ≤ w.heap.size) (hp : PredG g lb p base w) :
    Calls Try.prog 91 #[.slice a n c, .func (.func g) #[] lb] w (Gives w (.int .i64 (idxV p l))) := by
  obtain ⟨hn, hz, _, _, hq⟩ := hA
  have hnz : (n : Int) ≤ 9223372036854775807 := by omega
  obtain ⟨r, hr⟩ : ∃ r, idxV p l = r := ⟨_, rfl⟩
  rw [hr]
  have H0 := Lib.hid (show fstP p l = 0 + fstP p (l.drop 0) by simp)
  have HR := Lib.hid (show r = if fstP p l < n then (fstP p l : Int) else -1 by rw [← hr, hn]; rfl)
  replace hn := Lib.hid hn
  replace hq := Lib.hid hq
  replace hp := Lib.hid hp
  clear hr
  go_enter Try.func91, Try.ntmps91
  go_wp2_with fail
  go_loopw [5, 8] (fun _ i wr => ∃ (k : Nat), i = .int .i64 (k : Int) ∧ k ≤ n ∧ Hid (fstP p l = k + fstP p (l.drop k)) ∧ Below w.heap.size w wr)
    (fun _ i _ => n - (intOf i).toNat)
  case atStart => exact ⟨0, rfl, Nat.zero_le _, H0, Below.refl _ _⟩
  case round =>
    obtain ⟨k, rfl, hk, HK, hbl⟩ := hrel
    by_cases hlt : k < n
    · have hkl : k < l.length := by rw [← hn.out]; exact hlt
      have hkz : (k : Int) < (n : Int) := by omega
      obtain ⟨b, off, e, hb, c0, c1⟩ := (hq.out.below hbl) k hkl
      subst e
      obtain ⟨s, hs⟩ : ∃ s, l.getD k (0, 0) = s := ⟨_, rfl⟩
      rw [hs] at c0 c1
      have hd := drop_more hkl
      rw [hs] at hd
      have hnext := HK.out
      rw [hd] at hnext
      replace hs := Lib.hid hs
      replace hd := Lib.hid hd
      obtain ⟨x, y⟩ := s
      dsimp only at c0 c1
      have C := hp.out wr (x, y) (hbl.mono hbase)
      dsimp only at C
      cases hx : p (x, y)
      · rw [hx] at C
        have hN := Lib.hid (show fstP p l = (k + 1) + fstP p (l.drop (k + 1)) by
          rw [hnext]; show k + (if p (x, y) = true then 0 else fstP p (l.drop (k + 1)) + 1) = _; rw [hx, if_neg (by simp)]; omega)
        replace C := Lib.hid C
        clear hnext hx
        go_wp2_with (go_at_fn g; (with_reducible refine C.out.mono ?_); rintro e w2 ⟨rfl, b2⟩)
        go_roundw
        case rel => exact ⟨k + 1, by go_num, by omega, hN, below_next hbl b2⟩
        case measure => simp [intOf]; omega
      · rw [hx] at C
        have hr := Lib.hid (show r = (k : Int) by
          have : fstP p l = k := by rw [hnext]; show k + (if p (x, y) = true then 0 else fstP p (l.drop (k + 1)) + 1) = _; rw [hx, if_pos rfl]; omega
          rw [HR.out, this, if_pos hlt])
        replace C := Lib.hid C
        clear hnext hx
        go_wp2_with (go_at_fn g; (with_reducible refine C.out.mono ?_); rintro e w2 ⟨rfl, b2⟩)
        go_ret
        exact ⟨ret_int hr.out.symm, below_next hbl b2⟩
    · have hkz : ¬ (k : Int) < (n : Int) := by omega
      have hr := Lib.hid (show r = -1 by
        rw [HR.out, if_neg]
        have := HK.out
        omega)
      go_wp2
      go_ret
      exact ⟨ret_int hr.out.symm, hbl⟩

/-- clear, of elements that are pairs. -/
theorem run_clear2 (w : World) (t e ty : TypeId) (ht : Try.prog.underlying t = some (.slice e)) (hv : ∀ w, (zeroValue e).run Try.prog w = .ok (.agg #[.int .i64 0, .int .i64 0]) w) (b o n c : Nat) (hn : 0 < n)
    (hc : ∀ j, j < n * 2 → (w.cell? ⟨b, o + j, none⟩).isSome = true) (hf : ∀ j, j < n * 2 → w.frozen? ⟨b, o + j, none⟩ = false) :
    (Builtin.clear_ #[t] ty #[.slice (some ⟨b, o, none⟩) n c]).run Try.prog w = .ok (.tuple #[]) (w.setCells b o (List.replicate (n * 2) (.int .i64 0))) := by
  have hzc : (Builtin.zeroCells #[Value.int .i64 0, .int .i64 0] n).toList = List.replicate (n * 2) (.int .i64 0) := by
    simp [Builtin.zeroCells]
    apply List.ext_getElem
    · simp
    · intro i h1 h2
      rcases Nat.mod_two_eq_zero_or_one i with hm | hm <;> simp [hm]
  have hst := run_storeCells_cells (P := Try.prog) b o (List.replicate (n * 2) (.int .i64 0)) 0 w (by simpa using hc) (by simpa using hf) (by intro v hv'; rw [List.eq_of_mem_replicate hv']; rfl)
  simp only [Nat.add_zero] at hst
  obtain ⟨m, rfl⟩ : ∃ m, n = m + 1 := ⟨n - 1, by omega⟩
  simp [Builtin.clear_, run_underlying ht, hv, Value.cells, hzc, hst]
theorem setL_take : ∀ (X l : List Value) (o k : Nat), k ≤ o → (setL l o X).take k = l.take k
  | [], _, _, _, _ => rfl
  | v :: r, l, o, k, h => by
    show (setL (l.set o v) (o + 1) r).take k = _
    rw [setL_take r (l.set o v) (o + 1) k (by omega), List.take_set]
    exact List.set_eq_of_length_le (by rw [List.length_take]; omega)
end Go.Proofs.Ytihpojllalnmcaa


/-
  CONTRACT of slices.DeleteFunc on pairs, in a row of the call's own; of without.
-/
namespace Go.Proofs.Ytihpojllalnmcaa
open Go.RowKit Go.Shelf Go.Lib

/-- A row of the call's own, cut behind i of its pairs, behind cells that were set from there on. -/
theorem own_cut {w : World} {base g n cap i : Nat} {cur : List Sp} (X : List Value) (hn : cur.length = n) (hi : i ≤ n) (h : w.ownsRow base 68 2 (.slice (some ⟨g, 0, none⟩) n cap) n (flatP cur)) :
    (w.setCells g (i * 2) X).ownsRow base 68 2 (.slice (some ⟨g, 0, none⟩) i cap) i (flatP (cur.take i)) := by
  rcases h.2 with ⟨e, _⟩ | ⟨g', cap', c, e, h1, h2, h3, h4, h5, h6⟩
  · cases e
  · cases e
    have ht : cur.take i = cur.take i := rfl
    refine ⟨by rw [flatP_length, List.length_take, hn, Nat.min_eq_left hi], .inr ⟨g, cap, _, rfl, h1, heap_setL g _ X (i * 2) w c h2, by omega, h4, ?_, ?_⟩⟩
    · rw [List.size_toArray, setL_len, Array.length_toList, h5]
    · rw [List.toList_toArray, setL_take _ _ _ _ (Nat.le_refl _), ← flatP_take cur i (by omega), ← h6, List.take_take, Nat.min_eq_left (by omega)]
/-- A pair is stored into a row of the call's own. -/
theorem own_put {w : World} {base g n cap i : Nat} {cur : List Sp} {x y : Int} (hn : cur.length = n) (hi : i < n) (h : w.ownsRow base 68 2 (.slice (some ⟨g, 0, none⟩) n cap) n (flatP cur)) :
    ((w.setCell ⟨g, i * 2, none⟩ (.int .i64 x)).setCell ⟨g, i * 2 + 1, none⟩ (.int .i64 y)).ownsRow base 68 2 (.slice (some ⟨g, 0, none⟩) n cap) n (flatP (cur.set i (x, y))) := by
  have h1 := (World.ownsRow.stored h (i * 2) (.int .i64 x)).1
  have h2 := (World.ownsRow.stored h1 (i * 2 + 1) (.int .i64 y)).1
  rwa [flatP_set2 cur i x y (by omega)] at h2

end Go.Proofs.Ytihpojllalnmcaa


/-
  CONTRACTS of without; of Apply.
-/
namespace Go.Proofs.Ytihpojllalnmcaa
open Go.RowKit Go.Shelf Go.Lib

end Go.Proofs.Ytihpojllalnmcaa


/-
  CONTRACT of table.Apply.
-/
namespace Go.Proofs.Ytihpojllalnmcaa
open Go.RowKit Go.Shelf Go.Lib

theorem move_pos {c s k : Int} {ps : List Sp} {lo hi old : Int} (hc : chkM c s k ps lo hi old = true) (k2 : k ≠ 2) : okPs ps = true ∧ (k = 5 → ∀ j, j < ps.length → 0 ≤ (ps.getD j (0, 0)).2) := by
  rcases fits_cases (chkM_and hc).2.2.2 with ⟨k1, ho, _⟩ | ⟨h2, _⟩ | ⟨h, p, rfl, hp⟩ | ⟨h5, p, q, rfl, hp, hq, _, hpq, h0⟩
  · exact ⟨ho, fun h => by omega⟩
  · exact absurd h2 k2
  · exact ⟨by simp [okPs, hp], fun h => by omega⟩
  · refine ⟨by simp [okPs, hp, hq], fun _ j hj => ?_⟩
    match j, hj with
    | 0, _ => exact h0
    | 1, _ => show 0 ≤ q.2; omega
theorem tab_step {k old : Int} {i : Nat} {p : Sp} {l : List Sp} {v : Int} (hp : okP p = true) (h5 : k = 5 → 0 ≤ p.2) (hl : tblB l = true) (h : nextV k old i p (getT l p.1) = some v) : tblB (putT l p.1 v) = true := by
  have hb := okP_bd hp
  exact tblF_put l (-1) p.1 v hl (by omega) (by omega) (nextV_val ((isVal_iff p.2).2 hb.2) h5 (getT_val hl) h)
/-- What Apply answers. -/
def AppPost (r : List Sp × Bool) (w : World) (e : Ending) (w' : World) : Prop := ∃ v, e = .returned (.tuple #[v, .bool r.2]) ∧ OwnsP 68 w' w.heap.size v r.1 ∧ Below w.heap.size w w'
theorem appP_cons (k old : Int) (on : List Sp) (i : Nat) (p : Sp) (t l : List Sp) : appP k old on i (p :: t) l = if hasB on p.1 = true then (match nextV k old i p (getT l p.1) with | none => (l, false) | some v => appP k old on (i + 1) t (putT l p.1 v)) else appP k old on (i + 1) t l := rfl

end Go.Proofs.Ytihpojllalnmcaa


/-
  CONTRACTS of the statements' own few and awake (on tables).
-/
namespace Go.Proofs.Ytihpojllalnmcaa
open Go.RowKit Go.Shelf Go.Lib

def fewB (n n2 n3 : Nat) : Bool := decide (n ≤ 200) && (decide (n2 ≤ 100) && decide (n3 ≤ 100))
theorem eqPair (x y p q : Int) (w : World) : (binOp .eql 68 (.agg #[.int .i64 x, .int .i64 y]) (.agg #[.int .i64 p, .int .i64 q])).run Try.prog w = .ok (.bool (x == p && y == q)) w := by
  have u3 := Try.underlying3
  have a3 := Try.isAgg3
  have z3 := Try.sizeOf3
  have hS : Try.prog.underlying 68 = some (.struct (Try.prog.fieldsOf 68)) := by kernel_rfl
  have hp : Try.prog.stoodInHeld 68 = false := by kernel_rfl
  rw [run_eql_struct, show (10000 : Nat) = 9999 + 1 from rfl, run_equalIn_agg w 9999 68 _ _ hS hp]
  simp only [Program.fieldsOf, Try.underlying68]
  go_simp
  by_cases h1 : x = p <;> by_cases h2 : y = q <;> simp [h1, h2]
theorem app_ex1 : applyP [(5, 7)] 1 1 3 [(5, 3)] 0 0 0 [(0, 4096)] = ([(5, 10)], true) := by decide +kernel
theorem app_ex2 : applyP [(5, 7)] 1 1 5 [(5, 4), (9, 4)] 0 0 0 [(9, 10)] = ([(5, 7), (9, 4)], true) := by decide +kernel
theorem OwnsP.one {t : TypeId} {w : World} {base : Nat} {v : Value} {x y : Int} (h : OwnsP t w base v [(x, y)]) : ∃ g c, v = .slice (some ⟨g, 0, none⟩) 1 c ∧ g < w.heap.size ∧ w.cell? ⟨g, 0, none⟩ = some (.int .i64 x) ∧ w.cell? ⟨g, 1, none⟩ = some (.int .i64 y) := by
  obtain ⟨g, cap, hv, _, hg, _, _⟩ := h.form (by simp)
  have hv' : v = .slice (some ⟨g, 0, none⟩) 1 cap := hv
  subst hv'
  exact ⟨g, cap, rfl, hg, World.ownsRow.cellAt h 0 (by decide), World.ownsRow.cellAt h 1 (by decide)⟩
theorem OwnsP.two {t : TypeId} {w : World} {base : Nat} {v : Value} {x y p q : Int} (h : OwnsP t w base v [(x, y), (p, q)]) : ∃ g c, v = .slice (some ⟨g, 0, none⟩) 2 c ∧ g < w.heap.size ∧ w.cell? ⟨g, 0, none⟩ = some (.int .i64 x) ∧ w.cell? ⟨g, 1, none⟩ = some (.int .i64 y) ∧ w.cell? ⟨g, 2, none⟩ = some (.int .i64 p) ∧ w.cell? ⟨g, 3, none⟩ = some (.int .i64 q) := by
  obtain ⟨g, cap, hv, _, hg, _, _⟩ := h.form (by simp)
  have hv' : v = .slice (some ⟨g, 0, none⟩) 2 cap := hv
  subst hv'
  exact ⟨g, cap, rfl, hg, World.ownsRow.cellAt h 0 (by decide), World.ownsRow.cellAt h 1 (by decide), World.ownsRow.cellAt h 2 (by decide), World.ownsRow.cellAt h 3 (by decide)⟩

end Go.Proofs.Ytihpojllalnmcaa
