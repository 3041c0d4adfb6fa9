/-
  TabC, TabD, TabE, TabF, TabG, TabH, TabI: one text.
-/
import Derived.Test.YthofoidafdbgcaaTA1
import Derived.Shelf.Spec.SlicesInsert
import Derived.Lib.AppendZerosOnto
import Derived.Laws.NewBlocks
/-
  CONTRACTS of slices.Clone and slices.Insert (of one pair), on pairs, in a row of the call's own; of with.
-/
namespace Go.Proofs.Ythofoidafdbgcaa
open Go.RowKit Go.Shelf Go.Lib

theorem Try.infoPair : (Try.prog.info? 65).map (fun i => (i.zero, i.size, i.bytes)) = some (some (.agg #[.int .i64 0, .int .i64 0]), 2, 16) := by kernel_rfl

/-! Cells that are set one behind the other in a row. -/
def setL (l : List Value) (o : Nat) : List Value → List Value
  | [] => l
  | v :: r => setL (l.set o v) (o + 1) r
theorem setL_app : ∀ (X A B C : List Value), B.length = X.length → setL (A ++ B ++ C) A.length X = A ++ X ++ C
  | [], A, B, C, h => by have : B = [] := List.eq_nil_of_length_eq_zero (by simpa using h); subst this; rfl
  | v :: r, A, b :: B, C, h => by
    show setL ((A ++ (b :: B) ++ C).set A.length v) (A.length + 1) r = _
    have e : (A ++ (b :: B) ++ C).set A.length v = (A ++ [v]) ++ B ++ C := by
      rw [List.append_assoc, List.set_append_right _ _ (Nat.le_refl _), Nat.sub_self]
      simp
    rw [e, show A.length + 1 = (A ++ [v]).length by simp, setL_app r (A ++ [v]) B C (by simpa using h)]
    simp
  | v :: r, A, [], C, h => by simp at h
theorem setL_len : ∀ (X l : List Value) (o : Nat), (setL l o X).length = l.length
  | [], _, _ => rfl
  | v :: r, l, o => by show (setL (l.set o v) (o + 1) r).length = _; rw [setL_len r, List.length_set]
theorem heap_setL (g : Nat) (t : TypeId) : ∀ (X : List Value) (o : Nat) (w : World) (cur : Array Value), w.heap[g]? = some (.cells cur t (0, 0)) → (w.setCells g o X).heap[g]? = some (.cells (setL cur.toList o X).toArray t (0, 0))
  | [], _, w, cur, h => by simpa [setL, World.setCells] using h
  | v :: r, o, w, cur, h => by
    show ((w.setCell ⟨g, o, none⟩ v).setCells g (o + 1) r).heap[g]? = _
    rw [heap_setL g t r (o + 1) (w.setCell ⟨g, o, none⟩ v) (cur.setIfInBounds o v) (heap_setCell_same w g o cur t v h), Array.toList_setIfInBounds]
    rfl
theorem below_setL {B g : Nat} {a : World} (hg : B ≤ g) : ∀ (X : List Value) (o : Nat) (w : World), Below B a w → Below B a (w.setCells g o X)
  | [], _, _, h => h
  | v :: r, o, w, h => below_setL hg r (o + 1) (w.setCell ⟨g, o, none⟩ v) (h.setCell (p := ⟨g, o, none⟩) hg v)

/-- copy, of elements of two cells. -/
theorem run_copy2 (w : World) (dT sT ty elem : TypeId) (b o dLen dCap : Nat) (a : Addr) (sLen sCap : Nat) (cs : List Value)
    (hu : Try.prog.underlying dT = some (.slice elem)) (hs : (Try.prog.info? elem).map (·.size) = some 2) (hn : cs.length = Nat.min sLen dLen * 2)
    (hsrc : ∀ j v, cs[j]? = some v → w.cell? (a.add j) = some v) (hc : ∀ j, j < cs.length → (w.cell? ⟨b, o + j, none⟩).isSome = true) (hf : ∀ j, j < cs.length → w.frozen? ⟨b, o + j, none⟩ = false) (h1 : ∀ v ∈ cs, v.oneCell' = true) :
    (Builtin.copy_ #[dT, sT] ty #[.slice (some ⟨b, o, none⟩) dLen dCap, .slice (some a) sLen sCap]).run Try.prog w = .ok (goInt (Nat.min sLen dLen)) (w.setCells b o cs) := by
  have hl := run_loadCells_list (P := Try.prog) w a cs hsrc
  have hst := run_storeCells_cells (P := Try.prog) b o cs 0 w (by simpa using hc) (by simpa using hf) h1
  cases hq : Try.prog.info? elem with
  | none => simp [hq] at hs
  | some i =>
    have hi : i.size = 2 := by simpa [hq] using hs
    simp [Builtin.copy_, run_underlying hu, Builtin.lenOf, Builtin.firstCells, sizeOf, typeInfo, hq, hi, ← hn, hl, hst]

def ClonePairPost (w : World) (l : List Sp) (e : Ending) (w' : World) : Prop := ∃ v, e = .returned v ∧ OwnsP 65 w' w.heap.size v l ∧ Below w.heap.size w w'
theorem clonePair_none (x : Addr) (c : Nat) (w : World) : Calls Try.prog 34 #[.slice (some x) 0 c] w (ClonePairPost w []) := by
  obtain ⟨i0, hi, hz0, hz1, hz2⟩ := info_parts Try.infoPair
  have q22 : ∀ (w : World) (a : Option Addr) (n c n' c' : Nat), (binOp .eql 29 (.slice a n c) (.slice none n' c')).run Try.prog w = .ok (.bool a.isNone) w := fun w a n c n' c' => Lib.run_eql_slice_nil w _ _ a n c n' c' Try.underlying29
  go_enter Try.func34, Try.ntmps34
  go_wp2_with (at_builtin; refine wpList_append_own _ rfl _ _ 29 rfl w.heap.size 65 i0 (.agg #[.int .i64 0, .int .i64 0]) 2 16 Try.underlying29 hi hz0 hz1 hz2 rfl (by decide) _ _ _ rfl (World.ownsRow_made w #[] 0 (Nat.le_refl _) (Nat.zero_le _) (by simp)) x 0 c [] rfl ?c1 ?c2 ?c3 ?c4 ?c5 ?c6 ?_)
  case c1 => rfl
  case c2 => intro j u hj; simp at hj
  case c3 => intro u hu; cases hu
  case c4 => unfold maxLen; omega
  case c5 => omega
  case c6 => simp
  · intro v' w1 hown hg _
    go_wp2
    go_ret
    refine ⟨_, rfl, by simpa [OwnsP, flatP] using hown, ((Below.refl _ w).alloc (Nat.le_refl _) _).grown hg (by simp) ?_⟩
    intro k hk
    simp [Value.ownBlock] at hk
    omega
theorem clonePair_any (a : Option Addr) (n c : Nat) (l : List Sp) (w : World) (hz : l.length ≤ 100000) (hA : Arg w a n c l) :
    Calls Try.prog 34 #[.slice a n c] w (ClonePairPost w l) := by
  obtain ⟨rfl, _, _, _, h⟩ := hA
  by_cases hl : l = []
  · subst hl
    cases a with
    | none => exact (AnyE.slices_Clone_nil Try.lClonePair 0 c w).mono fun _ _ ⟨he, hw⟩ => ⟨_, he, OwnsP.nil _ _ _, by rw [hw]; exact Below.refl _ _⟩
    | some x => exact clonePair_none x c w
  · obtain ⟨b, off, rfl, hb⟩ := h.some' hl
    obtain ⟨i0, hi, hz0, hz1, hz2⟩ := info_parts Try.infoPair
    exact (AnyE.slices_Clone Try.lClonePair i0 (.agg #[.int .i64 0, .int .i64 0]) 2 16 hi hz0 hz1 hz2 rfl (by decide) Try.sizeOf65 b off l.length c (flatP l) w (flatP_length l) (by unfold maxLen; omega) (by omega) (fun j u hj => flatP_hc h j u hj) (flatP_one l)).mono
      fun _ _ ⟨v, he, ho, _, hb⟩ => ⟨v, he, ho, hb⟩

/-- A row of the call's own, and what is in it. -/
def InsPost (base : Nat) (l : List Sp) (w : World) (e : Ending) (w' : World) : Prop := ∃ v, e = .returned v ∧ OwnsP 65 w' base v l ∧ Below base w w'

set_option maxRecDepth 100000 in
set_option maxHeartbeats 4000000 in
theorem insert_end (v : Value) (base : Nat) (l : List Sp) (key val : Int) (vb : Nat) (w : World) (hlen : l.length ≤ 100000) (hbase : base ≤ w.heap.size) (ho : OwnsP 65 w base v l)
    (h0 : w.cell? ⟨vb, 0, none⟩ = some (.int .i64 key)) (h1 : w.cell? ⟨vb, 1, none⟩ = some (.int .i64 val)) :
    Calls Try.prog 83 #[v, .int .i64 (l.length : Int), .slice (some ⟨vb, 0, none⟩) 1 1] w (InsPost base (l ++ [(key, val)]) w) := by
  obtain ⟨i0, hi, hz0, hz1, hz2⟩ := info_parts Try.infoPair
  obtain ⟨a, cap, rfl, hc, hm, _, hs⟩ := ho.arg
  obtain ⟨n, hn⟩ : ∃ n, l.length = n := ⟨_, rfl⟩
  have hO : w.ownsRow base 65 2 (.slice a n cap) n (flatP l) := by have := ho; unfold OwnsP at this; rw [hn] at this; exact this
  rw [hn] at hc hlen ⊢
  have hlt := hO.lt
  replace hO := Lib.hid hO
  replace hn := Lib.hid hn
  have hc63 : cap ≤ 9223372036854775807 := by unfold maxLen at hm; omega
  clear ho
  cases a with
  | none =>
    have hl0 : l = [] := by
      cases l with
      | nil => rfl
      | cons x t => obtain ⟨g, hg, _⟩ := hs (by simp); cases hg
    subst hl0
    have hn0 : n = 0 := by have := hn.out; simpa using this.symm
    subst hn0
    have hcap : cap = 0 := by
      rcases hO.out.2 with ⟨e, _⟩ | ⟨g, cap', cur, e, _⟩
      · cases e; rfl
      · cases e
    subst hcap
    go_enter Try.func83, Try.ntmps83
    go_wp2_with (at_builtin; refine wpList_append_own _ rfl _ _ 29 rfl base 65 i0 (.agg #[.int .i64 0, .int .i64 0]) 2 16 Try.underlying29 hi hz0 hz1 hz2 rfl (by decide) _ _ _ rfl hO.out ⟨vb, 0, none⟩ 1 1 [.int .i64 key, .int .i64 val] rfl rfl ?c1 ?c2 ?c3 ?c4 ?c5 ?_)
    case c1 =>
      intro j u hj
      match j, hj with
      | 0, hj => simp at hj; subst hj; simpa [Addr.add] using h0
      | 1, hj => simp at hj; subst hj; simpa [Addr.add] using h1
    case c2 => intro u hu; simp at hu; rcases hu with rfl | rfl <;> rfl
    case c3 => unfold maxLen; omega
    case c4 => omega
    case c5 => exact hbase
    · intro v' w1 hown' hgrow _
      go_wp2
      go_ret
      exact ⟨_, rfl, OwnsP.snoc hn.out hown', (Below.refl _ w).grown hgrow hbase (fun k hk => (hlt k hk).1)⟩
  | some x =>
    have hx : ∃ g, x = ⟨g, 0, none⟩ := by
      rcases hO.out.2 with ⟨e, _⟩ | ⟨g, cap', cur, e, _⟩
      · cases e
      · cases e; exact ⟨g, rfl⟩
    obtain ⟨g, rfl⟩ := hx
    go_enter Try.func83, Try.ntmps83
    go_wp2_with (at_builtin; refine wpList_append_own _ rfl _ _ 29 rfl base 65 i0 (.agg #[.int .i64 0, .int .i64 0]) 2 16 Try.underlying29 hi hz0 hz1 hz2 rfl (by decide) _ _ _ rfl hO.out ⟨vb, 0, none⟩ 1 1 [.int .i64 key, .int .i64 val] rfl rfl ?c1 ?c2 ?c3 ?c4 ?c5 ?_)
    all_goals first
      | (intro j u hj
         match j, hj with
         | 0, hj => simp at hj; subst hj; simpa [Addr.add] using h0
         | 1, hj => simp at hj; subst hj; simpa [Addr.add] using h1)
      | (intro u hu; simp at hu; rcases hu with rfl | rfl <;> rfl)
      | (unfold maxLen; omega)
      | omega
      | (intro v' w1 hown' hgrow _
         go_wp2
         go_ret
         exact ⟨_, rfl, OwnsP.snoc hn.out hown', (Below.refl _ w).grown hgrow hbase (fun k hk => (hlt k hk).1)⟩)

theorem flatP_take (l : List Sp) (k : Nat) (hk : k ≤ l.length) : (flatP l).take (k * 2) = flatP (l.take k) := by
  have e : flatP l = flatP (l.take k) ++ flatP (l.drop k) := by rw [← flatP_append, List.take_append_drop]
  rw [e]
  exact List.take_left' (by rw [flatP_length, List.length_take, Nat.min_eq_left hk])
theorem mid_list {cur : List Value} {l : List Sp} {i n : Nat} (x y : Value) (hn : l.length = n) (hi : i ≤ n) (ht : cur.take (n * 2) = flatP l) (hs : (n + 1) * 2 ≤ cur.length) :
    (setL (setL cur ((i + 1) * 2) (flatP (l.drop i))) (i * 2) [x, y]).take ((n + 1) * 2) = flatP (l.take i) ++ [x, y] ++ flatP (l.drop i) := by
  have hA : cur.take (i * 2) = flatP (l.take i) := by rw [← flatP_take l i (by omega), ← ht, List.take_take, Nat.min_eq_left (by omega)]
  have hD : (flatP (l.drop i)).length = (n - i) * 2 := by rw [flatP_length, List.length_drop, hn]
  have hc : cur = cur.take ((i + 1) * 2) ++ (cur.drop ((i + 1) * 2)).take ((n - i) * 2) ++ cur.drop ((n + 1) * 2) := by
    rw [List.append_assoc, show (n + 1) * 2 = (i + 1) * 2 + (n - i) * 2 by omega, ← List.drop_drop, List.take_append_drop, List.take_append_drop]
  have h1 : setL cur ((i + 1) * 2) (flatP (l.drop i)) = cur.take ((i + 1) * 2) ++ flatP (l.drop i) ++ cur.drop ((n + 1) * 2) := by
    have := setL_app (flatP (l.drop i)) (cur.take ((i + 1) * 2)) ((cur.drop ((i + 1) * 2)).take ((n - i) * 2)) (cur.drop ((n + 1) * 2)) (by rw [hD, List.length_take, List.length_drop]; omega)
    rwa [← hc, List.length_take, Nat.min_eq_left (by omega)] at this
  have h2 : cur.take ((i + 1) * 2) = cur.take (i * 2) ++ (cur.drop (i * 2)).take 2 := by rw [show (i + 1) * 2 = i * 2 + 2 by omega, List.take_add]
  have h3 := setL_app [x, y] (cur.take (i * 2)) ((cur.drop (i * 2)).take 2) (flatP (l.drop i) ++ cur.drop ((n + 1) * 2)) (by rw [List.length_take, List.length_drop]; simp; omega)
  rw [List.length_take, Nat.min_eq_left (by omega)] at h3
  rw [h1, h2, List.append_assoc, h3, hA, ← List.append_assoc]
  exact List.take_left' (by rw [List.length_append, List.length_append, flatP_length, List.length_take, hD]; simp; omega)
theorem grow_list {l : List Sp} {i n : Nat} (x y : Value) (Z : List Value) (hn : l.length = n) (hi : i ≤ n) (hs : (n + 1 - i) * 2 ≤ Z.length) :
    (setL (setL (flatP (l.take i) ++ Z) (i * 2) [x, y]) ((i + 1) * 2) (flatP (l.drop i))).take ((n + 1) * 2) = flatP (l.take i) ++ [x, y] ++ flatP (l.drop i) := by
  have hA : (flatP (l.take i)).length = i * 2 := by rw [flatP_length, List.length_take, Nat.min_eq_left (by omega)]
  have hD : (flatP (l.drop i)).length = (n - i) * 2 := by rw [flatP_length, List.length_drop, hn]
  have hZ : Z = Z.take 2 ++ Z.drop 2 := (List.take_append_drop _ _).symm
  have h1 := setL_app [x, y] (flatP (l.take i)) (Z.take 2) (Z.drop 2) (by rw [List.length_take]; simp; omega)
  rw [List.append_assoc, ← hZ, hA] at h1
  have hZ2 : Z.drop 2 = (Z.drop 2).take ((n - i) * 2) ++ (Z.drop 2).drop ((n - i) * 2) := (List.take_append_drop _ _).symm
  have h2 := setL_app (flatP (l.drop i)) (flatP (l.take i) ++ [x, y]) ((Z.drop 2).take ((n - i) * 2)) ((Z.drop 2).drop ((n - i) * 2)) (by rw [hD, List.length_take, List.length_drop]; omega)
  rw [List.append_assoc (flatP (l.take i) ++ [x, y]), ← hZ2, List.length_append, hA] at h2
  rw [h1, show (i + 1) * 2 = i * 2 + [x, y].length by simp; omega, h2]
  exact List.take_left' (by rw [List.length_append, List.length_append, hA, hD]; simp; omega)
theorem flatP_mid (l : List Sp) (i : Nat) (key val : Int) : flatP (l.take i ++ (key, val) :: l.drop i) = flatP (l.take i) ++ [.int .i64 key, .int .i64 val] ++ flatP (l.drop i) := by
  rw [flatP_append, show (key, val) :: l.drop i = [(key, val)] ++ l.drop i from rfl, flatP_append, ← List.append_assoc]
  rfl
theorem shape_row {w : World} {g : Nat} {cur : Array Value} {t : TypeId} (h : w.heap[g]? = some (.cells cur t (0, 0))) : w.shape? g = some (t, cur.size) := by
  simp [World.shape?, h]

set_option maxRecDepth 100000 in
set_option maxHeartbeats 4000000 in
theorem insert_room (g cap base n i : Nat) (l : List Sp) (key val : Int) (vb : Nat) (w : World) (hn : l.length = n) (hlen : n ≤ 100000) (hi : i < n) (hroom : n + 1 ≤ cap)
    (hO : w.ownsRow base 65 2 (.slice (some ⟨g, 0, none⟩) n cap) n (flatP l)) (hvg : vb ≠ g) (hv : w.heap[vb]? = some (.cells #[.int .i64 key, .int .i64 val] 65 (0, 0))) :
    Calls Try.prog 83 #[.slice (some ⟨g, 0, none⟩) n cap, .int .i64 (i : Int), .slice (some ⟨vb, 0, none⟩) 1 1] w (InsPost base (l.take i ++ (key, val) :: l.drop i) w) := by
  have hcur : ∃ cur, base ≤ g ∧ w.heap[g]? = some (.cells cur 65 (0, 0)) ∧ cap ≤ maxLen ∧ cur.size = cap * 2 ∧ cur.toList.take (n * 2) = flatP l := by
    rcases hO.2 with ⟨e, _⟩ | ⟨g', cap', cur, e, h1, h2, _, h4, h5, h6⟩
    · cases e
    · cases e; exact ⟨cur, h1, h2, h4, h5, h6⟩
  obtain ⟨cur, hbg, hg, hcm, hcs, htk⟩ := hcur
  have hc63 : cap ≤ 9223372036854775807 := by unfold maxLen at hcm; omega
  have hz1 : ¬ ((1 : Int) = 0) := by omega
  have hz2 : ¬ ((i : Int) = (n : Int)) := by omega
  have hsz : (Try.prog.info? 65).map (·.size) = some 2 := by kernel_rfl
  have hcell : ∀ j, j < cap * 2 → (w.cell? ⟨g, j, none⟩).isSome = true := fun j hj => by rw [cell_of_row w g j cur _ (0, 0) hg, Array.getElem?_eq_getElem (by omega)]; rfl
  have hfz : ∀ j, w.frozen? ⟨g, j, none⟩ = false := fun j => frozen_of_row w g j cur _ hg
  have hdl : (flatP (l.drop i)).length = (n - i) * 2 := by rw [flatP_length, List.length_drop, hn]
  have hsrc : ∀ j v, (flatP (l.drop i))[j]? = some v → w.cell? ⟨g, i * 2 + j, none⟩ = some v := fun j v hj => by
    have hjl : j < (n - i) * 2 := by rw [← hdl]; exact (List.getElem?_eq_some_iff.1 hj).1
    have := World.ownsRow.cellAt hO (i * 2 + j) (by omega)
    rw [this]
    have e : flatP l = flatP (l.take i) ++ flatP (l.drop i) := by rw [← flatP_append, List.take_append_drop]
    have hA : (flatP (l.take i)).length = i * 2 := by rw [flatP_length, List.length_take, Nat.min_eq_left (by omega)]
    rw [e, List.getElem?_append_right (by omega), hA, Nat.add_sub_cancel_left]
    exact hj
  have hov : ∀ lb cb, (callFunc 102 #[.slice (some ⟨vb, 0, none⟩) 1 1, .slice (some ⟨g, (i + 1) * 2, none⟩) lb cb]).run Try.prog w = .ok (.value (.bool false)) w := fun lb cb => by
    rw [run_callFunc_extern Try.func102 (by kernel_rfl) (by kernel_rfl) (by kernel_rfl) (e := Extern.SlicesOverlaps.overlaps #[29, 29] #[4]) (by kernel_rfl),
      Lib.run_overlaps_apart w 29 4 65 Try.underlying29 2 Try.sizeOf65 ⟨vb, 0, none⟩ ⟨g, (i + 1) * 2, none⟩ 1 1 lb cb hvg _ _ _ _ (shape_row hv) (shape_row hg) (by omega) (frozen_of_row w vb 0 _ _ hv) (frozen_of_row w vb _ _ _ hv)]
    rfl
  have hcp1 : ∀ ty dc sc, (Builtin.copy_ #[29, 29] ty #[.slice (some ⟨g, (i + 1) * 2, none⟩) (n - i) dc, .slice (some ⟨g, i * 2, none⟩) (n + 1 - i) sc]).run Try.prog w.drew = .ok (goInt ((n - i : Nat) : Int)) (w.drew.setCells g ((i + 1) * 2) (flatP (l.drop i))) := fun ty dc sc => by
    have := run_copy2 w.drew 29 29 ty 65 g ((i + 1) * 2) (n - i) dc ⟨g, i * 2, none⟩ (n + 1 - i) sc (flatP (l.drop i)) Try.underlying29 hsz (by rw [hdl]; simp only [Nat.min_def]; split <;> omega)
      (fun j v hj => by rw [addr_add]; exact hsrc j v hj)
      (fun j hj => hcell _ (by omega)) (fun j hj => hfz _) (flatP_one _)
    rwa [show Nat.min (n + 1 - i) (n - i) = n - i by simp only [Nat.min_def]; split <;> omega] at this
  obtain ⟨W1, hW1⟩ : ∃ W1, W1 = w.drew.setCells g ((i + 1) * 2) (flatP (l.drop i)) := ⟨_, rfl⟩
  have hg1 : W1.heap[g]? = some (.cells (setL cur.toList ((i + 1) * 2) (flatP (l.drop i))).toArray 65 (0, 0)) := by rw [hW1]; exact heap_setL g _ _ _ w.drew cur hg
  have hcp2 : ∀ ty dc, (Builtin.copy_ #[29, 29] ty #[.slice (some ⟨g, i * 2, none⟩) (n + 1 - i) dc, .slice (some ⟨vb, 0, none⟩) 1 1]).run Try.prog W1 = .ok (goInt 1) (W1.setCells g (i * 2) [.int .i64 key, .int .i64 val]) := fun ty dc => by
    have hsl : (setL cur.toList ((i + 1) * 2) (flatP (l.drop i))).toArray.size = cap * 2 := by rw [List.size_toArray, setL_len, Array.length_toList, hcs]
    have := run_copy2 W1 29 29 ty 65 g (i * 2) (n + 1 - i) dc ⟨vb, 0, none⟩ 1 1 [.int .i64 key, .int .i64 val] Try.underlying29 hsz (by rw [show Nat.min 1 (n + 1 - i) = 1 from Nat.min_eq_left (by omega)]; rfl)
      (fun j v hj => by
        rw [addr_add, hW1, World.cell?_setCells_out g _ _ _ _ (fun h _ => absurd h hvg)]
        have := cell_of_row w vb j _ _ (0, 0) hv
        rw [Nat.zero_add]
        exact this.trans (by simpa using hj))
      (fun j hj => by rw [cell_of_row W1 g _ _ _ (0, 0) hg1, Array.getElem?_eq_getElem (by rw [hsl]; simp at hj; omega)]; rfl) (fun j hj => frozen_of_row W1 g _ _ _ hg1) (by intro v hv; simp at hv; rcases hv with rfl | rfl <;> rfl)
    rwa [show Nat.min 1 (n + 1 - i) = 1 by simp only [Nat.min_def]; split <;> omega] at this
  have HF := Lib.hid (show InsPost base (l.take i ++ (key, val) :: l.drop i) w (.returned (.slice (some ⟨g, 0, none⟩) (n + 1) cap)) (W1.setCells g (i * 2) [.int .i64 key, .int .i64 val]) by
    refine ⟨_, rfl, ?_, below_setL hbg _ _ _ (by rw [hW1]; exact below_setL hbg _ _ _ (Below.refl base w).drew)⟩
    have hl' : (l.take i ++ (key, val) :: l.drop i).length = n + 1 := by simp; omega
    unfold OwnsP
    rw [hl', flatP_mid]
    have hh := heap_setL g _ [.int .i64 key, .int .i64 val] (i * 2) W1 _ hg1
    refine ⟨?_, .inr ⟨g, cap, _, rfl, hbg, hh, hroom, hcm, ?_, ?_⟩⟩
    · rw [List.length_append, List.length_append, hdl, flatP_length, List.length_take]; simp; omega
    · rw [List.size_toArray, setL_len, List.toList_toArray, setL_len, Array.length_toList, hcs]
    · rw [List.toList_toArray, List.toList_toArray]
      exact mid_list _ _ hn (by omega) htk (by rw [Array.length_toList, hcs]; omega))
  have hw1 : IntKind.i64.wrap ((i : Int) + 1) = (i : Int) + 1 := by rw [IntKind.wrap_i64]; omega
  have hw2 : IntKind.i64.wrap ((n : Int) + 1) = (n : Int) + 1 := by rw [IntKind.wrap_i64]; omega
  have hb1 : (0 : Int) ≤ (i : Int) + 1 := by omega
  have hin : i ≤ n := by omega
  have htn : ((i : Int) + 1).toNat = i + 1 := by omega
  have hb2 : ¬ (cap = i + 1) := by omega
  have hb3 : (i : Int) ≤ (n : Int) + 1 := by omega
  have hb4 : ¬ (cap = i) := by omega
  have mixed : Try.prog.follows .mixedOrders = true := by kernel_rfl
  rw [← hW1] at hcp1
  replace hW1 := Lib.hid hW1
  replace hO := Lib.hid hO
  replace hn := Lib.hid hn
  replace hg := Lib.hid hg
  replace hg1 := Lib.hid hg1
  replace htk := Lib.hid htk
  replace hsrc := Lib.hid hsrc
  replace hcs := Lib.hid hcs
  replace hdl := Lib.hid hdl
  replace hcell := Lib.hid hcell
  replace hfz := Lib.hid hfz
  go_enter Try.func83, Try.ntmps83
  go_wp2_with (simp only [hov])
  go_region_law_o (refine step_copy_runI rfl _ _ 29 29 rfl _ _ (by simp [Act.eval, Act.put]) (by simp [Act.eval, Act.put]) (hcp1 _ _ _) ?_)
  go_wp2_with (at_builtin; refine wpList_copy_runI _ rfl _ _ 29 29 rfl _ _ rfl rfl (hcp2 _ _) ?_)
  go_ret
  exact HF.out
end Go.Proofs.Ythofoidafdbgcaa


/-
  CONTRACTS of slices.Insert (of one pair) where there is no room; of with.
-/
namespace Go.Proofs.Ythofoidafdbgcaa
open Go.RowKit Go.Shelf Go.Lib

set_option maxRecDepth 100000 in
set_option maxHeartbeats 4000000 in
theorem insert_grow (g cap base n i : Nat) (l : List Sp) (key val : Int) (vb : Nat) (w : World) (hn : l.length = n) (hlen : n ≤ 100000) (hi : i < n) (hroom : cap < n + 1) (hbase : base ≤ w.heap.size)
    (hO : w.ownsRow base 65 2 (.slice (some ⟨g, 0, none⟩) n cap) n (flatP l)) (hv : w.heap[vb]? = some (.cells #[.int .i64 key, .int .i64 val] 65 (0, 0))) :
    Calls Try.prog 83 #[.slice (some ⟨g, 0, none⟩) n cap, .int .i64 (i : Int), .slice (some ⟨vb, 0, none⟩) 1 1] w (InsPost base (l.take i ++ (key, val) :: l.drop i) w) := by
  obtain ⟨i0, hi0, hz0, hzs, hzb⟩ := info_parts Try.infoPair
  have hcur : ∃ cur, base ≤ g ∧ w.heap[g]? = some (.cells cur 65 (0, 0)) ∧ n ≤ cap := by
    rcases hO.2 with ⟨e, _⟩ | ⟨g', cap', cur, e, h1, h2, h3, _⟩
    · cases e
    · cases e; exact ⟨cur, h1, h2, h3⟩
  obtain ⟨cur, hbg, hg, hnc⟩ := hcur
  have hcn : cap = n := by omega
  subst hcn
  have hgw : g < w.heap.size := (Array.getElem?_eq_some_iff.1 hg).1
  have hvw : vb < w.heap.size := (Array.getElem?_eq_some_iff.1 hv).1
  have hz1 : ¬ ((1 : Int) = 0) := by omega
  have hz2 : ¬ ((i : Int) = (cap : Int)) := by omega
  have hz3 : (cap : Int) < (cap : Int) + 1 := by omega
  have hsz : (Try.prog.info? 65).map (·.size) = some 2 := by kernel_rfl
  have hdl : (flatP (l.drop i)).length = (cap - i) * 2 := by rw [flatP_length, List.length_drop, hn]
  have htl : (flatP (l.take i)).length = i * 2 := by rw [flatP_length, List.length_take, Nat.min_eq_left (by omega)]
  have he : flatP l = flatP (l.take i) ++ flatP (l.drop i) := by rw [← flatP_append, List.take_append_drop]
  have hsrc : ∀ j v, (flatP (l.drop i))[j]? = some v → w.cell? ⟨g, i * 2 + j, none⟩ = some v := fun j v hj => by
    have hjl : j < (cap - i) * 2 := by rw [← hdl]; exact (List.getElem?_eq_some_iff.1 hj).1
    have := World.ownsRow.cellAt hO (i * 2 + j) (by omega)
    rw [this, he, List.getElem?_append_right (by omega), htl, Nat.add_sub_cancel_left]
    exact hj
  have hold : (Builtin.firstCells i0.size i (.slice (some ⟨g, 0, none⟩) i cap)).run Try.prog w.drew = .ok (flatP (l.take i)).toArray w.drew := by
    rw [hzs]
    exact run_firstCells_some w.drew 2 i ⟨g, 0, none⟩ i cap (flatP (l.take i)) htl (fun j v hj => by
      have hjl : j < i * 2 := by rw [← htl]; exact (List.getElem?_eq_some_iff.1 hj).1
      rw [addr_add, Nat.zero_add]
      have := World.ownsRow.cellAt hO j (by omega)
      exact this.trans (by rw [he, List.getElem?_append_left (by omega)]; exact hj))
  have hik : i + (cap + 1 - i) = cap + 1 := by omega
  have hrz : ∀ ty, (Builtin.append_ #[29, 3] ty #[.slice (some ⟨g, 0, none⟩) i cap, .int .i64 ((cap : Int) + 1 - (i : Int))]).run Try.prog w =
      .ok (.slice (some ⟨w.heap.size, 0, none⟩) (cap + 1) (grownCap w (cap + 1) cap 65)) (w.drew.alloc (.cells ((flatP (l.take i)).toArray ++ Builtin.zeroCells (Value.agg #[.int .i64 0, .int .i64 0]).cells (cap + 1 - i) ++ Builtin.zeroCells (Value.agg #[.int .i64 0, .int .i64 0]).cells (grownCap w (cap + 1) cap 65 - (cap + 1))) 65)) := fun ty => by
    have h := Lib.run_append_grow_zeros w 29 3 ty 65 i0 _ .i64 .i64 Try.underlying29 Try.underlying3 hi0 hz0 (some ⟨g, 0, none⟩) i cap (flatP (l.take i)) hold (cap + 1 - i) (by omega) (by rw [hzs]; omega) (by omega) (by omega) (by rw [hzb]; omega) (by rw [hzb, hik]; exact growslice_fits hroom (by omega))
    rw [hik] at h
    rw [show (cap : Int) + 1 - (i : Int) = ((cap + 1 - i : Nat) : Int) by omega]
    exact h
  obtain ⟨G, hG⟩ : ∃ G, G = grownCap w (cap + 1) cap 65 := ⟨_, rfl⟩
  have hGn : cap + 1 ≤ G := by rw [hG]; exact grownCap_ge w _ _ _
  have hGm : G ≤ maxLen := by rw [hG]; exact grownCap_le_maxLen w (cap + 1) cap 65 (by unfold maxLen; omega)
  have hG63 : G ≤ 9223372036854775807 := by unfold maxLen at hGm; omega
  obtain ⟨Z, hZ, hZl⟩ : ∃ Z : List Value, (flatP (l.take i)).toArray ++ Builtin.zeroCells (Value.agg #[.int .i64 0, .int .i64 0]).cells (cap + 1 - i) ++ Builtin.zeroCells (Value.agg #[.int .i64 0, .int .i64 0]).cells (G - (cap + 1)) = (flatP (l.take i) ++ Z).toArray ∧ Z.length = (G - i) * 2 := by
    refine ⟨(Builtin.zeroCells (Value.agg #[.int .i64 0, .int .i64 0]).cells (cap + 1 - i)).toList ++ (Builtin.zeroCells (Value.agg #[.int .i64 0, .int .i64 0]).cells (G - (cap + 1))).toList, ?_, ?_⟩
    · simp
    · simp [Builtin.zeroCells, Value.cells]
      omega
  rw [← hG, hZ] at hrz
  obtain ⟨W1, hW1⟩ : ∃ W1, W1 = w.drew.alloc (.cells (flatP (l.take i) ++ Z).toArray 65) := ⟨_, rfl⟩
  have hNs : w.drew.heap.size = w.heap.size := rfl
  have hg1 : W1.heap[w.heap.size]? = some (.cells (flatP (l.take i) ++ Z).toArray 65 (0, 0)) := by rw [hW1]; exact heap_alloc_new w.drew _
  have hRs : (flatP (l.take i) ++ Z).toArray.size = G * 2 := by rw [List.size_toArray, List.length_append, htl, hZl]; omega
  have b1 : Below base w W1 := by rw [hW1]; exact ((Below.refl base w).drew).alloc hbase _
  have hvc : ∀ j v, [Value.int .i64 key, Value.int .i64 val][j]? = some v → W1.cell? ⟨vb, j, none⟩ = some v := fun j v hj => by
    rw [hW1, World.cell?_alloc_lt w.drew _ ⟨vb, j, none⟩ hvw]
    exact (cell_of_row w vb j _ _ (0, 0) hv).trans (by simpa using hj)
  have hcpA : ∀ ty dc, (Builtin.copy_ #[29, 29] ty #[.slice (some ⟨w.heap.size, i * 2, none⟩) (cap + 1 - i) dc, .slice (some ⟨vb, 0, none⟩) 1 1]).run Try.prog W1 = .ok (goInt 1) (W1.setCells w.heap.size (i * 2) [.int .i64 key, .int .i64 val]) := fun ty dc => by
    have := run_copy2 W1 29 29 ty 65 w.heap.size (i * 2) (cap + 1 - i) dc ⟨vb, 0, none⟩ 1 1 [.int .i64 key, .int .i64 val] Try.underlying29 hsz (by rw [show Nat.min 1 (cap + 1 - i) = 1 from Nat.min_eq_left (by omega)]; rfl)
      (fun j v hj => by rw [addr_add, Nat.zero_add]; exact hvc j v hj)
      (fun j hj => by rw [cell_of_row W1 w.heap.size _ _ _ (0, 0) hg1, Array.getElem?_eq_getElem (by rw [hRs]; simp at hj; omega)]; rfl) (fun j hj => frozen_of_row W1 w.heap.size _ _ _ hg1) (by intro v hv; simp at hv; rcases hv with rfl | rfl <;> rfl)
    rwa [show Nat.min 1 (cap + 1 - i) = 1 by simp only [Nat.min_def]; split <;> omega] at this
  obtain ⟨W2, hW2⟩ : ∃ W2, W2 = W1.setCells w.heap.size (i * 2) [.int .i64 key, .int .i64 val] := ⟨_, rfl⟩
  have hg2 : W2.heap[w.heap.size]? = some (.cells (setL (flatP (l.take i) ++ Z) (i * 2) [.int .i64 key, .int .i64 val]).toArray 65 (0, 0)) := by rw [hW2]; exact heap_setL w.heap.size _ _ _ W1 _ hg1
  have hsl : (setL (flatP (l.take i) ++ Z) (i * 2) [Value.int .i64 key, Value.int .i64 val]).toArray.size = G * 2 := by rw [List.size_toArray, setL_len, ← hRs, List.size_toArray]
  have b2 : Below base w W2 := by rw [hW2]; exact below_setL hbase _ _ _ b1
  have hcpB : ∀ ty dc sc, (Builtin.copy_ #[29, 29] ty #[.slice (some ⟨w.heap.size, (i + 1) * 2, none⟩) (cap - i) dc, .slice (some ⟨g, i * 2, none⟩) (cap - i) sc]).run Try.prog W2.drew = .ok (goInt ((cap - i : Nat) : Int)) (W2.drew.setCells w.heap.size ((i + 1) * 2) (flatP (l.drop i))) := fun ty dc sc => by
    have := run_copy2 W2.drew 29 29 ty 65 w.heap.size ((i + 1) * 2) (cap - i) dc ⟨g, i * 2, none⟩ (cap - i) sc (flatP (l.drop i)) Try.underlying29 hsz (by rw [hdl, show Nat.min (cap - i) (cap - i) = cap - i from Nat.min_self _])
      (fun j v hj => by
        rw [addr_add]
        show W2.cell? ⟨g, i * 2 + j, none⟩ = some v
        rw [hW2, World.cell?_setCells_out _ _ _ _ _ (fun h _ => absurd h (by show g ≠ w.heap.size; omega)), hW1, World.cell?_alloc_lt w.drew _ ⟨g, i * 2 + j, none⟩ hgw]
        exact hsrc j v hj)
      (fun j hj => by
        show (W2.cell? ⟨w.heap.size, (i + 1) * 2 + j, none⟩).isSome = true
        rw [cell_of_row W2 w.heap.size _ _ _ (0, 0) hg2, Array.getElem?_eq_getElem (by rw [hsl]; rw [hdl] at hj; omega)]; rfl)
      (fun j hj => frozen_of_row W2 w.heap.size _ _ _ hg2) (flatP_one _)
    rwa [show Nat.min (cap - i) (cap - i) = cap - i from Nat.min_self _] at this
  have HF := Lib.hid (show InsPost base (l.take i ++ (key, val) :: l.drop i) w (.returned (.slice (some ⟨w.heap.size, 0, none⟩) (cap + 1) G)) (W2.drew.setCells w.heap.size ((i + 1) * 2) (flatP (l.drop i))) by
    refine ⟨_, rfl, ?_, below_setL hbase _ _ _ b2.drew⟩
    have hl' : (l.take i ++ (key, val) :: l.drop i).length = cap + 1 := by simp; omega
    unfold OwnsP
    rw [hl', flatP_mid]
    have hh := heap_setL w.heap.size 65 (flatP (l.drop i)) ((i + 1) * 2) W2.drew _ hg2
    refine ⟨?_, .inr ⟨w.heap.size, G, _, rfl, hbase, hh, hGn, hGm, ?_, ?_⟩⟩
    · rw [List.length_append, List.length_append, hdl, htl]; simp; omega
    · rw [List.size_toArray, setL_len, ← hsl, List.size_toArray]
    · rw [List.toList_toArray, List.toList_toArray]
      exact grow_list _ _ Z hn (by omega) (by rw [hZl]; omega))
  have hw1 : IntKind.i64.wrap ((i : Int) + 1) = (i : Int) + 1 := by rw [IntKind.wrap_i64]; omega
  have hw2 : IntKind.i64.wrap ((cap : Int) + 1) = (cap : Int) + 1 := by rw [IntKind.wrap_i64]; omega
  have hw3 : IntKind.i64.wrap ((cap : Int) + 1 - (i : Int)) = (cap : Int) + 1 - (i : Int) := by rw [IntKind.wrap_i64]; omega
  have hb1 : (0 : Int) ≤ (i : Int) + 1 := by omega
  have hin : i ≤ cap := by omega
  have htn : ((i : Int) + 1).toNat = i + 1 := by omega
  have hb2 : ¬ (G = i) := by omega
  have hb5 : ¬ (G = i + 1) := by omega
  have hb3 : (i : Int) ≤ (cap : Int) + 1 := by omega
  have hb4 : ¬ (cap = i) := by omega
  have mixed : Try.prog.follows .mixedOrders = true := by kernel_rfl
  have hE : w.drew.alloc (.cells (flatP (l.take i) ++ Z).toArray 65) = W1 := hW1.symm
  rw [hE] at hrz
  rw [← hW2] at hcpA
  replace hE := Lib.hid hE
  replace hW1 := Lib.hid hW1
  replace hW2 := Lib.hid hW2
  replace hO := Lib.hid hO
  replace hn := Lib.hid hn
  replace hg := Lib.hid hg
  replace hg1 := Lib.hid hg1
  replace hg2 := Lib.hid hg2
  replace hsrc := Lib.hid hsrc
  replace hdl := Lib.hid hdl
  replace htl := Lib.hid htl
  replace he := Lib.hid he
  replace hZ := Lib.hid hZ
  replace hRs := Lib.hid hRs
  replace hsl := Lib.hid hsl
  replace hvc := Lib.hid hvc
  replace hold := Lib.hid hold
  clear hik hG
  go_enter Try.func83, Try.ntmps83
  go_wp2_with (first | (at_builtin; refine Lib.wpList_append_run _ rfl _ _ _ _ rfl _ _ rfl rfl _ _ (hrz _) ?_) | (at_builtin; refine wpList_copy_runI _ rfl _ _ 29 29 rfl _ _ rfl rfl (hcpA _ _) ?_))
  go_region_law_o (refine step_copy_runI rfl _ _ 29 29 rfl _ _ (by simp [Act.eval, Act.put]) (by simp [Act.eval, Act.put]) (hcpB _ _ _) ?_)
  go_wp2
  go_ret
  exact HF.out

/-- A pair is put into a row of the call's own, at whatever place. -/
theorem insert_any (v : Value) (base i : Nat) (l : List Sp) (key val : Int) (vb : Nat) (w : World) (hlen : l.length ≤ 100000) (hi : i ≤ l.length) (hbase : base ≤ w.heap.size) (ho : OwnsP 65 w base v l)
    (hvg : ∀ g, v.ownBlock = some g → vb ≠ g) (hv : w.heap[vb]? = some (.cells #[.int .i64 key, .int .i64 val] 65 (0, 0))) :
    Calls Try.prog 83 #[v, .int .i64 (i : Int), .slice (some ⟨vb, 0, none⟩) 1 1] w (InsPost base (l.take i ++ (key, val) :: l.drop i) w) := by
  by_cases he : i = l.length
  · subst he
    rw [List.take_length, List.drop_length]
    exact insert_end v base l key val vb w hlen hbase ho (cell_of_row w vb 0 _ _ (0, 0) hv) (cell_of_row w vb 1 _ _ (0, 0) hv)
  · obtain ⟨g, cap, rfl, _, _, _, hc⟩ := ho.form (by intro e; subst e; simp at hi; exact he (by simp [hi]))
    unfold OwnsP at ho
    by_cases hr : l.length + 1 ≤ cap
    · exact insert_room g cap base l.length i l key val vb w rfl hlen (by omega) hr ho (hvg g rfl) hv
    · exact insert_grow g cap base l.length i l key val vb w rfl hlen (by omega) (by omega) hbase ho hv
end Go.Proofs.Ythofoidafdbgcaa


/-
  CONTRACTS of with; of slices.IndexFunc, slices.DeleteFunc on pairs, in a row of the call's own.
-/
namespace Go.Proofs.Ythofoidafdbgcaa
open Go.RowKit Go.Shelf Go.Lib

theorem flatP_set1 : ∀ (l : List Sp) (k : Nat) (z : Int), k < l.length → (flatP l).set (k * 2 + 1) (.int .i64 z) = flatP (l.set k ((l.getD k (0, 0)).1, z))
  | [], _, _, h => absurd h (Nat.not_lt_zero _)
  | s :: t, 0, z, _ => rfl
  | s :: t, k + 1, z, h => by
    show ((.int .i64 s.1) :: (.int .i64 s.2) :: flatP t).set ((k + 1) * 2 + 1) _ = (.int .i64 s.1) :: (.int .i64 s.2) :: flatP (t.set k _)
    rw [show (k + 1) * 2 + 1 = (k * 2 + 1) + 1 + 1 by omega, List.set_cons_succ, List.set_cons_succ, flatP_set1 t k z (by simpa using h)]
    rfl

set_option maxRecDepth 100000 in
set_option maxHeartbeats 2000000 in
theorem with_any (v : Value) (base : Nat) (l : List Sp) (key val : Int) (w : World) (ht : tblB l = true) (hbase : base ≤ w.heap.size) (ho : OwnsP 65 w base v l) :
    Calls Try.prog 60 #[v, .int .i64 key, .int .i64 val] w (InsPost base (putT l key val) w) := by
  have hle := tbl_le ht
  obtain ⟨a, cap, rfl, hc, hm, hp, hs⟩ := ho.arg
  have hA : Arg w a l.length cap l := ⟨rfl, by omega, hc, hm, hp⟩
  have C := place_any a l.length cap l key w hA ht
  unfold PlacePost at C
  obtain ⟨n, hn⟩ : ∃ n, l.length = n := ⟨_, rfl⟩
  have hn1 : n ≤ 4096 := by omega
  have hPle := plc_le l key
  cases hi : isT l key
  · rw [hi] at C
    have hput := put_new l (-1) key val ht (by unfold isT at hi; exact of_decide_eq_false hi)
    rw [hput]
    have ho' : OwnsP 65 w base (.slice a n cap) l := by rw [← hn]; exact ho
    have HI := Lib.hid (fun w2 (b2 : Below w.heap.size w w2) => insert_any (.slice a n cap) base (plc l key) l key val w2.heap.size (w2.alloc (.cells #[.int .i64 key, .int .i64 val] 65)) (by omega) hPle (by have := b2.size; simp; omega)
      (World.ownsRow.alloc (ho'.below b2) _) (fun g hg => by
        have := (World.ownsRow.lt ho' g hg).2
        have := b2.size
        omega) (heap_alloc_new w2 _))
    rw [hn] at C ⊢
    replace C := Lib.hid C
    have HB := Lib.hid (fun w2 (b2 : Below w.heap.size w w2) => (show Below base w (w2.alloc (.cells #[.int .i64 key, .int .i64 val] 65)) from (b2.mono hbase).alloc (by have := b2.size; omega) _))
    generalize plc l key = P at *
    clear hput hi ho ho' hA hs hp
    go_enter Try.func60, Try.ntmps60
    go_wp2_with (first | (go_at_call 46; (with_reducible refine C.out.mono ?_); rintro e w2 ⟨rfl, b2⟩) | (go_at_call 83; (with_reducible refine (HI.out _ b2).mono ?_); rintro e w3 ⟨v3, rfl, o3, b3⟩))
    go_ret
    exact ⟨_, rfl, o3, (HB.out _ b2).trans b3⟩
  · rw [hi] at C
    have hP : plc l key < l.length ∧ (l.getD (plc l key) (0, 0)).1 = key := by unfold isT at hi; exact of_decide_eq_true hi
    have hput := put_there l (-1) key val ht hP.1 hP.2
    rw [hput]
    obtain ⟨g, rfl, hbg, hgw⟩ := hs (by intro e; rw [e] at hP; exact absurd hP.1 (Nat.not_lt_zero _))
    have hcell := (hp (plc l key) hP.1)
    obtain ⟨b, off, e, hb, c0, c1⟩ := hcell
    cases e
    have hfz : w.frozen? ⟨g, plc l key * 2 + 1, none⟩ = false := by unfold OwnsP at ho; exact World.ownsRow.frozenAt ho _
    have HO := Lib.hid (fun w2 (b2 : Below w.heap.size w w2) => (show OwnsP 65 (w2.setCell ⟨g, plc l key * 2 + 1, none⟩ (.int .i64 val)) base (.slice (some ⟨g, 0, none⟩) n cap) (l.set (plc l key) (key, val)) by
      have h2 := ho.below b2
      unfold OwnsP at h2 ⊢
      rw [hn] at h2
      have h3 := (World.ownsRow.stored h2 (plc l key * 2 + 1) (.int .i64 val)).1
      rw [flatP_set1 l _ val hP.1, hP.2] at h3
      rw [List.length_set, hn]
      exact h3))
    rw [Nat.zero_add] at c1
    have hPn : (plc l key : Int) < (n : Int) := by omega
    rw [hn] at C ⊢
    replace C := Lib.hid C
    generalize plc l key = P at *
    clear hput hi ho hA hs hp c0 hP
    go_enter Try.func60, Try.ntmps60
    go_wp2_with (first | (go_at_call 46; (with_reducible refine C.out.mono ?_); rintro e w2 ⟨rfl, b2⟩; have d1 := (b2.cell (p := ⟨g, P * 2 + 1, none⟩) hgw).trans c1; have f1 := (b2.frozen (p := ⟨g, P * 2 + 1, none⟩) hgw).trans hfz))
    go_ret
    exact ⟨_, rfl, HO.out _ b2, (b2.mono hbase).setCell hbg _⟩

/-- A predicate of pairs that makes memory of its own, in whatever world that is grown from w, as of block base. -/
def PredG (g : Nat) (lb : Array Value) (p : Sp → Bool) (base : Nat) (w : World) : Prop :=
  ∀ (W : World) (x : Sp), Below base w W → Calls Try.prog g (#[.agg #[.int .i64 x.1, .int .i64 x.2]] ++ lb) W (Gives W (.bool (p x)))
def fstP (p : Sp → Bool) : List Sp → Nat
  | [] => 0
  | x :: t => if p x = true then 0 else fstP p t + 1
theorem fstP_le (p : Sp → Bool) : ∀ l : List Sp, fstP p l ≤ l.length
  | [] => Nat.le_refl _
  | x :: t => by unfold fstP; have := fstP_le p t; split <;> simp; omega
theorem fstP_take (p : Sp → Bool) : ∀ l : List Sp, (l.take (fstP p l)).filter (fun x => !p x) = l.take (fstP p l)
  | [] => rfl
  | x :: t => by
    unfold fstP
    by_cases h : p x = true
    · rw [if_pos h]; rfl
    · rw [if_neg h, List.take_succ_cons, List.filter_cons_of_pos (by simp [h]), fstP_take p t]
theorem fstP_hit (p : Sp → Bool) : ∀ l : List Sp, fstP p l < l.length → p (l.getD (fstP p l) (0, 0)) = true
  | [], h => absurd h (Nat.not_lt_zero _)
  | x :: t, h => by
    unfold fstP at h ⊢
    by_cases hx : p x = true
    · rw [if_pos hx]; exact hx
    · rw [if_neg hx] at h ⊢
      exact fstP_hit p t (by simpa using h)
def idxV (p : Sp → Bool) (l : List Sp) : Int := if fstP p l < l.length then (fstP p l : Int) else -1

set_option maxRecDepth 100000 in
set_option maxHeartbeats 1000000 in
theorem idxF_any (g : Nat) (lb : Array Value) (p : Sp → Bool) (base : Nat) (a : Option Addr) (n c : Nat) (l : List Sp) (w : World) (eg : ∀ args w, (callFunc g args).run Try.prog w = .ok (.enter g args) w)
    (hA : Arg w a n c l) (hbase : base ≤ w.heap.size) (hp : PredG g lb p base w) :
    Calls Try.prog 100 #[.slice a n c, .func (.func g) #[] lb] w (Gives w (.int .i64 (idxV p l))) := by
  obtain ⟨hn, hz, _, _, hq⟩ := hA
  have hnz : (n : Int) ≤ 9223372036854775807 := by omega
  obtain ⟨r, hr⟩ : ∃ r, idxV p l = r := ⟨_, rfl⟩
  rw [hr]
  have H0 := Lib.hid (show fstP p l = 0 + fstP p (l.drop 0) by simp)
  have HR := Lib.hid (show r = if fstP p l < n then (fstP p l : Int) else -1 by rw [← hr, hn]; rfl)
  replace hn := Lib.hid hn
  replace hq := Lib.hid hq
  replace hp := Lib.hid hp
  clear hr
  go_enter Try.func100, Try.ntmps100
  go_wp2_with fail
  go_loopw [5, 8] (fun _ i wr => ∃ (k : Nat), i = .int .i64 (k : Int) ∧ k ≤ n ∧ Hid (fstP p l = k + fstP p (l.drop k)) ∧ Below w.heap.size w wr)
    (fun _ i _ => n - (intOf i).toNat)
  case atStart => exact ⟨0, rfl, Nat.zero_le _, H0, Below.refl _ _⟩
  case round =>
    obtain ⟨k, rfl, hk, HK, hbl⟩ := hrel
    by_cases hlt : k < n
    · have hkl : k < l.length := by rw [← hn.out]; exact hlt
      have hkz : (k : Int) < (n : Int) := by omega
      obtain ⟨b, off, e, hb, c0, c1⟩ := (hq.out.below hbl) k hkl
      subst e
      obtain ⟨s, hs⟩ : ∃ s, l.getD k (0, 0) = s := ⟨_, rfl⟩
      rw [hs] at c0 c1
      have hd := drop_more hkl
      rw [hs] at hd
      have hnext := HK.out
      rw [hd] at hnext
      replace hs := Lib.hid hs
      replace hd := Lib.hid hd
      obtain ⟨x, y⟩ := s
      dsimp only at c0 c1
      have C := hp.out wr (x, y) (hbl.mono hbase)
      dsimp only at C
      cases hx : p (x, y)
      · rw [hx] at C
        have hN := Lib.hid (show fstP p l = (k + 1) + fstP p (l.drop (k + 1)) by
          rw [hnext]; show k + (if p (x, y) = true then 0 else fstP p (l.drop (k + 1)) + 1) = _; rw [hx, if_neg (by simp)]; omega)
        replace C := Lib.hid C
        clear hnext hx
        go_wp2_with (go_at_fn g; (with_reducible refine C.out.mono ?_); rintro e w2 ⟨rfl, b2⟩)
        go_roundw
        case rel => exact ⟨k + 1, by go_num, by omega, hN, below_next hbl b2⟩
        case measure => simp [intOf]; omega
      · rw [hx] at C
        have hr := Lib.hid (show r = (k : Int) by
          have : fstP p l = k := by rw [hnext]; show k + (if p (x, y) = true then 0 else fstP p (l.drop (k + 1)) + 1) = _; rw [hx, if_pos rfl]; omega
          rw [HR.out, this, if_pos hlt])
        replace C := Lib.hid C
        clear hnext hx
        go_wp2_with (go_at_fn g; (with_reducible refine C.out.mono ?_); rintro e w2 ⟨rfl, b2⟩)
        go_ret
        exact ⟨ret_int hr.out.symm, below_next hbl b2⟩
    · have hkz : ¬ (k : Int) < (n : Int) := by omega
      have hr := Lib.hid (show r = -1 by
        rw [HR.out, if_neg]
        have := HK.out
        omega)
      go_wp2
      go_ret
      exact ⟨ret_int hr.out.symm, hbl⟩

/-- clear, of elements that are pairs. -/
theorem run_clear2 (w : World) (t e ty : TypeId) (ht : Try.prog.underlying t = some (.slice e)) (hv : ∀ w, (zeroValue e).run Try.prog w = .ok (.agg #[.int .i64 0, .int .i64 0]) w) (b o n c : Nat) (hn : 0 < n)
    (hc : ∀ j, j < n * 2 → (w.cell? ⟨b, o + j, none⟩).isSome = true) (hf : ∀ j, j < n * 2 → w.frozen? ⟨b, o + j, none⟩ = false) :
    (Builtin.clear_ #[t] ty #[.slice (some ⟨b, o, none⟩) n c]).run Try.prog w = .ok (.tuple #[]) (w.setCells b o (List.replicate (n * 2) (.int .i64 0))) := by
  have hzc : (Builtin.zeroCells #[Value.int .i64 0, .int .i64 0] n).toList = List.replicate (n * 2) (.int .i64 0) := by
    simp [Builtin.zeroCells]
    apply List.ext_getElem
    · simp
    · intro i h1 h2
      rcases Nat.mod_two_eq_zero_or_one i with hm | hm <;> simp [hm]
  have hst := run_storeCells_cells (P := Try.prog) b o (List.replicate (n * 2) (.int .i64 0)) 0 w (by simpa using hc) (by simpa using hf) (by intro v hv'; rw [List.eq_of_mem_replicate hv']; rfl)
  simp only [Nat.add_zero] at hst
  obtain ⟨m, rfl⟩ : ∃ m, n = m + 1 := ⟨n - 1, by omega⟩
  simp [Builtin.clear_, run_underlying ht, hv, Value.cells, hzc, hst]
theorem setL_take : ∀ (X l : List Value) (o k : Nat), k ≤ o → (setL l o X).take k = l.take k
  | [], _, _, _, _ => rfl
  | v :: r, l, o, k, h => by
    show (setL (l.set o v) (o + 1) r).take k = _
    rw [setL_take r (l.set o v) (o + 1) k (by omega), List.take_set]
    exact List.set_eq_of_length_le (by rw [List.length_take]; omega)
end Go.Proofs.Ythofoidafdbgcaa


/-
  CONTRACT of slices.DeleteFunc on pairs, in a row of the call's own; of without.
-/
namespace Go.Proofs.Ythofoidafdbgcaa
open Go.RowKit Go.Shelf Go.Lib

/-- A row of the call's own, cut behind i of its pairs, behind cells that were set from there on. -/
theorem own_cut {w : World} {base g n cap i : Nat} {cur : List Sp} (X : List Value) (hn : cur.length = n) (hi : i ≤ n) (h : w.ownsRow base 65 2 (.slice (some ⟨g, 0, none⟩) n cap) n (flatP cur)) :
    (w.setCells g (i * 2) X).ownsRow base 65 2 (.slice (some ⟨g, 0, none⟩) i cap) i (flatP (cur.take i)) := by
  rcases h.2 with ⟨e, _⟩ | ⟨g', cap', c, e, h1, h2, h3, h4, h5, h6⟩
  · cases e
  · cases e
    have ht : cur.take i = cur.take i := rfl
    refine ⟨by rw [flatP_length, List.length_take, hn, Nat.min_eq_left hi], .inr ⟨g, cap, _, rfl, h1, heap_setL g _ X (i * 2) w c h2, by omega, h4, ?_, ?_⟩⟩
    · rw [List.size_toArray, setL_len, Array.length_toList, h5]
    · rw [List.toList_toArray, setL_take _ _ _ _ (Nat.le_refl _), ← flatP_take cur i (by omega), ← h6, List.take_take, Nat.min_eq_left (by omega)]
/-- A pair is stored into a row of the call's own. -/
theorem own_put {w : World} {base g n cap i : Nat} {cur : List Sp} {x y : Int} (hn : cur.length = n) (hi : i < n) (h : w.ownsRow base 65 2 (.slice (some ⟨g, 0, none⟩) n cap) n (flatP cur)) :
    ((w.setCell ⟨g, i * 2, none⟩ (.int .i64 x)).setCell ⟨g, i * 2 + 1, none⟩ (.int .i64 y)).ownsRow base 65 2 (.slice (some ⟨g, 0, none⟩) n cap) n (flatP (cur.set i (x, y))) := by
  have h1 := (World.ownsRow.stored h (i * 2) (.int .i64 x)).1
  have h2 := (World.ownsRow.stored h1 (i * 2 + 1) (.int .i64 y)).1
  rwa [flatP_set2 cur i x y (by omega)] at h2

set_option maxRecDepth 100000 in
set_option maxHeartbeats 4000000 in
theorem delF_any (g0 : Nat) (lb : Array Value) (p : Sp → Bool) (base : Nat) (v : Value) (l : List Sp) (w0 w : World) (eg : ∀ args w, (callFunc g0 args).run Try.prog w = .ok (.enter g0 args) w) (hlen : l.length ≤ 100000)
    (ho : OwnsP 65 w base v l) (hbase : base ≤ w.heap.size) (hb0 : Below base w0 w) (hp : PredG g0 lb p base w0) :
    Calls Try.prog 78 #[v, .func (.func g0) #[] lb] w (InsPost base (l.filter fun x => !p x) w) := by
  have hp' : PredG g0 lb p base w := fun W x hb => hp W x (hb0.trans hb)
  obtain ⟨a, cap, rfl, hc, hm, hpin, hs⟩ := ho.arg
  have hA : Arg w a l.length cap l := ⟨rfl, by omega, hc, hm, hpin⟩
  have CI := idxF_any g0 lb p base a l.length cap l w eg hA hbase hp'
  have hc63 : cap ≤ 9223372036854775807 := by unfold maxLen at hm; omega
  unfold idxV at CI
  by_cases hhit : fstP p l < l.length
  · rw [if_pos hhit] at CI
    obtain ⟨g, rfl, hbg, hgw⟩ := hs (by intro e; rw [e] at hhit; exact absurd hhit (Nat.not_lt_zero _))
    have htake := fstP_take p l
    have hpk := fstP_hit p l hhit
    obtain ⟨n, hn⟩ : ∃ n, l.length = n := ⟨_, rfl⟩
    unfold OwnsP at ho
    rw [hn] at ho CI hhit hlen hc ⊢
    obtain ⟨k0, hk0⟩ : ∃ k, fstP p l = k := ⟨_, rfl⟩
    rw [hk0] at CI hhit htake hpk
    have hfil0 : (l.take (k0 + 1)).filter (fun x => !p x) = l.take k0 := by
      rw [take_more (by omega), List.filter_append, htake]
      simp only [List.getD_eq_getElem?_getD] at hpk ⊢
      simp [hpk]
    have hneq : ((k0 : Int) == -1) = false := beq_eq_false_iff_ne.2 (by omega)
    have HO := Lib.hid ho
    have HF0 := Lib.hid hfil0
    have hd0 := Lib.hid (show l.length = n from hn)
    replace CI := Lib.hid CI
    replace hp' := Lib.hid hp'
    have v23 := Try.zeroValue65
    replace hn := Lib.hid hn
    clear ho hA hpin hs hfil0 htake hpk hk0 hp hb0
    go_enter Try.func78, Try.ntmps78
    go_wp2_with (go_at_call 100; (with_reducible refine CI.out.mono ?_); rintro e w1 ⟨rfl, b1⟩)
    have HO1 := Lib.hid (OwnsP.below (t := 65) (base := base) (v := .slice (some ⟨g, 0, none⟩) n cap) (l := l) (by unfold OwnsP; rw [hn.out]; exact HO.out) b1)
    go_loopw [5, 6, 7] (fun i j _ wr => ∃ (x y : Nat) (cur : List Sp), i = .int .i64 (x : Int) ∧ j = .int .i64 (y : Int) ∧ x < y ∧ y ≤ n ∧ Hid (cur.length = n ∧ cur.drop y = l.drop y ∧ cur.take x = (l.take y).filter (fun x => !p x)) ∧ Hid (wr.ownsRow base 65 2 (.slice (some ⟨g, 0, none⟩) n cap) n (flatP cur)) ∧ Below base w wr)
      (fun _ j _ _ => n - (intOf j).toNat)
    case atStart =>
      refine ⟨k0, k0 + 1, l, rfl, by go_num, by omega, by omega, Lib.hid ⟨hn.out, rfl, HF0.out.symm⟩, Lib.hid ?_, b1.mono hbase⟩
      have := HO1.out
      unfold OwnsP at this
      rwa [hn.out] at this
    case round =>
      obtain ⟨x, y, cur, rfl, rfl, hxy, hyn, HI, HW, hbl⟩ := hrel
      have hsz := hbl.size
      by_cases hlt : y < n
      · have hyz : (y : Int) < (n : Int) := by omega
        have hxz : (x : Int) < (n : Int) := by omega
        have hcy : cur.getD y (0, 0) = l.getD y (0, 0) := by
          have h1 := drop_more (l := cur) (k := y) (by rw [HI.out.1]; exact hlt)
          have h2 := drop_more (l := l) (k := y) (by rw [hn.out]; exact hlt)
          have h3 := HI.out.2.1
          rw [h1, h2] at h3
          exact (List.cons.inj h3).1
        have hdn : cur.drop (y + 1) = l.drop (y + 1) := by rw [← List.drop_drop, ← List.drop_drop, HI.out.2.1]
        have g1 := World.ownsRow.cellAt HW.out (y * 2) (by omega)
        have g2 := World.ownsRow.cellAt HW.out (y * 2 + 1) (by omega)
        obtain ⟨q1, q2⟩ := flatP_get cur y (by rw [HI.out.1]; exact hlt)
        rw [q1, hcy] at g1
        rw [q2, hcy] at g2
        have gx := World.ownsRow.cellAt HW.out (x * 2) (by omega)
        have gx2 := World.ownsRow.cellAt HW.out (x * 2 + 1) (by omega)
        obtain ⟨r1, r2⟩ := flatP_get cur x (by rw [HI.out.1]; omega)
        rw [r1] at gx
        rw [r2] at gx2
        have fx := World.ownsRow.frozenAt HW.out (x * 2)
        have fx2 := World.ownsRow.frozenAt HW.out (x * 2 + 1)
        have hgr : g < wr.heap.size := World.block_lt_of_cell? _ _ gx
        have htn := take_more (l := l) (k := y) (by rw [hn.out]; exact hlt)
        obtain ⟨s, hs⟩ : ∃ s, l.getD y (0, 0) = s := ⟨_, rfl⟩
        rw [hs] at g1 g2 htn
        generalize (cur.getD x (0, 0)).1 = o1 at gx
        generalize (cur.getD x (0, 0)).2 = o2 at gx2
        replace hs := Lib.hid hs
        replace hcy := Lib.hid hcy
        obtain ⟨u, z⟩ := s
        dsimp only at g1 g2
        obtain ⟨Wv, hWv⟩ : ∃ Wv, wr.alloc (.cells #[.int .i64 u, .int .i64 z] 65) = Wv := ⟨_, rfl⟩
        have bv : Below wr.heap.size wr Wv := by rw [← hWv]; exact (Below.refl _ _).alloc (Nat.le_refl _) _
        have C := hp'.out Wv (u, z) (hbl.trans (bv.mono (by omega)))
        dsimp only at C
        have d0 : Wv.cell? ⟨wr.heap.size, 0, none⟩ = some (.int .i64 u) := by rw [← hWv]; simp
        have d1 : Wv.cell? ⟨wr.heap.size, 1, none⟩ = some (.int .i64 z) := by rw [← hWv]; simp
        have hsv : wr.heap.size < Wv.heap.size := by rw [← hWv]; simp
        cases hq : p (u, z)
        · rw [hq] at C
          replace C := Lib.hid C
          have HN := Lib.hid (show ∀ e : Unit, (cur.set x (u, z)).length = n ∧ (cur.set x (u, z)).drop (y + 1) = l.drop (y + 1) ∧ (cur.set x (u, z)).take (x + 1) = (l.take (y + 1)).filter (fun x => !p x) from fun _ => by
            refine ⟨by rw [List.length_set]; exact HI.out.1, ?_, ?_⟩
            · rw [List.drop_set, if_pos (by omega)]; exact hdn
            · rw [htn, List.filter_append, ← HI.out.2.2, take_more (l := cur.set x (u, z)) (k := x) (by rw [List.length_set, HI.out.1]; omega), List.take_set, List.set_eq_of_length_le (by rw [List.length_take]; omega)]
              congr 1
              rw [List.filter_cons_of_pos (by simp [hq])]
              have : x < cur.length := by rw [HI.out.1]; omega
              simp [List.getD, this])
          clear hq htn hdn
          go_wp2_with (go_at_fn g0; (with_reducible refine C.out.mono ?_); rintro e w2 ⟨rfl, b2⟩; have e0 := (b2.cell (p := ⟨wr.heap.size, 0, none⟩) hsv).trans d0; have e1 := (b2.cell (p := ⟨wr.heap.size, 1, none⟩) hsv).trans d1; have bq := bv.trans (b2.mono bv.size); have k0' := (bq.cell (p := ⟨g, x * 2, none⟩) hgr).trans gx; have k1' := (bq.cell (p := ⟨g, x * 2 + 1, none⟩) hgr).trans gx2; have f0' := (bq.frozen (p := ⟨g, x * 2, none⟩) hgr).trans fx; have f1' := (bq.frozen (p := ⟨g, x * 2 + 1, none⟩) hgr).trans fx2)
          go_roundw
          case rel =>
            refine ⟨x + 1, y + 1, cur.set x (u, z), by go_num, by go_num, by omega, by omega, Lib.hid (HN.out ()), Lib.hid ?_, ?_⟩
            · exact own_put HI.out.1 (by omega) (World.ownsRow.kept HW.out (row := none) ⟨bq.os, bq.tape, bq.output, bq.size, fun k hk _ => bq.block k hk⟩ (.inr (fun e => by cases e)))
            · exact ((hbl.trans (bq.mono (by omega))).setCell (p := ⟨g, x * 2, none⟩) hbg _).setCell (p := ⟨g, x * 2 + 1, none⟩) hbg _
          case measure => simp [intOf]; omega
        · rw [hq] at C
          replace C := Lib.hid C
          have HN := Lib.hid (show cur.length = n ∧ cur.drop (y + 1) = l.drop (y + 1) ∧ cur.take x = (l.take (y + 1)).filter (fun x => !p x) from
            ⟨HI.out.1, hdn, by rw [htn, List.filter_append, ← HI.out.2.2]; simp [hq]⟩)
          clear hq htn hdn
          go_wp2_with (go_at_fn g0; (with_reducible refine C.out.mono ?_); rintro e w2 ⟨rfl, b2⟩; have bq := bv.trans (b2.mono bv.size))
          go_roundw
          case rel =>
            refine ⟨x, y + 1, cur, rfl, by go_num, by omega, by omega, HN, Lib.hid ?_, hbl.trans (bq.mono (by omega))⟩
            exact World.ownsRow.kept HW.out (row := none) ⟨bq.os, bq.tape, bq.output, bq.size, fun k hk _ => bq.block k hk⟩ (.inr (fun e => by cases e))
          case measure => simp [intOf]; omega
      · have hyn' : y = n := by omega
        have hyz : ¬ (y : Int) < (n : Int) := by omega
        have hxn : x ≤ n := by omega
        have hxc : x ≤ cap := by omega
        have hfin : cur.take x = l.filter (fun x => !p x) := by rw [HI.out.2.2, hyn', ← hn.out, List.take_length]
        have hcl : ∀ ty dc, (Builtin.clear_ #[29] ty #[.slice (some ⟨g, x * 2, none⟩) (n - x) dc]).run Try.prog wr = .ok (.tuple #[]) (wr.setCells g (x * 2) (List.replicate ((n - x) * 2) (.int .i64 0))) := fun ty dc =>
          run_clear2 wr 29 65 ty Try.underlying29 v23 g (x * 2) (n - x) dc (by omega)
            (fun j hj => by rw [World.ownsRow.cellAt HW.out _ (by omega), List.getElem?_eq_getElem (by rw [flatP_length, HI.out.1]; omega)]; rfl) (fun j hj => World.ownsRow.frozenAt HW.out _)
        have HFin := Lib.hid (show InsPost base (l.filter fun x => !p x) w (.returned (.slice (some ⟨g, 0, none⟩) x cap)) (wr.setCells g (x * 2) (List.replicate ((n - x) * 2) (.int .i64 0))) by
          refine ⟨_, rfl, ?_, below_setL hbg _ _ _ hbl⟩
          have := own_cut (List.replicate ((n - x) * 2) (.int .i64 0)) HI.out.1 hxn HW.out
          rw [hfin] at this
          refine ownsP_of_row this ?_
          rw [← hfin, List.length_take, HI.out.1, Nat.min_eq_left hxn])
        clear hfin
        go_wp2_with (simp only [hcl])
        go_ret
        exact HFin.out
  · rw [if_neg hhit] at CI
    have hall : l.filter (fun x => !p x) = l := by
      have h1 := fstP_take p l
      rwa [List.take_of_length_le (by omega)] at h1
    rw [hall]
    have HO := Lib.hid ho
    obtain ⟨n, hn⟩ : ∃ n, l.length = n := ⟨_, rfl⟩
    rw [hn] at CI ⊢
    replace CI := Lib.hid CI
    clear ho hall hhit
    go_enter Try.func78, Try.ntmps78
    go_wp2_with (go_at_call 100; (with_reducible refine CI.out.mono ?_); rintro e w1 ⟨rfl, b1⟩)
    go_ret
    exact ⟨_, rfl, by rw [← hn]; exact OwnsP.below HO.out b1, b1.mono hbase⟩
end Go.Proofs.Ythofoidafdbgcaa


/-
  CONTRACTS of without; of Apply.
-/
namespace Go.Proofs.Ythofoidafdbgcaa
open Go.RowKit Go.Shelf Go.Lib

/-- The predicate that without hands to DeleteFunc. -/
theorem without1 (base bb : Nat) (ga : Option Addr) (gn gc : Nat) (G : List Sp) (w : World) (hbb : bb < base) (hbase : base ≤ w.heap.size) (hc : w.cell? ⟨bb, 0, none⟩ = some (.slice ga gn gc))
    (hn : gn = G.length) (hz : (G.length : Int) ≤ 9223372036854775807) (h1 : G.length ≤ gc) (h2 : gc ≤ maxLen) (hp : PIn w base ga G) :
    PredG 79 #[.pointer (some ⟨bb, 0, none⟩)] (fun x => hasB G x.1) base w := by
  intro W x hb
  obtain ⟨x, y⟩ := x
  have hW := hb.size
  have A : Arg W ga gn gc G := ⟨hn, hz, h1, h2, (hp.below hb).more (by omega)⟩
  have hcW : W.cell? ⟨bb, 0, none⟩ = some (.slice ga gn gc) := (hb.cell (p := ⟨bb, 0, none⟩) hbb).trans hc
  have C := fun W' (h : Below W.heap.size W W') => has_arg G x ga gn gc W' (A.below h)
  dsimp only
  generalize hasB G x = r at *
  obtain ⟨W1, hW1⟩ : ∃ W1, W.alloc (.cells #[.int .i64 x, .int .i64 y] 65) = W1 := ⟨_, rfl⟩
  have b1 : Below W.heap.size W W1 := by rw [← hW1]; exact (Below.refl _ _).alloc (Nat.le_refl _) _
  have e0 : W1.cell? ⟨W.heap.size, 0, none⟩ = some (.int .i64 x) := by rw [← hW1]; simp
  have e1 : W1.cell? ⟨bb, 0, none⟩ = some (.slice ga gn gc) := (b1.cell (p := ⟨bb, 0, none⟩) (show bb < W.heap.size by omega)).trans hcW
  replace C := Lib.hid C
  replace hn := Lib.hid hn
  clear A hp hcW hc
  go_enter Try.func79, Try.ntmps79
  go_wp2_with (go_at_call 58; (with_reducible refine (C.out _ b1).mono ?_); rintro e w2 ⟨rfl, b2⟩)
  go_ret
  exact ⟨rfl, below_next b1 b2⟩

set_option maxRecDepth 100000 in
set_option maxHeartbeats 2000000 in
theorem without_any (a : Option Addr) (n cp : Nat) (l : List Sp) (lo hi : Int) (a3 : Option Addr) (n3 cp3 : Nat) (on : List Sp) (w : World) (hL : Arg w a n cp l) (ho : Arg w a3 n3 cp3 on) (hlen : l.length ≤ 100000) (hone : oneB (lo, hi) = true) (hon : chkB on = true) :
    Calls Try.prog 57 #[.slice a n cp, .agg #[.int .i64 lo, .int .i64 hi], .slice a3 n3 cp3] w (InsPost w.heap.size (l.filter (fun p => !(inB (lo, hi) p.1 && hasB on p.1))) w) := by
  have hm := meet_one hone hon
  have hfil : (l.filter (fun p => !(inB (lo, hi) p.1 && hasB on p.1))) = l.filter (fun p => !(hasB (setOf fun j => inB (lo, hi) j && hasB on j) p.1)) := by
    congr 1
    funext p
    rw [setOf_has]
    cases h : (inB (lo, hi) p.1 && hasB on p.1)
    · simp
    · rw [Bool.and_eq_true] at h
      have := (inB_iff _ _).1 h.1
      dsimp only at this
      rw [decide_eq_true (by omega)]
      rfl
  rw [hfil]
  generalize (setOf fun j => inB (lo, hi) j && hasB on j) = G at *
  obtain ⟨W1, hW1⟩ : ∃ W1, w.alloc (.cells #[.int .i64 lo, .int .i64 hi] 40) = W1 := ⟨_, rfl⟩
  have b1 : Below w.heap.size w W1 := by rw [← hW1]; exact (Below.refl _ _).alloc (Nat.le_refl _) _
  have e0 : W1.cell? ⟨w.heap.size, 0, none⟩ = some (.int .i64 lo) := by rw [← hW1]; simp
  have e1 : W1.cell? ⟨w.heap.size, 1, none⟩ = some (.int .i64 hi) := by rw [← hW1]; simp
  obtain ⟨W2, hW2⟩ : ∃ W2, W1.alloc (.cells #[.int .i64 lo, .int .i64 hi] 40) = W2 := ⟨_, rfl⟩
  have b2 : Below W1.heap.size W1 W2 := by rw [← hW2]; exact (Below.refl _ _).alloc (Nat.le_refl _) _
  have A1 : Arg W2 (some ⟨W1.heap.size, 0, none⟩) 1 1 [(lo, hi)] := by rw [← hW2]; exact arg_new W1 40 [(lo, hi)] #[.int .i64 lo, .int .i64 hi] rfl (by simp)
  have b12 := below_next b1 b2
  have CM := meet_any [(lo, hi)] on (some ⟨W1.heap.size, 0, none⟩) a3 1 n3 1 cp3 W2 A1 (ho.below b12)
  rw [hm] at CM
  have HL := Lib.hid (fun W (h : Below w.heap.size w W) => clonePair_any a n cp l W hlen (hL.below h))
  have eg := enters_of Try.func79 (P := Try.prog) (by kernel_rfl) rfl
  have HD := Lib.hid (fun (w3 : World) (a4 : Option Addr) (n4 c4 : Nat) (b3 : Below W2.heap.size W2 w3) (h4 : Arg w3 a4 n4 c4 G) (w5 : World) (v5 : Value) (o5 : OwnsP 65 w5 (w3.alloc (.cells #[.slice a4 n4 c4] 23)).heap.size v5 l) (b5 : Below (w3.alloc (.cells #[.slice a4 n4 c4] 23)).heap.size (w3.alloc (.cells #[.slice a4 n4 c4] 23)) w5) =>
    delF_any 79 #[.pointer (some ⟨w3.heap.size, 0, none⟩)] (fun x => hasB G x.1) (w3.alloc (.cells #[.slice a4 n4 c4] 23)).heap.size v5 l (w3.alloc (.cells #[.slice a4 n4 c4] 23)) w5 eg hlen o5 b5.size b5
      (without1 _ w3.heap.size a4 n4 c4 G _ (by simp) (Nat.le_refl _) (by simp) h4.1 h4.2.1 h4.2.2.1 h4.2.2.2.1 (h4.2.2.2.2.belowMore ((Below.refl _ _).alloc (Nat.le_refl _) _))))
  replace CM := Lib.hid CM
  clear hm hfil A1 hL ho
  go_enter Try.func57, Try.ntmps57
  go_wp2_with (first | (go_at_call 77; (with_reducible refine CM.out.mono ?_); rintro e w3 ⟨a4, n4, c4, rfl, h4, b3⟩; dsimp only at h4; have b03 := below_next b12 b3; have b04 : Below w.heap.size w (w3.alloc (.cells #[.slice a4 n4 c4] 23)) := below_alloc b03 _; replace h4 := Lib.hid h4) | (go_at_call 34; (with_reducible refine (HL.out _ b04).mono ?_); rintro e w5 ⟨v5, rfl, o5, b5⟩) | (go_at_call 78; (with_reducible refine (HD.out w3 a4 n4 c4 b3 h4.out w5 v5 o5 b5).mono ?_); rintro e w6 ⟨v6, rfl, o6, b6⟩))
  go_ret
  exact ⟨_, rfl, o6.base_le b04.size, b04.trans ((b5.mono b04.size).trans (b6.mono b04.size))⟩
end Go.Proofs.Ythofoidafdbgcaa


/-
  CONTRACT of table.Apply.
-/
namespace Go.Proofs.Ythofoidafdbgcaa
open Go.RowKit Go.Shelf Go.Lib

theorem move_pos {c s k : Int} {ps : List Sp} {lo hi old : Int} (hc : chkM c s k ps lo hi old = true) (k2 : k ≠ 2) : okPs ps = true ∧ (k = 5 → ∀ j, j < ps.length → 0 ≤ (ps.getD j (0, 0)).2) := by
  rcases fits_cases (chkM_and hc).2.2.2 with ⟨k1, ho, _⟩ | ⟨h2, _⟩ | ⟨h, p, rfl, hp⟩ | ⟨h5, p, q, rfl, hp, hq, _, hpq, h0⟩
  · exact ⟨ho, fun h => by omega⟩
  · exact absurd h2 k2
  · exact ⟨by simp [okPs, hp], fun h => by omega⟩
  · refine ⟨by simp [okPs, hp, hq], fun _ j hj => ?_⟩
    match j, hj with
    | 0, _ => exact h0
    | 1, _ => show 0 ≤ q.2; omega
theorem tab_step {k old : Int} {i : Nat} {p : Sp} {l : List Sp} {v : Int} (hp : okP p = true) (h5 : k = 5 → 0 ≤ p.2) (hl : tblB l = true) (h : nextV k old i p (getT l p.1) = some v) : tblB (putT l p.1 v) = true := by
  have hb := okP_bd hp
  exact tblF_put l (-1) p.1 v hl (by omega) (by omega) (nextV_val ((isVal_iff p.2).2 hb.2) h5 (getT_val hl) h)
/-- What Apply answers. -/
def AppPost (r : List Sp × Bool) (w : World) (e : Ending) (w' : World) : Prop := ∃ v, e = .returned (.tuple #[v, .bool r.2]) ∧ OwnsP 65 w' w.heap.size v r.1 ∧ Below w.heap.size w w'
theorem appP_cons (k old : Int) (on : List Sp) (i : Nat) (p : Sp) (t l : List Sp) : appP k old on i (p :: t) l = if hasB on p.1 = true then (match nextV k old i p (getT l p.1) with | none => (l, false) | some v => appP k old on (i + 1) t (putT l p.1 v)) else appP k old on (i + 1) t l := rfl

set_option maxRecDepth 100000 in
set_option maxHeartbeats 2000000 in
theorem apply_bad (a : Option Addr) (n cp : Nat) (l : List Sp) (c s k : Int) (a2 : Option Addr) (n2 cp2 : Nat) (ps : List Sp) (lo hi old : Int) (a3 : Option Addr) (n3 cp3 : Nat) (on : List Sp) (w : World) (hL : Arg w a n cp l) (hA : Arg w a2 n2 cp2 ps) (ho : Arg w a3 n3 cp3 on)
    (hbad : tblB l = false ∨ (tblB l = true ∧ chkM c s k ps lo hi old = false) ∨ (tblB l = true ∧ chkM c s k ps lo hi old = true ∧ chkB on = false)) :
    Calls Try.prog 35 #[.slice a n cp, .agg #[.int .i64 c, .int .i64 s, .int .i64 k, .slice a2 n2 cp2, .int .i64 lo, .int .i64 hi, .int .i64 old], .slice a3 n3 cp3] w (AppPost ([], false) w) := by
  obtain ⟨W1, hW1⟩ : ∃ W1, (w.alloc (.cells #[.int .i64 c, .int .i64 s, .int .i64 k, .slice a2 n2 cp2, .int .i64 lo, .int .i64 hi, .int .i64 old] 42)) = W1 := ⟨_, rfl⟩
  have K7 := Lib.hid (fun W (h : Below W1.heap.size W1 W) => box7 (w := w) (t := 42) (v0 := .int .i64 c) (v1 := .int .i64 s) (v2 := .int .i64 k) (v3 := .slice a2 n2 cp2) (v4 := .int .i64 lo) (v5 := .int .i64 hi) (v6 := .int .i64 old) (w' := W) (by rw [hW1]; exact h))
  have bw : Below w.heap.size w W1 := by rw [← hW1]; exact (Below.refl _ _).alloc (Nat.le_refl _) _
  have CT := Lib.hid (fun W (h : Below w.heap.size w W) => tcheck_any a n cp l W (hL.below h))
  have CC := Lib.hid (fun W (h : Below w.heap.size w W) => mcheck_any c s k a2 n2 cp2 ps lo hi old W (hA.below h))
  have CS := Lib.hid (fun W (h : Below w.heap.size w W) => check_arg on a3 n3 cp3 W (ho.below h))
  clear hL hA ho
  rcases hbad with h1 | ⟨h1, h2⟩ | ⟨h1, h2, h3⟩
  · replace h1 := Lib.hid h1
    go_enter Try.func35, Try.ntmps35
    go_wp2_with (go_at_call 30; (with_reducible refine (CT.out _ bw).mono ?_); rw [h1.out]; rintro e w2 ⟨rfl, b2⟩)
    go_ret2
    exact ⟨_, rfl, OwnsP.nil _ _ _, below_next bw b2⟩
  · replace h1 := Lib.hid h1
    replace h2 := Lib.hid h2
    go_enter Try.func35, Try.ntmps35
    go_wp2_with (first | (go_at_call 30; (with_reducible refine (CT.out _ bw).mono ?_); rw [h1.out]; rintro e w2 ⟨rfl, b2⟩; obtain ⟨z0, z1, z2, z3, z4, z5, z6⟩ := K7.out _ b2; have b02 := below_next bw b2) | (go_at_call 27; (with_reducible refine (CC.out _ b02).mono ?_); rw [h2.out]; rintro e w3 ⟨rfl, b3⟩))
    go_ret2
    exact ⟨_, rfl, OwnsP.nil _ _ _, below_next b02 b3⟩
  · replace h1 := Lib.hid h1
    replace h2 := Lib.hid h2
    replace h3 := Lib.hid h3
    go_enter Try.func35, Try.ntmps35
    go_wp2_with (first | (go_at_call 30; (with_reducible refine (CT.out _ bw).mono ?_); rw [h1.out]; rintro e w2 ⟨rfl, b2⟩; obtain ⟨z0, z1, z2, z3, z4, z5, z6⟩ := K7.out _ b2; have b02 := below_next bw b2) | (go_at_call 27; (with_reducible refine (CC.out _ b02).mono ?_); rw [h2.out]; rintro e w3 ⟨rfl, b3⟩; have b03 := below_next b02 b3) | (go_at_call 31; (with_reducible refine (CS.out _ b03).mono ?_); rw [h3.out]; rintro e w4 ⟨rfl, b4⟩))
    go_ret2
    exact ⟨_, rfl, OwnsP.nil _ _ _, below_next b03 b4⟩

set_option maxRecDepth 100000 in
set_option maxHeartbeats 2000000 in
theorem apply_del (a : Option Addr) (n cp : Nat) (l : List Sp) (c s : Int) (a2 : Option Addr) (n2 cp2 : Nat) (ps : List Sp) (lo hi old : Int) (a3 : Option Addr) (n3 cp3 : Nat) (on : List Sp) (w : World) (hL : Arg w a n cp l) (hA : Arg w a2 n2 cp2 ps) (ho : Arg w a3 n3 cp3 on)
    (ht : tblB l = true) (hc : chkM c s 2 ps lo hi old = true) (hon : chkB on = true) :
    Calls Try.prog 35 #[.slice a n cp, .agg #[.int .i64 c, .int .i64 s, .int .i64 2, .slice a2 n2 cp2, .int .i64 lo, .int .i64 hi, .int .i64 old], .slice a3 n3 cp3] w (AppPost (l.filter (fun p => !(inB (lo, hi) p.1 && hasB on p.1)), true) w) := by
  have hone : oneB (lo, hi) = true := by
    rcases fits_kind (chkM_and hc).2.2.2 with h | h
    · exact h.2.2
    · omega
  have hle := tbl_le ht
  obtain ⟨W1, hW1⟩ : ∃ W1, (w.alloc (.cells #[.int .i64 c, .int .i64 s, .int .i64 2, .slice a2 n2 cp2, .int .i64 lo, .int .i64 hi, .int .i64 old] 42)) = W1 := ⟨_, rfl⟩
  have K7 := Lib.hid (fun W (h : Below W1.heap.size W1 W) => box7 (w := w) (t := 42) (v0 := .int .i64 c) (v1 := .int .i64 s) (v2 := .int .i64 2) (v3 := .slice a2 n2 cp2) (v4 := .int .i64 lo) (v5 := .int .i64 hi) (v6 := .int .i64 old) (w' := W) (by rw [hW1]; exact h))
  have bw : Below w.heap.size w W1 := by rw [← hW1]; exact (Below.refl _ _).alloc (Nat.le_refl _) _
  have CT := Lib.hid (fun W (h : Below w.heap.size w W) => tcheck_any a n cp l W (hL.below h))
  have CC := Lib.hid (fun W (h : Below w.heap.size w W) => mcheck_any c s 2 a2 n2 cp2 ps lo hi old W (hA.below h))
  have CS := Lib.hid (fun W (h : Below w.heap.size w W) => check_arg on a3 n3 cp3 W (ho.below h))
  have CW := Lib.hid (fun W (h : Below w.heap.size w W) => without_any a n cp l lo hi a3 n3 cp3 on W (hL.below h) (ho.below h) (by omega) hone hon)
  have h1 := Lib.hid ht
  have h2 := Lib.hid hc
  have h3 := Lib.hid hon
  clear hL hA ho ht hc hon hone
  go_enter Try.func35, Try.ntmps35
  go_wp2_with (first | (go_at_call 30; (with_reducible refine (CT.out _ bw).mono ?_); rw [h1.out]; rintro e w2 ⟨rfl, b2⟩; obtain ⟨z0, z1, z2, z3, z4, z5, z6⟩ := K7.out _ b2; have b02 := below_next bw b2) | (go_at_call 27; (with_reducible refine (CC.out _ b02).mono ?_); rw [h2.out]; rintro e w3 ⟨rfl, b3⟩; have b03 := below_next b02 b3; have b13 := below_next b2 b3) | (go_at_call 31; (with_reducible refine (CS.out _ b03).mono ?_); rw [h3.out]; rintro e w4 ⟨rfl, b4⟩; have b04 := below_next b03 b4; obtain ⟨z0, z1, z2, z3, z4, z5, z6⟩ := K7.out _ (below_next b13 b4)) | (go_at_call 57; (with_reducible refine (CW.out _ b04).mono ?_); rintro e w5 ⟨v5, rfl, o5, b5⟩))
  go_ret2
  exact ⟨_, rfl, o5.base_le b04.size, below_next b04 b5⟩

set_option maxRecDepth 100000 in
set_option maxHeartbeats 4000000 in
theorem apply_pairs (a : Option Addr) (n cp : Nat) (l : List Sp) (c s k : Int) (a2 : Option Addr) (n2 cp2 : Nat) (ps : List Sp) (lo hi old : Int) (a3 : Option Addr) (n3 cp3 : Nat) (on : List Sp) (w : World) (hL : Arg w a n cp l) (hA : Arg w a2 n2 cp2 ps) (ho : Arg w a3 n3 cp3 on)
    (ht : tblB l = true) (hc : chkM c s k ps lo hi old = true) (hon : chkB on = true) (hk2 : k ≠ 2) :
    Calls Try.prog 35 #[.slice a n cp, .agg #[.int .i64 c, .int .i64 s, .int .i64 k, .slice a2 n2 cp2, .int .i64 lo, .int .i64 hi, .int .i64 old], .slice a3 n3 cp3] w (AppPost (appP k old on 0 ps l) w) := by
  have hle := tbl_le ht
  obtain ⟨hok, h5⟩ := move_pos hc hk2
  have hn2 := hA.1
  have hz2 : (n2 : Int) ≤ 9223372036854775807 := by have := hA.2.1; omega
  have hkn : (k == 2) = false := by simpa using hk2
  obtain ⟨W1, hW1⟩ : ∃ W1, (w.alloc (.cells #[.int .i64 c, .int .i64 s, .int .i64 k, .slice a2 n2 cp2, .int .i64 lo, .int .i64 hi, .int .i64 old] 42)) = W1 := ⟨_, rfl⟩
  have K7 := Lib.hid (fun W (h : Below W1.heap.size W1 W) => box7 (w := w) (t := 42) (v0 := .int .i64 c) (v1 := .int .i64 s) (v2 := .int .i64 k) (v3 := .slice a2 n2 cp2) (v4 := .int .i64 lo) (v5 := .int .i64 hi) (v6 := .int .i64 old) (w' := W) (by rw [hW1]; exact h))
  have bw : Below w.heap.size w W1 := by rw [← hW1]; exact (Below.refl _ _).alloc (Nat.le_refl _) _
  have s1 : w.heap.size ≤ W1.heap.size := bw.size
  have CT := Lib.hid (fun W (h : Below w.heap.size w W) => tcheck_any a n cp l W (hL.below h))
  have CC := Lib.hid (fun W (h : Below w.heap.size w W) => mcheck_any c s k a2 n2 cp2 ps lo hi old W (hA.below h))
  have CS := Lib.hid (fun W (h : Below w.heap.size w W) => check_arg on a3 n3 cp3 W (ho.below h))
  have CL := Lib.hid (fun W (h : Below w.heap.size w W) => clonePair_any a n cp l W (by omega) (hL.below h))
  have CH := Lib.hid (fun W x (h : Below w.heap.size w W) => has_arg on x a3 n3 cp3 W (ho.below h))
  have CN := Lib.hid (fun W a' n' cp' cur i (h : Below w.heap.size w W) (hcur : Arg W a' n' cp' cur) (htc : tblB cur = true) (hij : i < n2) => next_any a' n' cp' cur c s k a2 n2 cp2 ps lo hi old i W hcur (hA.below h) htc hij (okPs_get hok (by omega)) (fun e => h5 e i (by omega)))
  have HA := Lib.hid hA
  have h1 := Lib.hid ht
  have h2 := Lib.hid hc
  have h3 := Lib.hid hon
  have HOK := Lib.hid hok
  have H5 := Lib.hid h5
  obtain ⟨R, hR⟩ : ∃ R, appP k old on 0 ps l = R := ⟨_, rfl⟩
  rw [hR]
  have H0 := Lib.hid (show appP k old on 0 (ps.drop 0) l = R from hR)
  replace hn2 := Lib.hid hn2
  clear hL hA ho ht hc hon hok h5 hR hk2
  go_enter Try.func35, Try.ntmps35
  go_wp2_with (first | (go_at_call 30; (with_reducible refine (CT.out _ bw).mono ?_); rw [h1.out]; rintro e w2 ⟨rfl, b2⟩; obtain ⟨z0, z1, z2, z3, z4, z5, z6⟩ := K7.out _ b2; have b02 := below_next bw b2) | (go_at_call 27; (with_reducible refine (CC.out _ b02).mono ?_); rw [h2.out]; rintro e w3 ⟨rfl, b3⟩; have b03 := below_next b02 b3; have b13 := below_next b2 b3) | (go_at_call 31; (with_reducible refine (CS.out _ b03).mono ?_); rw [h3.out]; rintro e w4 ⟨rfl, b4⟩; have b04 := below_next b03 b4; have b14 := below_next b13 b4; obtain ⟨z0, z1, z2, z3, z4, z5, z6⟩ := K7.out _ b14) | (go_at_call 34; (with_reducible refine (CL.out _ b04).mono ?_); rintro e w5 ⟨v5, rfl, o5, b5⟩; have b15 := below_next b14 b5; obtain ⟨z0, z1, z2, z3, z4, z5, z6⟩ := K7.out _ b15; replace o5 := Lib.hid (o5.base_le b14.size)))
  clear z0 z1 z2 z3 z4 z5 z6
  replace hW1 := Lib.hid hW1
  go_loopw [6, 8, 9, 10, 11, 38] (fun v _ _ _ _ i wr => ∃ (j : Nat) (cur : List Sp), i = .int .i64 (j : Int) ∧ j ≤ n2 ∧ Hid (tblB cur = true ∧ appP k old on j (ps.drop j) cur = R) ∧ Hid (OwnsP 65 wr W1.heap.size v cur) ∧ Hid (Below W1.heap.size W1 wr))
    (fun _ _ _ _ _ i _ => n2 - (intOf i).toNat)
  case atStart => exact ⟨0, l, rfl, Nat.zero_le _, Lib.hid ⟨h1.out, H0.out⟩, o5, Lib.hid b15⟩
  case round =>
    obtain ⟨j, cur, rfl, hj, HI, HO, HB⟩ := hrel
    have bwr : Below w.heap.size w wr := bw.trans (HB.out.mono s1)
    have hsw := HB.out.size
    by_cases hlt : j < n2
    · have hjl : j < ps.length := by rw [← hn2.out]; exact hlt
      have hjz : (j : Int) < (n2 : Int) := by omega
      obtain ⟨b, off, e, hb, c0, c1⟩ := (HA.out.2.2.2.2.below bwr) j hjl
      subst e
      obtain ⟨p, hp⟩ : ∃ p, ps.getD j (0, 0) = p := ⟨_, rfl⟩
      have hokp := okPs_get HOK.out hjl
      have h5p := fun e => H5.out e j hjl
      have hnext := HI.out.2
      rw [drop_more hjl, hp, appP_cons] at hnext
      rw [hp] at c0 c1 hokp h5p
      replace hp := Lib.hid hp
      obtain ⟨x, y⟩ := p
      dsimp only at c0 c1 hnext
      obtain ⟨Wb, hWb⟩ : ∃ Wb, wr.alloc (.cells #[.int .i64 x, .int .i64 y] 65) = Wb := ⟨_, rfl⟩
      have bb : Below wr.heap.size wr Wb := by rw [← hWb]; exact (Below.refl _ _).alloc (Nat.le_refl _) _
      have d0 : Wb.cell? ⟨wr.heap.size, 0, none⟩ = some (.int .i64 x) := by rw [← hWb]; simp
      have hsb : wr.heap.size < Wb.heap.size := by rw [← hWb]; simp
      have bwb := below_next bwr bb
      have b1b : Below W1.heap.size W1 Wb := HB.out.trans (bb.mono hsw)
      cases hx : hasB on x
      · rw [hx, if_neg (by simp)] at hnext
        have HN := Lib.hid hnext
        have hxh := Lib.hid hx
        clear hnext hx
        go_wp2_with (go_at_call 58; (with_reducible refine (CH.out _ x bwb).mono ?_); rw [hxh.out]; rintro e w6 ⟨rfl, b6⟩)
        go_roundw
        case rel => exact ⟨j + 1, cur, by go_num, by omega, Lib.hid ⟨HI.out.1, HN.out⟩, Lib.hid (HO.out.below (bb.trans (b6.mono bb.size))), Lib.hid (below_next b1b b6)⟩
        case measure => simp [intOf]; omega
      · rw [hx, if_pos rfl] at hnext
        obtain ⟨a', cp', hv', _⟩ := HO.out.arg
        obtain ⟨n', hn'⟩ : ∃ n', cur.length = n' := ⟨_, rfl⟩
        rw [hn'] at hv'
        subst hv'
        replace hn' := Lib.hid hn'
        have HAC := Lib.hid (fun W (h : Below wr.heap.size wr W) => Arg.of_own (HO.out.below h) hn'.out.symm)
        have hxh := Lib.hid hx
        obtain ⟨q, hq⟩ : ∃ q, nextV k old j (x, y) (getT cur x) = q := ⟨_, rfl⟩
        rw [hq] at hnext
        have CN1 := fun W (h : Below w.heap.size w W) (hcur : Arg W a' n' cp' cur) => CN.out W a' n' cp' cur j h hcur HI.out.1 hlt
        rw [hp.out] at CN1
        dsimp only at CN1
        rw [hq] at CN1
        replace CN1 := Lib.hid CN1
        have hWb' := Lib.hid hWb
        cases q with
        | none =>
          have hRR := Lib.hid (show R = (cur, false) from hnext.symm)
          clear hnext hx hq
          go_wp2_with (first | (go_at_call 58; (with_reducible refine (CH.out _ x bwb).mono ?_); rw [hxh.out]; rintro e w6 ⟨rfl, b6⟩; have bw6 := below_next bwb b6; have b16 := below_next b1b b6; have br6 := below_next bb b6; obtain ⟨z0, z1, z2, z3, z4, z5, z6⟩ := K7.out _ b16) | (go_at_call 59; (with_reducible refine (CN1.out _ bw6 (HAC.out _ br6)).mono ?_); rintro e w7 ⟨v7, d7, rfl, h7, b7⟩; have hd7 : d7 = false := (by cases d7; rfl; simp at h7); subst hd7))
          go_ret2
          exact ⟨_, by rw [hRR.out]; rfl, by rw [hRR.out]; exact (HO.out.below (below_next br6 b7)).base_le s1, below_next bw6 b7⟩
        | some u =>
          have HN := Lib.hid (show appP k old on (j + 1) (ps.drop (j + 1)) (putT cur x u) = R from hnext)
          have HT := Lib.hid (tab_step hokp h5p HI.out.1 hq)
          dsimp only at HT
          clear hnext hx hq
          go_wp2_with (first | (go_at_call 58; (with_reducible refine (CH.out _ x bwb).mono ?_); rw [hxh.out]; rintro e w6 ⟨rfl, b6⟩; have bw6 := below_next bwb b6; have b16 := below_next b1b b6; have br6 := below_next bb b6; obtain ⟨z0, z1, z2, z3, z4, z5, z6⟩ := K7.out _ b16) | (go_at_call 59; (with_reducible refine (CN1.out _ bw6 (HAC.out _ br6)).mono ?_); rintro e w7 ⟨v7, d7, rfl, h7, b7⟩; obtain ⟨hd7, hv7⟩ : d7 = true ∧ v7 = u := (by cases d7; simp at h7; simpa using h7); subst hd7; subst hv7; have br7 := below_next br6 b7; have d1 := ((below_next b6 b7).cell (p := ⟨wr.heap.size, 0, none⟩) hsb).trans d0; have hs7 := br7.size) | (go_at_call 60; (with_reducible refine (with_any _ W1.heap.size cur x v7 w7 HI.out.1 (by omega) (HO.out.below br7)).mono ?_); rintro e w8 ⟨v8, rfl, o8, b8⟩; replace o8 := Lib.hid o8))
          go_roundw
          case rel => exact ⟨j + 1, _, by go_num, by omega, Lib.hid ⟨HT.out, HN.out⟩, o8, Lib.hid ((b16.trans (b7.mono b16.size)).trans b8)⟩
          case measure => simp [intOf]; omega
    · have hjz : ¬ (j : Int) < (n2 : Int) := by omega
      have hRR := Lib.hid (show R = (cur, true) by
        have := HI.out.2
        rw [List.drop_eq_nil_of_le (by rw [← hn2.out]; omega)] at this
        exact this.symm)
      obtain ⟨a', cp', hv', _⟩ := HO.out.arg
      subst hv'
      go_wp2
      go_ret2
      exact ⟨_, by rw [hRR.out]; rfl, by rw [hRR.out]; exact HO.out.base_le s1, bwr⟩

theorem apply_any (a : Option Addr) (n cp : Nat) (l : List Sp) (c s k : Int) (a2 : Option Addr) (n2 cp2 : Nat) (ps : List Sp) (lo hi old : Int) (a3 : Option Addr) (n3 cp3 : Nat) (on : List Sp) (w : World) (hL : Arg w a n cp l) (hA : Arg w a2 n2 cp2 ps) (ho : Arg w a3 n3 cp3 on) :
    Calls Try.prog 35 #[.slice a n cp, .agg #[.int .i64 c, .int .i64 s, .int .i64 k, .slice a2 n2 cp2, .int .i64 lo, .int .i64 hi, .int .i64 old], .slice a3 n3 cp3] w (AppPost (applyP l c s k ps lo hi old on) w) := by
  cases ht : tblB l
  · rw [show applyP l c s k ps lo hi old on = ([], false) from if_neg (by rw [ht]; simp)]
    exact apply_bad a n cp l c s k a2 n2 cp2 ps lo hi old a3 n3 cp3 on w hL hA ho (.inl ht)
  · cases hc : chkM c s k ps lo hi old
    · rw [show applyP l c s k ps lo hi old on = ([], false) from if_neg (by rw [hc]; simp)]
      exact apply_bad a n cp l c s k a2 n2 cp2 ps lo hi old a3 n3 cp3 on w hL hA ho (.inr (.inl ⟨ht, hc⟩))
    · cases hon : chkB on
      · rw [show applyP l c s k ps lo hi old on = ([], false) from if_neg (by rw [hon]; simp)]
        exact apply_bad a n cp l c s k a2 n2 cp2 ps lo hi old a3 n3 cp3 on w hL hA ho (.inr (.inr ⟨ht, hc, hon⟩))
      · rw [show applyP l c s k ps lo hi old on = appT l k ps lo hi old on from if_pos ⟨ht, hc, hon⟩]
        by_cases hk : k = 2
        · subst hk
          exact apply_del a n cp l c s a2 n2 cp2 ps lo hi old a3 n3 cp3 on w hL hA ho ht hc hon
        · rw [show appT l k ps lo hi old on = appP k old on 0 ps l from if_neg hk]
          exact apply_pairs a n cp l c s k a2 n2 cp2 ps lo hi old a3 n3 cp3 on w hL hA ho ht hc hon hk
end Go.Proofs.Ythofoidafdbgcaa


/-
  CONTRACTS of the statements' own few and awake (on tables).
-/
namespace Go.Proofs.Ythofoidafdbgcaa
open Go.RowKit Go.Shelf Go.Lib

def fewB (n n2 n3 : Nat) : Bool := decide (n ≤ 200) && (decide (n2 ≤ 100) && decide (n3 ≤ 100))
theorem eqPair (x y p q : Int) (w : World) : (binOp .eql 65 (.agg #[.int .i64 x, .int .i64 y]) (.agg #[.int .i64 p, .int .i64 q])).run Try.prog w = .ok (.bool (x == p && y == q)) w := by
  have u3 := Try.underlying3
  have a3 := Try.isAgg3
  have z3 := Try.sizeOf3
  have hS : Try.prog.underlying 65 = some (.struct (Try.prog.fieldsOf 65)) := by kernel_rfl
  have hp : Try.prog.stoodInHeld 65 = false := by kernel_rfl
  rw [run_eql_struct, show (10000 : Nat) = 9999 + 1 from rfl, run_equalIn_agg w 9999 65 _ _ hS hp]
  simp only [Program.fieldsOf, Try.underlying65]
  go_simp
  by_cases h1 : x = p <;> by_cases h2 : y = q <;> simp [h1, h2]
theorem app_ex1 : applyP [(5, 7)] 1 1 3 [(5, 3)] 0 0 0 [(0, 4096)] = ([(5, 10)], true) := by decide +kernel
theorem app_ex2 : applyP [(5, 7)] 1 1 5 [(5, 4), (9, 4)] 0 0 0 [(9, 10)] = ([(5, 7), (9, 4)], true) := by decide +kernel
theorem OwnsP.one {t : TypeId} {w : World} {base : Nat} {v : Value} {x y : Int} (h : OwnsP t w base v [(x, y)]) : ∃ g c, v = .slice (some ⟨g, 0, none⟩) 1 c ∧ g < w.heap.size ∧ w.cell? ⟨g, 0, none⟩ = some (.int .i64 x) ∧ w.cell? ⟨g, 1, none⟩ = some (.int .i64 y) := by
  obtain ⟨g, cap, hv, _, hg, _, _⟩ := h.form (by simp)
  have hv' : v = .slice (some ⟨g, 0, none⟩) 1 cap := hv
  subst hv'
  exact ⟨g, cap, rfl, hg, World.ownsRow.cellAt h 0 (by decide), World.ownsRow.cellAt h 1 (by decide)⟩
theorem OwnsP.two {t : TypeId} {w : World} {base : Nat} {v : Value} {x y p q : Int} (h : OwnsP t w base v [(x, y), (p, q)]) : ∃ g c, v = .slice (some ⟨g, 0, none⟩) 2 c ∧ g < w.heap.size ∧ w.cell? ⟨g, 0, none⟩ = some (.int .i64 x) ∧ w.cell? ⟨g, 1, none⟩ = some (.int .i64 y) ∧ w.cell? ⟨g, 2, none⟩ = some (.int .i64 p) ∧ w.cell? ⟨g, 3, none⟩ = some (.int .i64 q) := by
  obtain ⟨g, cap, hv, _, hg, _, _⟩ := h.form (by simp)
  have hv' : v = .slice (some ⟨g, 0, none⟩) 2 cap := hv
  subst hv'
  exact ⟨g, cap, rfl, hg, World.ownsRow.cellAt h 0 (by decide), World.ownsRow.cellAt h 1 (by decide), World.ownsRow.cellAt h 2 (by decide), World.ownsRow.cellAt h 3 (by decide)⟩

end Go.Proofs.Ythofoidafdbgcaa
