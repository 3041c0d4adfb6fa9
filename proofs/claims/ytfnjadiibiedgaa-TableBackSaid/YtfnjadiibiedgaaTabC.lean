/-
  CONTRACTS of slices.Clone and slices.Insert (of one pair), on pairs, in a row of the call's own; of with.
-/
import Derived.Test.YtfnjadiibiedgaaTabB
import Derived.Shelf.Spec.SlicesInsert
import Derived.Lib.AppendZerosOnto
import Derived.Laws.NewBlocks
namespace Go.Proofs.Ytfnjadiibiedgaa
open Go.RowKit Go.Shelf Go.Lib

theorem Try.infoPair : (Try.prog.info? 90).map (fun i => (i.zero, i.size, i.bytes)) = some (some (.agg #[.int .i64 0, .int .i64 0]), 2, 16) := by kernel_rfl

/-! Cells that are set one behind the other in a row. -/
def setL (l : List Value) (o : Nat) : List Value → List Value
  | [] => l
  | v :: r => setL (l.set o v) (o + 1) r
theorem setL_app : ∀ (X A B C : List Value), B.length = X.length → setL (A ++ B ++ C) A.length X = A ++ X ++ C
  | [], A, B, C, h => by have : B = [] := List.eq_nil_of_length_eq_zero (by simpa using h); subst this; rfl
  | v :: r, A, b :: B, C, h => by
    show setL ((A ++ (b :: B) ++ C).set A.length v) (A.length + 1) r = _
    have e : (A ++ (b :: B) ++ C).set A.length v = (A ++ [v]) ++ B ++ C := by
      rw [List.append_assoc, List.set_append_right _ _ (Nat.le_refl _), Nat.sub_self]
      simp
    rw [e, show A.length + 1 = (A ++ [v]).length by simp, setL_app r (A ++ [v]) B C (by simpa using h)]
    simp
  | v :: r, A, [], C, h => by simp at h
theorem setL_len : ∀ (X l : List Value) (o : Nat), (setL l o X).length = l.length
  | [], _, _ => rfl
  | v :: r, l, o => by show (setL (l.set o v) (o + 1) r).length = _; rw [setL_len r, List.length_set]
theorem heap_setL (g : Nat) (t : TypeId) : ∀ (X : List Value) (o : Nat) (w : World) (cur : Array Value), w.heap[g]? = some (.cells cur t (0, 0)) → (w.setCells g o X).heap[g]? = some (.cells (setL cur.toList o X).toArray t (0, 0))
  | [], _, w, cur, h => by simpa [setL, World.setCells] using h
  | v :: r, o, w, cur, h => by
    show ((w.setCell ⟨g, o, none⟩ v).setCells g (o + 1) r).heap[g]? = _
    rw [heap_setL g t r (o + 1) (w.setCell ⟨g, o, none⟩ v) (cur.setIfInBounds o v) (heap_setCell_same w g o cur t v h), Array.toList_setIfInBounds]
    rfl
theorem below_setL {B g : Nat} {a : World} (hg : B ≤ g) : ∀ (X : List Value) (o : Nat) (w : World), Below B a w → Below B a (w.setCells g o X)
  | [], _, _, h => h
  | v :: r, o, w, h => below_setL hg r (o + 1) (w.setCell ⟨g, o, none⟩ v) (h.setCell (p := ⟨g, o, none⟩) hg v)

/-- copy, of elements of two cells. -/
theorem run_copy2 (w : World) (dT sT ty elem : TypeId) (b o dLen dCap : Nat) (a : Addr) (sLen sCap : Nat) (cs : List Value)
    (hu : Try.prog.underlying dT = some (.slice elem)) (hs : (Try.prog.info? elem).map (·.size) = some 2) (hn : cs.length = Nat.min sLen dLen * 2)
    (hsrc : ∀ j v, cs[j]? = some v → w.cell? (a.add j) = some v) (hc : ∀ j, j < cs.length → (w.cell? ⟨b, o + j, none⟩).isSome = true) (hf : ∀ j, j < cs.length → w.frozen? ⟨b, o + j, none⟩ = false) (h1 : ∀ v ∈ cs, v.oneCell' = true) :
    (Builtin.copy_ #[dT, sT] ty #[.slice (some ⟨b, o, none⟩) dLen dCap, .slice (some a) sLen sCap]).run Try.prog w = .ok (goInt (Nat.min sLen dLen)) (w.setCells b o cs) := by
  have hl := run_loadCells_list (P := Try.prog) w a cs hsrc
  have hst := run_storeCells_cells (P := Try.prog) b o cs 0 w (by simpa using hc) (by simpa using hf) h1
  cases hq : Try.prog.info? elem with
  | none => simp [hq] at hs
  | some i =>
    have hi : i.size = 2 := by simpa [hq] using hs
    simp [Builtin.copy_, run_underlying hu, Builtin.lenOf, Builtin.firstCells, sizeOf, typeInfo, hq, hi, ← hn, hl, hst]

def ClonePairPost (w : World) (l : List Sp) (e : Ending) (w' : World) : Prop := ∃ v, e = .returned v ∧ OwnsP 90 w' w.heap.size v l ∧ Below w.heap.size w w'
theorem clonePair_none (x : Addr) (c : Nat) (w : World) : Calls Try.prog 83 #[.slice (some x) 0 c] w (ClonePairPost w []) := by
  obtain ⟨i0, hi, hz0, hz1, hz2⟩ := info_parts Try.infoPair
  have q22 : ∀ (w : World) (a : Option Addr) (n c n' c' : Nat), (binOp .eql 22 (.slice a n c) (.slice none n' c')).run Try.prog w = .ok (.bool a.isNone) w := fun w a n c n' c' => Lib.run_eql_slice_nil w _ _ a n c n' c' Try.underlying22
  go_enter Try.func83, Try.ntmps83
  go_wp2_with (at_builtin; refine wpList_append_own _ rfl _ _ 22 rfl w.heap.size 90 i0 (.agg #[.int .i64 0, .int .i64 0]) 2 16 Try.underlying22 hi hz0 hz1 hz2 rfl (by decide) _ _ _ rfl (World.ownsRow_made w #[] 0 (Nat.le_refl _) (Nat.zero_le _) (by simp)) x 0 c [] rfl ?c1 ?c2 ?c3 ?c4 ?c5 ?c6 ?_)
  case c1 => rfl
  case c2 => intro j u hj; simp at hj
  case c3 => intro u hu; cases hu
  case c4 => unfold maxLen; omega
  case c5 => omega
  case c6 => simp
  · intro v' w1 hown hg _
    go_wp2
    go_ret
    refine ⟨_, rfl, by simpa [OwnsP, flatP] using hown, ((Below.refl _ w).alloc (Nat.le_refl _) _).grown hg (by simp) ?_⟩
    intro k hk
    simp [Value.ownBlock] at hk
    omega
theorem clonePair_any (a : Option Addr) (n c : Nat) (l : List Sp) (w : World) (hz : l.length ≤ 100000) (hA : Arg w a n c l) :
    Calls Try.prog 83 #[.slice a n c] w (ClonePairPost w l) := by
  obtain ⟨rfl, _, _, _, h⟩ := hA
  by_cases hl : l = []
  · subst hl
    cases a with
    | none => exact (AnyE.slices_Clone_nil Try.lClonePair 0 c w).mono fun _ _ ⟨he, hw⟩ => ⟨_, he, OwnsP.nil _ _ _, by rw [hw]; exact Below.refl _ _⟩
    | some x => exact clonePair_none x c w
  · obtain ⟨b, off, rfl, hb⟩ := h.some' hl
    obtain ⟨i0, hi, hz0, hz1, hz2⟩ := info_parts Try.infoPair
    exact (AnyE.slices_Clone Try.lClonePair i0 (.agg #[.int .i64 0, .int .i64 0]) 2 16 hi hz0 hz1 hz2 rfl (by decide) Try.sizeOf90 b off l.length c (flatP l) w (flatP_length l) (by unfold maxLen; omega) (by omega) (fun j u hj => flatP_hc h j u hj) (flatP_one l)).mono
      fun _ _ ⟨v, he, ho, _, hb⟩ => ⟨v, he, ho, hb⟩

/-- A row of the call's own, and what is in it. -/
def InsPost (base : Nat) (l : List Sp) (w : World) (e : Ending) (w' : World) : Prop := ∃ v, e = .returned v ∧ OwnsP 90 w' base v l ∧ Below base w w'

set_option maxRecDepth 100000 in
set_option maxHeartbeats 4000000 in
theorem insert_end (v : Value) (base : Nat) (l : List Sp) (key val : Int) (vb : Nat) (w : World) (hlen : l.length ≤ 100000) (hbase : base ≤ w.heap.size) (ho : OwnsP 90 w base v l)
    (h0 : w.cell? ⟨vb, 0, none⟩ = some (.int .i64 key)) (h1 : w.cell? ⟨vb, 1, none⟩ = some (.int .i64 val)) :
    Calls Try.prog 122 #[v, .int .i64 (l.length : Int), .slice (some ⟨vb, 0, none⟩) 1 1] w (InsPost base (l ++ [(key, val)]) w) := by
  obtain ⟨i0, hi, hz0, hz1, hz2⟩ := info_parts Try.infoPair
  obtain ⟨a, cap, rfl, hc, hm, _, hs⟩ := ho.arg
  obtain ⟨n, hn⟩ : ∃ n, l.length = n := ⟨_, rfl⟩
  have hO : w.ownsRow base 90 2 (.slice a n cap) n (flatP l) := by have := ho; unfold OwnsP at this; rw [hn] at this; exact this
  rw [hn] at hc hlen ⊢
  have hlt := hO.lt
  replace hO := Lib.hid hO
  replace hn := Lib.hid hn
  have hc63 : cap ≤ 9223372036854775807 := by unfold maxLen at hm; omega
  clear ho
  cases a with
  | none =>
    have hl0 : l = [] := by
      cases l with
      | nil => rfl
      | cons x t => obtain ⟨g, hg, _⟩ := hs (by simp); cases hg
    subst hl0
    have hn0 : n = 0 := by have := hn.out; simpa using this.symm
    subst hn0
    have hcap : cap = 0 := by
      rcases hO.out.2 with ⟨e, _⟩ | ⟨g, cap', cur, e, _⟩
      · cases e; rfl
      · cases e
    subst hcap
    go_enter Try.func122, Try.ntmps122
    go_wp2_with (at_builtin; refine wpList_append_own _ rfl _ _ 22 rfl base 90 i0 (.agg #[.int .i64 0, .int .i64 0]) 2 16 Try.underlying22 hi hz0 hz1 hz2 rfl (by decide) _ _ _ rfl hO.out ⟨vb, 0, none⟩ 1 1 [.int .i64 key, .int .i64 val] rfl rfl ?c1 ?c2 ?c3 ?c4 ?c5 ?_)
    case c1 =>
      intro j u hj
      match j, hj with
      | 0, hj => simp at hj; subst hj; simpa [Addr.add] using h0
      | 1, hj => simp at hj; subst hj; simpa [Addr.add] using h1
    case c2 => intro u hu; simp at hu; rcases hu with rfl | rfl <;> rfl
    case c3 => unfold maxLen; omega
    case c4 => omega
    case c5 => exact hbase
    · intro v' w1 hown' hgrow _
      go_wp2
      go_ret
      exact ⟨_, rfl, OwnsP.snoc hn.out hown', (Below.refl _ w).grown hgrow hbase (fun k hk => (hlt k hk).1)⟩
  | some x =>
    have hx : ∃ g, x = ⟨g, 0, none⟩ := by
      rcases hO.out.2 with ⟨e, _⟩ | ⟨g, cap', cur, e, _⟩
      · cases e
      · cases e; exact ⟨g, rfl⟩
    obtain ⟨g, rfl⟩ := hx
    go_enter Try.func122, Try.ntmps122
    go_wp2_with (at_builtin; refine wpList_append_own _ rfl _ _ 22 rfl base 90 i0 (.agg #[.int .i64 0, .int .i64 0]) 2 16 Try.underlying22 hi hz0 hz1 hz2 rfl (by decide) _ _ _ rfl hO.out ⟨vb, 0, none⟩ 1 1 [.int .i64 key, .int .i64 val] rfl rfl ?c1 ?c2 ?c3 ?c4 ?c5 ?_)
    all_goals first
      | (intro j u hj
         match j, hj with
         | 0, hj => simp at hj; subst hj; simpa [Addr.add] using h0
         | 1, hj => simp at hj; subst hj; simpa [Addr.add] using h1)
      | (intro u hu; simp at hu; rcases hu with rfl | rfl <;> rfl)
      | (unfold maxLen; omega)
      | omega
      | (intro v' w1 hown' hgrow _
         go_wp2
         go_ret
         exact ⟨_, rfl, OwnsP.snoc hn.out hown', (Below.refl _ w).grown hgrow hbase (fun k hk => (hlt k hk).1)⟩)

theorem flatP_take (l : List Sp) (k : Nat) (hk : k ≤ l.length) : (flatP l).take (k * 2) = flatP (l.take k) := by
  have e : flatP l = flatP (l.take k) ++ flatP (l.drop k) := by rw [← flatP_append, List.take_append_drop]
  rw [e]
  exact List.take_left' (by rw [flatP_length, List.length_take, Nat.min_eq_left hk])
theorem mid_list {cur : List Value} {l : List Sp} {i n : Nat} (x y : Value) (hn : l.length = n) (hi : i ≤ n) (ht : cur.take (n * 2) = flatP l) (hs : (n + 1) * 2 ≤ cur.length) :
    (setL (setL cur ((i + 1) * 2) (flatP (l.drop i))) (i * 2) [x, y]).take ((n + 1) * 2) = flatP (l.take i) ++ [x, y] ++ flatP (l.drop i) := by
  have hA : cur.take (i * 2) = flatP (l.take i) := by rw [← flatP_take l i (by omega), ← ht, List.take_take, Nat.min_eq_left (by omega)]
  have hD : (flatP (l.drop i)).length = (n - i) * 2 := by rw [flatP_length, List.length_drop, hn]
  have hc : cur = cur.take ((i + 1) * 2) ++ (cur.drop ((i + 1) * 2)).take ((n - i) * 2) ++ cur.drop ((n + 1) * 2) := by
    rw [List.append_assoc, show (n + 1) * 2 = (i + 1) * 2 + (n - i) * 2 by omega, ← List.drop_drop, List.take_append_drop, List.take_append_drop]
  have h1 : setL cur ((i + 1) * 2) (flatP (l.drop i)) = cur.take ((i + 1) * 2) ++ flatP (l.drop i) ++ cur.drop ((n + 1) * 2) := by
    have := setL_app (flatP (l.drop i)) (cur.take ((i + 1) * 2)) ((cur.drop ((i + 1) * 2)).take ((n - i) * 2)) (cur.drop ((n + 1) * 2)) (by rw [hD, List.length_take, List.length_drop]; omega)
    rwa [← hc, List.length_take, Nat.min_eq_left (by omega)] at this
  have h2 : cur.take ((i + 1) * 2) = cur.take (i * 2) ++ (cur.drop (i * 2)).take 2 := by rw [show (i + 1) * 2 = i * 2 + 2 by omega, List.take_add]
  have h3 := setL_app [x, y] (cur.take (i * 2)) ((cur.drop (i * 2)).take 2) (flatP (l.drop i) ++ cur.drop ((n + 1) * 2)) (by rw [List.length_take, List.length_drop]; simp; omega)
  rw [List.length_take, Nat.min_eq_left (by omega)] at h3
  rw [h1, h2, List.append_assoc, h3, hA, ← List.append_assoc]
  exact List.take_left' (by rw [List.length_append, List.length_append, flatP_length, List.length_take, hD]; simp; omega)
theorem grow_list {l : List Sp} {i n : Nat} (x y : Value) (Z : List Value) (hn : l.length = n) (hi : i ≤ n) (hs : (n + 1 - i) * 2 ≤ Z.length) :
    (setL (setL (flatP (l.take i) ++ Z) (i * 2) [x, y]) ((i + 1) * 2) (flatP (l.drop i))).take ((n + 1) * 2) = flatP (l.take i) ++ [x, y] ++ flatP (l.drop i) := by
  have hA : (flatP (l.take i)).length = i * 2 := by rw [flatP_length, List.length_take, Nat.min_eq_left (by omega)]
  have hD : (flatP (l.drop i)).length = (n - i) * 2 := by rw [flatP_length, List.length_drop, hn]
  have hZ : Z = Z.take 2 ++ Z.drop 2 := (List.take_append_drop _ _).symm
  have h1 := setL_app [x, y] (flatP (l.take i)) (Z.take 2) (Z.drop 2) (by rw [List.length_take]; simp; omega)
  rw [List.append_assoc, ← hZ, hA] at h1
  have hZ2 : Z.drop 2 = (Z.drop 2).take ((n - i) * 2) ++ (Z.drop 2).drop ((n - i) * 2) := (List.take_append_drop _ _).symm
  have h2 := setL_app (flatP (l.drop i)) (flatP (l.take i) ++ [x, y]) ((Z.drop 2).take ((n - i) * 2)) ((Z.drop 2).drop ((n - i) * 2)) (by rw [hD, List.length_take, List.length_drop]; omega)
  rw [List.append_assoc (flatP (l.take i) ++ [x, y]), ← hZ2, List.length_append, hA] at h2
  rw [h1, show (i + 1) * 2 = i * 2 + [x, y].length by simp; omega, h2]
  exact List.take_left' (by rw [List.length_append, List.length_append, hA, hD]; simp; omega)
theorem flatP_mid (l : List Sp) (i : Nat) (key val : Int) : flatP (l.take i ++ (key, val) :: l.drop i) = flatP (l.take i) ++ [.int .i64 key, .int .i64 val] ++ flatP (l.drop i) := by
  rw [flatP_append, show (key, val) :: l.drop i = [(key, val)] ++ l.drop i from rfl, flatP_append, ← List.append_assoc]
  rfl
theorem shape_row {w : World} {g : Nat} {cur : Array Value} {t : TypeId} (h : w.heap[g]? = some (.cells cur t (0, 0))) : w.shape? g = some (t, cur.size) := by
  simp [World.shape?, h]

set_option maxRecDepth 100000 in
set_option maxHeartbeats 4000000 in
theorem insert_room (g cap base n i : Nat) (l : List Sp) (key val : Int) (vb : Nat) (w : World) (hn : l.length = n) (hlen : n ≤ 100000) (hi : i < n) (hroom : n + 1 ≤ cap)
    (hO : w.ownsRow base 90 2 (.slice (some ⟨g, 0, none⟩) n cap) n (flatP l)) (hvg : vb ≠ g) (hv : w.heap[vb]? = some (.cells #[.int .i64 key, .int .i64 val] 90 (0, 0))) :
    Calls Try.prog 122 #[.slice (some ⟨g, 0, none⟩) n cap, .int .i64 (i : Int), .slice (some ⟨vb, 0, none⟩) 1 1] w (InsPost base (l.take i ++ (key, val) :: l.drop i) w) := by
  have hcur : ∃ cur, base ≤ g ∧ w.heap[g]? = some (.cells cur 90 (0, 0)) ∧ cap ≤ maxLen ∧ cur.size = cap * 2 ∧ cur.toList.take (n * 2) = flatP l := by
    rcases hO.2 with ⟨e, _⟩ | ⟨g', cap', cur, e, h1, h2, _, h4, h5, h6⟩
    · cases e
    · cases e; exact ⟨cur, h1, h2, h4, h5, h6⟩
  obtain ⟨cur, hbg, hg, hcm, hcs, htk⟩ := hcur
  have hc63 : cap ≤ 9223372036854775807 := by unfold maxLen at hcm; omega
  have hz1 : ¬ ((1 : Int) = 0) := by omega
  have hz2 : ¬ ((i : Int) = (n : Int)) := by omega
  have hsz : (Try.prog.info? 90).map (·.size) = some 2 := by kernel_rfl
  have hcell : ∀ j, j < cap * 2 → (w.cell? ⟨g, j, none⟩).isSome = true := fun j hj => by rw [cell_of_row w g j cur _ (0, 0) hg, Array.getElem?_eq_getElem (by omega)]; rfl
  have hfz : ∀ j, w.frozen? ⟨g, j, none⟩ = false := fun j => frozen_of_row w g j cur _ hg
  have hdl : (flatP (l.drop i)).length = (n - i) * 2 := by rw [flatP_length, List.length_drop, hn]
  have hsrc : ∀ j v, (flatP (l.drop i))[j]? = some v → w.cell? ⟨g, i * 2 + j, none⟩ = some v := fun j v hj => by
    have hjl : j < (n - i) * 2 := by rw [← hdl]; exact (List.getElem?_eq_some_iff.1 hj).1
    have := World.ownsRow.cellAt hO (i * 2 + j) (by omega)
    rw [this]
    have e : flatP l = flatP (l.take i) ++ flatP (l.drop i) := by rw [← flatP_append, List.take_append_drop]
    have hA : (flatP (l.take i)).length = i * 2 := by rw [flatP_length, List.length_take, Nat.min_eq_left (by omega)]
    rw [e, List.getElem?_append_right (by omega), hA, Nat.add_sub_cancel_left]
    exact hj
  have hov : ∀ lb cb, (callFunc 138 #[.slice (some ⟨vb, 0, none⟩) 1 1, .slice (some ⟨g, (i + 1) * 2, none⟩) lb cb]).run Try.prog w = .ok (.value (.bool false)) w := fun lb cb => by
    rw [run_callFunc_extern Try.func138 (by kernel_rfl) (by kernel_rfl) (by kernel_rfl) (e := Extern.SlicesOverlaps.overlaps #[22, 22] #[4]) (by kernel_rfl),
      Lib.run_overlaps_apart w 22 4 90 Try.underlying22 2 Try.sizeOf90 ⟨vb, 0, none⟩ ⟨g, (i + 1) * 2, none⟩ 1 1 lb cb hvg _ _ _ _ (shape_row hv) (shape_row hg) (by omega) (frozen_of_row w vb 0 _ _ hv) (frozen_of_row w vb _ _ _ hv)]
    rfl
  have hcp1 : ∀ ty dc sc, (Builtin.copy_ #[22, 22] ty #[.slice (some ⟨g, (i + 1) * 2, none⟩) (n - i) dc, .slice (some ⟨g, i * 2, none⟩) (n + 1 - i) sc]).run Try.prog w.drew = .ok (goInt ((n - i : Nat) : Int)) (w.drew.setCells g ((i + 1) * 2) (flatP (l.drop i))) := fun ty dc sc => by
    have := run_copy2 w.drew 22 22 ty 90 g ((i + 1) * 2) (n - i) dc ⟨g, i * 2, none⟩ (n + 1 - i) sc (flatP (l.drop i)) Try.underlying22 hsz (by rw [hdl]; simp only [Nat.min_def]; split <;> omega)
      (fun j v hj => by rw [addr_add]; exact hsrc j v hj)
      (fun j hj => hcell _ (by omega)) (fun j hj => hfz _) (flatP_one _)
    rwa [show Nat.min (n + 1 - i) (n - i) = n - i by simp only [Nat.min_def]; split <;> omega] at this
  obtain ⟨W1, hW1⟩ : ∃ W1, W1 = w.drew.setCells g ((i + 1) * 2) (flatP (l.drop i)) := ⟨_, rfl⟩
  have hg1 : W1.heap[g]? = some (.cells (setL cur.toList ((i + 1) * 2) (flatP (l.drop i))).toArray 90 (0, 0)) := by rw [hW1]; exact heap_setL g _ _ _ w.drew cur hg
  have hcp2 : ∀ ty dc, (Builtin.copy_ #[22, 22] ty #[.slice (some ⟨g, i * 2, none⟩) (n + 1 - i) dc, .slice (some ⟨vb, 0, none⟩) 1 1]).run Try.prog W1 = .ok (goInt 1) (W1.setCells g (i * 2) [.int .i64 key, .int .i64 val]) := fun ty dc => by
    have hsl : (setL cur.toList ((i + 1) * 2) (flatP (l.drop i))).toArray.size = cap * 2 := by rw [List.size_toArray, setL_len, Array.length_toList, hcs]
    have := run_copy2 W1 22 22 ty 90 g (i * 2) (n + 1 - i) dc ⟨vb, 0, none⟩ 1 1 [.int .i64 key, .int .i64 val] Try.underlying22 hsz (by rw [show Nat.min 1 (n + 1 - i) = 1 from Nat.min_eq_left (by omega)]; rfl)
      (fun j v hj => by
        rw [addr_add, hW1, World.cell?_setCells_out g _ _ _ _ (fun h _ => absurd h hvg)]
        have := cell_of_row w vb j _ _ (0, 0) hv
        rw [Nat.zero_add]
        exact this.trans (by simpa using hj))
      (fun j hj => by rw [cell_of_row W1 g _ _ _ (0, 0) hg1, Array.getElem?_eq_getElem (by rw [hsl]; simp at hj; omega)]; rfl) (fun j hj => frozen_of_row W1 g _ _ _ hg1) (by intro v hv; simp at hv; rcases hv with rfl | rfl <;> rfl)
    rwa [show Nat.min 1 (n + 1 - i) = 1 by simp only [Nat.min_def]; split <;> omega] at this
  have HF := Lib.hid (show InsPost base (l.take i ++ (key, val) :: l.drop i) w (.returned (.slice (some ⟨g, 0, none⟩) (n + 1) cap)) (W1.setCells g (i * 2) [.int .i64 key, .int .i64 val]) by
    refine ⟨_, rfl, ?_, below_setL hbg _ _ _ (by rw [hW1]; exact below_setL hbg _ _ _ (Below.refl base w).drew)⟩
    have hl' : (l.take i ++ (key, val) :: l.drop i).length = n + 1 := by simp; omega
    unfold OwnsP
    rw [hl', flatP_mid]
    have hh := heap_setL g _ [.int .i64 key, .int .i64 val] (i * 2) W1 _ hg1
    refine ⟨?_, .inr ⟨g, cap, _, rfl, hbg, hh, hroom, hcm, ?_, ?_⟩⟩
    · rw [List.length_append, List.length_append, hdl, flatP_length, List.length_take]; simp; omega
    · rw [List.size_toArray, setL_len, List.toList_toArray, setL_len, Array.length_toList, hcs]
    · rw [List.toList_toArray, List.toList_toArray]
      exact mid_list _ _ hn (by omega) htk (by rw [Array.length_toList, hcs]; omega))
  have hw1 : IntKind.i64.wrap ((i : Int) + 1) = (i : Int) + 1 := by rw [IntKind.wrap_i64]; omega
  have hw2 : IntKind.i64.wrap ((n : Int) + 1) = (n : Int) + 1 := by rw [IntKind.wrap_i64]; omega
  have hb1 : (0 : Int) ≤ (i : Int) + 1 := by omega
  have hin : i ≤ n := by omega
  have htn : ((i : Int) + 1).toNat = i + 1 := by omega
  have hb2 : ¬ (cap = i + 1) := by omega
  have hb3 : (i : Int) ≤ (n : Int) + 1 := by omega
  have hb4 : ¬ (cap = i) := by omega
  have mixed : Try.prog.follows .mixedOrders = true := by kernel_rfl
  rw [← hW1] at hcp1
  replace hW1 := Lib.hid hW1
  replace hO := Lib.hid hO
  replace hn := Lib.hid hn
  replace hg := Lib.hid hg
  replace hg1 := Lib.hid hg1
  replace htk := Lib.hid htk
  replace hsrc := Lib.hid hsrc
  replace hcs := Lib.hid hcs
  replace hdl := Lib.hid hdl
  replace hcell := Lib.hid hcell
  replace hfz := Lib.hid hfz
  go_enter Try.func122, Try.ntmps122
  go_wp2_with (simp only [hov])
  go_region_law_o (refine step_copy_runI rfl _ _ 22 22 rfl _ _ (by simp [Act.eval, Act.put]) (by simp [Act.eval, Act.put]) (hcp1 _ _ _) ?_)
  go_wp2_with (at_builtin; refine wpList_copy_runI _ rfl _ _ 22 22 rfl _ _ rfl rfl (hcp2 _ _) ?_)
  go_ret
  exact HF.out
end Go.Proofs.Ytfnjadiibiedgaa
