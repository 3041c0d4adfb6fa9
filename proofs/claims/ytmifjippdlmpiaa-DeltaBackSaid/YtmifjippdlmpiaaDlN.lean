/-
  DELTA: Back.
-/
import Derived.Test.YtmifjippdlmpiaaDlL
import Derived.Laws.OwnMore
namespace Go.Proofs.Ytmifjippdlmpiaa
open Go.RowKit Go.Deep Go.Shelf

theorem flatR_cons {α : Type} (enc : α → List Value) (x : α) (t : List α) : flatR enc (x :: t) = enc x ++ flatR enc t := rfl
theorem flatR_set5 : ∀ (L : List Tn) (k : Nat) (t : Tn), k < L.length →
    (((((flatR encT L).set (k * 5) (.int .i64 t.1)).set (k * 5 + 1) (.int .i64 t.2.1.1)).set (k * 5 + 2) (.bool t.2.1.2)).set (k * 5 + 3) (.int .i64 t.2.2.1)).set (k * 5 + 4) (.bool t.2.2.2) = flatR encT (L.set k t)
  | [], _, _, h => absurd h (Nat.not_lt_zero _)
  | s :: r, 0, t, _ => by
    rw [List.set_cons_zero, flatR_cons, flatR_cons]
    rfl
  | s :: r, k + 1, t, h => by
    rw [List.set_cons_succ, flatR_cons, flatR_cons, ← flatR_set5 r k t (by simpa using h), Nat.succ_mul]
    rfl
theorem own_put5 {w : World} {base g n cap i : Nat} {cur : List Tn} (t : Tn) (hn : cur.length = n) (hi : i < n) (h : w.ownsRow base 63 5 (.slice (some ⟨g, 0, none⟩) n cap) n (flatR encT cur)) :
    (((((w.setCell ⟨g, i * 5, none⟩ (.int .i64 t.1)).setCell ⟨g, i * 5 + 1, none⟩ (.int .i64 t.2.1.1)).setCell ⟨g, i * 5 + 2, none⟩ (.bool t.2.1.2)).setCell ⟨g, i * 5 + 3, none⟩ (.int .i64 t.2.2.1)).setCell ⟨g, i * 5 + 4, none⟩ (.bool t.2.2.2)).ownsRow base 63 5 (.slice (some ⟨g, 0, none⟩) n cap) n (flatR encT (cur.set i t)) := by
  have h1 := (World.ownsRow.stored h (i * 5) (.int .i64 t.1)).1
  have h2 := (World.ownsRow.stored h1 (i * 5 + 1) (.int .i64 t.2.1.1)).1
  have h3 := (World.ownsRow.stored h2 (i * 5 + 2) (.bool t.2.1.2)).1
  have h4 := (World.ownsRow.stored h3 (i * 5 + 3) (.int .i64 t.2.2.1)).1
  have h5 := (World.ownsRow.stored h4 (i * 5 + 4) (.bool t.2.2.2)).1
  rwa [flatR_set5 cur i t (by omega)] at h5
def zT : Tn := (0, (0, false), (0, false))
theorem made5 (n : Nat) : (madeCells #[.int .i64 0, .int .i64 0, .bool false, .int .i64 0, .bool false] (n * 5)).toList = flatR encT (List.replicate n zT) := by
  have hl : (flatR encT (List.replicate n zT)).length = n * 5 := by rw [flatR_length encT_len, List.length_replicate]
  apply List.ext_getElem?
  intro j
  by_cases hj : j < n * 5
  · have hq : j / 5 < n := by omega
    have hd : j / 5 * 5 + j % 5 = j := by omega
    have hm : j % 5 < 5 := Nat.mod_lt _ (by omega)
    have e0 : (List.replicate n zT)[j / 5]! = zT := by rw [getElem!_pos _ _ (by simpa using hq), List.getElem_replicate]
    have e1 := flatR_get encT_len (List.replicate n zT) (j / 5) (j % 5) ((encT zT)[j % 5]'(by rw [encT_len]; exact hm)) (by simpa using hq) (by rw [e0]; exact List.getElem?_eq_getElem _)
    rw [hd] at e1
    rw [e1]
    simp [madeCells, hj]
    have : j % 5 = 0 ∨ j % 5 = 1 ∨ j % 5 = 2 ∨ j % 5 = 3 ∨ j % 5 = 4 := by omega
    rcases this with h | h | h | h | h <;> simp [h, encT, zT]
  · rw [List.getElem?_eq_none (l := flatR encT (List.replicate n zT)) (by rw [hl]; omega), List.getElem?_eq_none (by rw [Array.length_toList, size_madeCells]; omega)]
def flipT (t : Tn) : Tn := (t.1, t.2.2, t.2.1)
def backS (l : List Tn) : List Tn := l.map flipT
theorem back_step (l cur : List Tn) (k : Nat) (hk : k < l.length) (h1 : cur.length = l.length) (h2 : cur.take k = (backS l).take k) (t : Tn) (ht : t = flipT l[k]!) :
    (cur.set k t).length = l.length ∧ (cur.set k t).take (k + 1) = (backS l).take (k + 1) := by
  have hs : (cur.set k t).length = l.length := by rw [List.length_set]; exact h1
  have hb : (backS l).length = l.length := by unfold backS; simp
  have hks : k < (cur.set k t).length := by rw [hs]; exact hk
  have hkb : k < (backS l).length := by rw [hb]; exact hk
  have a1 : (cur.set k t).take k = cur.take k := by rw [List.take_set, List.set_eq_of_length_le (by rw [List.length_take]; omega)]
  have a2 : (cur.set k t)[k]! = t := by rw [getElem!_pos (cur.set k t) k hks, List.getElem_set_self]
  have a3 : (backS l)[k]! = flipT l[k]! := by rw [getElem!_pos (backS l) k hkb, getElem!_pos l k hk]; simp [backS]
  exact ⟨hs, by rw [take_moreG hks, take_moreG hkb, a1, a2, a3, h2, ht]⟩
def backP (l : List Tn) : List Tn × Int := if chkB l then (backS l, 0) else ([], 1)
def BkPost (w : World) (l : List Tn) (z : Int) (e : Ending) (w' : World) : Prop := ∃ v, e = .returned (.tuple #[v, .int .i64 z]) ∧ OwnT w' w.heap.size v l ∧ Below w.heap.size w w'
set_option maxRecDepth 100000 in
set_option maxHeartbeats 4000000 in
theorem back_any (a : Option Addr) (n c : Nat) (l : List Tn) (w : World) (h : RArg encT 5 w a n c l) (hl : l.length ≤ 10000) :
    Calls Try.prog 30 #[.slice a n c] w (BkPost w (backP l).1 (backP l).2) := by
  obtain ⟨i0, hi, hz0, hz1, hz2⟩ := info_parts Try.infoTurn
  have CC := dcheck_any a n c l w h
  have hA := Lib.hid h
  obtain ⟨rfl, _, hc1, hc2, _⟩ := h
  unfold backP
  cases hc : chkB l with
  | false =>
    rw [hc] at CC
    go_enter Try.func30, Try.ntmps30
    go_wp2_with (go_at_call 20; (with_reducible refine CC.mono ?_); rintro e w1 ⟨rfl, b1⟩)
    go_ret2
    exact ⟨_, rfl, OwnsR.nil _ _ _ _ _, b1⟩
  | true =>
    rw [hc] at CC
    have hmk : ∀ W : World, (Instr.makeSlice 25 (.int .i64 (l.length : Int)) (.int .i64 (l.length : Int))).run Try.prog W = .ok (.slice (some ⟨W.heap.size, 0, none⟩) l.length l.length) (W.alloc (.cells (madeCells #[.int .i64 0, .int .i64 0, .bool false, .int .i64 0, .bool false] (l.length * 5)) 63)) := fun W => by
      have := run_make (P := Try.prog) W 25 63 i0 _ Try.underlying25 hi hz0 .i64 .i64 l.length l.length (by omega) (Int.le_refl _) (by rw [hz2]; omega) (by omega)
      simp only [Int.toNat_natCast, hz1] at this
      exact this
    clear hi hz0 hz1 hz2 hc
    go_enter Try.func30, Try.ntmps30
    go_wp2_with (go_at_call 20; (with_reducible refine CC.mono ?_); rintro e w1 ⟨rfl, b1⟩)
    have hg1 : w.heap.size ≤ w1.heap.size := b1.size
    have H0 : Hid ((w1.alloc (.cells (madeCells #[.int .i64 0, .int .i64 0, .bool false, .int .i64 0, .bool false] (l.length * 5)) 63)).ownsRow w.heap.size 63 5 (.slice (some ⟨w1.heap.size, 0, none⟩) l.length l.length) l.length (flatR encT (List.replicate l.length zT))) := Lib.hid (by
      rw [← made5]
      exact World.ownsRow_lit w1 _ l.length hg1 (by unfold maxLen; omega) (size_madeCells _ _))
    have B0 : Below w.heap.size w (w1.alloc (.cells (madeCells #[.int .i64 0, .int .i64 0, .bool false, .int .i64 0, .bool false] (l.length * 5)) 63)) := b1.alloc hg1 _
    clear hmk CC
    generalize (w1.alloc (.cells (madeCells #[.int .i64 0, .int .i64 0, .bool false, .int .i64 0, .bool false] (l.length * 5)) 63)) = W0 at H0 B0
    generalize w1.heap.size = g at H0 hg1
    go_loopw [5, 6, 15] (fun _ _ i wr => ∃ (k : Nat) (cur : List Tn), i = .int .i64 (k : Int) ∧ k ≤ l.length ∧ Hid (cur.length = l.length ∧ cur.take k = (backS l).take k) ∧ Hid (wr.ownsRow w.heap.size 63 5 (.slice (some ⟨g, 0, none⟩) l.length l.length) l.length (flatR encT cur)) ∧ Below w.heap.size w wr)
      (fun _ _ i _ => l.length - (intOf i).toNat)
    case atStart => exact ⟨0, List.replicate l.length zT, rfl, Nat.zero_le _, Lib.hid ⟨by simp, by simp⟩, H0, B0⟩
    case round =>
      obtain ⟨k, cur, rfl, hk, HI, HW, hbl⟩ := hrel
      have hsz := hbl.size
      by_cases hlt : k < l.length
      · have hkz : (k : Int) < (l.length : Int) := by omega
        have e0 := World.ownsRow.cellAt HW.out (k * 5) (by omega)
        have e1 := World.ownsRow.cellAt HW.out (k * 5 + 1) (by omega)
        have e2 := World.ownsRow.cellAt HW.out (k * 5 + 2) (by omega)
        have e3 := World.ownsRow.cellAt HW.out (k * 5 + 3) (by omega)
        have e4 := World.ownsRow.cellAt HW.out (k * 5 + 4) (by omega)
        have gg := fun i v h => flatR_get encT_len cur k i v (by rw [HI.out.1]; exact hlt) h
        rw [show k * 5 = k * 5 + 0 from rfl, gg 0 _ rfl] at e0
        rw [gg 1 _ rfl] at e1
        rw [gg 2 _ rfl] at e2
        rw [gg 3 _ rfl] at e3
        rw [gg 4 _ rfl] at e4
        rw [Nat.add_zero] at e0
        have f0 := World.ownsRow.frozenAt HW.out (k * 5)
        have f1 := World.ownsRow.frozenAt HW.out (k * 5 + 1)
        have f2 := World.ownsRow.frozenAt HW.out (k * 5 + 2)
        have f3 := World.ownsRow.frozenAt HW.out (k * 5 + 3)
        have f4 := World.ownsRow.frozenAt HW.out (k * 5 + 4)
        have hgr : g < wr.heap.size := World.block_lt_of_cell? _ _ e0
        clear gg
        generalize (cur[k]!).1 = o0 at e0
        generalize (cur[k]!).2.1.1 = o1 at e1
        generalize (cur[k]!).2.1.2 = o2 at e2
        generalize (cur[k]!).2.2.1 = o3 at e3
        generalize (cur[k]!).2.2.2 = o4 at e4
        obtain ⟨b, off, e, hb, d0, d1, d2, d3, d4⟩ := (hA.out.below hbl).tns hlt
        subst e
        have HN := Lib.hid (fun t ht => back_step l cur k hlt HI.out.1 HI.out.2 t ht)
        generalize l[k]! = s at d0 d1 d2 d3 d4 HN
        obtain ⟨x, ⟨y, s1⟩, ⟨u, s2⟩⟩ := s
        dsimp only at d0 d1 d2 d3 d4
        have HO2 := Lib.hid (World.ownsRow.alloc (own_put5 ((x, (u, s2), (y, s1)) : Tn) HI.out.1 hlt HW.out) (.cells #[.int .i64 x, .int .i64 y, .bool s1, .int .i64 u, .bool s2] 63))
        go_wp2_with fail
        go_roundw
        case rel =>
          refine ⟨k + 1, cur.set k (x, (u, s2), (y, s1)), by go_num, by omega, Lib.hid (HN.out (x, (u, s2), (y, s1)) rfl), HO2, ?_⟩
          exact below_alloc (((((hbl.setCell (p := ⟨g, k * 5, none⟩) hg1 _).setCell (p := ⟨g, k * 5 + 1, none⟩) hg1 _).setCell (p := ⟨g, k * 5 + 2, none⟩) hg1 _).setCell (p := ⟨g, k * 5 + 3, none⟩) hg1 _).setCell (p := ⟨g, k * 5 + 4, none⟩) hg1 _) _
        case measure => simp [intOf]; omega
      · have hkn : k = l.length := by omega
        subst hkn
        have hkz : ¬ (l.length : Int) < (l.length : Int) := by omega
        have hfin : Hid (OwnT wr w.heap.size (.slice (some ⟨g, 0, none⟩) l.length l.length) (backS l)) := Lib.hid (by
          have h1 := HI.out.2
          rw [List.take_of_length_le (by rw [HI.out.1]; exact Nat.le_refl _), List.take_of_length_le (by unfold backS; simp)] at h1
          have h2 := HW.out
          rw [h1] at h2
          have h3 : (backS l).length = l.length := by unfold backS; simp
          show wr.ownsRow w.heap.size 63 5 (.slice (some ⟨g, 0, none⟩) l.length l.length) (backS l).length (flatR encT (backS l))
          rw [h3]
          exact h2)
        clear HI HW
        go_wp2_with fail
        go_ret2
        exact ⟨_, rfl, hfin.out, hbl⟩
end Go.Proofs.Ytmifjippdlmpiaa
