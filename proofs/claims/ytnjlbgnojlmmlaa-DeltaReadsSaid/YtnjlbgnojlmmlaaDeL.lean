/-
  DELTA: a turn that is read (written by wip/tools/mkDeL.py).
-/
import Derived.Test.YtnjlbgnojlmmlaaDlQ
import Derived.Test.YtnjlbgnojlmmlaaDlO
import Derived.Deep.RegionHeld3
namespace Go.Proofs.Ytnjlbgnojlmmlaa
open Go.RowKit Go.Deep Go.Shelf

/-- A turn that is read behind a key, whether it is one, what is left. -/
def rTurn (s : ByteArray) (e : Int) (last : Int) : Tn × Bool × ByteArray × Int :=
  if 4095 - last ≤ (rNum s e).1 ∨ 3 < (rNum (rNum s e).2.1 (rNum s e).2.2).1 then (zT, false, (rNum (rNum s e).2.1 (rNum s e).2.2).2)
  else if (rNum (rNum s e).2.1 (rNum s e).2.2).1 = 0 then ((last + 1 + (rNum s e).1, (0, false), (0, false)), (rNum (rNum s e).2.1 (rNum s e).2.2).2.2 == 0, (rNum (rNum s e).2.1 (rNum s e).2.2).2)
  else
    let q := rWhole (rNum (rNum s e).2.1 (rNum s e).2.2).2.1 (rNum (rNum s e).2.1 (rNum s e).2.2).2.2
    if (rNum (rNum s e).2.1 (rNum s e).2.2).1 = 1 then ((last + 1 + (rNum s e).1, (q.1, true), (0, false)), q.2.2 == 0, q.2)
    else if (rNum (rNum s e).2.1 (rNum s e).2.2).1 = 2 then ((last + 1 + (rNum s e).1, (0, false), (q.1, true)), q.2.2 == 0, q.2)
    else ((last + 1 + (rNum s e).1, (q.1, true), (q.1 + (rWhole q.2.1 q.2.2).1, true)), (rWhole q.2.1 q.2.2).2.2 == 0, (rWhole q.2.1 q.2.2).2)
def TurnPost (w : World) (g : Nat) (r : Tn × Bool × ByteArray × Int) (e : Ending) (w' : World) : Prop :=
  e = .returned (.tuple #[.agg #[.int .i64 r.1.1, .int .i64 r.1.2.1.1, .bool r.1.2.1.2, .int .i64 r.1.2.2.1, .bool r.1.2.2.2], .bool r.2.1]) ∧ Rd w' g r.2.2.1 r.2.2.2 ∧ w.grownBy w' (some g)
theorem XB.put5 {t : TypeId} {W : World} {b : Nat} {c0 c1 c2 c3 c4 : Value} (h : XB t W b [c0, c1, c2, c3, c4]) (v0 v1 v2 v3 v4 : Value) :
    XB t (((((W.setCell ⟨b, 0, none⟩ v0).setCell ⟨b, 1, none⟩ v1).setCell ⟨b, 2, none⟩ v2).setCell ⟨b, 3, none⟩ v3).setCell ⟨b, 4, none⟩ v4) b [v0, v1, v2, v3, v4] :=
  ((((h.set 0 v0).set 1 v1).set 2 v2).set 3 v3).set 4 v4
theorem grown_set5 (W : World) (b : Nat) (v0 v1 v2 v3 v4 : Value) : W.grownBy (((((W.setCell ⟨b, 0, none⟩ v0).setCell ⟨b, 1, none⟩ v1).setCell ⟨b, 2, none⟩ v2).setCell ⟨b, 3, none⟩ v3).setCell ⟨b, 4, none⟩ v4) (some b) :=
  grown_trans (grown_trans (grown_trans (grown_trans (grownBy_setAt W b 0 v0) (grownBy_setAt _ b 1 v1)) (grownBy_setAt _ b 2 v2)) (grownBy_setAt _ b 3 v3)) (grownBy_setAt _ b 4 v4)
theorem XB.drew {t : TypeId} {W : World} {b : Nat} {cs : List Value} (h : XB t W b cs) : XB t W.drew b cs := h
theorem Rd.drew {W : World} {g : Nat} {s : ByteArray} {e : Int} (h : Rd W g s e) : Rd W.drew g s e := h
theorem grownBy_drew {a b : World} {r : Option Nat} (h : a.grownBy b r) : a.grownBy b.drew r := ⟨h.os, h.tape, h.output, h.size, h.block⟩
set_option maxRecDepth 100000 in
set_option maxHeartbeats 4000000 in
theorem rturn_any {w : World} {g : Nat} {s : ByteArray} {e : Int} (last : Int) (h : Rd w g s e) (hs : (s.size : Int) ≤ 1000000000000) (hl0 : -1 ≤ last) (hl1 : last ≤ 4095) :
    Calls Try.prog 15 #[.pointer (some ⟨g, 0, none⟩), .int .i64 last] w (TurnPost w g (rTurn s e last)) := by
  obtain ⟨x, s1, e1, h1⟩ : ∃ x s1 e1, rNum s e = (x, s1, e1) := ⟨_, _, _, rfl⟩
  obtain ⟨y, s2, e2, h2⟩ : ∃ y s2 e2, rNum s1 e1 = (y, s2, e2) := ⟨_, _, _, rfl⟩
  have hx := rNum_val s e
  have hy := rNum_val s1 e1
  have z1 := rNum_size s e
  have z2 := rNum_size s1 e1
  rw [h1] at hx z1
  rw [h2] at hy z2
  dsimp only at hx hy z1 z2
  obtain ⟨hx0, hx1⟩ := hx
  obtain ⟨hy0, hy1⟩ := hy
  have hg := h.lt
  obtain ⟨R, hR⟩ : ∃ R, rTurn s e last = R := ⟨_, rfl⟩
  rw [hR]
  unfold rTurn at hR
  rw [h1] at hR
  dsimp only at hR
  rw [h2] at hR
  dsimp only at hR
  have C1 : Hid (∀ W, Rd W g s e → Calls Try.prog 14 #[.pointer (some ⟨g, 0, none⟩)] W (RdPost W g (.int .i64 x) (s1, e1))) :=
    Lib.hid fun W hR => (rnum_any hR (by omega)).mono fun e w' h => by rw [h1] at h; exact h
  have C2 : Hid (∀ W, Rd W g s1 e1 → Calls Try.prog 14 #[.pointer (some ⟨g, 0, none⟩)] W (RdPost W g (.int .i64 y) (s2, e2))) :=
    Lib.hid fun W hR => (rnum_any hR (by omega)).mono fun e w' h => by rw [h2] at h; exact h
  have R0 : Hid (Rd (w.alloc (.cells #[.int .i64 0, .int .i64 0, .bool false, .int .i64 0, .bool false] 46)) g s e) := Lib.hid (rd_grown h (World.grownBy_alloc w _ none) (by simp))
  have X0 : Hid (XB 46 (w.alloc (.cells #[.int .i64 0, .int .i64 0, .bool false, .int .i64 0, .bool false] 46)) w.heap.size [.int .i64 0, .int .i64 0, .bool false, .int .i64 0, .bool false]) := Lib.hid (heap_alloc_new w _)
  have hgB : w.heap.size ≠ g := by omega
  have hgB2 : some w.heap.size ≠ some g := by simp; omega
  clear h1 h2 h
  by_cases hb1 : 4095 - last ≤ x
  · have d1 : decide (4095 - last ≤ x) = true := decide_eq_true hb1
    replace hR := Lib.hid (show (zT, false, s2, e2) = R by rw [← hR, if_pos (Or.inl hb1)])
    go_enter Try.func15, Try.ntmps15
    go_wp2_with (first
      | (go_at_call 14; (with_reducible refine (C1.out _ R0.out).mono ?_); rintro en w1 ⟨rfl, R1, G1⟩; clear C1)
      | (go_at_call 14; (with_reducible refine (C2.out _ R1).mono ?_); rintro en w2 ⟨rfl, R2, G2⟩; clear C2; (have X2 := XB.kept (XB.kept X0.out G1 hgB2) G2 hgB2); (have q0 := X2.at 0 _ rfl); (have q1 := X2.at 1 _ rfl); (have q2 := X2.at 2 _ rfl); (have q3 := X2.at 3 _ rfl); (have q4 := X2.at 4 _ rfl); (have u0 := X2.free 0); (have u1 := X2.free 1); (have u2 := X2.free 2); (have u3 := X2.free 3); (have u4 := X2.free 4); (have GW : Hid (w.grownBy w2 (some g)) := Lib.hid (grownBy_trans (World.grownBy_alloc w _ none) (grown_trans G1 G2))); (replace X2 := Lib.hid X2); (replace R2 := Lib.hid R2); clear G1 G2 R1))
    have XF := XB.put5 X2.out (.int .i64 0) (.int .i64 0) (.bool false) (.int .i64 0) (.bool false)
    have f0 := XF.at 0 _ rfl
    have f1 := XF.at 1 _ rfl
    have f2 := XF.at 2 _ rfl
    have f3 := XF.at 3 _ rfl
    have f4 := XF.at 4 _ rfl
    rw [← hR.out]
    exact bodyPost_ret (v := .tuple #[.agg #[.int .i64 0, .int .i64 0, .bool false, .int .i64 0, .bool false], .bool false]) (by simp [results, Try.results15, go_sem, f0, f1, f2, f3, f4]) rfl ⟨rfl, rd_grown R2.out (grown_set5 _ _ _ _ _ _ _) (by simp; omega), grown_over GW.out (grown_set5 _ _ _ _ _ _ _) (fun k hk => by cases hk; exact Nat.le_refl _)⟩
  have d1 : decide (4095 - last ≤ x) = false := decide_eq_false hb1
  by_cases hb2 : 3 < y
  · have d2 : decide (3 < y) = true := decide_eq_true hb2
    replace hR := Lib.hid (show (zT, false, s2, e2) = R by rw [← hR, if_pos (Or.inr hb2)])
    go_enter Try.func15, Try.ntmps15
    go_wp2_with (first
      | (go_at_call 14; (with_reducible refine (C1.out _ R0.out).mono ?_); rintro en w1 ⟨rfl, R1, G1⟩; clear C1)
      | (go_at_call 14; (with_reducible refine (C2.out _ R1).mono ?_); rintro en w2 ⟨rfl, R2, G2⟩; clear C2; (have X2 := XB.kept (XB.kept X0.out G1 hgB2) G2 hgB2); (have q0 := X2.at 0 _ rfl); (have q1 := X2.at 1 _ rfl); (have q2 := X2.at 2 _ rfl); (have q3 := X2.at 3 _ rfl); (have q4 := X2.at 4 _ rfl); (have u0 := X2.free 0); (have u1 := X2.free 1); (have u2 := X2.free 2); (have u3 := X2.free 3); (have u4 := X2.free 4); (have GW : Hid (w.grownBy w2 (some g)) := Lib.hid (grownBy_trans (World.grownBy_alloc w _ none) (grown_trans G1 G2))); (replace X2 := Lib.hid X2); (replace R2 := Lib.hid R2); clear G1 G2 R1))
    have XF := XB.put5 X2.out (.int .i64 0) (.int .i64 0) (.bool false) (.int .i64 0) (.bool false)
    have f0 := XF.at 0 _ rfl
    have f1 := XF.at 1 _ rfl
    have f2 := XF.at 2 _ rfl
    have f3 := XF.at 3 _ rfl
    have f4 := XF.at 4 _ rfl
    rw [← hR.out]
    exact bodyPost_ret (v := .tuple #[.agg #[.int .i64 0, .int .i64 0, .bool false, .int .i64 0, .bool false], .bool false]) (by simp [results, Try.results15, go_sem, f0, f1, f2, f3, f4]) rfl ⟨rfl, rd_grown R2.out (grown_set5 _ _ _ _ _ _ _) (by simp; omega), grown_over GW.out (grown_set5 _ _ _ _ _ _ _) (fun k hk => by cases hk; exact Nat.le_refl _)⟩
  have d2 : decide (3 < y) = false := decide_eq_false hb2
  rw [if_neg (fun q => q.elim hb1 hb2)] at hR
  have hk1 : last + 1 + x ≤ 4095 := by omega
  have hk0 : -1 < last + 1 + x := by omega
  have hyc : y = 0 ∨ y = 1 ∨ y = 2 ∨ y = 3 := by omega
  rcases hyc with rfl | rfl | rfl | rfl
  · rw [if_pos rfl] at hR
    go_enter Try.func15, Try.ntmps15
    go_wp2_with (first
      | (go_at_call 14; (with_reducible refine (C1.out _ R0.out).mono ?_); rintro en w1 ⟨rfl, R1, G1⟩; clear C1)
      | (go_at_call 14; (with_reducible refine (C2.out _ R1).mono ?_); rintro en w2 ⟨rfl, R2, G2⟩; clear C2; (have X2 := XB.kept (XB.kept X0.out G1 hgB2) G2 hgB2); (have q0 := X2.at 0 _ rfl); (have q1 := X2.at 1 _ rfl); (have q2 := X2.at 2 _ rfl); (have q3 := X2.at 3 _ rfl); (have q4 := X2.at 4 _ rfl); (have u0 := X2.free 0); (have u1 := X2.free 1); (have u2 := X2.free 2); (have u3 := X2.free 3); (have u4 := X2.free 4); (have GW : Hid (w.grownBy w2 (some g)) := Lib.hid (grownBy_trans (World.grownBy_alloc w _ none) (grown_trans G1 G2))); (replace X2 := Lib.hid X2); (replace R2 := Lib.hid R2); clear G1 G2 R1))
    generalize hW3 : w2.alloc (.cells #[.int .i64 (last + 1 + x), .int .i64 0, .bool false, .int .i64 0, .bool false] 46) = W3
    have GA : w2.grownBy W3 none := by rw [← hW3]; exact World.grownBy_alloc w2 _ none
    have X8 : Hid (XB 46 W3 w2.heap.size [.int .i64 (last + 1 + x), .int .i64 0, .bool false, .int .i64 0, .bool false]) := Lib.hid (by rw [← hW3]; exact heap_alloc_new w2 _)
    have X4 : Hid (XB 46 W3 w.heap.size [.int .i64 0, .int .i64 0, .bool false, .int .i64 0, .bool false]) := Lib.hid (XB.kept X2.out GA (by simp))
    have R3 : Hid (Rd W3 g s2 e2) := Lib.hid (rd_grown R2.out GA (by simp))
    have G3 : Hid (w.grownBy W3 (some g)) := Lib.hid (grown_over GW.out GA (by intro k hk; cases hk))
    have h48 : w2.heap.size ≠ w.heap.size := by have := X2.out.lt; omega
    have h8g : w2.heap.size ≠ g := by have := GW.out.size; omega
    have h8w : w.heap.size ≤ w2.heap.size := GW.out.size
    replace hW3 := Lib.hid hW3
    clear GA q0 q1 q2 q3 q4 u0 u1 u2 u3 u4 R2 X2 GW
    generalize w2.heap.size = B8 at *
    have KS := Lib.hid (fun W' (hx : XB 46 W' B8 [.int .i64 (last + 1 + x), .int .i64 0, .bool false, .int .i64 0, .bool false]) => (show (fun W => W.cell? ⟨B8, 0, none⟩ = some (.int .i64 (last + 1 + x)) ∧ W.cell? ⟨B8, 1, none⟩ = some (.int .i64 0) ∧ W.cell? ⟨B8, 2, none⟩ = some (.bool false) ∧ W.cell? ⟨B8, 3, none⟩ = some (.int .i64 0) ∧ W.cell? ⟨B8, 4, none⟩ = some (.bool false)) W' from ⟨hx.at 0 _ rfl, hx.at 1 _ rfl, hx.at 2 _ rfl, hx.at 3 _ rfl, hx.at 4 _ rfl⟩))
    have XF := XB.put5 X4.out (.int .i64 (last + 1 + x)) (.int .i64 0) (.bool false) (.int .i64 0) (.bool false)
    have XD := Lib.hid (XB.drew X8.out)
    have q0 := X4.out.at 0 _ rfl
    have q1 := X4.out.at 1 _ rfl
    have q2 := X4.out.at 2 _ rfl
    have q3 := X4.out.at 3 _ rfl
    have q4 := X4.out.at 4 _ rfl
    have u0 := X4.out.free 0
    have u1 := X4.out.free 1
    have u2 := X4.out.free 2
    have u3 := X4.out.free 3
    have u4 := X4.out.free 4
    have KX := Lib.hid (XB.kept X8.out (grown_set5 W3 w.heap.size (.int .i64 (last + 1 + x)) (.int .i64 0) (.bool false) (.int .i64 0) (.bool false)) (fun e => h48 (Option.some.inj e)))
    have KXD := Lib.hid (XB.drew KX.out)
    have KF := Lib.hid XF
    have CE := Lib.hid (err_any (Rd.drew R3.out))
    clear XF
    obtain ⟨bb, hbb⟩ : ∃ bb, (e2 == 0) = bb := ⟨_, rfl⟩
    rw [hbb] at hR
    replace hR := Lib.hid hR
    go_wp2_with fail
    (first | go_region_held3 (fun W => W.cell? ⟨B8, 0, none⟩ = some (.int .i64 (last + 1 + x)) ∧ W.cell? ⟨B8, 1, none⟩ = some (.int .i64 0) ∧ W.cell? ⟨B8, 2, none⟩ = some (.bool false) ∧ W.cell? ⟨B8, 3, none⟩ = some (.int .i64 0) ∧ W.cell? ⟨B8, 4, none⟩ = some (.bool false)) (exact KS.out _ (by first | with_reducible exact XD.out | with_reducible exact KXD.out | with_reducible exact KX.out)) ((go_at_call 35; (with_reducible refine CE.out.mono ?_); rintro en wf ⟨rfl, rfl⟩)) | fail)
    all_goals
      go_wp2_with fail
      have f0 := XB.drew KF.out |>.at 0 _ rfl
      have f1 := XB.drew KF.out |>.at 1 _ rfl
      have f2 := XB.drew KF.out |>.at 2 _ rfl
      have f3 := XB.drew KF.out |>.at 3 _ rfl
      have f4 := XB.drew KF.out |>.at 4 _ rfl
      rw [← hR.out]
      exact bodyPost_ret (v := .tuple #[.agg #[.int .i64 (last + 1 + x), .int .i64 0, .bool false, .int .i64 0, .bool false], .bool bb]) (by simp [results, Try.results15, go_sem, f0, f1, f2, f3, f4]) rfl ⟨rfl, Rd.drew (rd_grown R3.out (grown_set5 _ _ _ _ _ _ _) (by simp; omega)), grownBy_drew (grown_over G3.out (grown_set5 _ _ _ _ _ _ _) (fun k hk => by cases hk; exact Nat.le_refl _))⟩
  · rw [if_neg (by omega), if_pos rfl] at hR
    obtain ⟨v, s3, e3, hwv⟩ : ∃ v s3 e3, rWhole s2 e2 = (v, s3, e3) := ⟨_, _, _, rfl⟩
    have mv := rWhole_may s2 e2
    have zzv := rWhole_size s2 e2
    rw [hwv] at mv zzv hR
    dsimp only at mv zzv hR
    unfold mayZ at mv
    have mv := of_decide_eq_true mv
    obtain ⟨mv0, mv1⟩ := mv
    have CWv : Hid (∀ W, Rd W g s2 e2 → Calls Try.prog 38 #[.pointer (some ⟨g, 0, none⟩)] W (RdPost W g (.int .i64 v) (s3, e3))) :=
      Lib.hid fun W hR => (rwhole_any hR (by omega)).mono fun e w' h => by rw [hwv] at h; exact h
    clear hwv
    go_enter Try.func15, Try.ntmps15
    go_wp2_with (first
      | (go_at_call 14; (with_reducible refine (C1.out _ R0.out).mono ?_); rintro en w1 ⟨rfl, R1, G1⟩; clear C1)
      | (go_at_call 14; (with_reducible refine (C2.out _ R1).mono ?_); rintro en w2 ⟨rfl, R2, G2⟩; clear C2; (have X2 := XB.kept (XB.kept X0.out G1 hgB2) G2 hgB2); (have q0 := X2.at 0 _ rfl); (have q1 := X2.at 1 _ rfl); (have q2 := X2.at 2 _ rfl); (have q3 := X2.at 3 _ rfl); (have q4 := X2.at 4 _ rfl); (have u0 := X2.free 0); (have u1 := X2.free 1); (have u2 := X2.free 2); (have u3 := X2.free 3); (have u4 := X2.free 4); (have GW : Hid (w.grownBy w2 (some g)) := Lib.hid (grownBy_trans (World.grownBy_alloc w _ none) (grown_trans G1 G2))); (replace X2 := Lib.hid X2); (replace R2 := Lib.hid R2); clear G1 G2 R1))
    generalize hW3 : w2.alloc (.cells #[.int .i64 (last + 1 + x), .int .i64 0, .bool false, .int .i64 0, .bool false] 46) = W3
    have GA : w2.grownBy W3 none := by rw [← hW3]; exact World.grownBy_alloc w2 _ none
    have X8 : Hid (XB 46 W3 w2.heap.size [.int .i64 (last + 1 + x), .int .i64 0, .bool false, .int .i64 0, .bool false]) := Lib.hid (by rw [← hW3]; exact heap_alloc_new w2 _)
    have X4 : Hid (XB 46 W3 w.heap.size [.int .i64 0, .int .i64 0, .bool false, .int .i64 0, .bool false]) := Lib.hid (XB.kept X2.out GA (by simp))
    have R3 : Hid (Rd W3 g s2 e2) := Lib.hid (rd_grown R2.out GA (by simp))
    have G3 : Hid (w.grownBy W3 (some g)) := Lib.hid (grown_over GW.out GA (by intro k hk; cases hk))
    have h48 : w2.heap.size ≠ w.heap.size := by have := X2.out.lt; omega
    have h8g : w2.heap.size ≠ g := by have := GW.out.size; omega
    have h8w : w.heap.size ≤ w2.heap.size := GW.out.size
    replace hW3 := Lib.hid hW3
    clear GA q0 q1 q2 q3 q4 u0 u1 u2 u3 u4 R2 X2 GW
    generalize w2.heap.size = B8 at *
    go_wp2_with (go_at_call 38; (with_reducible refine (CWv.out _ R3.out).mono ?_); rintro en w4 ⟨rfl, R4, G4⟩; (have X84 := XB.kept X8.out G4 (fun e => h8g (Option.some.inj e))); (have X44 := XB.kept X4.out G4 hgB2); (have t0 := X84.at 1 _ rfl); (have t1 := X84.at 2 _ rfl); (have t2 := X84.free 1); (have t3 := X84.free 2); (obtain ⟨W5, hW5⟩ : ∃ W5, (w4.setCell ⟨B8, 1, none⟩ (.int .i64 v)).setCell ⟨B8, 2, none⟩ (.bool true) = W5 := ⟨_, rfl⟩); (have GS : w4.grownBy W5 (some B8) := by rw [← hW5]; exact grown_trans (grownBy_setAt _ _ _ _) (grownBy_setAt _ _ _ _)); (have X85 : Hid (XB 46 W5 B8 [.int .i64 (last + 1 + x), .int .i64 v, .bool true, .int .i64 0, .bool false]) := Lib.hid (by rw [← hW5]; exact (X84.set 1 _).set 2 _)); (have X45 : Hid (XB 46 W5 w.heap.size [.int .i64 0, .int .i64 0, .bool false, .int .i64 0, .bool false]) := Lib.hid (XB.kept X44 GS (fun e => h48 (Option.some.inj e).symm))); (have R5 : Hid (Rd W5 g s3 e3) := Lib.hid (rd_grown R4 GS (fun e => h8g (Option.some.inj e).symm))); (have G5 : Hid (w.grownBy W5 (some g)) := Lib.hid (grown_over (grown_trans G3.out G4) GS (fun k hk => by cases hk; exact h8w))); clear X84 X44 R4 G4 GS)
    clear t0 t1 t2 t3
    replace hW5 := Lib.hid hW5
    have KS := Lib.hid (fun W' (hx : XB 46 W' B8 [.int .i64 (last + 1 + x), .int .i64 v, .bool true, .int .i64 0, .bool false]) => (show (fun W => W.cell? ⟨B8, 0, none⟩ = some (.int .i64 (last + 1 + x)) ∧ W.cell? ⟨B8, 1, none⟩ = some (.int .i64 v) ∧ W.cell? ⟨B8, 2, none⟩ = some (.bool true) ∧ W.cell? ⟨B8, 3, none⟩ = some (.int .i64 0) ∧ W.cell? ⟨B8, 4, none⟩ = some (.bool false)) W' from ⟨hx.at 0 _ rfl, hx.at 1 _ rfl, hx.at 2 _ rfl, hx.at 3 _ rfl, hx.at 4 _ rfl⟩))
    have XF := XB.put5 X45.out (.int .i64 (last + 1 + x)) (.int .i64 v) (.bool true) (.int .i64 0) (.bool false)
    have XD := Lib.hid (XB.drew X85.out)
    have q0 := X45.out.at 0 _ rfl
    have q1 := X45.out.at 1 _ rfl
    have q2 := X45.out.at 2 _ rfl
    have q3 := X45.out.at 3 _ rfl
    have q4 := X45.out.at 4 _ rfl
    have u0 := X45.out.free 0
    have u1 := X45.out.free 1
    have u2 := X45.out.free 2
    have u3 := X45.out.free 3
    have u4 := X45.out.free 4
    have KX := Lib.hid (XB.kept X85.out (grown_set5 W5 w.heap.size (.int .i64 (last + 1 + x)) (.int .i64 v) (.bool true) (.int .i64 0) (.bool false)) (fun e => h48 (Option.some.inj e)))
    have KXD := Lib.hid (XB.drew KX.out)
    have KF := Lib.hid XF
    have CE := Lib.hid (err_any (Rd.drew R5.out))
    clear XF
    obtain ⟨bb, hbb⟩ : ∃ bb, (e3 == 0) = bb := ⟨_, rfl⟩
    rw [hbb] at hR
    replace hR := Lib.hid hR
    go_wp2_with fail
    (first | go_region_held3 (fun W => W.cell? ⟨B8, 0, none⟩ = some (.int .i64 (last + 1 + x)) ∧ W.cell? ⟨B8, 1, none⟩ = some (.int .i64 v) ∧ W.cell? ⟨B8, 2, none⟩ = some (.bool true) ∧ W.cell? ⟨B8, 3, none⟩ = some (.int .i64 0) ∧ W.cell? ⟨B8, 4, none⟩ = some (.bool false)) (exact KS.out _ (by first | with_reducible exact XD.out | with_reducible exact KXD.out | with_reducible exact KX.out)) ((go_at_call 35; (with_reducible refine CE.out.mono ?_); rintro en wf ⟨rfl, rfl⟩)) | fail)
    all_goals
      go_wp2_with fail
      have f0 := XB.drew KF.out |>.at 0 _ rfl
      have f1 := XB.drew KF.out |>.at 1 _ rfl
      have f2 := XB.drew KF.out |>.at 2 _ rfl
      have f3 := XB.drew KF.out |>.at 3 _ rfl
      have f4 := XB.drew KF.out |>.at 4 _ rfl
      rw [← hR.out]
      exact bodyPost_ret (v := .tuple #[.agg #[.int .i64 (last + 1 + x), .int .i64 v, .bool true, .int .i64 0, .bool false], .bool bb]) (by simp [results, Try.results15, go_sem, f0, f1, f2, f3, f4]) rfl ⟨rfl, Rd.drew (rd_grown R5.out (grown_set5 _ _ _ _ _ _ _) (by simp; omega)), grownBy_drew (grown_over G5.out (grown_set5 _ _ _ _ _ _ _) (fun k hk => by cases hk; exact Nat.le_refl _))⟩
  · rw [if_neg (by omega), if_neg (by omega), if_pos rfl] at hR
    obtain ⟨v, s3, e3, hwv⟩ : ∃ v s3 e3, rWhole s2 e2 = (v, s3, e3) := ⟨_, _, _, rfl⟩
    have mv := rWhole_may s2 e2
    have zzv := rWhole_size s2 e2
    rw [hwv] at mv zzv hR
    dsimp only at mv zzv hR
    unfold mayZ at mv
    have mv := of_decide_eq_true mv
    obtain ⟨mv0, mv1⟩ := mv
    have CWv : Hid (∀ W, Rd W g s2 e2 → Calls Try.prog 38 #[.pointer (some ⟨g, 0, none⟩)] W (RdPost W g (.int .i64 v) (s3, e3))) :=
      Lib.hid fun W hR => (rwhole_any hR (by omega)).mono fun e w' h => by rw [hwv] at h; exact h
    clear hwv
    have hwr : IntKind.i64.wrap (0 + v) = v := by rw [Int.zero_add]; exact IntWalk.i64_in _ (by omega)
    have hwr2 : IntKind.i64.wrap v = v := IntWalk.i64_in _ (by omega)
    go_enter Try.func15, Try.ntmps15
    go_wp2_with (first
      | (go_at_call 14; (with_reducible refine (C1.out _ R0.out).mono ?_); rintro en w1 ⟨rfl, R1, G1⟩; clear C1)
      | (go_at_call 14; (with_reducible refine (C2.out _ R1).mono ?_); rintro en w2 ⟨rfl, R2, G2⟩; clear C2; (have X2 := XB.kept (XB.kept X0.out G1 hgB2) G2 hgB2); (have q0 := X2.at 0 _ rfl); (have q1 := X2.at 1 _ rfl); (have q2 := X2.at 2 _ rfl); (have q3 := X2.at 3 _ rfl); (have q4 := X2.at 4 _ rfl); (have u0 := X2.free 0); (have u1 := X2.free 1); (have u2 := X2.free 2); (have u3 := X2.free 3); (have u4 := X2.free 4); (have GW : Hid (w.grownBy w2 (some g)) := Lib.hid (grownBy_trans (World.grownBy_alloc w _ none) (grown_trans G1 G2))); (replace X2 := Lib.hid X2); (replace R2 := Lib.hid R2); clear G1 G2 R1))
    generalize hW3 : w2.alloc (.cells #[.int .i64 (last + 1 + x), .int .i64 0, .bool false, .int .i64 0, .bool false] 46) = W3
    have GA : w2.grownBy W3 none := by rw [← hW3]; exact World.grownBy_alloc w2 _ none
    have X8 : Hid (XB 46 W3 w2.heap.size [.int .i64 (last + 1 + x), .int .i64 0, .bool false, .int .i64 0, .bool false]) := Lib.hid (by rw [← hW3]; exact heap_alloc_new w2 _)
    have X4 : Hid (XB 46 W3 w.heap.size [.int .i64 0, .int .i64 0, .bool false, .int .i64 0, .bool false]) := Lib.hid (XB.kept X2.out GA (by simp))
    have R3 : Hid (Rd W3 g s2 e2) := Lib.hid (rd_grown R2.out GA (by simp))
    have G3 : Hid (w.grownBy W3 (some g)) := Lib.hid (grown_over GW.out GA (by intro k hk; cases hk))
    have h48 : w2.heap.size ≠ w.heap.size := by have := X2.out.lt; omega
    have h8g : w2.heap.size ≠ g := by have := GW.out.size; omega
    have h8w : w.heap.size ≤ w2.heap.size := GW.out.size
    replace hW3 := Lib.hid hW3
    clear GA q0 q1 q2 q3 q4 u0 u1 u2 u3 u4 R2 X2 GW
    generalize w2.heap.size = B8 at *
    have KS8 := Lib.hid (fun W' c3 c4 (hx : XB 46 W' B8 [.int .i64 (last + 1 + x), .int .i64 0, .bool false, c3, c4]) => (show (fun W => W.cell? ⟨B8, 1, none⟩ = some (.int .i64 0)) W' from hx.at 1 _ rfl))
    have XD8 := Lib.hid (XB.drew X8.out)
    have RD8 := Lib.hid (Rd.drew R3.out)
    go_wp2_with fail
    (first | go_region_held3 (fun W => W.cell? ⟨B8, 1, none⟩ = some (.int .i64 0)) (exact KS8.out _ _ _ (by first | with_reducible exact XD8.out | with_reducible exact X86.out | with_reducible exact X84.out)) ((go_at_call 38; (with_reducible refine (CWv.out _ RD8.out).mono ?_); rintro en w4 ⟨rfl, R4, G4⟩; (have G4' : W3.grownBy w4 (some g) := ⟨G4.os, G4.tape, G4.output, G4.size, G4.block⟩); (have X84 := Lib.hid (XB.kept X8.out G4' (fun e => h8g (Option.some.inj e)))); (have X44 := XB.kept X4.out G4' hgB2); (have t0 := X84.out.at 3 _ rfl); (have t1 := X84.out.at 4 _ rfl); (have t2 := X84.out.free 3); (have t3 := X84.out.free 4); (obtain ⟨W6, hW6⟩ : ∃ W6, (w4.setCell ⟨B8, 3, none⟩ (.int .i64 v)).setCell ⟨B8, 4, none⟩ (.bool true) = W6 := ⟨_, rfl⟩); (have GS : w4.grownBy W6 (some B8) := by rw [← hW6]; exact grown_trans (grownBy_setAt _ _ _ _) (grownBy_setAt _ _ _ _)); (have X86 : Hid (XB 46 W6 B8 [.int .i64 (last + 1 + x), .int .i64 0, .bool false, .int .i64 v, .bool true]) := Lib.hid (by rw [← hW6]; exact (X84.out.set 3 _).set 4 _)); (have X46 : Hid (XB 46 W6 w.heap.size [.int .i64 0, .int .i64 0, .bool false, .int .i64 0, .bool false]) := Lib.hid (XB.kept X44 GS (fun e => h48 (Option.some.inj e).symm))); (have R6 : Hid (Rd W6 g s3 e3) := Lib.hid (rd_grown R4 GS (fun e => h8g (Option.some.inj e).symm))); (have G6 : Hid (w.grownBy W6 (some g)) := Lib.hid (grown_over (grown_trans G3.out G4') GS (fun k hk => by cases hk; exact h8w))); clear X44 R4 G4 G4' GS)) | fail)
    all_goals
      clear t0 t1 t2 t3
      replace hW6 := Lib.hid hW6
      have KS := Lib.hid (fun W' (hx : XB 46 W' B8 [.int .i64 (last + 1 + x), .int .i64 0, .bool false, .int .i64 v, .bool true]) => (show (fun W => W.cell? ⟨B8, 0, none⟩ = some (.int .i64 (last + 1 + x)) ∧ W.cell? ⟨B8, 1, none⟩ = some (.int .i64 0) ∧ W.cell? ⟨B8, 2, none⟩ = some (.bool false) ∧ W.cell? ⟨B8, 3, none⟩ = some (.int .i64 v) ∧ W.cell? ⟨B8, 4, none⟩ = some (.bool true)) W' from ⟨hx.at 0 _ rfl, hx.at 1 _ rfl, hx.at 2 _ rfl, hx.at 3 _ rfl, hx.at 4 _ rfl⟩))
      have XF := XB.put5 X46.out (.int .i64 (last + 1 + x)) (.int .i64 0) (.bool false) (.int .i64 v) (.bool true)
      have XD := Lib.hid (XB.drew X86.out)
      have q0 := X46.out.at 0 _ rfl
      have q1 := X46.out.at 1 _ rfl
      have q2 := X46.out.at 2 _ rfl
      have q3 := X46.out.at 3 _ rfl
      have q4 := X46.out.at 4 _ rfl
      have u0 := X46.out.free 0
      have u1 := X46.out.free 1
      have u2 := X46.out.free 2
      have u3 := X46.out.free 3
      have u4 := X46.out.free 4
      have KX := Lib.hid (XB.kept X86.out (grown_set5 W6 w.heap.size (.int .i64 (last + 1 + x)) (.int .i64 0) (.bool false) (.int .i64 v) (.bool true)) (fun e => h48 (Option.some.inj e)))
      have KXD := Lib.hid (XB.drew KX.out)
      have KF := Lib.hid XF
      have CE := Lib.hid (err_any (Rd.drew R6.out))
      clear XF
      obtain ⟨bb, hbb⟩ : ∃ bb, (e3 == 0) = bb := ⟨_, rfl⟩
      rw [hbb] at hR
      replace hR := Lib.hid hR
      go_wp2_with fail
      (first | go_region_held3 (fun W => W.cell? ⟨B8, 0, none⟩ = some (.int .i64 (last + 1 + x)) ∧ W.cell? ⟨B8, 1, none⟩ = some (.int .i64 0) ∧ W.cell? ⟨B8, 2, none⟩ = some (.bool false) ∧ W.cell? ⟨B8, 3, none⟩ = some (.int .i64 v) ∧ W.cell? ⟨B8, 4, none⟩ = some (.bool true)) (exact KS.out _ (by first | with_reducible exact XD.out | with_reducible exact KXD.out | with_reducible exact KX.out)) ((go_at_call 35; (with_reducible refine CE.out.mono ?_); rintro en wf ⟨rfl, rfl⟩)) | fail)
      all_goals
        go_wp2_with fail
        have f0 := XB.drew KF.out |>.at 0 _ rfl
        have f1 := XB.drew KF.out |>.at 1 _ rfl
        have f2 := XB.drew KF.out |>.at 2 _ rfl
        have f3 := XB.drew KF.out |>.at 3 _ rfl
        have f4 := XB.drew KF.out |>.at 4 _ rfl
        rw [← hR.out]
        exact bodyPost_ret (v := .tuple #[.agg #[.int .i64 (last + 1 + x), .int .i64 0, .bool false, .int .i64 v, .bool true], .bool bb]) (by simp [results, Try.results15, go_sem, f0, f1, f2, f3, f4]) rfl ⟨rfl, Rd.drew (rd_grown R6.out (grown_set5 _ _ _ _ _ _ _) (by simp; omega)), grownBy_drew (grown_over G6.out (grown_set5 _ _ _ _ _ _ _) (fun k hk => by cases hk; exact Nat.le_refl _))⟩
  · rw [if_neg (by omega), if_neg (by omega), if_neg (by omega)] at hR
    obtain ⟨v, s3, e3, hwv⟩ : ∃ v s3 e3, rWhole s2 e2 = (v, s3, e3) := ⟨_, _, _, rfl⟩
    have mv := rWhole_may s2 e2
    have zzv := rWhole_size s2 e2
    rw [hwv] at mv zzv hR
    dsimp only at mv zzv hR
    unfold mayZ at mv
    have mv := of_decide_eq_true mv
    obtain ⟨mv0, mv1⟩ := mv
    have CWv : Hid (∀ W, Rd W g s2 e2 → Calls Try.prog 38 #[.pointer (some ⟨g, 0, none⟩)] W (RdPost W g (.int .i64 v) (s3, e3))) :=
      Lib.hid fun W hR => (rwhole_any hR (by omega)).mono fun e w' h => by rw [hwv] at h; exact h
    clear hwv
    obtain ⟨u, s4, e4, hwu⟩ : ∃ u s4 e4, rWhole s3 e3 = (u, s4, e4) := ⟨_, _, _, rfl⟩
    have mu := rWhole_may s3 e3
    have zzu := rWhole_size s3 e3
    rw [hwu] at mu zzu hR
    dsimp only at mu zzu hR
    unfold mayZ at mu
    have mu := of_decide_eq_true mu
    obtain ⟨mu0, mu1⟩ := mu
    have CWu : Hid (∀ W, Rd W g s3 e3 → Calls Try.prog 38 #[.pointer (some ⟨g, 0, none⟩)] W (RdPost W g (.int .i64 u) (s4, e4))) :=
      Lib.hid fun W hR => (rwhole_any hR (by omega)).mono fun e w' h => by rw [hwu] at h; exact h
    clear hwu
    have hwr : IntKind.i64.wrap (v + u) = v + u := IntWalk.i64_in _ (by omega)
    go_enter Try.func15, Try.ntmps15
    go_wp2_with (first
      | (go_at_call 14; (with_reducible refine (C1.out _ R0.out).mono ?_); rintro en w1 ⟨rfl, R1, G1⟩; clear C1)
      | (go_at_call 14; (with_reducible refine (C2.out _ R1).mono ?_); rintro en w2 ⟨rfl, R2, G2⟩; clear C2; (have X2 := XB.kept (XB.kept X0.out G1 hgB2) G2 hgB2); (have q0 := X2.at 0 _ rfl); (have q1 := X2.at 1 _ rfl); (have q2 := X2.at 2 _ rfl); (have q3 := X2.at 3 _ rfl); (have q4 := X2.at 4 _ rfl); (have u0 := X2.free 0); (have u1 := X2.free 1); (have u2 := X2.free 2); (have u3 := X2.free 3); (have u4 := X2.free 4); (have GW : Hid (w.grownBy w2 (some g)) := Lib.hid (grownBy_trans (World.grownBy_alloc w _ none) (grown_trans G1 G2))); (replace X2 := Lib.hid X2); (replace R2 := Lib.hid R2); clear G1 G2 R1))
    generalize hW3 : w2.alloc (.cells #[.int .i64 (last + 1 + x), .int .i64 0, .bool false, .int .i64 0, .bool false] 46) = W3
    have GA : w2.grownBy W3 none := by rw [← hW3]; exact World.grownBy_alloc w2 _ none
    have X8 : Hid (XB 46 W3 w2.heap.size [.int .i64 (last + 1 + x), .int .i64 0, .bool false, .int .i64 0, .bool false]) := Lib.hid (by rw [← hW3]; exact heap_alloc_new w2 _)
    have X4 : Hid (XB 46 W3 w.heap.size [.int .i64 0, .int .i64 0, .bool false, .int .i64 0, .bool false]) := Lib.hid (XB.kept X2.out GA (by simp))
    have R3 : Hid (Rd W3 g s2 e2) := Lib.hid (rd_grown R2.out GA (by simp))
    have G3 : Hid (w.grownBy W3 (some g)) := Lib.hid (grown_over GW.out GA (by intro k hk; cases hk))
    have h48 : w2.heap.size ≠ w.heap.size := by have := X2.out.lt; omega
    have h8g : w2.heap.size ≠ g := by have := GW.out.size; omega
    have h8w : w.heap.size ≤ w2.heap.size := GW.out.size
    replace hW3 := Lib.hid hW3
    clear GA q0 q1 q2 q3 q4 u0 u1 u2 u3 u4 R2 X2 GW
    generalize w2.heap.size = B8 at *
    go_wp2_with (go_at_call 38; (with_reducible refine (CWv.out _ R3.out).mono ?_); rintro en w4 ⟨rfl, R4, G4⟩; (have X84 := XB.kept X8.out G4 (fun e => h8g (Option.some.inj e))); (have X44 := XB.kept X4.out G4 hgB2); (have t0 := X84.at 1 _ rfl); (have t1 := X84.at 2 _ rfl); (have t2 := X84.free 1); (have t3 := X84.free 2); (obtain ⟨W5, hW5⟩ : ∃ W5, (w4.setCell ⟨B8, 1, none⟩ (.int .i64 v)).setCell ⟨B8, 2, none⟩ (.bool true) = W5 := ⟨_, rfl⟩); (have GS : w4.grownBy W5 (some B8) := by rw [← hW5]; exact grown_trans (grownBy_setAt _ _ _ _) (grownBy_setAt _ _ _ _)); (have X85 : Hid (XB 46 W5 B8 [.int .i64 (last + 1 + x), .int .i64 v, .bool true, .int .i64 0, .bool false]) := Lib.hid (by rw [← hW5]; exact (X84.set 1 _).set 2 _)); (have X45 : Hid (XB 46 W5 w.heap.size [.int .i64 0, .int .i64 0, .bool false, .int .i64 0, .bool false]) := Lib.hid (XB.kept X44 GS (fun e => h48 (Option.some.inj e).symm))); (have R5 : Hid (Rd W5 g s3 e3) := Lib.hid (rd_grown R4 GS (fun e => h8g (Option.some.inj e).symm))); (have G5 : Hid (w.grownBy W5 (some g)) := Lib.hid (grown_over (grown_trans G3.out G4) GS (fun k hk => by cases hk; exact h8w))); clear X84 X44 R4 G4 GS)
    clear t0 t1 t2 t3
    replace hW5 := Lib.hid hW5
    have KS8 := Lib.hid (fun W' c3 c4 (hx : XB 46 W' B8 [.int .i64 (last + 1 + x), .int .i64 v, .bool true, c3, c4]) => (show (fun W => W.cell? ⟨B8, 1, none⟩ = some (.int .i64 v)) W' from hx.at 1 _ rfl))
    have XD8 := Lib.hid (XB.drew X85.out)
    have RD8 := Lib.hid (Rd.drew R5.out)
    go_wp2_with fail
    (first | go_region_held3 (fun W => W.cell? ⟨B8, 1, none⟩ = some (.int .i64 v)) (exact KS8.out _ _ _ (by first | with_reducible exact XD8.out | with_reducible exact X86.out | with_reducible exact X84.out)) ((go_at_call 38; (with_reducible refine (CWu.out _ RD8.out).mono ?_); rintro en w4 ⟨rfl, R4, G4⟩; (have G4' : W5.grownBy w4 (some g) := ⟨G4.os, G4.tape, G4.output, G4.size, G4.block⟩); (have X84 := Lib.hid (XB.kept X85.out G4' (fun e => h8g (Option.some.inj e)))); (have X44 := XB.kept X45.out G4' hgB2); (have t0 := X84.out.at 3 _ rfl); (have t1 := X84.out.at 4 _ rfl); (have t2 := X84.out.free 3); (have t3 := X84.out.free 4); (obtain ⟨W6, hW6⟩ : ∃ W6, (w4.setCell ⟨B8, 3, none⟩ (.int .i64 (v + u))).setCell ⟨B8, 4, none⟩ (.bool true) = W6 := ⟨_, rfl⟩); (have GS : w4.grownBy W6 (some B8) := by rw [← hW6]; exact grown_trans (grownBy_setAt _ _ _ _) (grownBy_setAt _ _ _ _)); (have X86 : Hid (XB 46 W6 B8 [.int .i64 (last + 1 + x), .int .i64 v, .bool true, .int .i64 (v + u), .bool true]) := Lib.hid (by rw [← hW6]; exact (X84.out.set 3 _).set 4 _)); (have X46 : Hid (XB 46 W6 w.heap.size [.int .i64 0, .int .i64 0, .bool false, .int .i64 0, .bool false]) := Lib.hid (XB.kept X44 GS (fun e => h48 (Option.some.inj e).symm))); (have R6 : Hid (Rd W6 g s4 e4) := Lib.hid (rd_grown R4 GS (fun e => h8g (Option.some.inj e).symm))); (have G6 : Hid (w.grownBy W6 (some g)) := Lib.hid (grown_over (grown_trans G5.out G4') GS (fun k hk => by cases hk; exact h8w))); clear X44 R4 G4 G4' GS)) | fail)
    all_goals
      clear t0 t1 t2 t3
      replace hW6 := Lib.hid hW6
      have KS := Lib.hid (fun W' (hx : XB 46 W' B8 [.int .i64 (last + 1 + x), .int .i64 v, .bool true, .int .i64 (v + u), .bool true]) => (show (fun W => W.cell? ⟨B8, 0, none⟩ = some (.int .i64 (last + 1 + x)) ∧ W.cell? ⟨B8, 1, none⟩ = some (.int .i64 v) ∧ W.cell? ⟨B8, 2, none⟩ = some (.bool true) ∧ W.cell? ⟨B8, 3, none⟩ = some (.int .i64 (v + u)) ∧ W.cell? ⟨B8, 4, none⟩ = some (.bool true)) W' from ⟨hx.at 0 _ rfl, hx.at 1 _ rfl, hx.at 2 _ rfl, hx.at 3 _ rfl, hx.at 4 _ rfl⟩))
      have XF := XB.put5 X46.out (.int .i64 (last + 1 + x)) (.int .i64 v) (.bool true) (.int .i64 (v + u)) (.bool true)
      have XD := Lib.hid (XB.drew X86.out)
      have q0 := X46.out.at 0 _ rfl
      have q1 := X46.out.at 1 _ rfl
      have q2 := X46.out.at 2 _ rfl
      have q3 := X46.out.at 3 _ rfl
      have q4 := X46.out.at 4 _ rfl
      have u0 := X46.out.free 0
      have u1 := X46.out.free 1
      have u2 := X46.out.free 2
      have u3 := X46.out.free 3
      have u4 := X46.out.free 4
      have KX := Lib.hid (XB.kept X86.out (grown_set5 W6 w.heap.size (.int .i64 (last + 1 + x)) (.int .i64 v) (.bool true) (.int .i64 (v + u)) (.bool true)) (fun e => h48 (Option.some.inj e)))
      have KXD := Lib.hid (XB.drew KX.out)
      have KF := Lib.hid XF
      have CE := Lib.hid (err_any (Rd.drew R6.out))
      clear XF
      obtain ⟨bb, hbb⟩ : ∃ bb, (e4 == 0) = bb := ⟨_, rfl⟩
      rw [hbb] at hR
      replace hR := Lib.hid hR
      go_wp2_with fail
      (first | go_region_held3 (fun W => W.cell? ⟨B8, 0, none⟩ = some (.int .i64 (last + 1 + x)) ∧ W.cell? ⟨B8, 1, none⟩ = some (.int .i64 v) ∧ W.cell? ⟨B8, 2, none⟩ = some (.bool true) ∧ W.cell? ⟨B8, 3, none⟩ = some (.int .i64 (v + u)) ∧ W.cell? ⟨B8, 4, none⟩ = some (.bool true)) (exact KS.out _ (by first | with_reducible exact XD.out | with_reducible exact KXD.out | with_reducible exact KX.out)) ((go_at_call 35; (with_reducible refine CE.out.mono ?_); rintro en wf ⟨rfl, rfl⟩)) | fail)
      all_goals
        go_wp2_with fail
        have f0 := XB.drew KF.out |>.at 0 _ rfl
        have f1 := XB.drew KF.out |>.at 1 _ rfl
        have f2 := XB.drew KF.out |>.at 2 _ rfl
        have f3 := XB.drew KF.out |>.at 3 _ rfl
        have f4 := XB.drew KF.out |>.at 4 _ rfl
        rw [← hR.out]
        exact bodyPost_ret (v := .tuple #[.agg #[.int .i64 (last + 1 + x), .int .i64 v, .bool true, .int .i64 (v + u), .bool true], .bool bb]) (by simp [results, Try.results15, go_sem, f0, f1, f2, f3, f4]) rfl ⟨rfl, Rd.drew (rd_grown R6.out (grown_set5 _ _ _ _ _ _ _) (by simp; omega)), grownBy_drew (grown_over G6.out (grown_set5 _ _ _ _ _ _ _) (fun k hk => by cases hk; exact Nat.le_refl _))⟩
end Go.Proofs.Ytnjlbgnojlmmlaa
