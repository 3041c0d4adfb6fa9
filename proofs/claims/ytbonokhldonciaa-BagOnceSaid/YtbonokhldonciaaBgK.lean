/-
  BAGS: BagFull.
-/
import Derived.Test.YtbonokhldonciaaBgJ
namespace Go.Proofs.Ytbonokhldonciaa
open Go.RowKit Go.Maps Go.ChangeMaps Go.ChangeShapes Go.WideShapes

theorem tmod_first (a : Int) (m : Nat) (hm : 0 < m) (h2 : m ≤ 100000) : ∃ f : Nat, f < m ∧ (wrap64 (a.tmod (m : Int) + (m : Int))).tmod (m : Int) = (f : Int) := by
  have h3 : -(m : Int) < a.tmod m := by have := Int.lt_tmod_of_pos a (b := (m : Int)) (by omega); exact this
  have h4 : a.tmod m < (m : Int) := Int.tmod_lt_of_pos a (by omega)
  have h5 : wrap64 (a.tmod (m : Int) + (m : Int)) = a.tmod (m : Int) + (m : Int) := by unfold wrap64; omega
  rw [h5, Int.tmod_eq_emod_of_nonneg (by omega)]
  have h6 := Int.emod_nonneg (a.tmod (m : Int) + (m : Int)) (b := (m : Int)) (by omega)
  have h7 := Int.emod_lt_of_pos (a.tmod (m : Int) + (m : Int)) (b := (m : Int)) (by omega)
  exact ⟨((a.tmod (m : Int) + (m : Int)) % (m : Int)).toNat, by omega, by omega⟩
abbrev tx : ByteArray := ⟨#[120]⟩
abbrev ty : ByteArray := ⟨#[121]⟩
abbrev tz : ByteArray := ⟨#[122]⟩
/-- A bag of k mails, all alike. -/
def fullB (k : Nat) : Bs := ⟨fun j => if 1 ≤ j ∧ j ≤ (k : Int) then some ⟨j, 1, 2, tx⟩ else none, k, k, noL, 0⟩
theorem full_zero : newB = fullB 0 := by
  unfold newB fullB
  congr 1
  funext j
  unfold noG
  rw [if_neg (by omega)]
theorem full_send {k : Nat} (hk : k < 400) : sendS (fullB k) 1 2 tx = fullB (k + 1) ∧ sendV (fullB k) 1 2 tx = ((k : Int) + 1, 0) := by
  have a1 : addrB 1 = true := rfl
  have a2 : addrB 2 = true := rfl
  have a3 : ¬ 65536 < tx.size := by decide
  have hn : (fullB k).n = k := rfl
  have hl : (fullB k).last = (k : Int) := rfl
  constructor
  · unfold sendS
    rw [if_neg (by rw [a1, a2]; intro q; rcases q with q | q | q; · cases q
                   · cases q
                   · exact a3 q)]
    unfold addS
    rw [if_neg (by rw [hn]; omega)]
    unfold fullB
    dsimp only
    congr 1
    funext j
    unfold putG setId
    by_cases e : j = (k : Int) + 1
    · rw [if_pos e, if_pos (by omega), e]
    · rw [if_neg e]
      dsimp only
      by_cases e2 : 1 ≤ j ∧ j ≤ (k : Int)
      · rw [if_pos e2, if_pos (by omega)]
      · rw [if_neg e2, if_neg (by omega)]
  · unfold sendV
    rw [if_neg (by rw [a1, a2]; intro q; rcases q with q | q; · cases q
                   · cases q), if_neg a3]
    unfold addV
    rw [if_neg (by rw [hn]; omega), hl]
theorem full_no {f t : Int} {x : ByteArray} (a1 : addrB f = true) (a2 : addrB t = true) (a3 : ¬ 65536 < x.size) : sendS (fullB 400) f t x = fullB 400 ∧ sendV (fullB 400) f t x = (0, 8) := by
  constructor
  · unfold sendS
    rw [if_neg (by rw [a1, a2]; intro q; rcases q with q | q | q; · cases q
                   · cases q
                   · exact a3 q)]
    unfold addS
    rw [if_pos (show 400 ≤ (fullB 400).n from Nat.le_refl 400)]
  · unfold sendV
    rw [if_neg (by rw [a1, a2]; intro q; rcases q with q | q; · cases q
                   · cases q), if_neg a3]
    unfold addV
    rw [if_pos (show 400 ≤ (fullB 400).n from Nat.le_refl 400)]
theorem full_get {i : Int} (h1 : 1 ≤ i) (h2 : i ≤ 400) : (fullB 400).G i = some ⟨i, 1, 2, tx⟩ := by unfold fullB; dsimp only; rw [if_pos ⟨h1, by omega⟩]
theorem full_twice {i : Int} (h1 : 1 ≤ i) (h2 : i ≤ 400) : twiceS (fullB 400) i = fullB 400 ∧ twiceV (fullB 400) i = (0, 8) := by
  unfold twiceS twiceV
  rw [full_get h1 h2]
  dsimp only
  unfold addS addV
  rw [if_pos (show 400 ≤ (fullB 400).n from Nat.le_refl 400), if_pos (show 400 ≤ (fullB 400).n from Nat.le_refl 400)]
  exact ⟨rfl, rfl⟩
theorem full_lose {i : Int} (h1 : 1 ≤ i) (h2 : i ≤ 400) : loseS (fullB 400) i = dropS (fullB 400) i ∧ loseV (fullB 400) i = 0 := by
  unfold loseS loseV
  rw [full_get h1 h2]
  exact ⟨rfl, rfl⟩
theorem full_take {i : Int} (h1 : 1 ≤ i) (h2 : i ≤ 400) : takeS (fullB 400) i = dropS (fullB 400) i ∧ takeV (fullB 400) i = (⟨i, 1, 2, tx⟩, 0) := by
  unfold takeS takeV
  rw [full_get h1 h2]
  dsimp only
  have hc : cutB (fullB 400) 1 2 = false := rfl
  rw [hc]
  exact ⟨rfl, rfl⟩
theorem drop_send (i : Int) : sendV (dropS (fullB 400) i) 1 2 tz = (401, 0) := by rfl
set_option maxRecDepth 100000 in
set_option maxHeartbeats 4000000 in
theorem bagFull_walk (which : Int) (lose : Bool) (w : World) (_hw : (Lit.int .i64 which).wf = true) : Calls Try.prog 6 #[.int .i64 which, .bool lose] w (TruePost w) := by
  obtain ⟨f0, hf0, ef0⟩ := tmod_first which 400 (by decide) (by decide)
  have ef1 : (wrap64 (which.tmod 400 + 400)).tmod 400 = (f0 : Int) := ef0
  go_enter Try.func6, Try.ntmps6
  go_wp2_with (first
    | (go_at_call 9; (with_reducible refine (new_any _).mono ?_); rintro e w1 ⟨p, mb, ab, rfl, h1, p1, p2, p3, b1⟩)
    | (go_at_call 10; (with_reducible refine (awake10_any _).mono ?_); rintro e w2 ⟨rfl, b2⟩; (have h2 := h1.same b2); (have c2 := b1.trans (b2.mono b1.size))))
  rw [full_zero] at h2
  go_loopw [6] (fun i wr => ∃ (k : Nat), i = .int .i64 ((k : Int) + 1) ∧ k ≤ 400 ∧ Bg wr p mb ab (fullB k) ∧ But p mb ab w2 wr) (fun i _ => 401 - (intOf i).toNat)
  case atStart => exact ⟨0, rfl, by decide, h2, But.refl _ _ _ _⟩
  case round =>
    obtain ⟨k, rfl, hk, hB, hb⟩ := hrel
    by_cases hlt : k < 400
    · have z1 : (k : Int) + 1 ≤ 400 := by omega
      obtain ⟨e1, e2⟩ := full_send hlt
      have hl : (fullB k).last < 100000 := by show (k : Int) < 100000; omega
      replace e1 := Lib.hid e1
      replace e2 := Lib.hid e2
      go_wp2_with (go_at_call 13; (with_reducible refine (sendE hB hl e1.out e2.out (by decide)).mono ?_); rintro e w3 ⟨rfl, h3, b3⟩)
      go_roundw
      case rel => exact ⟨k + 1, by go_num, by omega, h3, hb.trans b3⟩
      case measure => simp [intOf]; omega
    · have hk4 : k = 400 := by omega
      subst hk4
      obtain ⟨g1, g2⟩ := full_no (f := 1) (t := 2) (x := ty) rfl rfl (by decide)
      have z2 : (1 : Int) ≤ 1 + (f0 : Int) := by omega
      have z3 : 1 + (f0 : Int) ≤ 400 := by omega
      obtain ⟨t1, t2⟩ := full_twice z2 z3
      have hwf := wf_i64 (k := 1 + (f0 : Int)) (by omega) (by omega)
      have hl4 : (fullB 400).last < 100000 := by show (400 : Int) < 100000; decide
      have hle : (dropS (fullB 400) (1 + (f0 : Int))).last < 100000 := hl4
      obtain ⟨l1, l2⟩ := full_lose z2 z3
      obtain ⟨k1, k2⟩ := full_take z2 z3
      have dv := drop_send (1 + (f0 : Int))
      have hwr : IntKind.i64.wrap (1 + (f0 : Int)) = 1 + (f0 : Int) := IntWalk.i64_in _ (by omega)
      have fin : ∀ W, But p mb ab w2 W → TruePost w (.returned (.bool true)) W := fun W q => ⟨rfl, c2.trans (q.below c2.size p1 p2 p3)⟩
      replace g1 := Lib.hid g1
      replace g2 := Lib.hid g2
      replace t1 := Lib.hid t1
      replace t2 := Lib.hid t2
      replace l1 := Lib.hid l1
      replace l2 := Lib.hid l2
      replace k1 := Lib.hid k1
      replace k2 := Lib.hid k2
      replace dv := Lib.hid dv
      replace fin := Lib.hid fin
      clear z2 z3 hlt
      cases lose with
      | true =>
        go_wp2_with (first
          | (go_at_call 13; (with_reducible refine (sendE hB hl4 g1.out g2.out (by decide)).mono ?_); rintro e w3 ⟨rfl, h3, b3⟩)
          | (go_at_call 16; (with_reducible refine (twiceE h3 hl4 hwf t1.out t2.out).mono ?_); rintro e w4 ⟨rfl, h4, b4⟩; (have hI := (ids_any h4).1); (have hn : (idsL (fullB 400).G (fullB 400).last).length = 400 := (ids_any h4).2); replace hn := Lib.hid hn)
          | (go_at_call 17; (with_reducible refine hI.mono ?_); rintro e w5 ⟨a5, c5, rfl, _, b5⟩; rw [hn.out]; (have h5 := h4.same b5))
          | (go_at_call 15; (with_reducible refine (loseE h5 hwf l1.out l2.out).mono ?_); rintro e w6 ⟨rfl, h6, b6⟩)
          | (go_at_call 13; (with_reducible refine (sendE h6 hle rfl dv.out (by decide)).mono ?_); rintro e w7 ⟨rfl, h7, b7⟩))
        go_ret
        exact fin.out _ (((((hb.trans b3).trans b4).trans (But.of_below b5)).trans b6).trans b7)
      | false =>
        go_wp2_with (first
          | (go_at_call 13; (with_reducible refine (sendE hB hl4 g1.out g2.out (by decide)).mono ?_); rintro e w3 ⟨rfl, h3, b3⟩)
          | (go_at_call 16; (with_reducible refine (twiceE h3 hl4 hwf t1.out t2.out).mono ?_); rintro e w4 ⟨rfl, h4, b4⟩; (have hI := (ids_any h4).1); (have hn : (idsL (fullB 400).G (fullB 400).last).length = 400 := (ids_any h4).2); replace hn := Lib.hid hn)
          | (go_at_call 17; (with_reducible refine hI.mono ?_); rintro e w5 ⟨a5, c5, rfl, _, b5⟩; rw [hn.out]; (have h5 := h4.same b5))
          | (go_at_call 14; (with_reducible refine (takeE h5 hwf k1.out k2.out).mono ?_); rintro e w6 ⟨rfl, h6, b6⟩; (have B6 := belowM w6 ⟨1 + (f0 : Int), 1, 2, tx⟩); (have g6 := h6.same B6); obtain ⟨W6, hW6⟩ : ∃ W, w6.alloc (.cells #[.int .i64 (1 + (f0 : Int)), .int .i64 1, .int .i64 2, .string tx] 42) = W := ⟨_, rfl⟩; simp only [boxM] at B6 g6; rw [hW6] at B6 g6)
          | (go_at_call 13; (with_reducible refine (sendE g6 hle rfl dv.out (by decide)).mono ?_); rintro e w7 ⟨rfl, h7, b7⟩))
        go_ret
        exact fin.out _ ((((((hb.trans b3).trans b4).trans (But.of_below b5)).trans b6).trans (But.of_below B6)).trans b7)
end Go.Proofs.Ytbonokhldonciaa
