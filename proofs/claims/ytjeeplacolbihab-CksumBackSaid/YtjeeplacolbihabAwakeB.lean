/-
  What was framed is opened; THE PAGE's EXAMPLES of layer 2 (splicelaw02.awake).
-/
import Derived.Test.YtjeeplacolbihabOpen
namespace Go.Proofs.Ytjeeplacolbihab
open Go.RowKit

theorem fourL_len (c : BitVec 32) : (fourL c).length = 4 := rfl
theorem openR_back {s : ByteArray} (r : ByteArray) (hs : s.size ≤ 1048576) : openR (frameS s ++ r) = (s, r, 0) := by
  have e : frameS s ++ r = textS s ++ (fourS (sumL (textS s).data.toList) ++ r) := by unfold frameS; rw [ba_assoc]
  have hb := rText_back (s := s) (most := 1048576) (by omega) (by omega) (fourS (sumL (textS s).data.toList) ++ r)
  rw [e]
  unfold openR
  rw [hb]
  dsimp only
  have h4 : (fourS (sumL (textS s).data.toList)).size = 4 := rfl
  have hz : (fourS (sumL (textS s).data.toList) ++ r).size = 4 + r.size := by rw [size_app', h4]
  rw [if_pos rfl, if_neg (by omega)]
  have hx : (textS s ++ (fourS (sumL (textS s).data.toList) ++ r)).extract 0 ((textS s ++ (fourS (sumL (textS s).data.toList) ++ r)).size - (fourS (sumL (textS s).data.toList) ++ r).size) = textS s := by
    rw [size_app', Nat.add_sub_cancel, ba_head]
  have h0 : ((fourS (sumL (textS s).data.toList) ++ r).extract 0 4).data.toList = fourL (sumL (textS s).data.toList) := by
    rw [ba_take, ba_app]
    show (fourL _ ++ r.data.toList).take 4 = _
    rw [← fourL_len (sumL (textS s).data.toList), List.take_left]
  rw [hx, if_pos h0]
  have h5 := ba_front (fourS (sumL (textS s).data.toList)) r
  rw [h4] at h5
  rw [h5]

theorem tabB : textS ⟨#[97, 98]⟩ = ⟨#[2, 97, 98]⟩ := by
  unfold textS
  rw [show (((⟨#[97, 98]⟩ : ByteArray).size : Nat) : Int) = 2 from rfl, numS_nat (by decide), show (2 : Int).toNat = 2 from rfl, numL_lo (by decide)]; rfl
theorem check : sumL [49, 50, 51, 52, 53, 54, 55, 56, 57] = 0xcbf43926#32 := by decide +kernel
theorem frame_ab : (frameS ⟨#[97, 98]⟩).size = 7 := by unfold frameS; rw [size_app', tabB]; rfl
theorem frame_front : ((frameS ⟨#[97, 98]⟩).extract 0 3).toList = [2, 97, 98] := by
  rw [ByteArray.toList_eq, ba_take]
  unfold frameS
  rw [ba_app, tabB]
  rfl

set_option maxHeartbeats 1000000 in
theorem awake2_any (w : World) : Calls Try.prog 8 #[] w (TruePost w) := by
  have h1 := frame_ab
  have h2 := frame_front
  have H3 := Lib.hid (openR_back (s := ⟨#[97, 98]⟩) ⟨#[122]⟩ (by decide))
  have H4 := Lib.hid (show regI (sumL (⟨#[49, 50, 51, 52, 53, 54, 55, 56, 57]⟩ : ByteArray).data.toList) = 3421780262 by rw [show (⟨#[49, 50, 51, 52, 53, 54, 55, 56, 57]⟩ : ByteArray).data.toList = [49, 50, 51, 52, 53, 54, 55, 56, 57] from rfl, check]; rfl)
  have h5 : ((frameS ⟨#[97, 98]⟩ ++ ⟨#[122]⟩).size : Int) ≤ 9000000000000000000 := by rw [size_app', frame_ab]; decide
  go_enter Try.func8, Try.ntmps8
  go_wp2_with (first
    | (go_at_call 12; refine (frame_any _ _ (by decide)).mono ?_; rintro e w1 ⟨rfl, B1⟩)
    | (go_at_call 9; refine (open_any _ _ h5).mono ?_; rw [H3.out]; rintro e w2 ⟨rfl, B2⟩)
    | (go_at_call 15; refine (sum_any _ _ (by decide)).mono ?_; rw [H4.out]; rintro e w3 ⟨rfl, rfl⟩))
  go_ret
  exact ⟨rfl, below_next B1 B2⟩
end Go.Proofs.Ytjeeplacolbihab
