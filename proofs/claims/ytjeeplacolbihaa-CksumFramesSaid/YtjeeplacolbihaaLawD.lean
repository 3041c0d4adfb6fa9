/-
  THE WALKS of the laws CksumSums, CksumFrames, CksumApart: each returns true, and writes nothing that was there.
-/
import Derived.Test.YtjeeplacolbihaaAwakeB
namespace Go.Proofs.Ytjeeplacolbihaa
open Go.RowKit

set_option maxHeartbeats 1000000 in
theorem cksumSums_walk (s : ByteArray) (w : World) (_hs : s.size ≤ maxLen) :
    Calls Try.prog 13 #[.string s] w fun e w' => e = .returned (.bool true) ∧ Below w.heap.size w w' := by
  by_cases h1 : 20000 < s.size
  · go_enter Try.func13, Try.ntmps13
    go_wp2_with (go_at_call 43; refine (awake2_any _).mono ?_; rintro e w0 ⟨rfl, B0⟩)
    go_ret
    exact ⟨rfl, B0⟩
  · have hs : (s.size : Int) ≤ 9000000000000000000 := by omega
    go_enter Try.func13, Try.ntmps13
    go_wp2_with (first
      | (go_at_call 43; refine (awake2_any _).mono ?_; rintro e w0 ⟨rfl, B0⟩)
      | (go_at_call 44; refine (sum_any _ _ hs).mono ?_; rintro e w' ⟨rfl, rfl⟩)
      | (go_at_call 45; refine (refSum_any _ _ hs).mono ?_; rintro e w' ⟨rfl, rfl⟩))
    go_ret
    exact ⟨rfl, B0⟩

set_option maxHeartbeats 1000000 in
theorem cksumFrames_walk (s : ByteArray) (w : World) (_hs : s.size ≤ maxLen) :
    Calls Try.prog 14 #[.string s] w fun e w' => e = .returned (.bool true) ∧ Below w.heap.size w w' := by
  by_cases h1 : 1048576 < s.size
  · go_enter Try.func14, Try.ntmps14
    go_wp2_with (first
      | (go_at_call 46; refine (frame_long _ _ h1).mono ?_; rintro e w1 ⟨rfl, B1⟩)
      | (go_at_call 43; refine (awake2_any _).mono ?_; rintro e w0 ⟨rfl, B0⟩))
    go_ret
    exact ⟨rfl, below_next B1 B0⟩
  · have h1' : s.size ≤ 1048576 := by omega
    by_cases h2 : 20000 < s.size
    · go_enter Try.func14, Try.ntmps14
      go_wp2_with (first
        | (go_at_call 46; refine (frame_any _ _ h1').mono ?_; rintro e w1 ⟨rfl, B1⟩)
        | (go_at_call 43; refine (awake2_any _).mono ?_; rintro e w0 ⟨rfl, B0⟩))
      go_ret
      exact ⟨rfl, below_next B1 B0⟩
    · go_enter Try.func14, Try.ntmps14
      go_wp2_with (first
        | (go_at_call 46; refine (frame_any _ _ h1').mono ?_; rintro e w1 ⟨rfl, B1⟩)
        | (go_at_call 47; refine (refFrame_any _ _ h1').mono ?_; rintro e w2 ⟨rfl, B2⟩)
        | (go_at_call 43; refine (awake2_any _).mono ?_; rintro e w0 ⟨rfl, B0⟩))
      go_ret
      exact ⟨rfl, below_next (below_next B1 B2) B0⟩

theorem frameS_inj {a b : ByteArray} (ha : a.size ≤ 1048576) (hb : b.size ≤ 1048576) (h : frameS a = frameS b) : a = b := by
  have h1 := openR_back ByteArray.empty ha
  rw [h, openR_back ByteArray.empty hb] at h1
  exact (congrArg Prod.fst h1).symm
theorem frame_beq {a b : ByteArray} (ha : a.size ≤ 1048576) (hb : b.size ≤ 1048576) : ((frameS a).toList == (frameS b).toList) = (a.toList == b.toList) := by
  simp only [ByteArray.toList_eq]
  rw [Bool.eq_iff_iff]
  simp only [beq_iff_eq]
  constructor
  · intro h; rw [frameS_inj ha hb (ba_ext h)]
  · intro h; rw [ba_ext h]

end Go.Proofs.Ytjeeplacolbihaa
