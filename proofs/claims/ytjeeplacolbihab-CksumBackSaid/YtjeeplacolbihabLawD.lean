/-
  THE WALKS of the laws CksumSums, CksumFrames, CksumApart: each returns true, and writes nothing that was there.
-/
import Derived.Test.YtjeeplacolbihabAwakeB
namespace Go.Proofs.Ytjeeplacolbihab
open Go.RowKit

theorem frameS_inj {a b : ByteArray} (ha : a.size ≤ 1048576) (hb : b.size ≤ 1048576) (h : frameS a = frameS b) : a = b := by
  have h1 := openR_back ByteArray.empty ha
  rw [h, openR_back ByteArray.empty hb] at h1
  exact (congrArg Prod.fst h1).symm
theorem frame_beq {a b : ByteArray} (ha : a.size ≤ 1048576) (hb : b.size ≤ 1048576) : ((frameS a).toList == (frameS b).toList) = (a.toList == b.toList) := by
  simp only [ByteArray.toList_eq]
  rw [Bool.eq_iff_iff]
  simp only [beq_iff_eq]
  constructor
  · intro h; rw [frameS_inj ha hb (ba_ext h)]
  · intro h; rw [ba_ext h]

set_option maxHeartbeats 1000000 in
theorem cksumApart_walk (a b : ByteArray) (w : World) (_ha : a.size ≤ maxLen) (_hb : b.size ≤ maxLen) :
    Calls Try.prog 7 #[.string a, .string b] w fun e w' => e = .returned (.bool true) ∧ Below w.heap.size w w' := by
  by_cases h1 : 20000 < a.size
  · go_enter Try.func7, Try.ntmps7
    go_wp2_with (go_at_call 8; refine (awake2_any _).mono ?_; rintro e w0 ⟨rfl, B0⟩)
    go_ret
    exact ⟨rfl, B0⟩
  · by_cases h2 : 20000 < b.size
    · go_enter Try.func7, Try.ntmps7
      go_wp2_with (go_at_call 8; refine (awake2_any _).mono ?_; rintro e w0 ⟨rfl, B0⟩)
      go_ret
      exact ⟨rfl, B0⟩
    · have ha : a.size ≤ 1048576 := by omega
      have hb : b.size ≤ 1048576 := by omega
      have hq := frame_beq ha hb
      cases he : (a.toList == b.toList)
      all_goals
        rw [he] at hq
        go_enter Try.func7, Try.ntmps7
        go_wp2_with fail
        refine (frame_any _ _ ha).mono ?_
        rintro e w1 ⟨rfl, B1⟩
        go_wp2_with fail
        refine (frame_any _ _ hb).mono ?_
        rintro e w2 ⟨rfl, B2⟩
        go_wp2_with (go_at_call 8; refine (awake2_any _).mono ?_; rintro e w0 ⟨rfl, B0⟩)
        go_ret
        exact ⟨rfl, below_next (below_next B1 B2) B0⟩
end Go.Proofs.Ytjeeplacolbihab
