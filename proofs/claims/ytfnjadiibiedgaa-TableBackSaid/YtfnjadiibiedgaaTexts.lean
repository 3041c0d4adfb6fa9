/-
  CONTRACTS of the writers of whole numbers (the document's), flags and texts.
-/
import Derived.Test.YtfnjadiibiedgaaWrite
namespace Go.Proofs.Ytfnjadiibiedgaa
open Go.RowKit

theorem foldZ_neg {z : Int} (h : z < 0) : foldZ z = -z - z - 1 := by unfold foldZ; rw [if_pos h]; omega
theorem foldZ_pos {z : Int} (h : 0 ≤ z) : foldZ z = z + z := by unfold foldZ; rw [if_neg (by omega)]; omega
theorem wholeS_may {z : Int} (h : mayZ z = true) : wholeS z = numS (foldZ z) := by unfold wholeS; rw [if_pos h]

set_option maxHeartbeats 400000 in
theorem refWhole_any (z : Int) (w : World) :
    Calls Try.prog 67 #[.int .i64 z] w (StrPost (wholeS z) w) := by
  cases hz : mayZ z
  · have H := Lib.hid (wholeS_no hz)
    have HZ := Lib.hid hz
    clear hz
    go_enter Try.func67, Try.ntmps67
    go_wp2_with (go_at_call 109; refine (may_any z _).mono ?_; rw [HZ.out]; rintro e w' ⟨rfl, rfl⟩)
    go_ret
    exact ⟨by rw [H.out]; rfl, Below.refl _ _⟩
  · have hz' : -4611686018427387904 ≤ z ∧ z ≤ 4611686018427387903 := by unfold mayZ at hz; simpa using hz
    obtain ⟨z3, z4⟩ := hz'
    have H := Lib.hid (wholeS_may hz)
    have HZ := Lib.hid hz
    clear hz
    by_cases h : z < 0
    · have HF := Lib.hid (foldZ_neg h)
      have hw : wrap64 (wrap64 (-z - z) - 1) = -z - z - 1 := by simp [wrap64]; omega
      go_enter Try.func67, Try.ntmps67
      go_wp2_with (first | (go_at_call 109; refine (may_any z _).mono ?_; rw [HZ.out]; rintro e w' ⟨rfl, rfl⟩) | (go_at_call 66; refine (refNum_any (-z - z - 1) _ (by omega)).mono ?_; rintro e w' ⟨rfl, hb⟩))
      go_ret
      exact ⟨by rw [H.out, HF.out]; rfl, hb⟩
    · have HF := Lib.hid (foldZ_pos (Int.not_lt.1 h))
      go_enter Try.func67, Try.ntmps67
      go_wp2_with (first | (go_at_call 109; refine (may_any z _).mono ?_; rw [HZ.out]; rintro e w' ⟨rfl, rfl⟩) | (go_at_call 66; refine (refNum_any (z + z) _ (by omega)).mono ?_; rintro e w' ⟨rfl, hb⟩))
      go_ret
      exact ⟨by rw [H.out, HF.out]; rfl, hb⟩

def flagS (b : Bool) : ByteArray := if b then ⟨#[1]⟩ else ⟨#[0]⟩

theorem numS_size_le (n : Int) (h : n ≤ 9223372036854775807) : (numS n).size ≤ 9 := by
  unfold numS; split
  · simp
  · have := numL_len9 (n := n.toNat) (by omega)
    simpa [ByteArray.size] using this

end Go.Proofs.Ytfnjadiibiedgaa
