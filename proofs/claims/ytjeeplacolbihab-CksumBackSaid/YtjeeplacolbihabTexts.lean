/-
  CONTRACTS of the writers of whole numbers (the document's), flags and texts.
-/
import Derived.Test.YtjeeplacolbihabWrite
namespace Go.Proofs.Ytjeeplacolbihab
open Go.RowKit

theorem foldZ_neg {z : Int} (h : z < 0) : foldZ z = -z - z - 1 := by unfold foldZ; rw [if_pos h]; omega
theorem foldZ_pos {z : Int} (h : 0 ≤ z) : foldZ z = z + z := by unfold foldZ; rw [if_neg (by omega)]; omega
theorem wholeS_may {z : Int} (h : mayZ z = true) : wholeS z = numS (foldZ z) := by unfold wholeS; rw [if_pos h]

def flagS (b : Bool) : ByteArray := if b then ⟨#[1]⟩ else ⟨#[0]⟩

theorem numS_size_le (n : Int) (h : n ≤ 9223372036854775807) : (numS n).size ≤ 9 := by
  unfold numS; split
  · simp
  · have := numL_len9 (n := n.toNat) (by omega)
    simpa [ByteArray.size] using this

set_option maxHeartbeats 400000 in
theorem text_any (s : ByteArray) (w : World) (hs : (s.size : Int) ≤ 9000000000000000000) :
    Calls Try.prog 23 #[.string s] w (StrPost (textS s) w) := by
  have hl := numS_size_le s.size (by omega)
  go_enter Try.func23, Try.ntmps23
  go_wp2_with (go_at_call 31; refine (num_any s.size _ (by omega)).mono ?_; rintro e w' ⟨rfl, hb⟩)
  go_ret
  exact ⟨rfl, hb⟩
set_option maxHeartbeats 400000 in
theorem refText_any (s : ByteArray) (w : World) (hs : (s.size : Int) ≤ 9000000000000000000) :
    Calls Try.prog 28 #[.string s] w (StrPost (textS s) w) := by
  have hl := numS_size_le s.size (by omega)
  go_enter Try.func28, Try.ntmps28
  go_wp2_with (go_at_call 33; refine (refNum_any s.size _ (by omega)).mono ?_; rintro e w' ⟨rfl, hb⟩)
  go_ret
  exact ⟨rfl, hb⟩
end Go.Proofs.Ytjeeplacolbihab
