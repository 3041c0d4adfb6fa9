/-
  CONTRACTS of vint's reader: texts, lists, and what the nil reader answers.
-/
import Derived.Test.YtfnjadiibiedgaaMore
namespace Go.Proofs.Ytfnjadiibiedgaa
open Go.RowKit

theorem rnum_nil (w : World) : Calls Try.prog 69 #[.pointer none] w fun en w' => en = .returned (.int .i64 0) ∧ w = w' := by
  go_enter Try.func69, Try.ntmps69
  go_wp2_with (go_at_call 110; refine (err_nil _).mono ?_; rintro e w' ⟨rfl, rfl⟩)
  go_ret
  exact ⟨rfl, rfl⟩
theorem rwhole_nil (w : World) : Calls Try.prog 71 #[.pointer none] w fun en w' => en = .returned (.int .i64 0) ∧ w = w' := by
  have H := Lib.hid (show unfoldN 0 = 0 from rfl)
  go_enter Try.func71, Try.ntmps71
  go_wp2_with (first | (go_at_call 69; refine (rnum_nil _).mono ?_; rintro e w' ⟨rfl, rfl⟩) | (go_at_call 113; refine (unfold_any 0 _ (by decide) (by decide)).mono ?_; rw [H.out]; rintro e w' ⟨rfl, rfl⟩))
  go_ret
  exact ⟨rfl, rfl⟩
end Go.Proofs.Ytfnjadiibiedgaa
