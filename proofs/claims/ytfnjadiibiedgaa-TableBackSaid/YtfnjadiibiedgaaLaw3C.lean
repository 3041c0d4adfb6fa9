/-
  THE WALKS of SpanMakes, SpanJoins, SpanMeets, SpanLesses.
-/
import Derived.Test.YtfnjadiibiedgaaLaw3B
import Derived.Test.YtfnjadiibiedgaaRefF3
namespace Go.Proofs.Ytfnjadiibiedgaa
open Go.RowKit Go.Shelf

theorem limP_len {L S : List Sp} {x : Int} (h : limP L = (S, x)) : S.length ≤ 100000 := by
  unfold limP at h
  split at h
  · cases h; omega
  · cases h; simp
theorem makeP_len {A S : List Sp} {x : Int} (h : makeP A = (S, x)) : S.length ≤ 100000 := by
  unfold makeP at h
  split at h
  · exact limP_len h
  · cases h; simp
theorem lessP_len {A B l : List Sp} {e : Int} (h : lessP A B = (l, e)) : l.length ≤ 100000 := by have := mixP_len (fun x y => x && !y) A B; rw [show mixP (fun x y => x && !y) A B = (l, e) from h] at this; dsimp only at this; omega

end Go.Proofs.Ytfnjadiibiedgaa
