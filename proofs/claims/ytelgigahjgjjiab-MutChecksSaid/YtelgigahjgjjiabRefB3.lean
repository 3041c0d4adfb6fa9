/-
  CONTRACTS of the document's Check and Has on spans; of Keys.
-/
import Derived.Test.YtelgigahjgjjiabRefA3
import Derived.Shelf.SlSortCmp.QuietGrown
import Derived.IntWalk
namespace Go.Proofs.Ytelgigahjgjjiab
open Go.RowKit Go.Shelf
open Go.Sort (grow)

theorem rone_grow (s : Sp) (W : World) : Calls Try.prog 35 #[.agg #[.int .i64 s.1, .int .i64 s.2]] W fun e w' => e = .returned (.bool (oneB s)) ∧ ∃ q os', w' = grow (W.drewN q) os' := by
  obtain ⟨x, y⟩ := s
  have H := Lib.hid (show oneB (x, y) = decide (0 ≤ x ∧ x < y ∧ y ≤ 4096) from rfl)
  generalize oneB (x, y) = r at H
  go_enter Try.func35, Try.ntmps35
  go_wp2
  all_goals
    go_ret
    exact ⟨ret_bool (by rw [H.out]; first | (simp [*]; done) | (simp [*]; omega)), 0, _, by rw [Go.Sort.alloc_eq_grow]; rfl⟩
theorem rone_is {x y : Int} {r : Bool} (h : oneB (x, y) = r) (W : World) : Calls Try.prog 35 #[.agg #[.int .i64 x, .int .i64 y]] W fun e w' => e = .returned (.bool r) ∧ ∃ q os', w' = grow (W.drewN q) os' := by
  subst h; exact rone_grow (x, y) W
theorem below_growN {B : Nat} {w w' : World} (h : Below B w w') (hB : B ≤ w'.heap.size) (n : Nat) (os : Array Obj) : Below B w (grow (w'.drewN n) os) :=
  h.trans ⟨rfl, rfl, rfl, by simp [grow], fun k hk => by
    rw [Go.Sort.heap_grow_old _ _ (by simp; omega)]; rfl⟩

end Go.Proofs.Ytelgigahjgjjiab
