/-
  CONTRACT of awake (of the statements on mutations).
-/
import Derived.Test.YtfnjadiibiedgaaMutG
namespace Go.Proofs.Ytfnjadiibiedgaa
open Go.RowKit Go.Shelf

theorem touch_ex : touchL 1 1 5 [(9, 3), (4, 3)] 0 0 0 = [(4, 5), (9, 10)] := by
  have h1 : chkM 1 1 5 [(9, 3), (4, 3)] 0 0 0 = true := by decide +kernel
  unfold touchL
  rw [if_pos h1, if_neg (by decide)]
  refine (setOf_eq (by decide) fun k _ _ => ?_).symm
  rw [Bool.eq_iff_iff]
  simp only [List.map, sing, hasB_cons, hasB_nil, Bool.or_eq_true, inB_iff]
  simp
  omega
theorem text_ex : textT 1 2 1 [(5, 7)] 0 0 0 = [1, 2, 1, 1, 5, 14] := by decide +kernel

set_option maxRecDepth 100000 in
set_option maxHeartbeats 1000000 in
theorem awake4_any (w : World) : Calls Try.prog 15 #[] w (TruePost w) := by
  have A1 := Lib.hid (arg_new w 90 [(9, 3), (4, 3)] #[.int .i64 9, .int .i64 3, .int .i64 4, .int .i64 3] rfl (by simp))
  have A2 := Lib.hid (fun w1 => arg_new w1 90 [(5, 7)] #[.int .i64 5, .int .i64 7] rfl (by simp))
  have E2 := fun w => eqSpan 9 10 9 10 w
  have b0 : Below w.heap.size w (w.alloc (.cells #[.int .i64 9, .int .i64 3, .int .i64 4, .int .i64 3] 90)) := (Below.refl _ _).alloc (Nat.le_refl _) _
  go_enter Try.func15, Try.ntmps15
  go_wp2_with (first | (go_at_call 16; refine (mtouch_any _ _ _ _ _ _ _ _ _ _ _ A1.out).mono ?_; rw [touch_ex]; rintro e w1 ⟨a1, n1, c1, rfl, h1, b1⟩; have b1' := below_next b0 b1; obtain ⟨rfl, g1, o1, rfl, hg1, _, _, x0, x1⟩ := h1.two; clear h1) | (go_at_call 27; refine (mtext_any _ _ _ _ _ _ _ _ _ _ _ (A2.out w1)).mono ?_; rw [text_ex]; rintro e w2 ⟨rfl, b2⟩; have b2' := below_next (below_alloc b1' (.cells #[.int .i64 5, .int .i64 7] 90)) b2; have z0 := (b2.cell (p := ⟨g1, o1 + 2, none⟩) (by simp; omega)).trans ((World.cell?_alloc_lt w1 _ ⟨g1, o1 + 2, none⟩ hg1).trans x0); have z1 := (b2.cell (p := ⟨g1, o1 + 2 + 1, none⟩) (by simp; omega)).trans ((World.cell?_alloc_lt w1 _ ⟨g1, o1 + 2 + 1, none⟩ hg1).trans x1); clear x0 x1))
  go_ret
  exact ⟨rfl, b2'⟩
end Go.Proofs.Ytfnjadiibiedgaa
