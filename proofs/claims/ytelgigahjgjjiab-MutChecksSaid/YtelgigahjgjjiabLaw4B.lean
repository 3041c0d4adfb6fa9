/-
  MutOrder walked.
-/
import Derived.Test.YtelgigahjgjjiabLaw4A
namespace Go.Proofs.Ytelgigahjgjjiab
open Go.RowKit Go.Shelf Go.ChangeShapes Go.WideShapes Go.Deep

set_option maxRecDepth 100000 in
set_option maxHeartbeats 4000000 in
theorem mutOrder_walk (t1 c1 s1 t2 c2 s2 t3 c3 s3 : Int) (w : World) :
    Calls Try.prog 10 #[.agg #[.int .i64 t1, .int .i64 c1, .int .i64 s1], .agg #[.int .i64 t2, .int .i64 c2, .int .i64 s2], .agg #[.int .i64 t3, .int .i64 c3, .int .i64 s3]] w (TruePost w) := by
  have mixed : Try.prog.follows .mixedOrders = true := by kernel_rfl
  have bw : Below w.heap.size w (((w.alloc (.cells #[.int .i64 t1, .int .i64 c1, .int .i64 s1] 58)).alloc (.cells #[.int .i64 t2, .int .i64 c2, .int .i64 s2] 58)).alloc (.cells #[.int .i64 t3, .int .i64 c3, .int .i64 s3] 58)) := (((Below.refl _ _).alloc (Nat.le_refl _) _).alloc (by simp) _).alloc (by simp; omega) _
  have sw : w.heap.size ≤ (((w.alloc (.cells #[.int .i64 t1, .int .i64 c1, .int .i64 s1] 58)).alloc (.cells #[.int .i64 t2, .int .i64 c2, .int .i64 s2] 58)).alloc (.cells #[.int .i64 t3, .int .i64 c3, .int .i64 s3] 58)).heap.size := bw.size
  have K9 := Lib.hid (fun W (h : Below (((w.alloc (.cells #[.int .i64 t1, .int .i64 c1, .int .i64 s1] 58)).alloc (.cells #[.int .i64 t2, .int .i64 c2, .int .i64 s2] 58)).alloc (.cells #[.int .i64 t3, .int .i64 c3, .int .i64 s3] 58)).heap.size (((w.alloc (.cells #[.int .i64 t1, .int .i64 c1, .int .i64 s1] 58)).alloc (.cells #[.int .i64 t2, .int .i64 c2, .int .i64 s2] 58)).alloc (.cells #[.int .i64 t3, .int .i64 c3, .int .i64 s3] 58)) W) => st9 h)
  obtain ⟨W1, hW1⟩ : ∃ W1, ((w.alloc (.cells #[.int .i64 t1, .int .i64 c1, .int .i64 s1] 58)).alloc (.cells #[.int .i64 t2, .int .i64 c2, .int .i64 s2] 58)).alloc (.cells #[.int .i64 t3, .int .i64 c3, .int .i64 s3] 58) = W1 := ⟨_, rfl⟩
  rw [hW1] at K9 bw sw
  have hE : Env W1 W1 [] := Env.mk (Below.refl _ _) (by simp)
  have F : ∀ p : EnvW W1 [], p.W.cell? ⟨w.heap.size, 0, none⟩ = some (.int .i64 t1) ∧ p.W.cell? ⟨w.heap.size, 1, none⟩ = some (.int .i64 c1) ∧ p.W.cell? ⟨w.heap.size, 2, none⟩ = some (.int .i64 s1) ∧ p.W.cell? ⟨w.heap.size + 1, 0, none⟩ = some (.int .i64 t2) ∧ p.W.cell? ⟨w.heap.size + 1, 1, none⟩ = some (.int .i64 c2) ∧ p.W.cell? ⟨w.heap.size + 1, 2, none⟩ = some (.int .i64 s2) := fun p => by
    obtain ⟨q0, q1, q2, q3, q4, q5, _⟩ := K9.out _ p.h.low
    exact ⟨q0, q1, q2, q3, q4, q5⟩
  have F0 := fun p => (F p).1
  have F1 := fun p => (F p).2.1
  have F2 := fun p => (F p).2.2.1
  have F3 := fun p => (F p).2.2.2.1
  have F4 := fun p => (F p).2.2.2.2.1
  have F5 := fun p => (F p).2.2.2.2.2
  clear F
  have hne : Nonempty (EnvW W1 []) := ⟨⟨_, hE⟩⟩
  obtain ⟨v12, h12⟩ : ∃ v, cmpS t1 c1 s1 t2 c2 s2 = v := ⟨_, rfl⟩
  obtain ⟨v21, h21⟩ : ∃ v, cmpS t2 c2 s2 t1 c1 s1 = v := ⟨_, rfl⟩
  obtain ⟨v23, h23⟩ : ∃ v, cmpS t2 c2 s2 t3 c3 s3 = v := ⟨_, rfl⟩
  obtain ⟨v13, h13⟩ : ∃ v, cmpS t1 c1 s1 t3 c3 s3 = v := ⟨_, rfl⟩
  have hneg := cmp_neg t1 c1 s1 t2 c2 s2
  have htr := @cmp_trans t1 c1 s1 t2 c2 s2 t3 c3 s3
  have hbd := cmp_bd t2 c2 s2 t1 c1 s1
  rw [h12, h23, h13] at htr
  rw [h12, h21] at hneg
  rw [h21] at hbd
  have C12 := Lib.hid (fun (p : EnvW W1 []) => env_of (v := .int .i64 v12) p (h12 ▸ compare_any t1 c1 s1 t2 c2 s2 p.W))
  have C21 := Lib.hid (fun (p : EnvW W1 []) => env_of (v := .int .i64 v21) p (h21 ▸ compare_any t2 c2 s2 t1 c1 s1 p.W))
  have hq : (v12 != -v21) = false := by simp [hneg]
  have hw : IntKind.i64.wrap (-v21) = -v21 := IntWalk.i64_in _ (by omega)
  obtain ⟨b0, b1⟩ := hbd
  replace h12 := Lib.hid h12
  replace h21 := Lib.hid h21
  replace h23 := Lib.hid h23
  replace h13 := Lib.hid h13
  replace hneg := Lib.hid hneg
  have hcase : 0 < v12 ∨ (v12 ≤ 0 ∧ (0 < v23 ∨ (v23 ≤ 0 ∧ v13 ≤ 0))) := by
    by_cases p1 : 0 < v12
    · exact .inl p1
    · by_cases p2 : 0 < v23
      · exact .inr ⟨by omega, .inl p2⟩
      · exact .inr ⟨by omega, .inr ⟨by omega, htr (by omega) (by omega)⟩⟩
  clear htr
  rcases hcase with p1 | ⟨p1, p2 | ⟨p2, p3⟩⟩
  all_goals
    go_enter Try.func10, Try.ntmps10
    go_wp2
    replace hW1 := Lib.hid hW1
    refine wp_region_quiet_env hE mixed (by kernel_rfl) ?_
    repeat (first | go_big_quiet_step (first | (go_at_call 32; with_reducible exact C12.out _) | (go_at_call 32; with_reducible exact C21.out _)) | quiet_step (first | (go_at_call 32; with_reducible exact C12.out _) | (go_at_call 32; with_reducible exact C21.out _)))
    refine wpQuiet_nil ?_
    intro _ hw'
    obtain ⟨⟨W9, hE9⟩, hw''⟩ := hw'
    subst hw''
    have HS := Lib.hid hE9
    obtain ⟨q0, q1, q2, q3, q4, q5, q6, q7, q8⟩ := K9.out _ HS.out.low
    go_wp2_with (first | (go_at_call 13; refine (awake4_any _).mono ?_; rintro e w' ⟨rfl, hb⟩; replace HS := Lib.hid (HS.out.step hb); obtain ⟨q0, q1, q2, q3, q4, q5, q6, q7, q8⟩ := K9.out _ HS.out.low) | (go_at_call 32; (with_reducible refine (compare_any t1 c1 s1 t2 c2 s2 _).mono ?_); rw [h12.out]; rintro e w' ⟨rfl, hb⟩; replace HS := Lib.hid (HS.out.step hb); obtain ⟨q0, q1, q2, q3, q4, q5, q6, q7, q8⟩ := K9.out _ HS.out.low) | (go_at_call 32; (with_reducible refine (compare_any t2 c2 s2 t3 c3 s3 _).mono ?_); rw [h23.out]; rintro e w' ⟨rfl, hb⟩; replace HS := Lib.hid (HS.out.step hb); obtain ⟨q0, q1, q2, q3, q4, q5, q6, q7, q8⟩ := K9.out _ HS.out.low) | (go_at_call 32; (with_reducible refine (compare_any t1 c1 s1 t3 c3 s3 _).mono ?_); rw [h13.out]; rintro e w' ⟨rfl, hb⟩; replace HS := Lib.hid (HS.out.step hb); obtain ⟨q0, q1, q2, q3, q4, q5, q6, q7, q8⟩ := K9.out _ HS.out.low))
    go_ret
    exact ⟨ret_bool (by first | rfl | (simp; omega)), bw.trans (HS.out.low.mono sw)⟩
end Go.Proofs.Ytelgigahjgjjiab
