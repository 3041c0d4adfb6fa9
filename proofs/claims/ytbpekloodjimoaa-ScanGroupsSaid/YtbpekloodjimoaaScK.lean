/-
  SCAN: contract of the statements' awake.
-/
import Derived.Test.YtbpekloodjimoaaScJ
import Derived.Laws.StructEq
namespace Go.Proofs.Ytbpekloodjimoaa
open Go.RowKit Go.Shelf

def exL : List Sp := [(1, 5), (4, 2), (9, 7)]
def exO : List Sp := [(0, 100)]
theorem ex_page1 : pageP exL exO (-1) 2 = ⟨[(1, 5), (4, 2)], exO, 4, 2, true, 0⟩ := by rfl
theorem ex_page2 : pageP exL exO 4 2 = ⟨[(9, 7)], exO, 9, 2, false, 0⟩ := by rfl
theorem ex_grps : grpsP exL exO 5 = ([(0, 2, 7, 2, 5), (5, 1, 7, 7, 7)], 0) := by rfl
theorem ex_clip : clipP exL exO = exL := by rfl
theorem ex_top {d : List Sp} (h1 : d.Perm exL) (h2 : d.Pairwise topLe) : ∃ t, d = (9, 7) :: t ∧ t.length = 2 := by
  cases d with
  | nil => exact absurd h1.length_eq (by decide)
  | cons x t =>
    have hl := h1.length_eq
    have hx : x ∈ exL := h1.subset (by simp)
    have hm : ((9, 7) : Sp) ∈ x :: t := h1.symm.subset (by simp [exL])
    refine ⟨t, ?_, by simpa [exL] using hl⟩
    rcases List.mem_cons.1 hm with e | hm
    · rw [← e]
    · have ht := List.rel_of_pairwise_cons h2 hm
      unfold topLe at ht
      simp [exL] at hx
      rcases hx with rfl | rfl | rfl
      · simp at ht
      · simp at ht
      · rfl
theorem eqGp (g h : Gp) (w : World) : (binOp .eql 57 (.agg #[.int .i64 g.1, .int .i64 g.2.1, .int .i64 g.2.2.1, .int .i64 g.2.2.2.1, .int .i64 g.2.2.2.2]) (.agg #[.int .i64 h.1, .int .i64 h.2.1, .int .i64 h.2.2.1, .int .i64 h.2.2.2.1, .int .i64 h.2.2.2.2])).run Try.prog w = .ok (.bool (decide (g = h))) w := by
  have u3 := Try.underlying3
  have a3 := Try.isAgg3
  have z3 := Try.sizeOf3
  have hS : Try.prog.underlying 57 = some (.struct (Try.prog.fieldsOf 57)) := by kernel_rfl
  have hp : Try.prog.stoodInHeld 57 = false := by kernel_rfl
  obtain ⟨a, b, c, d, e⟩ := g
  obtain ⟨a', b', c', d', e'⟩ := h
  rw [run_eql_struct, show (10000 : Nat) = 9999 + 1 from rfl, run_equalIn_agg w 9999 57 _ _ hS hp]
  simp only [Program.fieldsOf, Try.underlying57]
  go_simp
  by_cases h1 : a = a' <;> by_cases h2 : b = b' <;> by_cases h3 : c = c' <;> by_cases h4 : d = d' <;> by_cases h5 : e = e' <;> simp [h1, h2, h3, h4, h5]
theorem exArg (w : World) : Arg (w.alloc (.cells #[.int .i64 1, .int .i64 5, .int .i64 4, .int .i64 2, .int .i64 9, .int .i64 7] 43)) (some ⟨w.heap.size, 0, none⟩) 3 3 exL := by
  refine ⟨rfl, by decide, by decide, by unfold maxLen; omega, fun j hj => ⟨w.heap.size, 0, rfl, by simp, ?_, ?_⟩⟩
  all_goals
    have hj' : j < 3 := hj
    match j, hj' with
    | 0, _ => exact cell_of_row _ _ _ _ _ _ (heap_alloc_new _ _)
    | 1, _ => exact cell_of_row _ _ _ _ _ _ (heap_alloc_new _ _)
    | 2, _ => exact cell_of_row _ _ _ _ _ _ (heap_alloc_new _ _)
theorem exArgO (w : World) : Arg (w.alloc (.cells #[.int .i64 0, .int .i64 100] 63)) (some ⟨w.heap.size, 0, none⟩) 1 1 exO := by
  refine ⟨rfl, by decide, by decide, by unfold maxLen; omega, fun j hj => ⟨w.heap.size, 0, rfl, by simp, ?_, ?_⟩⟩
  all_goals
    have hj' : j < 1 := hj
    match j, hj' with
    | 0, _ => exact cell_of_row _ _ _ _ _ _ (heap_alloc_new _ _)
theorem gp_row {W : World} {a : Option Addr} {n c : Nat} {l : List Gp} (h : RArg encGp 5 W a n c l) (j : Nat) (hj : j < l.length) : ∃ b off, a = some ⟨b, off, none⟩ ∧ b < W.heap.size ∧ W.cell? ⟨b, off + j * 5, none⟩ = some (.int .i64 l[j]!.1) ∧ W.cell? ⟨b, off + j * 5 + 1, none⟩ = some (.int .i64 l[j]!.2.1) ∧ W.cell? ⟨b, off + j * 5 + 2, none⟩ = some (.int .i64 l[j]!.2.2.1) ∧ W.cell? ⟨b, off + j * 5 + 3, none⟩ = some (.int .i64 l[j]!.2.2.2.1) ∧ W.cell? ⟨b, off + j * 5 + 4, none⟩ = some (.int .i64 l[j]!.2.2.2.2) := by
  obtain ⟨b, off, e, hb, hc⟩ := h.2.2.2.2 j hj
  exact ⟨b, off, e, hb, hc 0 _ rfl, hc 1 _ rfl, hc 2 _ rfl, hc 3 _ rfl, hc 4 _ rfl⟩
set_option maxRecDepth 100000 in
set_option maxHeartbeats 2000000 in
theorem awake22_any (w : World) : Calls Try.prog 7 #[] w (TruePost w) := by
  obtain ⟨W1, hW1⟩ : ∃ W1, w.alloc (.cells #[.int .i64 1, .int .i64 5, .int .i64 4, .int .i64 2, .int .i64 9, .int .i64 7] 43) = W1 := ⟨_, rfl⟩
  obtain ⟨W2, hW2⟩ : ∃ W2, W1.alloc (.cells #[.int .i64 0, .int .i64 100] 63) = W2 := ⟨_, rfl⟩
  have b1 : Below w.heap.size w W1 := by rw [← hW1]; exact (Below.refl _ _).alloc (Nat.le_refl _) _
  have b2 : Below W1.heap.size W1 W2 := by rw [← hW2]; exact (Below.refl _ _).alloc (Nat.le_refl _) _
  have hL := Lib.hid (show Arg W2 (some ⟨w.heap.size, 0, none⟩) 3 3 exL from Arg.below (by rw [← hW1]; exact exArg w) b2)
  have hO := Lib.hid (show Arg W2 (some ⟨W1.heap.size, 0, none⟩) 1 1 exO from by rw [← hW2]; exact exArgO W1)
  have P1 := Lib.hid (fun W (h : Below W2.heap.size W2 W) => ex_page1 ▸ page_any _ 3 3 exL _ 1 1 exO (-1) 2 W (hL.out.below h) (hO.out.below h))
  have P2 := Lib.hid (fun W (a : Option Addr) (n c : Nat) (h : Below W2.heap.size W2 W) (hA : Arg W a n c exO) => ex_page2 ▸ page_any _ 3 3 exL a n c exO 4 2 W (hL.out.below h) hA)
  have GR := Lib.hid (fun W (h : Below W2.heap.size W2 W) => ex_grps ▸ groups_any _ 3 3 exL _ 1 1 exO 5 W (hL.out.below h) (hO.out.below h))
  have TP := Lib.hid (fun W (h : Below W2.heap.size W2 W) => ex_clip ▸ top_any _ 3 3 exL _ 1 1 exO 2 W (hL.out.below h) (hO.out.below h))
  have EQ := fun w => eqGp (0, 2, 7, 2, 5) (0, 2, 7, 2, 5) w
  dsimp only at EQ
  rw [show decide (((0, 2, 7, 2, 5) : Gp) = (0, 2, 7, 2, 5)) = true from rfl] at EQ
  have HB := Lib.hid (Below.refl W2.heap.size W2)
  go_enter Try.func7, Try.ntmps7
  go_wp2_with (first | (go_at_call 22; (with_reducible refine (P1.out _ HB.out).mono ?_); rintro e wf ⟨a5, n5, c5, a6, n6, c6, rfl, h5, h6, hbf⟩; dsimp only at h5 h6 ⊢; obtain rfl : n5 = 2 := h5.1; obtain rfl : n6 = 1 := h6.1; replace HB := Lib.hid (below_next HB.out hbf); clear hbf; have H6 := Lib.hid h6; clear h5 h6; obtain ⟨W3, hW3⟩ : ∃ W3, wf.alloc (.cells #[.slice a6 1 c6, .int .i64 4, .int .i64 2] 25) = W3 := ⟨_, rfl⟩; have b3 : Below wf.heap.size wf W3 := (by rw [← hW3]; exact (Below.refl _ _).alloc (Nat.le_refl _) _); replace HB := Lib.hid (below_next HB.out b3); replace H6 := Lib.hid (H6.out.below b3); obtain ⟨q0, q1, q2⟩ := box3C (w := wf) (t := 25) (x := .slice a6 1 c6) (y := .int .i64 4) (z := .int .i64 2) (W := W3) (by rw [hW3]; exact Below.refl _ _)) | (go_at_call 22; (with_reducible refine (P2.out _ _ _ _ HB.out H6.out).mono ?_); rintro e wg ⟨a7, n7, c7, a8, n8, c8, rfl, h7, h8, hbf⟩; dsimp only at h7 h8 ⊢; obtain rfl : n7 = 1 := h7.1; clear h7 h8; replace HB := Lib.hid (below_next HB.out hbf); clear hbf; replace HB := Lib.hid (below_next HB.out ((Below.refl wg.heap.size wg).alloc (Nat.le_refl _) (.cells #[.slice a8 n8 c8, .int .i64 9, .int .i64 2] 25)))) | (go_at_call 14; (with_reducible refine (GR.out _ HB.out).mono ?_); rintro e wh ⟨vg, rfl, hg, hbf⟩; obtain ⟨ag, cg, hvg, hrg⟩ := hg.arg encGp_len; subst hvg; have HG := Lib.hid hrg; clear hrg; replace HB := Lib.hid (below_next HB.out hbf); clear hbf) | (go_at_call 20; (with_reducible refine (TP.out _ HB.out).mono ?_); rintro e wi ⟨d, at_, m, ct, rfl, hd1, hd2, hm, hta, hbf⟩; obtain ⟨t, hdt, htl⟩ := ex_top hd1 hd2; obtain rfl : m = 2 := (by rw [hdt, List.length_cons, htl] at hm; simp at hm; omega); rw [hdt] at hta; obtain ⟨bg, og, eg, hbg, s0, s1, s2, s3, s4⟩ := gp_row (HG.out.below hbf) 0 (by simp); obtain ⟨bt, ot, et, hbt, u0, u1⟩ := hta.2.2.2.2 0 (by simp); subst eg; subst et; have s0' : wi.cell? ⟨bg, og, none⟩ = some (.int .i64 0) := s0; have s1' : wi.cell? ⟨bg, og + 1, none⟩ = some (.int .i64 2) := s1; have s2' : wi.cell? ⟨bg, og + 2, none⟩ = some (.int .i64 7) := s2; have s3' : wi.cell? ⟨bg, og + 3, none⟩ = some (.int .i64 2) := s3; have s4' : wi.cell? ⟨bg, og + 4, none⟩ = some (.int .i64 5) := s4; have u0' : wi.cell? ⟨bt, ot, none⟩ = some (.int .i64 9) := u0; clear s0 s1 s2 s3 s4 u0 u1; have hct2 := hta.2.2.1; clear hd1 hd2 hm hta; replace HB := Lib.hid (below_next HB.out hbf); clear hbf; clear hdt))
  go_ret
  exact ⟨rfl, below_next b1 (below_next b2 HB.out)⟩
end Go.Proofs.Ytbpekloodjimoaa
