/-
  MutReads walked.
-/
import Derived.Test.YtfpgelobddglaaaRvI
import Derived.Deep.RegionHeld3
namespace Go.Proofs.Ytfpgelobddglaaa
open Go.RowKit Go.Shelf Go.ChangeShapes Go.WideShapes Go.Deep

theorem mRd_len (s : ByteArray) : (mRd cPairs s).1.l.length ≤ 8 := by
  by_cases h : (mRd cPairs s).2 = 0
  · obtain ⟨c, q, k, l, lo, hi, old, e, hc, _⟩ := mRd_once h
    rw [e]
    exact (chkM_facts hc).2.2.2.1.2
  · rw [mRd_bad h]
    exact Nat.zero_le _

set_option maxRecDepth 100000 in
set_option maxHeartbeats 8000000 in
theorem mutReads_walk (S : ByteArray) (w : World) (_hs : S.size ≤ maxLen) :
    Calls Try.prog 5 #[.string S] w (TruePost w) := by
  have hsz : (S.size : Int) ≤ 9223372036854775807 := by unfold maxLen at _hs; omega
  clear _hs
  by_cases hbig : (S.size : Int) ≤ 5000
  · have hl0 := mRd_len S
    have RP0 := fun W => mread_any S W (by omega)
    have RD0 := fun W => rmread_any S W (by omega)
    rw [mRd_same] at RD0
    generalize mRd cPairs S = r at hl0 RP0 RD0
    obtain ⟨⟨c, q, k, l, lo, hi, old⟩, x⟩ := r
    have hl : l.length ≤ 100000 := by dsimp only at hl0; omega
    have RP : Hid (∀ W, Calls Try.prog 29 #[.string S] W fun e w' => ∃ a1 n1 c1, e = .returned (.tuple #[.agg #[.int .i64 c, .int .i64 q, .int .i64 k, .slice a1 n1 c1, .int .i64 lo, .int .i64 hi, .int .i64 old], .int .i64 x]) ∧ Arg w' a1 n1 c1 l ∧ Below W.heap.size W w') := Lib.hid RP0
    have RD : Hid (∀ W, Calls Try.prog 30 #[.string S] W fun e w' => ∃ a1 n1 c1, e = .returned (.tuple #[.agg #[.int .i64 c, .int .i64 q, .int .i64 k, .slice a1 n1 c1, .int .i64 lo, .int .i64 hi, .int .i64 old], .int .i64 x]) ∧ Arg w' a1 n1 c1 l ∧ Below W.heap.size W w') := Lib.hid RD0
    clear RP0 RD0 hl0
    go_enter Try.func5, Try.ntmps5
    go_wp2_with (first | (go_at_call 29; (with_reducible refine (RP.out _).mono ?_); rintro e w3 ⟨a1, n1, c1, rfl, hx1, hb1⟩; have MA := Mv.new 26 w3 c q k (.slice a1 n1 c1) lo hi old; have hx1' := hx1.below ((Below.refl _ _).alloc (Nat.le_refl _) (.cells #[.int .i64 c, .int .i64 q, .int .i64 k, .slice a1 n1 c1, .int .i64 lo, .int .i64 hi, .int .i64 old] 26)); have bA := hb1.alloc hb1.size (.cells #[.int .i64 c, .int .i64 q, .int .i64 k, .slice a1 n1 c1, .int .i64 lo, .int .i64 hi, .int .i64 old] 26)) | (go_at_call 30; (with_reducible refine (RD.out _).mono ?_); rintro e w4 ⟨a2, n2, c2, rfl, hx2, hb2⟩; have MB := (MA.below hb2).grown (World.grownBy_alloc w4 (.cells #[.int .i64 c, .int .i64 q, .int .i64 k, .slice a2 n2 c2, .int .i64 lo, .int .i64 hi, .int .i64 old] 35) none) (by simp); have MC := Mv.new 35 w4 c q k (.slice a2 n2 c2) lo hi old; have hx2' := hx2.below ((Below.refl _ _).alloc (Nat.le_refl _) (.cells #[.int .i64 c, .int .i64 q, .int .i64 k, .slice a2 n2 c2, .int .i64 lo, .int .i64 hi, .int .i64 old] 35)); have hx1'' := (hx1'.below hb2).below ((Below.refl _ _).alloc (Nat.le_refl _) (.cells #[.int .i64 c, .int .i64 q, .int .i64 k, .slice a2 n2 c2, .int .i64 lo, .int .i64 hi, .int .i64 old] 35)); have bB := (below_next bA hb2).alloc (below_next bA hb2).size (.cells #[.int .i64 c, .int .i64 q, .int .i64 k, .slice a2 n2 c2, .int .i64 lo, .int .i64 hi, .int .i64 old] 35)))
    obtain ⟨WW, hWW⟩ : ∃ WW, w4.alloc (.cells #[.int .i64 c, .int .i64 q, .int .i64 k, .slice a2 n2 c2, .int .i64 lo, .int .i64 hi, .int .i64 old] 35) = WW := ⟨_, rfl⟩
    rw [hWW] at MB MC hx2' hx1'' bB ⊢
    have K := Lib.hid (fun W (h : Below WW.heap.size WW W) => And.intro (MB.below h).cells (MC.below h).cells)
    have HS := Lib.hid (((Env.mk (L := []) (Below.refl WW.heap.size WW) (by simp)).add hx2').add hx1'')
    obtain ⟨⟨p0, p1, p2, p3, p4, p5, p6⟩, q0, q1, q2, q3, q4, q5, q6⟩ := K.out _ HS.out.low
    have sw : w.heap.size ≤ WW.heap.size := bB.size
    clear MA MB MC hx1 hx1' hx2 hx2' hx1'' hb1 hb2 bA
    replace hWW := Lib.hid hWW
    replace HS := Lib.hid (show Env WW WW.drew _ from env_drew HS.out)
    go_region_held3 (fun w' => w'.cell? ⟨w3.heap.size, 0, none⟩ = some (.int .i64 c) ∧ w'.cell? ⟨w3.heap.size, 1, none⟩ = some (.int .i64 q) ∧ w'.cell? ⟨w3.heap.size, 2, none⟩ = some (.int .i64 k) ∧ w'.cell? ⟨w3.heap.size, 3, none⟩ = some (.slice a1 n1 c1) ∧ w'.cell? ⟨w3.heap.size, 4, none⟩ = some (.int .i64 lo) ∧ w'.cell? ⟨w3.heap.size, 5, none⟩ = some (.int .i64 hi) ∧ w'.cell? ⟨w3.heap.size, 6, none⟩ = some (.int .i64 old) ∧ w'.cell? ⟨w4.heap.size, 0, none⟩ = some (.int .i64 c) ∧ w'.cell? ⟨w4.heap.size, 1, none⟩ = some (.int .i64 q) ∧ w'.cell? ⟨w4.heap.size, 2, none⟩ = some (.int .i64 k) ∧ w'.cell? ⟨w4.heap.size, 3, none⟩ = some (.slice a2 n2 c2) ∧ w'.cell? ⟨w4.heap.size, 4, none⟩ = some (.int .i64 lo) ∧ w'.cell? ⟨w4.heap.size, 5, none⟩ = some (.int .i64 hi) ∧ w'.cell? ⟨w4.heap.size, 6, none⟩ = some (.int .i64 old)) (first | exact ⟨p0, p1, p2, p3, p4, p5, p6, q0, q1, q2, q3, q4, q5, q6⟩ | go_keep) ((first | (go_at_call 15; (with_reducible refine (awake4_any _).mono ?_); rintro e w5 ⟨rfl, hb⟩; replace HS := Lib.hid (HS.out.step hb); clear hb; obtain ⟨⟨p0, p1, p2, p3, p4, p5, p6⟩, q0, q1, q2, q3, q4, q5, q6⟩ := K.out _ HS.out.low) | (go_at_call 18; (with_reducible refine (ref4_any c q k a1 n1 c1 l lo hi old _ hl (HS.out.get (by repeat (first | exact List.mem_cons_self | apply List.mem_cons_of_mem)))).mono ?_); rintro e w6 ⟨ra, rn, rp, rfl, hx, hb⟩; replace HS := Lib.hid ((HS.out.step hb).add hx); clear hb; obtain ⟨⟨p0, p1, p2, p3, p4, p5, p6⟩, q0, q1, q2, q3, q4, q5, q6⟩ := K.out _ HS.out.low) | (go_at_call 31; (with_reducible refine (rsame4_any c q k ra rn rp l lo hi old c q k a2 n2 c2 l lo hi old _ (HS.out.get (by repeat (first | exact List.mem_cons_self | apply List.mem_cons_of_mem))) (HS.out.get (by repeat (first | exact List.mem_cons_self | apply List.mem_cons_of_mem)))).mono ?_); rw [decide_eq_true ⟨rfl, rfl, rfl, rfl, rfl, rfl⟩]; rintro e w7 ⟨rfl, hb⟩; replace HS := Lib.hid (HS.out.step hb); clear hb; obtain ⟨⟨p0, p1, p2, p3, p4, p5, p6⟩, q0, q1, q2, q3, q4, q5, q6⟩ := K.out _ HS.out.low) | fail))
    all_goals
      go_wp2
      go_ret
      exact ⟨ret_bool (by simp), bB.trans (HS.out.low.mono sw)⟩
  · have hbig' : ¬ (S.size : Int) ≤ 5000 := hbig
    go_enter Try.func5, Try.ntmps5
    go_wp2_with (first | (go_at_call 15; (with_reducible refine (awake4_any _).mono ?_); rintro e w5 ⟨rfl, hb⟩))
    go_ret
    exact ⟨rfl, hb⟩
end Go.Proofs.Ytfpgelobddglaaa
