/-
  MutTexts walked.
-/
import Derived.Test.YtfpgelobddglaaaRvC
import Derived.Deep.RegionHeld3
namespace Go.Proofs.Ytfpgelobddglaaa
open Go.RowKit Go.Shelf Go.ChangeShapes Go.WideShapes Go.Deep

set_option maxRecDepth 100000 in
set_option maxHeartbeats 4000000 in
theorem mutTexts_walk (c s k : Int) (a : Option Addr) (n cp : Nat) (l : List Sp) (lo hi old : Int) (w : World) (hA : Arg w a n cp l) :
    Calls Try.prog 4 #[.agg #[.int .i64 c, .int .i64 s, .int .i64 k, .slice a n cp, .int .i64 lo, .int .i64 hi, .int .i64 old]] w (TruePost w) := by
  have hz : (n : Int) ≤ 9223372036854775807 := by have h1 := hA.1; have h2 := hA.2.1; omega
  have hln := hA.1
  obtain ⟨W1, hW1⟩ : ∃ W1, w.alloc (.cells #[.int .i64 c, .int .i64 s, .int .i64 k, .slice a n cp, .int .i64 lo, .int .i64 hi, .int .i64 old] 26) = W1 := ⟨_, rfl⟩
  have bw : Below w.heap.size w W1 := by rw [← hW1]; exact (Below.refl _ _).alloc (Nat.le_refl _) _
  have sw : w.heap.size ≤ W1.heap.size := bw.size
  have K7 := Lib.hid (fun W (h : Below W1.heap.size W1 W) => box7 (w := w) (t := 26) (v0 := .int .i64 c) (v1 := .int .i64 s) (v2 := .int .i64 k) (v3 := .slice a n cp) (v4 := .int .i64 lo) (v5 := .int .i64 hi) (v6 := .int .i64 old) (w' := W) (by rw [hW1]; exact h))
  have HS := Lib.hid ((Env.mk (L := []) (Below.refl W1.heap.size W1) (by simp)).add (hA.below bw))
  obtain ⟨q0, q1, q2, q3, q4, q5, q6⟩ := K7.out _ HS.out.low
  clear hA
  by_cases h0 : n ≤ 100
  · have hn := Lib.hid (show decide (n ≤ 100) = true from decide_eq_true h0)
    have hl : l.length ≤ 100000 := by omega
    replace hln := Lib.hid hln
    clear h0
    obtain ⟨t, ht⟩ : ∃ t, (⟨(textT c s k l lo hi old).toArray⟩ : ByteArray) = t := ⟨_, rfl⟩
    have hT := Lib.hid ht
    clear ht
    go_enter Try.func4, Try.ntmps4
    go_wp2_with (first | (go_at_call 14; (with_reducible refine (few4_any c s k a n cp lo hi old _ hz).mono ?_); rw [hn.out]; rintro e w2 ⟨rfl, hb⟩; replace HS := Lib.hid (HS.out.step hb); clear hb; obtain ⟨q0, q1, q2, q3, q4, q5, q6⟩ := K7.out _ HS.out.low))
    replace hW1 := Lib.hid hW1
    replace HS := Lib.hid (show Env W1 w2.drew _ from env_drew HS.out)
    go_region_held3 (fun w' => w'.cell? ⟨w.heap.size, 0, none⟩ = some (.int .i64 c) ∧ w'.cell? ⟨w.heap.size, 1, none⟩ = some (.int .i64 s) ∧ w'.cell? ⟨w.heap.size, 2, none⟩ = some (.int .i64 k) ∧ w'.cell? ⟨w.heap.size, 3, none⟩ = some (.slice a n cp) ∧ w'.cell? ⟨w.heap.size, 4, none⟩ = some (.int .i64 lo) ∧ w'.cell? ⟨w.heap.size, 5, none⟩ = some (.int .i64 hi) ∧ w'.cell? ⟨w.heap.size, 6, none⟩ = some (.int .i64 old)) (first | exact ⟨q0, q1, q2, q3, q4, q5, q6⟩ | go_keep) ((first | (go_at_call 15; (with_reducible refine (awake4_any _).mono ?_); rintro e w3 ⟨rfl, hb⟩; replace HS := Lib.hid (HS.out.step hb); clear hb; obtain ⟨q0, q1, q2, q3, q4, q5, q6⟩ := K7.out _ HS.out.low) | (go_at_call 27; (with_reducible refine (mtext_any c s k a n cp l lo hi old _ (HS.out.get (by repeat (first | exact List.mem_cons_self | apply List.mem_cons_of_mem)))).mono ?_); rw [hT.out]; rintro e w6 ⟨rfl, hb⟩; replace HS := Lib.hid (HS.out.step hb); clear hb; obtain ⟨q0, q1, q2, q3, q4, q5, q6⟩ := K7.out _ HS.out.low) | (go_at_call 18; (with_reducible refine (ref4_any c s k a n cp l lo hi old _ hl (HS.out.get (by repeat (first | exact List.mem_cons_self | apply List.mem_cons_of_mem)))).mono ?_); rintro e w4 ⟨a2, n2, cp2, rfl, hx, hb⟩; replace HS := Lib.hid ((HS.out.step hb).add hx); clear hb; obtain ⟨q0, q1, q2, q3, q4, q5, q6⟩ := K7.out _ HS.out.low) | (go_at_call 28; (with_reducible refine (rmtext_any c s k a2 n2 cp2 l lo hi old _ (HS.out.get (by repeat (first | exact List.mem_cons_self | apply List.mem_cons_of_mem)))).mono ?_); rw [hT.out]; rintro e w7 ⟨rfl, hb⟩; replace HS := Lib.hid (HS.out.step hb); clear hb; obtain ⟨q0, q1, q2, q3, q4, q5, q6⟩ := K7.out _ HS.out.low) | fail))
    all_goals
      go_wp2
      go_ret
      exact ⟨rfl, bw.trans (HS.out.low.mono sw)⟩
  · have hn := Lib.hid (show decide (n ≤ 100) = false from decide_eq_false h0)
    clear h0
    replace hln := Lib.hid hln
    go_enter Try.func4, Try.ntmps4
    go_wp2_with (first | (go_at_call 14; (with_reducible refine (few4_any c s k a n cp lo hi old _ hz).mono ?_); rw [hn.out]; rintro e w2 ⟨rfl, hb⟩; replace HS := Lib.hid (HS.out.step hb); clear hb; obtain ⟨q0, q1, q2, q3, q4, q5, q6⟩ := K7.out _ HS.out.low) | (go_at_call 15; (with_reducible refine (awake4_any _).mono ?_); rintro e w3 ⟨rfl, hb⟩; replace HS := Lib.hid (HS.out.step hb); clear hb; obtain ⟨q0, q1, q2, q3, q4, q5, q6⟩ := K7.out _ HS.out.low))
    go_ret
    exact ⟨rfl, bw.trans (HS.out.low.mono sw)⟩
end Go.Proofs.Ytfpgelobddglaaa
