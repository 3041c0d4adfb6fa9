/-
  MutApart walked.
-/
import Derived.Test.YtfpgelobddglaaaRvH
import Derived.Deep.RegionHeld3
namespace Go.Proofs.Ytfpgelobddglaaa
open Go.RowKit Go.Shelf Go.ChangeShapes Go.WideShapes Go.Deep

set_option maxRecDepth 100000 in
set_option maxHeartbeats 8000000 in
theorem mutApart_walk (c s k : Int) (a : Option Addr) (n cp : Nat) (l : List Sp) (lo hi old c2 s2 k2 : Int) (a2 : Option Addr) (n2 cp2 : Nat) (l2 : List Sp) (lo2 hi2 old2 : Int) (w : World) (hA : Arg w a n cp l) (hB : Arg w a2 n2 cp2 l2) :
    Calls Try.prog 7 #[.agg #[.int .i64 c, .int .i64 s, .int .i64 k, .slice a n cp, .int .i64 lo, .int .i64 hi, .int .i64 old], .agg #[.int .i64 c2, .int .i64 s2, .int .i64 k2, .slice a2 n2 cp2, .int .i64 lo2, .int .i64 hi2, .int .i64 old2]] w (TruePost w) := by
  have hz : (n : Int) ≤ 9223372036854775807 := by have h1 := hA.1; have h2 := hA.2.1; omega
  have hz2 : (n2 : Int) ≤ 9223372036854775807 := by have h1 := hB.1; have h2 := hB.2.1; omega
  have hln := hA.1
  have hln2 := hB.1
  obtain ⟨W2, hW2⟩ : ∃ W2, (w.alloc (.cells #[.int .i64 c, .int .i64 s, .int .i64 k, .slice a n cp, .int .i64 lo, .int .i64 hi, .int .i64 old] 26)).alloc (.cells #[.int .i64 c2, .int .i64 s2, .int .i64 k2, .slice a2 n2 cp2, .int .i64 lo2, .int .i64 hi2, .int .i64 old2] 26) = W2 := ⟨_, rfl⟩
  have bw : Below w.heap.size w W2 := by rw [← hW2]; exact ((Below.refl _ _).alloc (Nat.le_refl _) _).alloc (by simp) _
  have sw : w.heap.size ≤ W2.heap.size := bw.size
  have K := Lib.hid (fun W (h : Below W2.heap.size W2 W) => box77 (w := w) (ta := 26) (tb := 26) (v0 := .int .i64 c) (v1 := .int .i64 s) (v2 := .int .i64 k) (v3 := .slice a n cp) (v4 := .int .i64 lo) (v5 := .int .i64 hi) (v6 := .int .i64 old) (u0 := .int .i64 c2) (u1 := .int .i64 s2) (u2 := .int .i64 k2) (u3 := .slice a2 n2 cp2) (u4 := .int .i64 lo2) (u5 := .int .i64 hi2) (u6 := .int .i64 old2) (W := W) (by rw [hW2]; exact h))
  have HS := Lib.hid (((Env.mk (L := []) (Below.refl W2.heap.size W2) (by simp)).add (hA.below bw)).add (hB.below bw))
  obtain ⟨⟨p0, p1, p2, p3, p4, p5, p6⟩, q0, q1, q2, q3, q4, q5, q6⟩ := K.out _ HS.out.low
  clear hA hB
  by_cases h0 : n ≤ 100
  · have hn := Lib.hid (show decide (n ≤ 100) = true from decide_eq_true h0)
    have hl : l.length ≤ 100000 := by omega
    replace hln := Lib.hid hln
    clear h0
    by_cases h0 : n2 ≤ 100
    · have hn2 := Lib.hid (show decide (n2 ≤ 100) = true from decide_eq_true h0)
      have hl2 : l2.length ≤ 100000 := by omega
      replace hln2 := Lib.hid hln2
      clear h0
      obtain ⟨r, hr'⟩ : ∃ r, decide (c = c2 ∧ s = s2 ∧ k = k2 ∧ (lo, hi) = (lo2, hi2) ∧ old = old2 ∧ l = l2) = r := ⟨_, rfl⟩
      have hr := Lib.hid hr'
      obtain ⟨t1, ht1⟩ : ∃ t, (⟨(textT c s k l lo hi old).toArray⟩ : ByteArray) = t := ⟨_, rfl⟩
      obtain ⟨t2, ht2⟩ : ∃ t, (⟨(textT c2 s2 k2 l2 lo2 hi2 old2).toArray⟩ : ByteArray) = t := ⟨_, rfl⟩
      have hta := Lib.hid ht1
      have htb := Lib.hid ht2
      cases hca' : chkM c s k l lo hi old
      · have hca := Lib.hid hca'
        clear hca' hr' ht1 ht2
        go_enter Try.func7, Try.ntmps7
        go_wp2_with (first | (go_at_call 14; (with_reducible refine (few4_any c s k a n cp lo hi old _ hz).mono ?_); rw [hn.out]; rintro e wf ⟨rfl, hb⟩; replace HS := Lib.hid (HS.out.step hb); clear hb; obtain ⟨⟨p0, p1, p2, p3, p4, p5, p6⟩, q0, q1, q2, q3, q4, q5, q6⟩ := K.out _ HS.out.low) | (go_at_call 14; (with_reducible refine (few4_any c2 s2 k2 a2 n2 cp2 lo2 hi2 old2 _ hz2).mono ?_); rw [hn2.out]; rintro e wf2 ⟨rfl, hb⟩; replace HS := Lib.hid (HS.out.step hb); clear hb; obtain ⟨⟨p0, p1, p2, p3, p4, p5, p6⟩, q0, q1, q2, q3, q4, q5, q6⟩ := K.out _ HS.out.low))
        replace hW2 := Lib.hid hW2
        replace HS := Lib.hid (show Env W2 wf2.drew _ from env_drew HS.out)
        go_region_held3 (fun w' => w'.cell? ⟨w.heap.size, 0, none⟩ = some (.int .i64 c) ∧ w'.cell? ⟨w.heap.size, 1, none⟩ = some (.int .i64 s) ∧ w'.cell? ⟨w.heap.size, 2, none⟩ = some (.int .i64 k) ∧ w'.cell? ⟨w.heap.size, 3, none⟩ = some (.slice a n cp) ∧ w'.cell? ⟨w.heap.size, 4, none⟩ = some (.int .i64 lo) ∧ w'.cell? ⟨w.heap.size, 5, none⟩ = some (.int .i64 hi) ∧ w'.cell? ⟨w.heap.size, 6, none⟩ = some (.int .i64 old) ∧ w'.cell? ⟨w.heap.size + 1, 0, none⟩ = some (.int .i64 c2) ∧ w'.cell? ⟨w.heap.size + 1, 1, none⟩ = some (.int .i64 s2) ∧ w'.cell? ⟨w.heap.size + 1, 2, none⟩ = some (.int .i64 k2) ∧ w'.cell? ⟨w.heap.size + 1, 3, none⟩ = some (.slice a2 n2 cp2) ∧ w'.cell? ⟨w.heap.size + 1, 4, none⟩ = some (.int .i64 lo2) ∧ w'.cell? ⟨w.heap.size + 1, 5, none⟩ = some (.int .i64 hi2) ∧ w'.cell? ⟨w.heap.size + 1, 6, none⟩ = some (.int .i64 old2)) (first | exact ⟨p0, p1, p2, p3, p4, p5, p6, q0, q1, q2, q3, q4, q5, q6⟩ | go_keep) ((first | (go_at_call 18; (with_reducible refine (ref4_any c s k a n cp l lo hi old _ hl (HS.out.get (by repeat (first | exact List.mem_cons_self | apply List.mem_cons_of_mem)))).mono ?_); rintro e w4 ⟨ra, rn, rp, rfl, hx, hb⟩; replace HS := Lib.hid ((HS.out.step hb).add hx); clear hb; obtain ⟨⟨p0, p1, p2, p3, p4, p5, p6⟩, q0, q1, q2, q3, q4, q5, q6⟩ := K.out _ HS.out.low) | (go_at_call 18; (with_reducible refine (ref4_any c2 s2 k2 a2 n2 cp2 l2 lo2 hi2 old2 _ hl2 (HS.out.get (by repeat (first | exact List.mem_cons_self | apply List.mem_cons_of_mem)))).mono ?_); rintro e w5 ⟨ta, tn, tp, rfl, hx, hb⟩; replace HS := Lib.hid ((HS.out.step hb).add hx); clear hb; obtain ⟨⟨p0, p1, p2, p3, p4, p5, p6⟩, q0, q1, q2, q3, q4, q5, q6⟩ := K.out _ HS.out.low) | (go_at_call 31; (with_reducible refine (rsame4_any c s k ra rn rp l lo hi old c2 s2 k2 ta tn tp l2 lo2 hi2 old2 _ (HS.out.get (by repeat (first | exact List.mem_cons_self | apply List.mem_cons_of_mem))) (HS.out.get (by repeat (first | exact List.mem_cons_self | apply List.mem_cons_of_mem)))).mono ?_); rw [hr.out]; rintro e w6 ⟨rfl, hb⟩; replace HS := Lib.hid (HS.out.step hb); clear hb; obtain ⟨⟨p0, p1, p2, p3, p4, p5, p6⟩, q0, q1, q2, q3, q4, q5, q6⟩ := K.out _ HS.out.low) | fail))
        all_goals
          go_wp2_with (first | (go_at_call 33; (with_reducible refine (msame_any c s k a n cp l lo hi old c2 s2 k2 a2 n2 cp2 l2 lo2 hi2 old2 _ (HS.out.get (by repeat (first | exact List.mem_cons_self | apply List.mem_cons_of_mem))) (HS.out.get (by repeat (first | exact List.mem_cons_self | apply List.mem_cons_of_mem)))).mono ?_); rw [hr.out]; rintro e w7 ⟨rfl, hb⟩; replace HS := Lib.hid (HS.out.step hb); clear hb; obtain ⟨⟨p0, p1, p2, p3, p4, p5, p6⟩, q0, q1, q2, q3, q4, q5, q6⟩ := K.out _ HS.out.low) | (go_at_call 32; (with_reducible refine (mcheck_any c s k a n cp l lo hi old _ (HS.out.get (by repeat (first | exact List.mem_cons_self | apply List.mem_cons_of_mem)))).mono ?_); rw [hca.out]; rintro e w8 ⟨rfl, hb⟩; replace HS := Lib.hid (HS.out.step hb); clear hb; obtain ⟨⟨p0, p1, p2, p3, p4, p5, p6⟩, q0, q1, q2, q3, q4, q5, q6⟩ := K.out _ HS.out.low) | (go_at_call 15; (with_reducible refine (awake4_any _).mono ?_); rintro e w3 ⟨rfl, hb⟩; replace HS := Lib.hid (HS.out.step hb); clear hb; obtain ⟨⟨p0, p1, p2, p3, p4, p5, p6⟩, q0, q1, q2, q3, q4, q5, q6⟩ := K.out _ HS.out.low))
          go_ret
          exact ⟨ret_bool (by simp), bw.trans (HS.out.low.mono sw)⟩
      · cases hcb' : chkM c2 s2 k2 l2 lo2 hi2 old2
        · have hca := Lib.hid hca'
          have hcb := Lib.hid hcb'
          clear hca' hcb' hr' ht1 ht2
          go_enter Try.func7, Try.ntmps7
          go_wp2_with (first | (go_at_call 14; (with_reducible refine (few4_any c s k a n cp lo hi old _ hz).mono ?_); rw [hn.out]; rintro e wf ⟨rfl, hb⟩; replace HS := Lib.hid (HS.out.step hb); clear hb; obtain ⟨⟨p0, p1, p2, p3, p4, p5, p6⟩, q0, q1, q2, q3, q4, q5, q6⟩ := K.out _ HS.out.low) | (go_at_call 14; (with_reducible refine (few4_any c2 s2 k2 a2 n2 cp2 lo2 hi2 old2 _ hz2).mono ?_); rw [hn2.out]; rintro e wf2 ⟨rfl, hb⟩; replace HS := Lib.hid (HS.out.step hb); clear hb; obtain ⟨⟨p0, p1, p2, p3, p4, p5, p6⟩, q0, q1, q2, q3, q4, q5, q6⟩ := K.out _ HS.out.low))
          replace hW2 := Lib.hid hW2
          replace HS := Lib.hid (show Env W2 wf2.drew _ from env_drew HS.out)
          go_region_held3 (fun w' => w'.cell? ⟨w.heap.size, 0, none⟩ = some (.int .i64 c) ∧ w'.cell? ⟨w.heap.size, 1, none⟩ = some (.int .i64 s) ∧ w'.cell? ⟨w.heap.size, 2, none⟩ = some (.int .i64 k) ∧ w'.cell? ⟨w.heap.size, 3, none⟩ = some (.slice a n cp) ∧ w'.cell? ⟨w.heap.size, 4, none⟩ = some (.int .i64 lo) ∧ w'.cell? ⟨w.heap.size, 5, none⟩ = some (.int .i64 hi) ∧ w'.cell? ⟨w.heap.size, 6, none⟩ = some (.int .i64 old) ∧ w'.cell? ⟨w.heap.size + 1, 0, none⟩ = some (.int .i64 c2) ∧ w'.cell? ⟨w.heap.size + 1, 1, none⟩ = some (.int .i64 s2) ∧ w'.cell? ⟨w.heap.size + 1, 2, none⟩ = some (.int .i64 k2) ∧ w'.cell? ⟨w.heap.size + 1, 3, none⟩ = some (.slice a2 n2 cp2) ∧ w'.cell? ⟨w.heap.size + 1, 4, none⟩ = some (.int .i64 lo2) ∧ w'.cell? ⟨w.heap.size + 1, 5, none⟩ = some (.int .i64 hi2) ∧ w'.cell? ⟨w.heap.size + 1, 6, none⟩ = some (.int .i64 old2)) (first | exact ⟨p0, p1, p2, p3, p4, p5, p6, q0, q1, q2, q3, q4, q5, q6⟩ | go_keep) ((first | (go_at_call 18; (with_reducible refine (ref4_any c s k a n cp l lo hi old _ hl (HS.out.get (by repeat (first | exact List.mem_cons_self | apply List.mem_cons_of_mem)))).mono ?_); rintro e w4 ⟨ra, rn, rp, rfl, hx, hb⟩; replace HS := Lib.hid ((HS.out.step hb).add hx); clear hb; obtain ⟨⟨p0, p1, p2, p3, p4, p5, p6⟩, q0, q1, q2, q3, q4, q5, q6⟩ := K.out _ HS.out.low) | (go_at_call 18; (with_reducible refine (ref4_any c2 s2 k2 a2 n2 cp2 l2 lo2 hi2 old2 _ hl2 (HS.out.get (by repeat (first | exact List.mem_cons_self | apply List.mem_cons_of_mem)))).mono ?_); rintro e w5 ⟨ta, tn, tp, rfl, hx, hb⟩; replace HS := Lib.hid ((HS.out.step hb).add hx); clear hb; obtain ⟨⟨p0, p1, p2, p3, p4, p5, p6⟩, q0, q1, q2, q3, q4, q5, q6⟩ := K.out _ HS.out.low) | (go_at_call 31; (with_reducible refine (rsame4_any c s k ra rn rp l lo hi old c2 s2 k2 ta tn tp l2 lo2 hi2 old2 _ (HS.out.get (by repeat (first | exact List.mem_cons_self | apply List.mem_cons_of_mem))) (HS.out.get (by repeat (first | exact List.mem_cons_self | apply List.mem_cons_of_mem)))).mono ?_); rw [hr.out]; rintro e w6 ⟨rfl, hb⟩; replace HS := Lib.hid (HS.out.step hb); clear hb; obtain ⟨⟨p0, p1, p2, p3, p4, p5, p6⟩, q0, q1, q2, q3, q4, q5, q6⟩ := K.out _ HS.out.low) | fail))
          all_goals
            go_wp2_with (first | (go_at_call 33; (with_reducible refine (msame_any c s k a n cp l lo hi old c2 s2 k2 a2 n2 cp2 l2 lo2 hi2 old2 _ (HS.out.get (by repeat (first | exact List.mem_cons_self | apply List.mem_cons_of_mem))) (HS.out.get (by repeat (first | exact List.mem_cons_self | apply List.mem_cons_of_mem)))).mono ?_); rw [hr.out]; rintro e w7 ⟨rfl, hb⟩; replace HS := Lib.hid (HS.out.step hb); clear hb; obtain ⟨⟨p0, p1, p2, p3, p4, p5, p6⟩, q0, q1, q2, q3, q4, q5, q6⟩ := K.out _ HS.out.low) | (go_at_call 32; (with_reducible refine (mcheck_any c s k a n cp l lo hi old _ (HS.out.get (by repeat (first | exact List.mem_cons_self | apply List.mem_cons_of_mem)))).mono ?_); rw [hca.out]; rintro e w8 ⟨rfl, hb⟩; replace HS := Lib.hid (HS.out.step hb); clear hb; obtain ⟨⟨p0, p1, p2, p3, p4, p5, p6⟩, q0, q1, q2, q3, q4, q5, q6⟩ := K.out _ HS.out.low) | (go_at_call 32; (with_reducible refine (mcheck_any c2 s2 k2 a2 n2 cp2 l2 lo2 hi2 old2 _ (HS.out.get (by repeat (first | exact List.mem_cons_self | apply List.mem_cons_of_mem)))).mono ?_); rw [hcb.out]; rintro e w9 ⟨rfl, hb⟩; replace HS := Lib.hid (HS.out.step hb); clear hb; obtain ⟨⟨p0, p1, p2, p3, p4, p5, p6⟩, q0, q1, q2, q3, q4, q5, q6⟩ := K.out _ HS.out.low) | (go_at_call 15; (with_reducible refine (awake4_any _).mono ?_); rintro e w3 ⟨rfl, hb⟩; replace HS := Lib.hid (HS.out.step hb); clear hb; obtain ⟨⟨p0, p1, p2, p3, p4, p5, p6⟩, q0, q1, q2, q3, q4, q5, q6⟩ := K.out _ HS.out.low))
            go_ret
            exact ⟨ret_bool (by simp), bw.trans (HS.out.low.mono sw)⟩
        · have hTT : (t1.toList == t2.toList) = r := by
            rw [← hr', Bool.eq_iff_iff, beq_iff_eq, decide_eq_true_eq, ByteArray.toList_eq, ByteArray.toList_eq, ← ht1, ← ht2]
            constructor
            · intro e
              exact textT_inj hca' hcb' (by simpa using e)
            · rintro ⟨e1, e2, e3, e4, e5, e6⟩
              cases e4
              subst e1 e2 e3 e5 e6
              rfl
          have hca := Lib.hid hca'
          have hcb := Lib.hid hcb'
          clear hca' hcb' hr' ht1 ht2
          go_enter Try.func7, Try.ntmps7
          go_wp2_with (first | (go_at_call 14; (with_reducible refine (few4_any c s k a n cp lo hi old _ hz).mono ?_); rw [hn.out]; rintro e wf ⟨rfl, hb⟩; replace HS := Lib.hid (HS.out.step hb); clear hb; obtain ⟨⟨p0, p1, p2, p3, p4, p5, p6⟩, q0, q1, q2, q3, q4, q5, q6⟩ := K.out _ HS.out.low) | (go_at_call 14; (with_reducible refine (few4_any c2 s2 k2 a2 n2 cp2 lo2 hi2 old2 _ hz2).mono ?_); rw [hn2.out]; rintro e wf2 ⟨rfl, hb⟩; replace HS := Lib.hid (HS.out.step hb); clear hb; obtain ⟨⟨p0, p1, p2, p3, p4, p5, p6⟩, q0, q1, q2, q3, q4, q5, q6⟩ := K.out _ HS.out.low))
          replace hW2 := Lib.hid hW2
          replace HS := Lib.hid (show Env W2 wf2.drew _ from env_drew HS.out)
          go_region_held3 (fun w' => w'.cell? ⟨w.heap.size, 0, none⟩ = some (.int .i64 c) ∧ w'.cell? ⟨w.heap.size, 1, none⟩ = some (.int .i64 s) ∧ w'.cell? ⟨w.heap.size, 2, none⟩ = some (.int .i64 k) ∧ w'.cell? ⟨w.heap.size, 3, none⟩ = some (.slice a n cp) ∧ w'.cell? ⟨w.heap.size, 4, none⟩ = some (.int .i64 lo) ∧ w'.cell? ⟨w.heap.size, 5, none⟩ = some (.int .i64 hi) ∧ w'.cell? ⟨w.heap.size, 6, none⟩ = some (.int .i64 old) ∧ w'.cell? ⟨w.heap.size + 1, 0, none⟩ = some (.int .i64 c2) ∧ w'.cell? ⟨w.heap.size + 1, 1, none⟩ = some (.int .i64 s2) ∧ w'.cell? ⟨w.heap.size + 1, 2, none⟩ = some (.int .i64 k2) ∧ w'.cell? ⟨w.heap.size + 1, 3, none⟩ = some (.slice a2 n2 cp2) ∧ w'.cell? ⟨w.heap.size + 1, 4, none⟩ = some (.int .i64 lo2) ∧ w'.cell? ⟨w.heap.size + 1, 5, none⟩ = some (.int .i64 hi2) ∧ w'.cell? ⟨w.heap.size + 1, 6, none⟩ = some (.int .i64 old2)) (first | exact ⟨p0, p1, p2, p3, p4, p5, p6, q0, q1, q2, q3, q4, q5, q6⟩ | go_keep) ((first | (go_at_call 18; (with_reducible refine (ref4_any c s k a n cp l lo hi old _ hl (HS.out.get (by repeat (first | exact List.mem_cons_self | apply List.mem_cons_of_mem)))).mono ?_); rintro e w4 ⟨ra, rn, rp, rfl, hx, hb⟩; replace HS := Lib.hid ((HS.out.step hb).add hx); clear hb; obtain ⟨⟨p0, p1, p2, p3, p4, p5, p6⟩, q0, q1, q2, q3, q4, q5, q6⟩ := K.out _ HS.out.low) | (go_at_call 18; (with_reducible refine (ref4_any c2 s2 k2 a2 n2 cp2 l2 lo2 hi2 old2 _ hl2 (HS.out.get (by repeat (first | exact List.mem_cons_self | apply List.mem_cons_of_mem)))).mono ?_); rintro e w5 ⟨ta, tn, tp, rfl, hx, hb⟩; replace HS := Lib.hid ((HS.out.step hb).add hx); clear hb; obtain ⟨⟨p0, p1, p2, p3, p4, p5, p6⟩, q0, q1, q2, q3, q4, q5, q6⟩ := K.out _ HS.out.low) | (go_at_call 31; (with_reducible refine (rsame4_any c s k ra rn rp l lo hi old c2 s2 k2 ta tn tp l2 lo2 hi2 old2 _ (HS.out.get (by repeat (first | exact List.mem_cons_self | apply List.mem_cons_of_mem))) (HS.out.get (by repeat (first | exact List.mem_cons_self | apply List.mem_cons_of_mem)))).mono ?_); rw [hr.out]; rintro e w6 ⟨rfl, hb⟩; replace HS := Lib.hid (HS.out.step hb); clear hb; obtain ⟨⟨p0, p1, p2, p3, p4, p5, p6⟩, q0, q1, q2, q3, q4, q5, q6⟩ := K.out _ HS.out.low) | fail))
          all_goals
            go_wp2_with (first | (go_at_call 33; (with_reducible refine (msame_any c s k a n cp l lo hi old c2 s2 k2 a2 n2 cp2 l2 lo2 hi2 old2 _ (HS.out.get (by repeat (first | exact List.mem_cons_self | apply List.mem_cons_of_mem))) (HS.out.get (by repeat (first | exact List.mem_cons_self | apply List.mem_cons_of_mem)))).mono ?_); rw [hr.out]; rintro e w7 ⟨rfl, hb⟩; replace HS := Lib.hid (HS.out.step hb); clear hb; obtain ⟨⟨p0, p1, p2, p3, p4, p5, p6⟩, q0, q1, q2, q3, q4, q5, q6⟩ := K.out _ HS.out.low) | (go_at_call 32; (with_reducible refine (mcheck_any c s k a n cp l lo hi old _ (HS.out.get (by repeat (first | exact List.mem_cons_self | apply List.mem_cons_of_mem)))).mono ?_); rw [hca.out]; rintro e w8 ⟨rfl, hb⟩; replace HS := Lib.hid (HS.out.step hb); clear hb; obtain ⟨⟨p0, p1, p2, p3, p4, p5, p6⟩, q0, q1, q2, q3, q4, q5, q6⟩ := K.out _ HS.out.low) | (go_at_call 32; (with_reducible refine (mcheck_any c2 s2 k2 a2 n2 cp2 l2 lo2 hi2 old2 _ (HS.out.get (by repeat (first | exact List.mem_cons_self | apply List.mem_cons_of_mem)))).mono ?_); rw [hcb.out]; rintro e w9 ⟨rfl, hb⟩; replace HS := Lib.hid (HS.out.step hb); clear hb; obtain ⟨⟨p0, p1, p2, p3, p4, p5, p6⟩, q0, q1, q2, q3, q4, q5, q6⟩ := K.out _ HS.out.low))
            replace HS := Lib.hid (show Env W2 w9.drew _ from env_drew HS.out)
            go_region_held3 (fun w' => w'.cell? ⟨w.heap.size, 0, none⟩ = some (.int .i64 c) ∧ w'.cell? ⟨w.heap.size, 1, none⟩ = some (.int .i64 s) ∧ w'.cell? ⟨w.heap.size, 2, none⟩ = some (.int .i64 k) ∧ w'.cell? ⟨w.heap.size, 3, none⟩ = some (.slice a n cp) ∧ w'.cell? ⟨w.heap.size, 4, none⟩ = some (.int .i64 lo) ∧ w'.cell? ⟨w.heap.size, 5, none⟩ = some (.int .i64 hi) ∧ w'.cell? ⟨w.heap.size, 6, none⟩ = some (.int .i64 old) ∧ w'.cell? ⟨w.heap.size + 1, 0, none⟩ = some (.int .i64 c2) ∧ w'.cell? ⟨w.heap.size + 1, 1, none⟩ = some (.int .i64 s2) ∧ w'.cell? ⟨w.heap.size + 1, 2, none⟩ = some (.int .i64 k2) ∧ w'.cell? ⟨w.heap.size + 1, 3, none⟩ = some (.slice a2 n2 cp2) ∧ w'.cell? ⟨w.heap.size + 1, 4, none⟩ = some (.int .i64 lo2) ∧ w'.cell? ⟨w.heap.size + 1, 5, none⟩ = some (.int .i64 hi2) ∧ w'.cell? ⟨w.heap.size + 1, 6, none⟩ = some (.int .i64 old2)) (first | exact ⟨p0, p1, p2, p3, p4, p5, p6, q0, q1, q2, q3, q4, q5, q6⟩ | go_keep) ((first | (go_at_call 15; (with_reducible refine (awake4_any _).mono ?_); rintro e w3 ⟨rfl, hb⟩; replace HS := Lib.hid (HS.out.step hb); clear hb; obtain ⟨⟨p0, p1, p2, p3, p4, p5, p6⟩, q0, q1, q2, q3, q4, q5, q6⟩ := K.out _ HS.out.low) | (go_at_call 27; (with_reducible refine (mtext_any c s k a n cp l lo hi old _ (HS.out.get (by repeat (first | exact List.mem_cons_self | apply List.mem_cons_of_mem)))).mono ?_); rw [hta.out]; rintro e w10 ⟨rfl, hb⟩; replace HS := Lib.hid (HS.out.step hb); clear hb; obtain ⟨⟨p0, p1, p2, p3, p4, p5, p6⟩, q0, q1, q2, q3, q4, q5, q6⟩ := K.out _ HS.out.low) | (go_at_call 27; (with_reducible refine (mtext_any c2 s2 k2 a2 n2 cp2 l2 lo2 hi2 old2 _ (HS.out.get (by repeat (first | exact List.mem_cons_self | apply List.mem_cons_of_mem)))).mono ?_); rw [htb.out]; rintro e w11 ⟨rfl, hb⟩; replace HS := Lib.hid (HS.out.step hb); clear hb; obtain ⟨⟨p0, p1, p2, p3, p4, p5, p6⟩, q0, q1, q2, q3, q4, q5, q6⟩ := K.out _ HS.out.low) | fail))
            all_goals
              go_wp2
              go_ret
              exact ⟨ret_bool (by first | exact hTT | (simp; done)), bw.trans (HS.out.low.mono sw)⟩
    · have hn2 := Lib.hid (show decide (n2 ≤ 100) = false from decide_eq_false h0)
      clear h0
      replace hln2 := Lib.hid hln2
      go_enter Try.func7, Try.ntmps7
      go_wp2_with (first | (go_at_call 14; (with_reducible refine (few4_any c s k a n cp lo hi old _ hz).mono ?_); rw [hn.out]; rintro e wf ⟨rfl, hb⟩; replace HS := Lib.hid (HS.out.step hb); clear hb; obtain ⟨⟨p0, p1, p2, p3, p4, p5, p6⟩, q0, q1, q2, q3, q4, q5, q6⟩ := K.out _ HS.out.low) | (go_at_call 14; (with_reducible refine (few4_any c2 s2 k2 a2 n2 cp2 lo2 hi2 old2 _ hz2).mono ?_); rw [hn2.out]; rintro e wf2 ⟨rfl, hb⟩; replace HS := Lib.hid (HS.out.step hb); clear hb; obtain ⟨⟨p0, p1, p2, p3, p4, p5, p6⟩, q0, q1, q2, q3, q4, q5, q6⟩ := K.out _ HS.out.low) | (go_at_call 15; (with_reducible refine (awake4_any _).mono ?_); rintro e w3 ⟨rfl, hb⟩; replace HS := Lib.hid (HS.out.step hb); clear hb; obtain ⟨⟨p0, p1, p2, p3, p4, p5, p6⟩, q0, q1, q2, q3, q4, q5, q6⟩ := K.out _ HS.out.low))
      go_ret
      exact ⟨rfl, bw.trans (HS.out.low.mono sw)⟩
  · have hn := Lib.hid (show decide (n ≤ 100) = false from decide_eq_false h0)
    clear h0
    replace hln2 := Lib.hid hln2
    replace hln := Lib.hid hln
    go_enter Try.func7, Try.ntmps7
    go_wp2_with (first | (go_at_call 14; (with_reducible refine (few4_any c s k a n cp lo hi old _ hz).mono ?_); rw [hn.out]; rintro e wf ⟨rfl, hb⟩; replace HS := Lib.hid (HS.out.step hb); clear hb; obtain ⟨⟨p0, p1, p2, p3, p4, p5, p6⟩, q0, q1, q2, q3, q4, q5, q6⟩ := K.out _ HS.out.low) | (go_at_call 15; (with_reducible refine (awake4_any _).mono ?_); rintro e w3 ⟨rfl, hb⟩; replace HS := Lib.hid (HS.out.step hb); clear hb; obtain ⟨⟨p0, p1, p2, p3, p4, p5, p6⟩, q0, q1, q2, q3, q4, q5, q6⟩ := K.out _ HS.out.low))
    go_ret
    exact ⟨rfl, bw.trans (HS.out.low.mono sw)⟩
end Go.Proofs.Ytfpgelobddglaaa
