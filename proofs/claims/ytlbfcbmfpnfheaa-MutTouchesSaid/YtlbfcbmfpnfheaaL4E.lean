/-
  MutTouches walked.
-/
import Derived.Test.YtlbfcbmfpnfheaaMB2
import Derived.Deep.RegionHeld3
namespace Go.Proofs.Ytlbfcbmfpnfheaa
open Go.RowKit Go.Shelf Go.ChangeShapes Go.WideShapes Go.Deep

theorem same_selfE (a b : Option Addr) (n m c d : Nat) (l : List Sp) (w : World) (hA : Arg w a n c l) (hB : Arg w b m d l) :
    Calls Try.prog 18 #[.slice a n c, .slice b m d] w (Gives w (.bool true)) := by
  have h := same_any a b n m c d l l w hA hB
  rwa [show decide (l = l) = true from decide_eq_true rfl] at h
set_option maxRecDepth 100000 in
set_option maxHeartbeats 8000000 in
theorem mutTouches_walk (c s k : Int) (a : Option Addr) (n cp : Nat) (l : List Sp) (lo hi old key : Int) (w : World) (hA : Arg w a n cp l) (_hkey : (Lit.int .i64 key).wf = true) :
    Calls Try.prog 3 #[.agg #[.int .i64 c, .int .i64 s, .int .i64 k, .slice a n cp, .int .i64 lo, .int .i64 hi, .int .i64 old], .int .i64 key] w (TruePost w) := by
  have z1 : (n : Int) ≤ 9223372036854775807 := by have := hA.1; have := hA.2.1; omega
  obtain ⟨W1, hW1⟩ : ∃ W1, w.alloc (.cells #[.int .i64 c, .int .i64 s, .int .i64 k, .slice a n cp, .int .i64 lo, .int .i64 hi, .int .i64 old] 26) = W1 := ⟨_, rfl⟩
  have bw : Below w.heap.size w W1 := by rw [← hW1]; exact (Below.refl _ _).alloc (Nat.le_refl _) _
  have K := Lib.hid (fun W (h : Below W1.heap.size W1 W) => box7 (w := w) (t := 26) (v0 := .int .i64 c) (v1 := .int .i64 s) (v2 := .int .i64 k) (v3 := .slice a n cp) (v4 := .int .i64 lo) (v5 := .int .i64 hi) (v6 := .int .i64 old) (w' := W) (by rw [hW1]; exact h))
  have HS := Lib.hid ((Env.mk (L := []) (Below.refl W1.heap.size W1) (by simp)).add (hA.below bw))
  obtain ⟨q0, q1, q2, q3, q4, q5, q6⟩ := K.out _ HS.out.low
  have F1 := Lib.hid (fun W => few4_any c s k a n cp lo hi old W z1)
  have hln := hA.1
  clear hA
  obtain ⟨f, hf⟩ : ∃ f, decide (n ≤ 100) = f := ⟨_, rfl⟩
  rw [hf] at F1
  cases f
  · clear hf hln
    go_enter Try.func3, Try.ntmps3
    go_wp2_with (first | (go_at_call 8; (with_reducible refine (F1.out _).mono ?_); rintro e w' ⟨rfl, hb⟩; replace HS := Lib.hid (HS.out.step hb); clear hb; obtain ⟨q0, q1, q2, q3, q4, q5, q6⟩ := K.out _ HS.out.low) | (go_at_call 9; (with_reducible refine (awake4_any _).mono ?_); rintro e w' ⟨rfl, hb⟩; replace HS := Lib.hid (HS.out.step hb); clear hb; obtain ⟨q0, q1, q2, q3, q4, q5, q6⟩ := K.out _ HS.out.low))
    go_ret
    exact ⟨rfl, bw.trans (HS.out.low.mono bw.size)⟩
  · have hl : l.length ≤ 100000 := by have := of_decide_eq_true hf; omega
    replace hln := Lib.hid hln
    clear hf
    cases hr : chkM c s k l lo hi old
    · have T1 := Lib.hid (fun W h => (show touchL c s k l lo hi old = [] from if_neg (by rw [hr]; simp)) ▸ mtouch_any c s k a n cp l lo hi old W h)
      have C1 := Lib.hid (fun a n cp W h => hr ▸ rcheck4_any c s k a n cp l lo hi old W h)
      clear hr
      go_enter Try.func3, Try.ntmps3
      go_wp2_with (first | (go_at_call 8; (with_reducible refine (F1.out _).mono ?_); rintro e w' ⟨rfl, hb⟩; replace HS := Lib.hid (HS.out.step hb); clear hb; obtain ⟨q0, q1, q2, q3, q4, q5, q6⟩ := K.out _ HS.out.low) | (go_at_call 10; (with_reducible refine (T1.out _ (HS.out.get (by repeat (first | exact List.mem_cons_self | apply List.mem_cons_of_mem)))).mono ?_); rintro e w' ⟨att, ntt, ctt, rfl, htt, hb⟩; obtain rfl : ntt = 0 := htt.1; replace HS := Lib.hid ((HS.out.step hb).add htt); clear hb htt; obtain ⟨q0, q1, q2, q3, q4, q5, q6⟩ := K.out _ HS.out.low) | (go_at_call 12; (with_reducible refine (ref4_any c s k a n cp l lo hi old _ hl (HS.out.get (by repeat (first | exact List.mem_cons_self | apply List.mem_cons_of_mem)))).mono ?_); rintro e w' ⟨arr, nrr, crr, rfl, hrr, hb⟩; replace HS := Lib.hid ((HS.out.step hb).add hrr); clear hb hrr; obtain ⟨q0, q1, q2, q3, q4, q5, q6⟩ := K.out _ HS.out.low) | (go_at_call 11; (with_reducible refine (C1.out arr nrr crr _ (HS.out.get (by repeat (first | exact List.mem_cons_self | apply List.mem_cons_of_mem)))).mono ?_); rintro e w5 ⟨rfl, hb⟩; replace HS := Lib.hid (HS.out.step hb); clear hb; obtain ⟨q0, q1, q2, q3, q4, q5, q6⟩ := K.out _ HS.out.low) | (go_at_call 9; (with_reducible refine (awake4_any _).mono ?_); rintro e w' ⟨rfl, hb⟩; replace HS := Lib.hid (HS.out.step hb); clear hb; obtain ⟨q0, q1, q2, q3, q4, q5, q6⟩ := K.out _ HS.out.low))
      go_ret
      exact ⟨rfl, bw.trans (HS.out.low.mono bw.size)⟩
    · obtain ⟨m1, m2, m3⟩ := touch_math hr key
      have m4 := touch_one (c := c) (s := s) (k := k) (l := l) (lo := lo) (hi := hi) (old := old)
      obtain ⟨L, hL⟩ : ∃ L, touchL c s k l lo hi old = L := ⟨_, rfl⟩
      rw [hL] at m1 m2 m3 m4
      have hLz : L.length ≤ 100000 := by omega
      obtain ⟨t, hT⟩ : ∃ t, touchesB k l lo hi key = t := ⟨_, rfl⟩
      rw [hT] at m2
      have T1 := Lib.hid (fun W h => hL ▸ mtouch_any c s k a n cp l lo hi old W h)
      have C1 := Lib.hid (fun a n cp W h => hr ▸ rcheck4_any c s k a n cp l lo hi old W h)
      have S1 := Lib.hid (fun a n c W h => m1 ▸ check_arg L a n c W h)
      have H1 := Lib.hid (fun a n c W h => m2 ▸ has_arg L key a n c W h)
      have X1 := Lib.hid (fun a n cp W h => hT ▸ touches4_any c s k a n cp l lo hi old key W h)
      have R1 := Lib.hid (fun a n cp W h => hL ▸ rtouch4_any c s k a n cp l lo hi old W h)
      replace hr := Lib.hid hr
      replace hL := Lib.hid hL
      replace hT := Lib.hid hT
      clear m1 m2 m3
      cases hv : aloneB c s k l lo hi old
      · have V1 := Lib.hid (fun W h => hv ▸ malone_any c s k a n cp l lo hi old W h)
        have N1 := Lib.hid (fun a n c W h => count_arg L a n c W h)
        clear hv m4
        cases t
        all_goals
          go_enter Try.func3, Try.ntmps3
          go_wp2_with (first | (go_at_call 8; (with_reducible refine (F1.out _).mono ?_); rintro e w' ⟨rfl, hb⟩; replace HS := Lib.hid (HS.out.step hb); clear hb; obtain ⟨q0, q1, q2, q3, q4, q5, q6⟩ := K.out _ HS.out.low) | (go_at_call 10; (with_reducible refine (T1.out _ (HS.out.get (by repeat (first | exact List.mem_cons_self | apply List.mem_cons_of_mem)))).mono ?_); rintro e w' ⟨att, ntt, ctt, rfl, htt, hb⟩; replace HS := Lib.hid ((HS.out.step hb).add htt); clear hb htt; obtain ⟨q0, q1, q2, q3, q4, q5, q6⟩ := K.out _ HS.out.low) | (go_at_call 12; (with_reducible refine (ref4_any c s k a n cp l lo hi old _ hl (HS.out.get (by repeat (first | exact List.mem_cons_self | apply List.mem_cons_of_mem)))).mono ?_); rintro e w' ⟨arr, nrr, crr, rfl, hrr, hb⟩; replace HS := Lib.hid ((HS.out.step hb).add hrr); clear hb hrr; obtain ⟨q0, q1, q2, q3, q4, q5, q6⟩ := K.out _ HS.out.low) | (go_at_call 11; (with_reducible refine (C1.out arr nrr crr _ (HS.out.get (by repeat (first | exact List.mem_cons_self | apply List.mem_cons_of_mem)))).mono ?_); rintro e w5 ⟨rfl, hb⟩; replace HS := Lib.hid (HS.out.step hb); clear hb; obtain ⟨q0, q1, q2, q3, q4, q5, q6⟩ := K.out _ HS.out.low))
          replace HS := Lib.hid (show Env W1 w5.drew _ from env_drew HS.out)
          (first | go_region_with ((first | (go_at_call 13; (with_reducible refine (S1.out att ntt ctt _ (HS.out.get (by repeat (first | exact List.mem_cons_self | apply List.mem_cons_of_mem)))).mono ?_); rintro e w' ⟨rfl, hb⟩; replace HS := Lib.hid (HS.out.step hb); clear hb; obtain ⟨q0, q1, q2, q3, q4, q5, q6⟩ := K.out _ HS.out.low) | (go_at_call 14; (with_reducible refine (H1.out att ntt ctt _ (HS.out.get (by repeat (first | exact List.mem_cons_self | apply List.mem_cons_of_mem)))).mono ?_); rintro e w' ⟨rfl, hb⟩; replace HS := Lib.hid (HS.out.step hb); clear hb; obtain ⟨q0, q1, q2, q3, q4, q5, q6⟩ := K.out _ HS.out.low) | (go_at_call 12; (with_reducible refine (ref4_any c s k a n cp l lo hi old _ hl (HS.out.get (by repeat (first | exact List.mem_cons_self | apply List.mem_cons_of_mem)))).mono ?_); rintro e w' ⟨ar2, nr2, cr2, rfl, hr2, hb⟩; replace HS := Lib.hid ((HS.out.step hb).add hr2); clear hb hr2; obtain ⟨q0, q1, q2, q3, q4, q5, q6⟩ := K.out _ HS.out.low) | (go_at_call 15; (with_reducible refine (X1.out ar2 nr2 cr2 _ (HS.out.get (by repeat (first | exact List.mem_cons_self | apply List.mem_cons_of_mem)))).mono ?_); rintro e w' ⟨rfl, hb⟩; replace HS := Lib.hid (HS.out.step hb); clear hb; obtain ⟨q0, q1, q2, q3, q4, q5, q6⟩ := K.out _ HS.out.low) | (go_at_call 16; (with_reducible refine (V1.out _ (HS.out.get (by repeat (first | exact List.mem_cons_self | apply List.mem_cons_of_mem)))).mono ?_); rintro e w' ⟨rfl, hb⟩; replace HS := Lib.hid (HS.out.step hb); clear hb; obtain ⟨q0, q1, q2, q3, q4, q5, q6⟩ := K.out _ HS.out.low) | (go_at_call 17; (with_reducible refine (N1.out att ntt ctt _ (HS.out.get (by repeat (first | exact List.mem_cons_self | apply List.mem_cons_of_mem)))).mono ?_); rintro e w' ⟨rfl, hb⟩; replace HS := Lib.hid (HS.out.step hb); clear hb; obtain ⟨q0, q1, q2, q3, q4, q5, q6⟩ := K.out _ HS.out.low) | fail)) | fail)
          all_goals
            go_wp2_with fail
            replace HS := Lib.hid (show Env W1 (World.drew _) _ from env_drew HS.out)
            (first | go_region_held3 (fun w' => w'.cell? ⟨w.heap.size, 0, none⟩ = some (.int .i64 c) ∧ w'.cell? ⟨w.heap.size, 1, none⟩ = some (.int .i64 s) ∧ w'.cell? ⟨w.heap.size, 2, none⟩ = some (.int .i64 k) ∧ w'.cell? ⟨w.heap.size, 3, none⟩ = some (.slice a n cp) ∧ w'.cell? ⟨w.heap.size, 4, none⟩ = some (.int .i64 lo) ∧ w'.cell? ⟨w.heap.size, 5, none⟩ = some (.int .i64 hi) ∧ w'.cell? ⟨w.heap.size, 6, none⟩ = some (.int .i64 old)) (first | exact ⟨q0, q1, q2, q3, q4, q5, q6⟩ | go_keep) ((first | (go_at_call 9; (with_reducible refine (awake4_any _).mono ?_); rintro e w' ⟨rfl, hb⟩; replace HS := Lib.hid (HS.out.step hb); clear hb; obtain ⟨q0, q1, q2, q3, q4, q5, q6⟩ := K.out _ HS.out.low) | (go_at_call 19; (with_reducible refine (refs_any att ntt ctt L _ hLz (HS.out.get (by repeat (first | exact List.mem_cons_self | apply List.mem_cons_of_mem)))).mono ?_); rintro e w' ⟨ar3, nr3, cr3, rfl, hr3, hb⟩; replace HS := Lib.hid ((HS.out.step hb).add hr3); clear hb hr3; obtain ⟨q0, q1, q2, q3, q4, q5, q6⟩ := K.out _ HS.out.low) | (go_at_call 12; (with_reducible refine (ref4_any c s k a n cp l lo hi old _ hl (HS.out.get (by repeat (first | exact List.mem_cons_self | apply List.mem_cons_of_mem)))).mono ?_); rintro e w' ⟨ar4, nr4, cr4, rfl, hr4, hb⟩; replace HS := Lib.hid ((HS.out.step hb).add hr4); clear hb hr4; obtain ⟨q0, q1, q2, q3, q4, q5, q6⟩ := K.out _ HS.out.low) | (go_at_call 20; (with_reducible refine (R1.out ar4 nr4 cr4 _ (HS.out.get (by repeat (first | exact List.mem_cons_self | apply List.mem_cons_of_mem)))).mono ?_); rintro e w' ⟨ar5, nr5, cr5, rfl, hr5, hb⟩; replace HS := Lib.hid ((HS.out.step hb).add hr5); clear hb hr5; obtain ⟨q0, q1, q2, q3, q4, q5, q6⟩ := K.out _ HS.out.low) | (go_at_call 18; (with_reducible refine (same_selfE ar3 ar5 nr3 nr5 cr3 cr5 L _ (HS.out.get (by repeat (first | exact List.mem_cons_self | apply List.mem_cons_of_mem))) (HS.out.get (by repeat (first | exact List.mem_cons_self | apply List.mem_cons_of_mem)))).mono ?_); rintro e w' ⟨rfl, hb⟩; replace HS := Lib.hid (HS.out.step hb); clear hb; obtain ⟨q0, q1, q2, q3, q4, q5, q6⟩ := K.out _ HS.out.low) | fail)) | fail)
            all_goals
              go_wp2
              go_ret
              exact ⟨rfl, bw.trans (HS.out.low.mono bw.size)⟩
      · have V1 := Lib.hid (fun W h => hv ▸ malone_any c s k a n cp l lo hi old W h)
        have N1 := Lib.hid (fun a n c W h => m4 hv ▸ count_arg L a n c W h)
        clear hv m4
        cases t
        all_goals
          go_enter Try.func3, Try.ntmps3
          go_wp2_with (first | (go_at_call 8; (with_reducible refine (F1.out _).mono ?_); rintro e w' ⟨rfl, hb⟩; replace HS := Lib.hid (HS.out.step hb); clear hb; obtain ⟨q0, q1, q2, q3, q4, q5, q6⟩ := K.out _ HS.out.low) | (go_at_call 10; (with_reducible refine (T1.out _ (HS.out.get (by repeat (first | exact List.mem_cons_self | apply List.mem_cons_of_mem)))).mono ?_); rintro e w' ⟨att, ntt, ctt, rfl, htt, hb⟩; replace HS := Lib.hid ((HS.out.step hb).add htt); clear hb htt; obtain ⟨q0, q1, q2, q3, q4, q5, q6⟩ := K.out _ HS.out.low) | (go_at_call 12; (with_reducible refine (ref4_any c s k a n cp l lo hi old _ hl (HS.out.get (by repeat (first | exact List.mem_cons_self | apply List.mem_cons_of_mem)))).mono ?_); rintro e w' ⟨arr, nrr, crr, rfl, hrr, hb⟩; replace HS := Lib.hid ((HS.out.step hb).add hrr); clear hb hrr; obtain ⟨q0, q1, q2, q3, q4, q5, q6⟩ := K.out _ HS.out.low) | (go_at_call 11; (with_reducible refine (C1.out arr nrr crr _ (HS.out.get (by repeat (first | exact List.mem_cons_self | apply List.mem_cons_of_mem)))).mono ?_); rintro e w5 ⟨rfl, hb⟩; replace HS := Lib.hid (HS.out.step hb); clear hb; obtain ⟨q0, q1, q2, q3, q4, q5, q6⟩ := K.out _ HS.out.low))
          replace HS := Lib.hid (show Env W1 w5.drew _ from env_drew HS.out)
          (first | go_region_held3 (fun w' => w'.cell? ⟨w.heap.size, 0, none⟩ = some (.int .i64 c) ∧ w'.cell? ⟨w.heap.size, 1, none⟩ = some (.int .i64 s) ∧ w'.cell? ⟨w.heap.size, 2, none⟩ = some (.int .i64 k) ∧ w'.cell? ⟨w.heap.size, 3, none⟩ = some (.slice a n cp) ∧ w'.cell? ⟨w.heap.size, 4, none⟩ = some (.int .i64 lo) ∧ w'.cell? ⟨w.heap.size, 5, none⟩ = some (.int .i64 hi) ∧ w'.cell? ⟨w.heap.size, 6, none⟩ = some (.int .i64 old)) (first | exact ⟨q0, q1, q2, q3, q4, q5, q6⟩ | go_keep) ((first | (go_at_call 13; (with_reducible refine (S1.out att ntt ctt _ (HS.out.get (by repeat (first | exact List.mem_cons_self | apply List.mem_cons_of_mem)))).mono ?_); rintro e w' ⟨rfl, hb⟩; replace HS := Lib.hid (HS.out.step hb); clear hb; obtain ⟨q0, q1, q2, q3, q4, q5, q6⟩ := K.out _ HS.out.low) | (go_at_call 14; (with_reducible refine (H1.out att ntt ctt _ (HS.out.get (by repeat (first | exact List.mem_cons_self | apply List.mem_cons_of_mem)))).mono ?_); rintro e w' ⟨rfl, hb⟩; replace HS := Lib.hid (HS.out.step hb); clear hb; obtain ⟨q0, q1, q2, q3, q4, q5, q6⟩ := K.out _ HS.out.low) | (go_at_call 12; (with_reducible refine (ref4_any c s k a n cp l lo hi old _ hl (HS.out.get (by repeat (first | exact List.mem_cons_self | apply List.mem_cons_of_mem)))).mono ?_); rintro e w' ⟨ar2, nr2, cr2, rfl, hr2, hb⟩; replace HS := Lib.hid ((HS.out.step hb).add hr2); clear hb hr2; obtain ⟨q0, q1, q2, q3, q4, q5, q6⟩ := K.out _ HS.out.low) | (go_at_call 15; (with_reducible refine (X1.out ar2 nr2 cr2 _ (HS.out.get (by repeat (first | exact List.mem_cons_self | apply List.mem_cons_of_mem)))).mono ?_); rintro e w' ⟨rfl, hb⟩; replace HS := Lib.hid (HS.out.step hb); clear hb; obtain ⟨q0, q1, q2, q3, q4, q5, q6⟩ := K.out _ HS.out.low) | (go_at_call 16; (with_reducible refine (V1.out _ (HS.out.get (by repeat (first | exact List.mem_cons_self | apply List.mem_cons_of_mem)))).mono ?_); rintro e w' ⟨rfl, hb⟩; replace HS := Lib.hid (HS.out.step hb); clear hb; obtain ⟨q0, q1, q2, q3, q4, q5, q6⟩ := K.out _ HS.out.low) | (go_at_call 17; (with_reducible refine (N1.out att ntt ctt _ (HS.out.get (by repeat (first | exact List.mem_cons_self | apply List.mem_cons_of_mem)))).mono ?_); rintro e w' ⟨rfl, hb⟩; replace HS := Lib.hid (HS.out.step hb); clear hb; obtain ⟨q0, q1, q2, q3, q4, q5, q6⟩ := K.out _ HS.out.low) | fail)) | fail)
          all_goals
            go_wp2_with fail
            replace HS := Lib.hid (show Env W1 (World.drew _) _ from env_drew HS.out)
            (first | go_region_held3 (fun w' => w'.cell? ⟨w.heap.size, 0, none⟩ = some (.int .i64 c) ∧ w'.cell? ⟨w.heap.size, 1, none⟩ = some (.int .i64 s) ∧ w'.cell? ⟨w.heap.size, 2, none⟩ = some (.int .i64 k) ∧ w'.cell? ⟨w.heap.size, 3, none⟩ = some (.slice a n cp) ∧ w'.cell? ⟨w.heap.size, 4, none⟩ = some (.int .i64 lo) ∧ w'.cell? ⟨w.heap.size, 5, none⟩ = some (.int .i64 hi) ∧ w'.cell? ⟨w.heap.size, 6, none⟩ = some (.int .i64 old)) (first | exact ⟨q0, q1, q2, q3, q4, q5, q6⟩ | go_keep) ((first | (go_at_call 9; (with_reducible refine (awake4_any _).mono ?_); rintro e w' ⟨rfl, hb⟩; replace HS := Lib.hid (HS.out.step hb); clear hb; obtain ⟨q0, q1, q2, q3, q4, q5, q6⟩ := K.out _ HS.out.low) | (go_at_call 19; (with_reducible refine (refs_any att ntt ctt L _ hLz (HS.out.get (by repeat (first | exact List.mem_cons_self | apply List.mem_cons_of_mem)))).mono ?_); rintro e w' ⟨ar3, nr3, cr3, rfl, hr3, hb⟩; replace HS := Lib.hid ((HS.out.step hb).add hr3); clear hb hr3; obtain ⟨q0, q1, q2, q3, q4, q5, q6⟩ := K.out _ HS.out.low) | (go_at_call 12; (with_reducible refine (ref4_any c s k a n cp l lo hi old _ hl (HS.out.get (by repeat (first | exact List.mem_cons_self | apply List.mem_cons_of_mem)))).mono ?_); rintro e w' ⟨ar4, nr4, cr4, rfl, hr4, hb⟩; replace HS := Lib.hid ((HS.out.step hb).add hr4); clear hb hr4; obtain ⟨q0, q1, q2, q3, q4, q5, q6⟩ := K.out _ HS.out.low) | (go_at_call 20; (with_reducible refine (R1.out ar4 nr4 cr4 _ (HS.out.get (by repeat (first | exact List.mem_cons_self | apply List.mem_cons_of_mem)))).mono ?_); rintro e w' ⟨ar5, nr5, cr5, rfl, hr5, hb⟩; replace HS := Lib.hid ((HS.out.step hb).add hr5); clear hb hr5; obtain ⟨q0, q1, q2, q3, q4, q5, q6⟩ := K.out _ HS.out.low) | (go_at_call 18; (with_reducible refine (same_selfE ar3 ar5 nr3 nr5 cr3 cr5 L _ (HS.out.get (by repeat (first | exact List.mem_cons_self | apply List.mem_cons_of_mem))) (HS.out.get (by repeat (first | exact List.mem_cons_self | apply List.mem_cons_of_mem)))).mono ?_); rintro e w' ⟨rfl, hb⟩; replace HS := Lib.hid (HS.out.step hb); clear hb; obtain ⟨q0, q1, q2, q3, q4, q5, q6⟩ := K.out _ HS.out.low) | fail)) | fail)
            all_goals
              go_wp2
              go_ret
              exact ⟨rfl, bw.trans (HS.out.low.mono bw.size)⟩
end Go.Proofs.Ytlbfcbmfpnfheaa
