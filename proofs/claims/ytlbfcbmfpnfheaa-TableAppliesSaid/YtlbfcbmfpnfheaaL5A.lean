/-
  TableApplies walked.
-/
import Derived.Test.YtlbfcbmfpnfheaaJd
namespace Go.Proofs.Ytlbfcbmfpnfheaa
open Go.RowKit Go.Shelf Go.ChangeShapes Go.WideShapes Go.Deep

theorem appP_lenA (k old : Int) (on : List Sp) : ∀ (ps : List Sp) (i : Nat) (l : List Sp), (appP k old on i ps l).1.length ≤ l.length + ps.length
  | [], _, l => Nat.le_refl _
  | p :: t, i, l => by
    rw [appP_cons]
    split
    · cases nextV k old i p (getT l p.1) with
      | none => simp
      | some v => have h1 := appP_lenA k old on t (i + 1) (putT l p.1 v); have h2 := putT_len l p.1 v; simp only [List.length_cons]; show (appP k old on (i + 1) t (putT l p.1 v)).1.length ≤ _; omega
    · have h1 := appP_lenA k old on t (i + 1) l; simp only [List.length_cons]; omega
theorem applyP_lenA (l : List Sp) (c s k : Int) (ps : List Sp) (lo hi old : Int) (on : List Sp) : (applyP l c s k ps lo hi old on).1.length ≤ l.length + ps.length := by
  unfold applyP
  split
  · unfold appT
    split
    · have := List.length_filter_le (fun p : Sp => !(inB (lo, hi) p.1 && hasB on p.1)) l
      show (l.filter _).length ≤ _
      omega
    · exact appP_lenA k old on ps 0 l
  · simp
set_option maxRecDepth 100000 in
set_option maxHeartbeats 4000000 in
theorem tableApplies_walk (a : Option Addr) (n cp : Nat) (l : List Sp) (c s k : Int) (a2 : Option Addr) (n2 cp2 : Nat) (ps : List Sp) (lo hi old : Int) (a3 : Option Addr) (n3 cp3 : Nat) (on : List Sp) (w : World) (hL : Arg w a n cp l) (hP : Arg w a2 n2 cp2 ps) (hO : Arg w a3 n3 cp3 on) :
    Calls Try.prog 5 #[.slice a n cp, .agg #[.int .i64 c, .int .i64 s, .int .i64 k, .slice a2 n2 cp2, .int .i64 lo, .int .i64 hi, .int .i64 old], .slice a3 n3 cp3] w (TruePost w) := by
  obtain ⟨W1, hW1⟩ : ∃ W1, w.alloc (.cells #[.int .i64 c, .int .i64 s, .int .i64 k, .slice a2 n2 cp2, .int .i64 lo, .int .i64 hi, .int .i64 old] 26) = W1 := ⟨_, rfl⟩
  have bw : Below w.heap.size w W1 := by rw [← hW1]; exact (Below.refl _ _).alloc (Nat.le_refl _) _
  have K := Lib.hid (fun W (h : Below W1.heap.size W1 W) => box7 (w := w) (t := 26) (v0 := .int .i64 c) (v1 := .int .i64 s) (v2 := .int .i64 k) (v3 := .slice a2 n2 cp2) (v4 := .int .i64 lo) (v5 := .int .i64 hi) (v6 := .int .i64 old) (w' := W) (by rw [hW1]; exact h))
  have z1 : (n : Int) ≤ 9223372036854775807 := by have := hL.1; have := hL.2.1; omega
  have z2 : (n2 : Int) ≤ 9223372036854775807 := by have := hP.1; have := hP.2.1; omega
  have z3 : (n3 : Int) ≤ 9223372036854775807 := by have := hO.1; have := hO.2.1; omega
  have HS := Lib.hid ((((Env.mk (L := []) (Below.refl W1.heap.size W1) (by simp)).add (hO.below bw)).add (hP.below bw)).add (hL.below bw))
  obtain ⟨q0, q1, q2, q3, q4, q5, q6⟩ := K.out _ HS.out.low
  have F1 := Lib.hid (fun W => few5_any a n cp c s k a2 n2 cp2 lo hi old a3 n3 cp3 W z1 z2 z3)
  cases hf : fewB n n2 n3
  · rw [hf] at F1
    clear hL hP hO hf
    go_enter Try.func5, Try.ntmps5
    go_wp2_with (first | (go_at_call 23; (with_reducible refine (F1.out _).mono ?_); rintro e w' ⟨rfl, hb⟩; replace HS := Lib.hid (HS.out.step hb); clear hb; obtain ⟨q0, q1, q2, q3, q4, q5, q6⟩ := K.out _ HS.out.low) | (go_at_call 24; (with_reducible refine (awake5_any _).mono ?_); rintro e w' ⟨rfl, hb⟩; replace HS := Lib.hid (HS.out.step hb); clear hb; obtain ⟨q0, q1, q2, q3, q4, q5, q6⟩ := K.out _ HS.out.low))
    go_ret
    exact ⟨rfl, bw.trans (HS.out.low.mono bw.size)⟩
  · rw [hf] at F1
    have zz : l.length ≤ 4096 ∧ ps.length ≤ 4096 ∧ on.length ≤ 100000 := by unfold fewB at hf; simp at hf; have := hL.1; have := hP.1; have := hO.1; omega
    obtain ⟨zl4, zp4, zo⟩ := zz
    have zl : l.length ≤ 100000 := by omega
    have zp : ps.length ≤ 100000 := by omega
    have hlen := applyP_lenA l c s k ps lo hi old on
    obtain ⟨⟨R, d⟩, hR⟩ : ∃ r, applyP l c s k ps lo hi old on = r := ⟨_, rfl⟩
    rw [hR] at hlen
    have zR : R.length ≤ 100000 := by dsimp only at hlen; omega
    have A1 := Lib.hid (fun W h1 h2 h3 => hR ▸ apply_any a n cp l c s k a2 n2 cp2 ps lo hi old a3 n3 cp3 on W h1 h2 h3)
    have A2 := Lib.hid (fun a n cp a2 n2 cp2 a3 n3 cp3 W h1 h2 h3 => hR ▸ rtapply_any a n cp l c s k a2 n2 cp2 ps lo hi old a3 n3 cp3 on W h1 h2 h3 zl4 zp4)
    have SR := Lib.hid (fun a b n m c d W h1 h2 => (show decide (R = R) = true from decide_eq_true rfl) ▸ same5_any a b n m c d R R W h1 h2)
    replace hR := Lib.hid hR
    clear hL hP hO hf hlen zl4 zp4
    go_enter Try.func5, Try.ntmps5
    go_wp2_with (first | (go_at_call 23; (with_reducible refine (F1.out _).mono ?_); rintro e w' ⟨rfl, hb⟩; replace HS := Lib.hid (HS.out.step hb); clear hb; obtain ⟨q0, q1, q2, q3, q4, q5, q6⟩ := K.out _ HS.out.low) | (go_at_call 25; (with_reducible refine (A1.out _ (HS.out.get (by repeat (first | exact List.mem_cons_self | apply List.mem_cons_of_mem))) (HS.out.get (by repeat (first | exact List.mem_cons_self | apply List.mem_cons_of_mem))) (HS.out.get (by repeat (first | exact List.mem_cons_self | apply List.mem_cons_of_mem)))).mono ?_); rintro e w' ⟨vw0, rfl, ow0, hb⟩; obtain ⟨aw0, nw0, cw0, rfl, hw0⟩ := ow0.ready; (try dsimp only at hw0); replace HS := Lib.hid ((HS.out.step hb).add hw0); clear hb hw0 ow0; obtain ⟨q0, q1, q2, q3, q4, q5, q6⟩ := K.out _ HS.out.low))
    replace HS := Lib.hid (show Env W1 w'.drew _ from env_drew HS.out)
    go_region_held3 (fun w' => w'.cell? ⟨w.heap.size, 0, none⟩ = some (.int .i64 c) ∧ w'.cell? ⟨w.heap.size, 1, none⟩ = some (.int .i64 s) ∧ w'.cell? ⟨w.heap.size, 2, none⟩ = some (.int .i64 k) ∧ w'.cell? ⟨w.heap.size, 3, none⟩ = some (.slice a2 n2 cp2) ∧ w'.cell? ⟨w.heap.size, 4, none⟩ = some (.int .i64 lo) ∧ w'.cell? ⟨w.heap.size, 5, none⟩ = some (.int .i64 hi) ∧ w'.cell? ⟨w.heap.size, 6, none⟩ = some (.int .i64 old)) (first | exact ⟨q0, q1, q2, q3, q4, q5, q6⟩ | go_keep) ((first | (go_at_call 27; (with_reducible refine (refs5_any a n cp l _ zl (HS.out.get (by repeat (first | exact List.mem_cons_self | apply List.mem_cons_of_mem)))).mono ?_); rintro e w' ⟨ar5, nr5, cr5, rfl, hr5, hb⟩; replace HS := Lib.hid ((HS.out.step hb).add hr5); clear hb hr5; obtain ⟨q0, q1, q2, q3, q4, q5, q6⟩ := K.out _ HS.out.low) | (go_at_call 12; (with_reducible refine (ref4_any c s k a2 n2 cp2 ps lo hi old _ zp (HS.out.get (by repeat (first | exact List.mem_cons_self | apply List.mem_cons_of_mem)))).mono ?_); rintro e w' ⟨ar4, nr4, cr4, rfl, hr4, hb⟩; replace HS := Lib.hid ((HS.out.step hb).add hr4); clear hb hr4; obtain ⟨q0, q1, q2, q3, q4, q5, q6⟩ := K.out _ HS.out.low) | (go_at_call 19; (with_reducible refine (refs_any a3 n3 cp3 on _ zo (HS.out.get (by repeat (first | exact List.mem_cons_self | apply List.mem_cons_of_mem)))).mono ?_); rintro e w' ⟨ar3, nr3, cr3, rfl, hr3, hb⟩; replace HS := Lib.hid ((HS.out.step hb).add hr3); clear hb hr3; obtain ⟨q0, q1, q2, q3, q4, q5, q6⟩ := K.out _ HS.out.low) | (go_at_call 26; (with_reducible refine (A2.out ar5 nr5 cr5 ar4 nr4 cr4 ar3 nr3 cr3 _ (HS.out.get (by repeat (first | exact List.mem_cons_self | apply List.mem_cons_of_mem))) (HS.out.get (by repeat (first | exact List.mem_cons_self | apply List.mem_cons_of_mem))) (HS.out.get (by repeat (first | exact List.mem_cons_self | apply List.mem_cons_of_mem)))).mono ?_); rintro e w' ⟨ara, nra, cra, rfl, hra, hb⟩; replace HS := Lib.hid ((HS.out.step hb).add hra); clear hb hra; obtain ⟨q0, q1, q2, q3, q4, q5, q6⟩ := K.out _ HS.out.low) | fail))
    all_goals
      cases d
    all_goals
      go_wp2_with (first | (go_at_call 24; (with_reducible refine (awake5_any _).mono ?_); rintro e w' ⟨rfl, hb⟩; replace HS := Lib.hid (HS.out.step hb); clear hb; obtain ⟨q0, q1, q2, q3, q4, q5, q6⟩ := K.out _ HS.out.low) | (go_at_call 27; (with_reducible refine (refs5_any aw0 nw0 cw0 R _ zR (HS.out.get (by repeat (first | exact List.mem_cons_self | apply List.mem_cons_of_mem)))).mono ?_); rintro e w' ⟨ar6, nr6, cr6, rfl, hr6, hb⟩; replace HS := Lib.hid ((HS.out.step hb).add hr6); clear hb hr6; obtain ⟨q0, q1, q2, q3, q4, q5, q6⟩ := K.out _ HS.out.low) | (go_at_call 28; (with_reducible refine (SR.out ar6 ara nr6 nra cr6 cra _ (HS.out.get (by repeat (first | exact List.mem_cons_self | apply List.mem_cons_of_mem))) (HS.out.get (by repeat (first | exact List.mem_cons_self | apply List.mem_cons_of_mem)))).mono ?_); rintro e w' ⟨rfl, hb⟩; replace HS := Lib.hid (HS.out.step hb); clear hb; obtain ⟨q0, q1, q2, q3, q4, q5, q6⟩ := K.out _ HS.out.low))
      go_ret
      exact ⟨rfl, bw.trans (HS.out.low.mono bw.size)⟩
end Go.Proofs.Ytlbfcbmfpnfheaa
