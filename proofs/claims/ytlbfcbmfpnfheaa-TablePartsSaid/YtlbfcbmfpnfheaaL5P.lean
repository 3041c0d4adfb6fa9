/-
  TableParts walked.
-/
import Derived.Test.YtlbfcbmfpnfheaaJt
import Derived.Deep.RegionHeld3
namespace Go.Proofs.Ytlbfcbmfpnfheaa
open Go.RowKit Go.Shelf Go.ChangeShapes Go.WideShapes Go.Deep

theorem few_len5P {n n2 n3 : Nat} {l ps on : List Sp} (h : fewB n n2 n3 = true) (h1 : n = l.length) (h2 : n2 = ps.length) (h3 : n3 = on.length) : l.length ≤ 100000 ∧ ps.length ≤ 100000 ∧ on.length ≤ 100000 := by
  unfold fewB at h
  simp at h
  omega
set_option maxRecDepth 100000 in
set_option maxHeartbeats 4000000 in
theorem tableParts_walk (a : Option Addr) (n cp : Nat) (l : List Sp) (c s k : Int) (a2 : Option Addr) (n2 cp2 : Nat) (ps : List Sp) (lo hi old : Int) (a3 : Option Addr) (n3 cp3 : Nat) (on : List Sp) (w : World) (hL : Arg w a n cp l) (hP : Arg w a2 n2 cp2 ps) (hO : Arg w a3 n3 cp3 on) :
    Calls Try.prog 7 #[.slice a n cp, .agg #[.int .i64 c, .int .i64 s, .int .i64 k, .slice a2 n2 cp2, .int .i64 lo, .int .i64 hi, .int .i64 old], .slice a3 n3 cp3] w (TruePost w) := by
  have mixed : Try.prog.follows .mixedOrders = true := by kernel_rfl
  obtain ⟨W1, hW1⟩ : ∃ W1, w.alloc (.cells #[.int .i64 c, .int .i64 s, .int .i64 k, .slice a2 n2 cp2, .int .i64 lo, .int .i64 hi, .int .i64 old] 26) = W1 := ⟨_, rfl⟩
  have bw : Below w.heap.size w W1 := by rw [← hW1]; exact (Below.refl _ _).alloc (Nat.le_refl _) _
  have K := Lib.hid (fun W (h : Below W1.heap.size W1 W) => box7 (w := w) (t := 26) (v0 := .int .i64 c) (v1 := .int .i64 s) (v2 := .int .i64 k) (v3 := .slice a2 n2 cp2) (v4 := .int .i64 lo) (v5 := .int .i64 hi) (v6 := .int .i64 old) (w' := W) (by rw [hW1]; exact h))
  have z1 : (n : Int) ≤ 9223372036854775807 := by have := hL.1; have := hL.2.1; omega
  have z2 : (n2 : Int) ≤ 9223372036854775807 := by have := hP.1; have := hP.2.1; omega
  have z3 : (n3 : Int) ≤ 9223372036854775807 := by have := hO.1; have := hO.2.1; omega
  have b0 : Below W1.heap.size W1 (W1.alloc (.cells #[.int .i64 0, .int .i64 4096] 24)) := (Below.refl _ _).alloc (Nat.le_refl _) _
  have HS := Lib.hid ((((((Env.mk (L := []) (Below.refl W1.heap.size W1) (by simp)).add (hO.below bw)).add (hP.below bw)).add (hL.below bw)).step b0).add (n := 1) (c := 1) (l := [(0, 4096)]) (arg_new _ 24 [(0, 4096)] #[.int .i64 0, .int .i64 4096] rfl (by simp)))
  obtain ⟨q0, q1, q2, q3, q4, q5, q6⟩ := K.out _ HS.out.low
  have F1 := Lib.hid (fun W => few5_any a n cp c s k a2 n2 cp2 lo hi old a3 n3 cp3 W z1 z2 z3)
  obtain ⟨⟨off, er⟩, hoff⟩ : ∃ r, lessP [(0, 4096)] on = r := ⟨_, rfl⟩
  have LS := Lib.hid (fun W h1 h2 => hoff ▸ less_any [(0, 4096)] on (some ⟨W1.heap.size, 0, none⟩) a3 1 n3 1 cp3 W h1 h2)
  cases hf : fewB n n2 n3
  · rw [hf] at F1
    clear hL hP hO hf
    go_enter Try.func7, Try.ntmps7
    go_wp2_with (first | (go_at_call 33; (with_reducible refine (LS.out _ (HS.out.get (by repeat (first | exact List.mem_cons_self | apply List.mem_cons_of_mem))) (HS.out.get (by repeat (first | exact List.mem_cons_self | apply List.mem_cons_of_mem)))).mono ?_); rintro e w' ⟨aoff, noff, coff, rfl, hoff, hb⟩; replace HS := Lib.hid ((HS.out.step hb).add hoff); clear hb hoff; obtain ⟨q0, q1, q2, q3, q4, q5, q6⟩ := K.out _ HS.out.low) | (go_at_call 23; (with_reducible refine (F1.out _).mono ?_); rintro e w' ⟨rfl, hb⟩; replace HS := Lib.hid (HS.out.step hb); clear hb; obtain ⟨q0, q1, q2, q3, q4, q5, q6⟩ := K.out _ HS.out.low) | (go_at_call 24; (with_reducible refine (awake5_any _).mono ?_); rintro e w' ⟨rfl, hb⟩; replace HS := Lib.hid (HS.out.step hb); clear hb; obtain ⟨q0, q1, q2, q3, q4, q5, q6⟩ := K.out _ HS.out.low))
    go_ret
    exact ⟨rfl, bw.trans (HS.out.low.mono bw.size)⟩
  · rw [hf] at F1
    obtain ⟨zl, zp, zo⟩ := few_len5P hf hL.1 hP.1 hO.1
    obtain ⟨t1, ht1⟩ : ∃ f, tblB l = f := ⟨_, rfl⟩
    obtain ⟨m1, hm1⟩ : ∃ f, chkM c s k ps lo hi old = f := ⟨_, rfl⟩
    have T1 := Lib.hid (fun W h => ht1 ▸ tcheck_any a n cp l W h)
    have M1 := Lib.hid (fun W h => hm1 ▸ mcheck_any c s k a2 n2 cp2 ps lo hi old W h)
    clear hL hP hO hf
    have hcase : t1 = false ∨ (t1 = true ∧ m1 = false) ∨ (t1 = true ∧ m1 = true ∧ er ≠ 0) ∨ (t1 = true ∧ m1 = true ∧ er = 0) := by
      by_cases h : er = 0 <;> cases t1 <;> cases m1 <;> simp [h]
    rcases hcase with rfl | ⟨rfl, rfl⟩ | ⟨rfl, rfl, he⟩ | ⟨rfl, rfl, rfl⟩
    · replace ht1 := Lib.hid ht1
      replace hm1 := Lib.hid hm1
      replace hoff := Lib.hid hoff
      go_enter Try.func7, Try.ntmps7
      go_wp2_with (first | (go_at_call 33; (with_reducible refine (LS.out _ (HS.out.get (by repeat (first | exact List.mem_cons_self | apply List.mem_cons_of_mem))) (HS.out.get (by repeat (first | exact List.mem_cons_self | apply List.mem_cons_of_mem)))).mono ?_); rintro e w' ⟨aoff, noff, coff, rfl, hoff, hb⟩; replace HS := Lib.hid ((HS.out.step hb).add hoff); clear hb hoff; obtain ⟨q0, q1, q2, q3, q4, q5, q6⟩ := K.out _ HS.out.low) | (go_at_call 23; (with_reducible refine (F1.out _).mono ?_); rintro e w' ⟨rfl, hb⟩; replace HS := Lib.hid (HS.out.step hb); clear hb; obtain ⟨q0, q1, q2, q3, q4, q5, q6⟩ := K.out _ HS.out.low) | (go_at_call 34; (with_reducible refine (T1.out _ (HS.out.get (by repeat (first | exact List.mem_cons_self | apply List.mem_cons_of_mem)))).mono ?_); rintro e w' ⟨rfl, hb⟩; replace HS := Lib.hid (HS.out.step hb); clear hb; obtain ⟨q0, q1, q2, q3, q4, q5, q6⟩ := K.out _ HS.out.low) | (go_at_call 24; (with_reducible refine (awake5_any _).mono ?_); rintro e w' ⟨rfl, hb⟩; replace HS := Lib.hid (HS.out.step hb); clear hb; obtain ⟨q0, q1, q2, q3, q4, q5, q6⟩ := K.out _ HS.out.low))
      go_ret
      exact ⟨rfl, bw.trans (HS.out.low.mono bw.size)⟩
    · replace ht1 := Lib.hid ht1
      replace hm1 := Lib.hid hm1
      replace hoff := Lib.hid hoff
      go_enter Try.func7, Try.ntmps7
      go_wp2_with (first | (go_at_call 33; (with_reducible refine (LS.out _ (HS.out.get (by repeat (first | exact List.mem_cons_self | apply List.mem_cons_of_mem))) (HS.out.get (by repeat (first | exact List.mem_cons_self | apply List.mem_cons_of_mem)))).mono ?_); rintro e w' ⟨aoff, noff, coff, rfl, hoff, hb⟩; replace HS := Lib.hid ((HS.out.step hb).add hoff); clear hb hoff; obtain ⟨q0, q1, q2, q3, q4, q5, q6⟩ := K.out _ HS.out.low) | (go_at_call 23; (with_reducible refine (F1.out _).mono ?_); rintro e w' ⟨rfl, hb⟩; replace HS := Lib.hid (HS.out.step hb); clear hb; obtain ⟨q0, q1, q2, q3, q4, q5, q6⟩ := K.out _ HS.out.low) | (go_at_call 34; (with_reducible refine (T1.out _ (HS.out.get (by repeat (first | exact List.mem_cons_self | apply List.mem_cons_of_mem)))).mono ?_); rintro e w' ⟨rfl, hb⟩; replace HS := Lib.hid (HS.out.step hb); clear hb; obtain ⟨q0, q1, q2, q3, q4, q5, q6⟩ := K.out _ HS.out.low) | (go_at_call 35; (with_reducible refine (M1.out _ (HS.out.get (by repeat (first | exact List.mem_cons_self | apply List.mem_cons_of_mem)))).mono ?_); rintro e w' ⟨rfl, hb⟩; replace HS := Lib.hid (HS.out.step hb); clear hb; obtain ⟨q0, q1, q2, q3, q4, q5, q6⟩ := K.out _ HS.out.low) | (go_at_call 24; (with_reducible refine (awake5_any _).mono ?_); rintro e w' ⟨rfl, hb⟩; replace HS := Lib.hid (HS.out.step hb); clear hb; obtain ⟨q0, q1, q2, q3, q4, q5, q6⟩ := K.out _ HS.out.low))
      go_ret
      exact ⟨rfl, bw.trans (HS.out.low.mono bw.size)⟩
    · have heb : (er != 0) = true := by simpa using he
      replace ht1 := Lib.hid ht1
      replace hm1 := Lib.hid hm1
      replace hoff := Lib.hid hoff
      clear he
      go_enter Try.func7, Try.ntmps7
      go_wp2_with (first | (go_at_call 33; (with_reducible refine (LS.out _ (HS.out.get (by repeat (first | exact List.mem_cons_self | apply List.mem_cons_of_mem))) (HS.out.get (by repeat (first | exact List.mem_cons_self | apply List.mem_cons_of_mem)))).mono ?_); rintro e w' ⟨aoff, noff, coff, rfl, hoff, hb⟩; replace HS := Lib.hid ((HS.out.step hb).add hoff); clear hb hoff; obtain ⟨q0, q1, q2, q3, q4, q5, q6⟩ := K.out _ HS.out.low) | (go_at_call 23; (with_reducible refine (F1.out _).mono ?_); rintro e w' ⟨rfl, hb⟩; replace HS := Lib.hid (HS.out.step hb); clear hb; obtain ⟨q0, q1, q2, q3, q4, q5, q6⟩ := K.out _ HS.out.low) | (go_at_call 34; (with_reducible refine (T1.out _ (HS.out.get (by repeat (first | exact List.mem_cons_self | apply List.mem_cons_of_mem)))).mono ?_); rintro e w' ⟨rfl, hb⟩; replace HS := Lib.hid (HS.out.step hb); clear hb; obtain ⟨q0, q1, q2, q3, q4, q5, q6⟩ := K.out _ HS.out.low) | (go_at_call 35; (with_reducible refine (M1.out _ (HS.out.get (by repeat (first | exact List.mem_cons_self | apply List.mem_cons_of_mem)))).mono ?_); rintro e w' ⟨rfl, hb⟩; replace HS := Lib.hid (HS.out.step hb); clear hb; obtain ⟨q0, q1, q2, q3, q4, q5, q6⟩ := K.out _ HS.out.low) | (go_at_call 24; (with_reducible refine (awake5_any _).mono ?_); rintro e w' ⟨rfl, hb⟩; replace HS := Lib.hid (HS.out.step hb); clear hb; obtain ⟨q0, q1, q2, q3, q4, q5, q6⟩ := K.out _ HS.out.low))
      go_ret
      exact ⟨rfl, bw.trans (HS.out.low.mono bw.size)⟩
    · obtain ⟨R, z, eR⟩ : ∃ A p, applyP l c s k ps lo hi old [(0, 4096)] = (A, p) := ⟨_, _, rfl⟩
      obtain ⟨x1, p1, e1⟩ : ∃ A p, applyP (clipP l on) c s k ps lo hi old on = (A, p) := ⟨_, _, rfl⟩
      obtain ⟨x2, p2, e2⟩ : ∃ A p, applyP (clipP l off) c s k ps lo hi old off = (A, p) := ⟨_, _, rfl⟩
      obtain ⟨J, f, eJ⟩ : ∃ J f, joinT x1 x2 = (J, f) := ⟨_, _, rfl⟩
      obtain ⟨hf0, hJR, hz⟩ := tparts_math ht1 hm1 hoff eR e1 e2 eJ
      subst hf0
      subst hJR
      have zR : J.length ≤ 100000 := by
        have := (tfails_math (key := 0) (l := l) ht1 hm1).1
        rw [eR] at this
        have h2 := tbl_le this
        dsimp only at h2
        omega
      have A0 := Lib.hid (fun a3 n3 cp3 W h1 h2 h3 => eR ▸ apply_any a n cp l c s k a2 n2 cp2 ps lo hi old a3 n3 cp3 [(0, 4096)] W h1 h2 h3)
      have K1 := Lib.hid (fun W h1 h2 => clip_any a n cp l a3 n3 cp3 on W h1 h2)
      have K2 := Lib.hid (fun a3 n3 cp3 W h1 h2 => clip_any a n cp l a3 n3 cp3 off W h1 h2)
      have A1 := Lib.hid (fun a n cp W h1 h2 h3 => e1 ▸ apply_any a n cp (clipP l on) c s k a2 n2 cp2 ps lo hi old a3 n3 cp3 on W h1 h2 h3)
      have A2 := Lib.hid (fun a n cp a3 n3 cp3 W h1 h2 h3 => e2 ▸ apply_any a n cp (clipP l off) c s k a2 n2 cp2 ps lo hi old a3 n3 cp3 off W h1 h2 h3)
      have JJ := Lib.hid (fun a n cp b m cq W h1 h2 => eJ ▸ tjoin_any a n cp x1 b m cq x2 W h1 h2)
      have SR := Lib.hid (fun a b n m c d W h1 h2 => (show decide (J = J) = true from decide_eq_true rfl) ▸ same5_any a b n m c d J J W h1 h2)
      replace ht1 := Lib.hid ht1
      replace hm1 := Lib.hid hm1
      replace hoff := Lib.hid hoff
      replace eR := Lib.hid eR
      replace e1 := Lib.hid e1
      replace e2 := Lib.hid e2
      replace eJ := Lib.hid eJ
      replace hz := Lib.hid hz
      go_enter Try.func7, Try.ntmps7
      go_wp2_with (first | (go_at_call 33; (with_reducible refine (LS.out _ (HS.out.get (by repeat (first | exact List.mem_cons_self | apply List.mem_cons_of_mem))) (HS.out.get (by repeat (first | exact List.mem_cons_self | apply List.mem_cons_of_mem)))).mono ?_); rintro e w' ⟨aoff, noff, coff, rfl, hoff, hb⟩; replace HS := Lib.hid ((HS.out.step hb).add hoff); clear hb hoff; obtain ⟨q0, q1, q2, q3, q4, q5, q6⟩ := K.out _ HS.out.low) | (go_at_call 23; (with_reducible refine (F1.out _).mono ?_); rintro e w' ⟨rfl, hb⟩; replace HS := Lib.hid (HS.out.step hb); clear hb; obtain ⟨q0, q1, q2, q3, q4, q5, q6⟩ := K.out _ HS.out.low) | (go_at_call 34; (with_reducible refine (T1.out _ (HS.out.get (by repeat (first | exact List.mem_cons_self | apply List.mem_cons_of_mem)))).mono ?_); rintro e w' ⟨rfl, hb⟩; replace HS := Lib.hid (HS.out.step hb); clear hb; obtain ⟨q0, q1, q2, q3, q4, q5, q6⟩ := K.out _ HS.out.low) | (go_at_call 35; (with_reducible refine (M1.out _ (HS.out.get (by repeat (first | exact List.mem_cons_self | apply List.mem_cons_of_mem)))).mono ?_); rintro e w' ⟨rfl, hb⟩; replace HS := Lib.hid (HS.out.step hb); clear hb; obtain ⟨q0, q1, q2, q3, q4, q5, q6⟩ := K.out _ HS.out.low) | (go_at_call 25; (with_reducible refine (A0.out _ _ _ _ (HS.out.get (by repeat (first | exact List.mem_cons_self | apply List.mem_cons_of_mem))) (HS.out.get (by repeat (first | exact List.mem_cons_self | apply List.mem_cons_of_mem))) (HS.out.get (by repeat (first | exact List.mem_cons_self | apply List.mem_cons_of_mem)))).mono ?_); rintro e w' ⟨vw0, rfl, ow0, hb⟩; obtain ⟨aw0, nw0, cw0, rfl, hw0⟩ := ow0.ready; (try dsimp only at hw0); replace HS := Lib.hid ((HS.out.step hb).add hw0); clear hb hw0 ow0; obtain ⟨q0, q1, q2, q3, q4, q5, q6⟩ := K.out _ HS.out.low))
      replace HS := Lib.hid (show Env W1 w'.drew _ from env_drew HS.out)
      go_region_held3 (fun w' => w'.cell? ⟨w.heap.size, 0, none⟩ = some (.int .i64 c) ∧ w'.cell? ⟨w.heap.size, 1, none⟩ = some (.int .i64 s) ∧ w'.cell? ⟨w.heap.size, 2, none⟩ = some (.int .i64 k) ∧ w'.cell? ⟨w.heap.size, 3, none⟩ = some (.slice a2 n2 cp2) ∧ w'.cell? ⟨w.heap.size, 4, none⟩ = some (.int .i64 lo) ∧ w'.cell? ⟨w.heap.size, 5, none⟩ = some (.int .i64 hi) ∧ w'.cell? ⟨w.heap.size, 6, none⟩ = some (.int .i64 old)) (first | exact ⟨q0, q1, q2, q3, q4, q5, q6⟩ | go_keep) ((first | (go_at_call 31; (with_reducible refine (K1.out _ (HS.out.get (by repeat (first | exact List.mem_cons_self | apply List.mem_cons_of_mem))) (HS.out.get (by repeat (first | exact List.mem_cons_self | apply List.mem_cons_of_mem)))).mono ?_); rintro e w' ⟨vk1, rfl, ok1, hb⟩; obtain ⟨ak1, nk1, ck1, rfl, hk1⟩ := ok1.ready; (try dsimp only at hk1); replace HS := Lib.hid ((HS.out.step hb).add hk1); clear hb hk1 ok1; obtain ⟨q0, q1, q2, q3, q4, q5, q6⟩ := K.out _ HS.out.low) | (go_at_call 25; (with_reducible refine (A1.out ak1 nk1 ck1 _ (HS.out.get (by repeat (first | exact List.mem_cons_self | apply List.mem_cons_of_mem))) (HS.out.get (by repeat (first | exact List.mem_cons_self | apply List.mem_cons_of_mem))) (HS.out.get (by repeat (first | exact List.mem_cons_self | apply List.mem_cons_of_mem)))).mono ?_); rintro e w' ⟨vw1, rfl, ow1, hb⟩; obtain ⟨aw1, nw1, cw1, rfl, hw1⟩ := ow1.ready; (try dsimp only at hw1); replace HS := Lib.hid ((HS.out.step hb).add hw1); clear hb hw1 ow1; obtain ⟨q0, q1, q2, q3, q4, q5, q6⟩ := K.out _ HS.out.low) | fail))
      go_wp2_with fail
      replace HS := Lib.hid (show Env W1 w'.drew _ from env_drew HS.out)
      go_region_held3 (fun w' => w'.cell? ⟨w.heap.size, 0, none⟩ = some (.int .i64 c) ∧ w'.cell? ⟨w.heap.size, 1, none⟩ = some (.int .i64 s) ∧ w'.cell? ⟨w.heap.size, 2, none⟩ = some (.int .i64 k) ∧ w'.cell? ⟨w.heap.size, 3, none⟩ = some (.slice a2 n2 cp2) ∧ w'.cell? ⟨w.heap.size, 4, none⟩ = some (.int .i64 lo) ∧ w'.cell? ⟨w.heap.size, 5, none⟩ = some (.int .i64 hi) ∧ w'.cell? ⟨w.heap.size, 6, none⟩ = some (.int .i64 old)) (first | exact ⟨q0, q1, q2, q3, q4, q5, q6⟩ | go_keep) ((first | (go_at_call 31; (with_reducible refine (K2.out aoff noff coff _ (HS.out.get (by repeat (first | exact List.mem_cons_self | apply List.mem_cons_of_mem))) (HS.out.get (by repeat (first | exact List.mem_cons_self | apply List.mem_cons_of_mem)))).mono ?_); rintro e w' ⟨vk2, rfl, ok2, hb⟩; obtain ⟨ak2, nk2, ck2, rfl, hk2⟩ := ok2.ready; (try dsimp only at hk2); replace HS := Lib.hid ((HS.out.step hb).add hk2); clear hb hk2 ok2; obtain ⟨q0, q1, q2, q3, q4, q5, q6⟩ := K.out _ HS.out.low) | (go_at_call 25; (with_reducible refine (A2.out ak2 nk2 ck2 aoff noff coff _ (HS.out.get (by repeat (first | exact List.mem_cons_self | apply List.mem_cons_of_mem))) (HS.out.get (by repeat (first | exact List.mem_cons_self | apply List.mem_cons_of_mem))) (HS.out.get (by repeat (first | exact List.mem_cons_self | apply List.mem_cons_of_mem)))).mono ?_); rintro e w' ⟨vw2, rfl, ow2, hb⟩; obtain ⟨aw2, nw2, cw2, rfl, hw2⟩ := ow2.ready; (try dsimp only at hw2); replace HS := Lib.hid ((HS.out.step hb).add hw2); clear hb hw2 ow2; obtain ⟨q0, q1, q2, q3, q4, q5, q6⟩ := K.out _ HS.out.low) | fail))
      all_goals
        go_wp2_with (first | (go_at_call 29; (with_reducible refine (JJ.out aw1 nw1 cw1 aw2 nw2 cw2 _ (HS.out.get (by repeat (first | exact List.mem_cons_self | apply List.mem_cons_of_mem))) (HS.out.get (by repeat (first | exact List.mem_cons_self | apply List.mem_cons_of_mem)))).mono ?_); rintro e w' ⟨ajj, njj, cjj, rfl, hjj, hb⟩; replace HS := Lib.hid ((HS.out.step hb).add hjj); clear hb hjj; obtain ⟨q0, q1, q2, q3, q4, q5, q6⟩ := K.out _ HS.out.low) | (go_at_call 27; (with_reducible refine (refs5_any ajj njj cjj J _ zR (HS.out.get (by repeat (first | exact List.mem_cons_self | apply List.mem_cons_of_mem)))).mono ?_); rintro e w' ⟨au1, nu1, cu1, rfl, hu1, hb⟩; replace HS := Lib.hid ((HS.out.step hb).add hu1); clear hb hu1; obtain ⟨q0, q1, q2, q3, q4, q5, q6⟩ := K.out _ HS.out.low) | (go_at_call 27; (with_reducible refine (refs5_any aw0 nw0 cw0 J _ zR (HS.out.get (by repeat (first | exact List.mem_cons_self | apply List.mem_cons_of_mem)))).mono ?_); rintro e w' ⟨au2, nu2, cu2, rfl, hu2, hb⟩; replace HS := Lib.hid ((HS.out.step hb).add hu2); clear hb hu2; obtain ⟨q0, q1, q2, q3, q4, q5, q6⟩ := K.out _ HS.out.low) | (go_at_call 28; (with_reducible refine (SR.out au1 au2 nu1 nu2 cu1 cu2 _ (HS.out.get (by repeat (first | exact List.mem_cons_self | apply List.mem_cons_of_mem))) (HS.out.get (by repeat (first | exact List.mem_cons_self | apply List.mem_cons_of_mem)))).mono ?_); rintro e w' ⟨rfl, hb⟩; replace HS := Lib.hid (HS.out.step hb); clear hb; obtain ⟨q0, q1, q2, q3, q4, q5, q6⟩ := K.out _ HS.out.low) | (go_at_call 24; (with_reducible refine (awake5_any _).mono ?_); rintro e w' ⟨rfl, hb⟩; replace HS := Lib.hid (HS.out.step hb); clear hb; obtain ⟨q0, q1, q2, q3, q4, q5, q6⟩ := K.out _ HS.out.low))
        all_goals
          go_ret
          exact ⟨ret_bool (by rw [hz.out]; cases p1 <;> cases p2 <;> first | rfl | contradiction | (exfalso; simp_all; done)), bw.trans (HS.out.low.mono bw.size)⟩
end Go.Proofs.Ytlbfcbmfpnfheaa
