/-
  TableFar walked.
-/
import Derived.Test.YtfpgelobddglaaaTabM
import Derived.Deep.RegionHeld3
namespace Go.Proofs.Ytfpgelobddglaaa
open Go.RowKit Go.Shelf Go.ChangeShapes Go.WideShapes Go.Deep

theorem few_len5F {n n2 n3 : Nat} {l ps on : List Sp} (h : fewB n n2 n3 = true) (h1 : n = l.length) (h2 : n2 = ps.length) (h3 : n3 = on.length) : l.length ≤ 100000 ∧ ps.length ≤ 100000 ∧ on.length ≤ 100000 := by
  unfold fewB at h
  simp at h
  omega
theorem same_listF {a b : List Sp} (h : a = b) : decide (a = b) = true := decide_eq_true h
set_option maxRecDepth 100000 in
set_option maxHeartbeats 4000000 in
theorem tableFar_walk (a : Option Addr) (n cp : Nat) (l : List Sp) (c s k : Int) (a2 : Option Addr) (n2 cp2 : Nat) (ps : List Sp) (lo hi old : Int) (cB sB kB : Int) (a4 : Option Addr) (n4 cp4 : Nat) (ps4 : List Sp) (loB hiB oldB : Int) (w : World) (hL : Arg w a n cp l) (hP : Arg w a2 n2 cp2 ps) (hQ : Arg w a4 n4 cp4 ps4) :
    Calls Try.prog 13 #[.slice a n cp, .agg #[.int .i64 c, .int .i64 s, .int .i64 k, .slice a2 n2 cp2, .int .i64 lo, .int .i64 hi, .int .i64 old], .agg #[.int .i64 cB, .int .i64 sB, .int .i64 kB, .slice a4 n4 cp4, .int .i64 loB, .int .i64 hiB, .int .i64 oldB]] w (TruePost w) := by
  have mixed : Try.prog.follows .mixedOrders = true := by kernel_rfl
  obtain ⟨W1, hW1⟩ : ∃ W1, (w.alloc (.cells #[.int .i64 c, .int .i64 s, .int .i64 k, .slice a2 n2 cp2, .int .i64 lo, .int .i64 hi, .int .i64 old] 26)).alloc (.cells #[.int .i64 cB, .int .i64 sB, .int .i64 kB, .slice a4 n4 cp4, .int .i64 loB, .int .i64 hiB, .int .i64 oldB] 26) = W1 := ⟨_, rfl⟩
  have K := Lib.hid (fun W (h : Below W1.heap.size W1 W) => (show W.cell? ⟨w.heap.size, 0, none⟩ = some (.int .i64 c) ∧ W.cell? ⟨w.heap.size, 1, none⟩ = some (.int .i64 s) ∧ W.cell? ⟨w.heap.size, 2, none⟩ = some (.int .i64 k) ∧ W.cell? ⟨w.heap.size, 3, none⟩ = some (.slice a2 n2 cp2) ∧ W.cell? ⟨w.heap.size, 4, none⟩ = some (.int .i64 lo) ∧ W.cell? ⟨w.heap.size, 5, none⟩ = some (.int .i64 hi) ∧ W.cell? ⟨w.heap.size, 6, none⟩ = some (.int .i64 old) ∧ W.cell? ⟨w.heap.size + 1, 0, none⟩ = some (.int .i64 cB) ∧ W.cell? ⟨w.heap.size + 1, 1, none⟩ = some (.int .i64 sB) ∧ W.cell? ⟨w.heap.size + 1, 2, none⟩ = some (.int .i64 kB) ∧ W.cell? ⟨w.heap.size + 1, 3, none⟩ = some (.slice a4 n4 cp4) ∧ W.cell? ⟨w.heap.size + 1, 4, none⟩ = some (.int .i64 loB) ∧ W.cell? ⟨w.heap.size + 1, 5, none⟩ = some (.int .i64 hiB) ∧ W.cell? ⟨w.heap.size + 1, 6, none⟩ = some (.int .i64 oldB) from by
    rw [← hW1] at h
    have h1 := (bx2 h).1
    have h2 := (bx2 h).2
    exact ⟨h1 0, h1 1, h1 2, h1 3, h1 4, h1 5, h1 6, h2 0, h2 1, h2 2, h2 3, h2 4, h2 5, h2 6⟩))
  have bw : Below w.heap.size w W1 := by rw [← hW1]; exact ((Below.refl _ _).alloc (Nat.le_refl _) _).alloc (by simp) _
  have z1 : (n : Int) ≤ 9223372036854775807 := by have := hL.1; have := hL.2.1; omega
  have z2 : (n2 : Int) ≤ 9223372036854775807 := by have := hP.1; have := hP.2.1; omega
  have z4 : (n4 : Int) ≤ 9223372036854775807 := by have := hQ.1; have := hQ.2.1; omega
  have b0 : Below W1.heap.size W1 (W1.alloc (.cells #[.int .i64 0, .int .i64 4096] 24)) := (Below.refl _ _).alloc (Nat.le_refl _) _
  have HS := Lib.hid ((((((Env.mk (L := []) (Below.refl W1.heap.size W1) (by simp)).add (hQ.below bw)).add (hP.below bw)).add (hL.below bw)).step b0).add (n := 1) (c := 1) (l := [(0, 4096)]) (arg_new _ 24 [(0, 4096)] #[.int .i64 0, .int .i64 4096] rfl (by simp)))
  obtain ⟨q0, q1, q2, q3, q4, q5, q6, q7, q8, q9, q10, q11, q12, q13⟩ := K.out _ HS.out.low
  have F1 := Lib.hid (fun W => few5_any a n cp c s k a2 n2 cp2 lo hi old none 0 0 W z1 z2 (by omega))
  have F2 := Lib.hid (fun W => few5_any none 0 0 cB sB kB a4 n4 cp4 loB hiB oldB none 0 0 W (by omega) z4 (by omega))
  obtain ⟨f2, hf2⟩ : ∃ f, fewB 0 n4 0 = f := ⟨_, rfl⟩
  rw [hf2] at F2
  cases hf : fewB n n2 0
  · rw [hf] at F1
    clear hL hP hQ hf
    have QF1 : Hid (∀ p : EnvW W1 [(a, n, cp, l), (a2, n2, cp2, ps), (a4, n4, cp4, ps4)], Calls Try.prog 36 #[.slice a n cp, .agg #[.int .i64 c, .int .i64 s, .int .i64 k, .slice a2 n2 cp2, .int .i64 lo, .int .i64 hi, .int .i64 old], .slice none 0 0] p.W fun e w'' => e = .returned (.bool false) ∧ ∃ q : EnvW W1 [(a, n, cp, l), (a2, n2, cp2, ps), (a4, n4, cp4, ps4)], w'' = q.W) := Lib.hid fun p => ((F1.out p.W).mono fun _ w' ⟨he, hb⟩ => ⟨he, ⟨w', p.h.step hb⟩, rfl⟩)
    go_enter Try.func13, Try.ntmps13
    go_wp2_with fail
    replace hW1 := Lib.hid hW1
    have HQ : Env W1 _ [(a, n, cp, l), (a2, n2, cp2, ps), (a4, n4, cp4, ps4)] := ⟨HS.out.low, fun x hx => HS.out.args x (List.mem_cons_of_mem _ hx)⟩
    have KE := fun (p : EnvW W1 [(a, n, cp, l), (a2, n2, cp2, ps), (a4, n4, cp4, ps4)]) => K.out _ p.h.low
    have E0 := fun p => (KE p).1
    have E1 := fun p => (KE p).2.1
    have E2 := fun p => (KE p).2.2.1
    have E3 := fun p => (KE p).2.2.2.1
    have E4 := fun p => (KE p).2.2.2.2.1
    have E5 := fun p => (KE p).2.2.2.2.2.1
    have E6 := fun p => (KE p).2.2.2.2.2.2.1
    have E7 := fun p => (KE p).2.2.2.2.2.2.2.1
    have E8 := fun p => (KE p).2.2.2.2.2.2.2.2.1
    have E9 := fun p => (KE p).2.2.2.2.2.2.2.2.2.1
    have E10 := fun p => (KE p).2.2.2.2.2.2.2.2.2.2.1
    have E11 := fun p => (KE p).2.2.2.2.2.2.2.2.2.2.2.1
    have E12 := fun p => (KE p).2.2.2.2.2.2.2.2.2.2.2.2.1
    have E13 := fun p => (KE p).2.2.2.2.2.2.2.2.2.2.2.2.2
    clear KE
    have hne : Nonempty (EnvW W1 [(a, n, cp, l), (a2, n2, cp2, ps), (a4, n4, cp4, ps4)]) := ⟨⟨_, HQ⟩⟩
    refine wp_region_quiet_env HQ mixed (by kernel_rfl) ?_
    clear HQ
    repeat (first | go_big_quiet_step (first | (go_at_call 36; with_reducible exact QF1.out _)) | quiet_step (first | (go_at_call 36; with_reducible exact QF1.out _)))
    refine wpQuiet_nil ?_
    intro _ hw'
    obtain ⟨⟨W9, hE⟩, hw''⟩ := hw'
    subst hw''
    go_wp2_with (first | (go_at_call 37; (with_reducible refine (awake5_any _).mono ?_); rintro e w9 ⟨rfl, hb9⟩))
    go_ret
    exact ⟨rfl, bw.trans ((below_next hE.low hb9).mono bw.size)⟩
  · rw [hf] at F1
    obtain ⟨zl, zp, _⟩ := few_len5F (on := []) hf hL.1 hP.1 rfl
    obtain ⟨t1, ht1⟩ : ∃ f, tblB l = f := ⟨_, rfl⟩
    obtain ⟨m1, hm1⟩ : ∃ f, chkM c s k ps lo hi old = f := ⟨_, rfl⟩
    obtain ⟨m2, hm2⟩ : ∃ f, chkM cB sB kB ps4 loB hiB oldB = f := ⟨_, rfl⟩
    obtain ⟨T, hT⟩ : ∃ T, touchL c s k ps lo hi old = T := ⟨_, rfl⟩
    obtain ⟨U, hU⟩ : ∃ T, touchL cB sB kB ps4 loB hiB oldB = T := ⟨_, rfl⟩
    obtain ⟨tt, htt⟩ : ∃ f, touchB T U = f := ⟨_, rfl⟩
    have T1 := Lib.hid (fun W h => ht1 ▸ tcheck_any a n cp l W h)
    have M1 := Lib.hid (fun W h => hm1 ▸ mcheck_any c s k a2 n2 cp2 ps lo hi old W h)
    have M2 := Lib.hid (fun W h => hm2 ▸ mcheck_any cB sB kB a4 n4 cp4 ps4 loB hiB oldB W h)
    have X1 := Lib.hid (fun W h => hT ▸ mtouch_any c s k a2 n2 cp2 ps lo hi old W h)
    have X3 := Lib.hid (fun W h => hU ▸ mtouch_any cB sB kB a4 n4 cp4 ps4 loB hiB oldB W h)
    have X2 := Lib.hid (fun a n c a' n' c' W h h' => htt ▸ touch_any T U a a' n n' c c' W h h')
    have hcase : f2 = false ∨ (f2 = true ∧ t1 = false) ∨ (f2 = true ∧ t1 = true ∧ m1 = false) ∨ (f2 = true ∧ t1 = true ∧ m1 = true ∧ m2 = false) ∨ (f2 = true ∧ t1 = true ∧ m1 = true ∧ m2 = true ∧ tt = true) ∨ (f2 = true ∧ t1 = true ∧ m1 = true ∧ m2 = true ∧ tt = false) := by
      cases f2 <;> cases t1 <;> cases m1 <;> cases m2 <;> cases tt <;> simp
    replace hf2 := Lib.hid hf2
    replace ht1 := Lib.hid ht1
    replace hm1 := Lib.hid hm1
    replace hm2 := Lib.hid hm2
    replace hT := Lib.hid hT
    replace hU := Lib.hid hU
    replace htt := Lib.hid htt
    clear hL hP hQ hf
    rcases hcase with rfl | ⟨rfl, rfl⟩ | ⟨rfl, rfl, rfl⟩ | ⟨rfl, rfl, rfl, rfl⟩ | ⟨rfl, rfl, rfl, rfl, rfl⟩ | ⟨rfl, rfl, rfl, rfl, rfl⟩
    case' inr.inr.inr.inr.inr =>
      obtain ⟨A, p, eA⟩ : ∃ A p, applyP l c s k ps lo hi old [(0, 4096)] = (A, p) := ⟨_, _, rfl⟩
      obtain ⟨AB, q, eAB⟩ : ∃ A' p', applyP A cB sB kB ps4 loB hiB oldB [(0, 4096)] = (A', p') := ⟨_, _, rfl⟩
      obtain ⟨B, r, eB⟩ : ∃ A p, applyP l cB sB kB ps4 loB hiB oldB [(0, 4096)] = (A, p) := ⟨_, _, rfl⟩
      obtain ⟨BA, t, eBA⟩ : ∃ A' p', applyP B c s k ps lo hi old [(0, 4096)] = (A', p') := ⟨_, _, rfl⟩
      obtain ⟨hpt, hqr, hAB⟩ := tfar_math ht1.out hm1.out hm2.out (by rw [hT.out, hU.out]; exact htt.out) eA eAB eB eBA
      have tA : tblB A = true := by have := (tfails_math (key := 0) (l := l) ht1.out hm1.out).1; rwa [eA] at this
      have tAB : tblB AB = true := by have := (tfails_math (key := 0) (l := A) tA hm2.out).1; rwa [eAB] at this
      have zAB : AB.length ≤ 100000 := by have := tbl_le tAB; omega
      have A1 := Lib.hid (fun a3 n3 cp3 W h1 h2 h3 => eA ▸ apply_any a n cp l c s k a2 n2 cp2 ps lo hi old a3 n3 cp3 [(0, 4096)] W h1 h2 h3)
      have A2 := Lib.hid (fun aX nX cX a3 n3 cp3 W h1 h2 h3 => eAB ▸ apply_any aX nX cX A cB sB kB a4 n4 cp4 ps4 loB hiB oldB a3 n3 cp3 [(0, 4096)] W h1 h2 h3)
      have A3 := Lib.hid (fun a3 n3 cp3 W h1 h2 h3 => eB ▸ apply_any a n cp l cB sB kB a4 n4 cp4 ps4 loB hiB oldB a3 n3 cp3 [(0, 4096)] W h1 h2 h3)
      have A4 := Lib.hid (fun aX nX cX a3 n3 cp3 W h1 h2 h3 => eBA ▸ apply_any aX nX cX B c s k a2 n2 cp2 ps lo hi old a3 n3 cp3 [(0, 4096)] W h1 h2 h3)
      replace eA := Lib.hid eA
      replace eAB := Lib.hid eAB
      replace eB := Lib.hid eB
      replace eBA := Lib.hid eBA
      clear tA tAB
      subst hpt
      subst hqr
      have hAB' := Lib.hid hAB
      clear hAB
    · go_enter Try.func13, Try.ntmps13
      go_wp2_with fail
      replace hW1 := Lib.hid hW1
      replace HS := Lib.hid (env_drew HS.out)
      go_region_held3 (fun w' => w'.cell? ⟨w.heap.size, 0, none⟩ = some (.int .i64 c) ∧ w'.cell? ⟨w.heap.size, 1, none⟩ = some (.int .i64 s) ∧ w'.cell? ⟨w.heap.size, 2, none⟩ = some (.int .i64 k) ∧ w'.cell? ⟨w.heap.size, 3, none⟩ = some (.slice a2 n2 cp2) ∧ w'.cell? ⟨w.heap.size, 4, none⟩ = some (.int .i64 lo) ∧ w'.cell? ⟨w.heap.size, 5, none⟩ = some (.int .i64 hi) ∧ w'.cell? ⟨w.heap.size, 6, none⟩ = some (.int .i64 old) ∧ w'.cell? ⟨w.heap.size + 1, 0, none⟩ = some (.int .i64 cB) ∧ w'.cell? ⟨w.heap.size + 1, 1, none⟩ = some (.int .i64 sB) ∧ w'.cell? ⟨w.heap.size + 1, 2, none⟩ = some (.int .i64 kB) ∧ w'.cell? ⟨w.heap.size + 1, 3, none⟩ = some (.slice a4 n4 cp4) ∧ w'.cell? ⟨w.heap.size + 1, 4, none⟩ = some (.int .i64 loB) ∧ w'.cell? ⟨w.heap.size + 1, 5, none⟩ = some (.int .i64 hiB) ∧ w'.cell? ⟨w.heap.size + 1, 6, none⟩ = some (.int .i64 oldB)) (first | exact ⟨q0, q1, q2, q3, q4, q5, q6, q7, q8, q9, q10, q11, q12, q13⟩ | go_keep) ((first | (go_at_call 36; (with_reducible refine (F1.out _).mono ?_); rintro e w' ⟨rfl, hb⟩; replace HS := Lib.hid (HS.out.step hb); clear hb; obtain ⟨q0, q1, q2, q3, q4, q5, q6, q7, q8, q9, q10, q11, q12, q13⟩ := K.out _ HS.out.low) | (go_at_call 36; (with_reducible refine (F2.out _).mono ?_); rintro e w' ⟨rfl, hb⟩; replace HS := Lib.hid (HS.out.step hb); clear hb; obtain ⟨q0, q1, q2, q3, q4, q5, q6, q7, q8, q9, q10, q11, q12, q13⟩ := K.out _ HS.out.low) | (go_at_call 51; (with_reducible refine (T1.out _ (HS.out.get (by repeat (first | exact List.mem_cons_self | apply List.mem_cons_of_mem)))).mono ?_); rintro e w' ⟨rfl, hb⟩; replace HS := Lib.hid (HS.out.step hb); clear hb; obtain ⟨q0, q1, q2, q3, q4, q5, q6, q7, q8, q9, q10, q11, q12, q13⟩ := K.out _ HS.out.low) | (go_at_call 32; (with_reducible refine (M1.out _ (HS.out.get (by repeat (first | exact List.mem_cons_self | apply List.mem_cons_of_mem)))).mono ?_); rintro e w' ⟨rfl, hb⟩; replace HS := Lib.hid (HS.out.step hb); clear hb; obtain ⟨q0, q1, q2, q3, q4, q5, q6, q7, q8, q9, q10, q11, q12, q13⟩ := K.out _ HS.out.low) | (go_at_call 32; (with_reducible refine (M2.out _ (HS.out.get (by repeat (first | exact List.mem_cons_self | apply List.mem_cons_of_mem)))).mono ?_); rintro e w' ⟨rfl, hb⟩; replace HS := Lib.hid (HS.out.step hb); clear hb; obtain ⟨q0, q1, q2, q3, q4, q5, q6, q7, q8, q9, q10, q11, q12, q13⟩ := K.out _ HS.out.low) | (go_at_call 16; (with_reducible refine (X1.out _ (HS.out.get (by repeat (first | exact List.mem_cons_self | apply List.mem_cons_of_mem)))).mono ?_); rintro e w' ⟨at8, nt8, ct8, rfl, ht8, hb⟩; replace HS := Lib.hid ((HS.out.step hb).add ht8); clear hb ht8; obtain ⟨q0, q1, q2, q3, q4, q5, q6, q7, q8, q9, q10, q11, q12, q13⟩ := K.out _ HS.out.low) | (go_at_call 16; (with_reducible refine (X3.out _ (HS.out.get (by repeat (first | exact List.mem_cons_self | apply List.mem_cons_of_mem)))).mono ?_); rintro e w' ⟨at9, nt9, ct9, rfl, ht9, hb⟩; replace HS := Lib.hid ((HS.out.step hb).add ht9); clear hb ht9; obtain ⟨q0, q1, q2, q3, q4, q5, q6, q7, q8, q9, q10, q11, q12, q13⟩ := K.out _ HS.out.low) | (go_at_call 52; (with_reducible refine (X2.out at8 nt8 ct8 at9 nt9 ct9 _ (HS.out.get (by repeat (first | exact List.mem_cons_self | apply List.mem_cons_of_mem))) (HS.out.get (by repeat (first | exact List.mem_cons_self | apply List.mem_cons_of_mem)))).mono ?_); rintro e w' ⟨rfl, hb⟩; replace HS := Lib.hid (HS.out.step hb); clear hb; obtain ⟨q0, q1, q2, q3, q4, q5, q6, q7, q8, q9, q10, q11, q12, q13⟩ := K.out _ HS.out.low) | fail))
      all_goals
        go_wp2_with (first | (go_at_call 37; (with_reducible refine (awake5_any _).mono ?_); rintro e w' ⟨rfl, hb⟩; replace HS := Lib.hid (HS.out.step hb); clear hb; obtain ⟨q0, q1, q2, q3, q4, q5, q6, q7, q8, q9, q10, q11, q12, q13⟩ := K.out _ HS.out.low) | (go_at_call 38; (with_reducible refine (A1.out _ _ _ _ (HS.out.get (by repeat (first | exact List.mem_cons_self | apply List.mem_cons_of_mem))) (HS.out.get (by repeat (first | exact List.mem_cons_self | apply List.mem_cons_of_mem))) (HS.out.get (by repeat (first | exact List.mem_cons_self | apply List.mem_cons_of_mem)))).mono ?_); rintro e w' ⟨vw1, rfl, ow1, hb⟩; obtain ⟨aw1, nw1, cw1, rfl, hw1⟩ := ow1.ready; dsimp only at hw1; replace HS := Lib.hid ((HS.out.step hb).add hw1); clear hb hw1 ow1; obtain ⟨q0, q1, q2, q3, q4, q5, q6, q7, q8, q9, q10, q11, q12, q13⟩ := K.out _ HS.out.low) | (go_at_call 38; (with_reducible refine (A2.out aw1 nw1 cw1 _ _ _ _ (HS.out.get (by repeat (first | exact List.mem_cons_self | apply List.mem_cons_of_mem))) (HS.out.get (by repeat (first | exact List.mem_cons_self | apply List.mem_cons_of_mem))) (HS.out.get (by repeat (first | exact List.mem_cons_self | apply List.mem_cons_of_mem)))).mono ?_); rintro e w' ⟨vw2, rfl, ow2, hb⟩; obtain ⟨aw2, nw2, cw2, rfl, hw2⟩ := ow2.ready; dsimp only at hw2; replace HS := Lib.hid ((HS.out.step hb).add hw2); clear hb hw2 ow2; obtain ⟨q0, q1, q2, q3, q4, q5, q6, q7, q8, q9, q10, q11, q12, q13⟩ := K.out _ HS.out.low) | (go_at_call 38; (with_reducible refine (A3.out _ _ _ _ (HS.out.get (by repeat (first | exact List.mem_cons_self | apply List.mem_cons_of_mem))) (HS.out.get (by repeat (first | exact List.mem_cons_self | apply List.mem_cons_of_mem))) (HS.out.get (by repeat (first | exact List.mem_cons_self | apply List.mem_cons_of_mem)))).mono ?_); rintro e w' ⟨vw3, rfl, ow3, hb⟩; obtain ⟨aw3, nw3, cw3, rfl, hw3⟩ := ow3.ready; dsimp only at hw3; replace HS := Lib.hid ((HS.out.step hb).add hw3); clear hb hw3 ow3; obtain ⟨q0, q1, q2, q3, q4, q5, q6, q7, q8, q9, q10, q11, q12, q13⟩ := K.out _ HS.out.low) | (go_at_call 38; (with_reducible refine (A4.out aw3 nw3 cw3 _ _ _ _ (HS.out.get (by repeat (first | exact List.mem_cons_self | apply List.mem_cons_of_mem))) (HS.out.get (by repeat (first | exact List.mem_cons_self | apply List.mem_cons_of_mem))) (HS.out.get (by repeat (first | exact List.mem_cons_self | apply List.mem_cons_of_mem)))).mono ?_); rintro e w' ⟨vw4, rfl, ow4, hb⟩; obtain ⟨aw4, nw4, cw4, rfl, hw4⟩ := ow4.ready; dsimp only at hw4; replace HS := Lib.hid ((HS.out.step hb).add hw4); clear hb hw4 ow4; obtain ⟨q0, q1, q2, q3, q4, q5, q6, q7, q8, q9, q10, q11, q12, q13⟩ := K.out _ HS.out.low) | (go_at_call 40; (with_reducible refine (refs5_any aw2 nw2 cw2 AB _ zAB (HS.out.get (by repeat (first | exact List.mem_cons_self | apply List.mem_cons_of_mem)))).mono ?_); rintro e w' ⟨au1, nu1, cu1, rfl, hu1, hb⟩; replace HS := Lib.hid ((HS.out.step hb).add hu1); clear hb hu1; obtain ⟨q0, q1, q2, q3, q4, q5, q6, q7, q8, q9, q10, q11, q12, q13⟩ := K.out _ HS.out.low) | (go_at_call 40; (with_reducible refine (refs5_any aw4 nw4 cw4 BA _ (hAB'.out ▸ zAB) (HS.out.get (by repeat (first | exact List.mem_cons_self | apply List.mem_cons_of_mem)))).mono ?_); rintro e w' ⟨au2, nu2, cu2, rfl, hu2, hb⟩; replace HS := Lib.hid ((HS.out.step hb).add hu2); clear hb hu2; obtain ⟨q0, q1, q2, q3, q4, q5, q6, q7, q8, q9, q10, q11, q12, q13⟩ := K.out _ HS.out.low) | (go_at_call 41; (with_reducible refine (same5_any au1 au2 nu1 nu2 cu1 cu2 AB BA _ (HS.out.get (by repeat (first | exact List.mem_cons_self | apply List.mem_cons_of_mem))) (HS.out.get (by repeat (first | exact List.mem_cons_self | apply List.mem_cons_of_mem)))).mono ?_); rw [same_listF hAB'.out]; rintro e w' ⟨rfl, hb⟩; replace HS := Lib.hid (HS.out.step hb); clear hb; obtain ⟨q0, q1, q2, q3, q4, q5, q6, q7, q8, q9, q10, q11, q12, q13⟩ := K.out _ HS.out.low))
        go_ret
        exact ⟨ret_bool (by simp), bw.trans (HS.out.low.mono bw.size)⟩
    · have QF1 : Hid (∀ p : EnvW W1 [(a, n, cp, l), (a2, n2, cp2, ps), (a4, n4, cp4, ps4)], Calls Try.prog 36 #[.slice a n cp, .agg #[.int .i64 c, .int .i64 s, .int .i64 k, .slice a2 n2 cp2, .int .i64 lo, .int .i64 hi, .int .i64 old], .slice none 0 0] p.W fun e w'' => e = .returned (.bool true) ∧ ∃ q : EnvW W1 [(a, n, cp, l), (a2, n2, cp2, ps), (a4, n4, cp4, ps4)], w'' = q.W) := Lib.hid fun p => ((F1.out p.W).mono fun _ w' ⟨he, hb⟩ => ⟨he, ⟨w', p.h.step hb⟩, rfl⟩)
      have QF2 : Hid (∀ p : EnvW W1 [(a, n, cp, l), (a2, n2, cp2, ps), (a4, n4, cp4, ps4)], Calls Try.prog 36 #[.slice none 0 0, .agg #[.int .i64 cB, .int .i64 sB, .int .i64 kB, .slice a4 n4 cp4, .int .i64 loB, .int .i64 hiB, .int .i64 oldB], .slice none 0 0] p.W fun e w'' => e = .returned (.bool false) ∧ ∃ q : EnvW W1 [(a, n, cp, l), (a2, n2, cp2, ps), (a4, n4, cp4, ps4)], w'' = q.W) := Lib.hid fun p => ((F2.out p.W).mono fun _ w' ⟨he, hb⟩ => ⟨he, ⟨w', p.h.step hb⟩, rfl⟩)
      go_enter Try.func13, Try.ntmps13
      go_wp2_with fail
      replace hW1 := Lib.hid hW1
      have HQ : Env W1 _ [(a, n, cp, l), (a2, n2, cp2, ps), (a4, n4, cp4, ps4)] := ⟨HS.out.low, fun x hx => HS.out.args x (List.mem_cons_of_mem _ hx)⟩
      have KE := fun (p : EnvW W1 [(a, n, cp, l), (a2, n2, cp2, ps), (a4, n4, cp4, ps4)]) => K.out _ p.h.low
      have E0 := fun p => (KE p).1
      have E1 := fun p => (KE p).2.1
      have E2 := fun p => (KE p).2.2.1
      have E3 := fun p => (KE p).2.2.2.1
      have E4 := fun p => (KE p).2.2.2.2.1
      have E5 := fun p => (KE p).2.2.2.2.2.1
      have E6 := fun p => (KE p).2.2.2.2.2.2.1
      have E7 := fun p => (KE p).2.2.2.2.2.2.2.1
      have E8 := fun p => (KE p).2.2.2.2.2.2.2.2.1
      have E9 := fun p => (KE p).2.2.2.2.2.2.2.2.2.1
      have E10 := fun p => (KE p).2.2.2.2.2.2.2.2.2.2.1
      have E11 := fun p => (KE p).2.2.2.2.2.2.2.2.2.2.2.1
      have E12 := fun p => (KE p).2.2.2.2.2.2.2.2.2.2.2.2.1
      have E13 := fun p => (KE p).2.2.2.2.2.2.2.2.2.2.2.2.2
      clear KE
      have hne : Nonempty (EnvW W1 [(a, n, cp, l), (a2, n2, cp2, ps), (a4, n4, cp4, ps4)]) := ⟨⟨_, HQ⟩⟩
      refine wp_region_quiet_env HQ mixed (by kernel_rfl) ?_
      clear HQ
      repeat (first | go_big_quiet_step (first | (go_at_call 36; with_reducible exact QF1.out _) | (go_at_call 36; with_reducible exact QF2.out _)) | quiet_step (first | (go_at_call 36; with_reducible exact QF1.out _) | (go_at_call 36; with_reducible exact QF2.out _)))
      refine wpQuiet_nil ?_
      intro _ hw'
      obtain ⟨⟨W9, hE⟩, hw''⟩ := hw'
      subst hw''
      go_wp2_with (first | (go_at_call 37; (with_reducible refine (awake5_any _).mono ?_); rintro e w9 ⟨rfl, hb9⟩))
      go_ret
      exact ⟨rfl, bw.trans ((below_next hE.low hb9).mono bw.size)⟩
    · have QF1 : Hid (∀ p : EnvW W1 [(a, n, cp, l), (a2, n2, cp2, ps), (a4, n4, cp4, ps4)], Calls Try.prog 36 #[.slice a n cp, .agg #[.int .i64 c, .int .i64 s, .int .i64 k, .slice a2 n2 cp2, .int .i64 lo, .int .i64 hi, .int .i64 old], .slice none 0 0] p.W fun e w'' => e = .returned (.bool true) ∧ ∃ q : EnvW W1 [(a, n, cp, l), (a2, n2, cp2, ps), (a4, n4, cp4, ps4)], w'' = q.W) := Lib.hid fun p => ((F1.out p.W).mono fun _ w' ⟨he, hb⟩ => ⟨he, ⟨w', p.h.step hb⟩, rfl⟩)
      have QF2 : Hid (∀ p : EnvW W1 [(a, n, cp, l), (a2, n2, cp2, ps), (a4, n4, cp4, ps4)], Calls Try.prog 36 #[.slice none 0 0, .agg #[.int .i64 cB, .int .i64 sB, .int .i64 kB, .slice a4 n4 cp4, .int .i64 loB, .int .i64 hiB, .int .i64 oldB], .slice none 0 0] p.W fun e w'' => e = .returned (.bool true) ∧ ∃ q : EnvW W1 [(a, n, cp, l), (a2, n2, cp2, ps), (a4, n4, cp4, ps4)], w'' = q.W) := Lib.hid fun p => ((F2.out p.W).mono fun _ w' ⟨he, hb⟩ => ⟨he, ⟨w', p.h.step hb⟩, rfl⟩)
      have QT : Hid (∀ p : EnvW W1 [(a, n, cp, l), (a2, n2, cp2, ps), (a4, n4, cp4, ps4)], Calls Try.prog 51 #[.slice a n cp] p.W fun e w'' => e = .returned (.bool false) ∧ ∃ q : EnvW W1 [(a, n, cp, l), (a2, n2, cp2, ps), (a4, n4, cp4, ps4)], w'' = q.W) := Lib.hid fun p => env_of p (T1.out p.W (p.h.get (by repeat (first | exact List.mem_cons_self | apply List.mem_cons_of_mem))))
      go_enter Try.func13, Try.ntmps13
      go_wp2_with fail
      replace hW1 := Lib.hid hW1
      have HQ : Env W1 _ [(a, n, cp, l), (a2, n2, cp2, ps), (a4, n4, cp4, ps4)] := ⟨HS.out.low, fun x hx => HS.out.args x (List.mem_cons_of_mem _ hx)⟩
      have KE := fun (p : EnvW W1 [(a, n, cp, l), (a2, n2, cp2, ps), (a4, n4, cp4, ps4)]) => K.out _ p.h.low
      have E0 := fun p => (KE p).1
      have E1 := fun p => (KE p).2.1
      have E2 := fun p => (KE p).2.2.1
      have E3 := fun p => (KE p).2.2.2.1
      have E4 := fun p => (KE p).2.2.2.2.1
      have E5 := fun p => (KE p).2.2.2.2.2.1
      have E6 := fun p => (KE p).2.2.2.2.2.2.1
      have E7 := fun p => (KE p).2.2.2.2.2.2.2.1
      have E8 := fun p => (KE p).2.2.2.2.2.2.2.2.1
      have E9 := fun p => (KE p).2.2.2.2.2.2.2.2.2.1
      have E10 := fun p => (KE p).2.2.2.2.2.2.2.2.2.2.1
      have E11 := fun p => (KE p).2.2.2.2.2.2.2.2.2.2.2.1
      have E12 := fun p => (KE p).2.2.2.2.2.2.2.2.2.2.2.2.1
      have E13 := fun p => (KE p).2.2.2.2.2.2.2.2.2.2.2.2.2
      clear KE
      have hne : Nonempty (EnvW W1 [(a, n, cp, l), (a2, n2, cp2, ps), (a4, n4, cp4, ps4)]) := ⟨⟨_, HQ⟩⟩
      refine wp_region_quiet_env HQ mixed (by kernel_rfl) ?_
      clear HQ
      repeat (first | go_big_quiet_step (first | (go_at_call 36; with_reducible exact QF1.out _) | (go_at_call 36; with_reducible exact QF2.out _) | (go_at_call 51; with_reducible exact QT.out _)) | quiet_step (first | (go_at_call 36; with_reducible exact QF1.out _) | (go_at_call 36; with_reducible exact QF2.out _) | (go_at_call 51; with_reducible exact QT.out _)))
      refine wpQuiet_nil ?_
      intro _ hw'
      obtain ⟨⟨W9, hE⟩, hw''⟩ := hw'
      subst hw''
      go_wp2_with (first | (go_at_call 37; (with_reducible refine (awake5_any _).mono ?_); rintro e w9 ⟨rfl, hb9⟩))
      go_ret
      exact ⟨rfl, bw.trans ((below_next hE.low hb9).mono bw.size)⟩
    · have QF1 : Hid (∀ p : EnvW W1 [(a, n, cp, l), (a2, n2, cp2, ps), (a4, n4, cp4, ps4)], Calls Try.prog 36 #[.slice a n cp, .agg #[.int .i64 c, .int .i64 s, .int .i64 k, .slice a2 n2 cp2, .int .i64 lo, .int .i64 hi, .int .i64 old], .slice none 0 0] p.W fun e w'' => e = .returned (.bool true) ∧ ∃ q : EnvW W1 [(a, n, cp, l), (a2, n2, cp2, ps), (a4, n4, cp4, ps4)], w'' = q.W) := Lib.hid fun p => ((F1.out p.W).mono fun _ w' ⟨he, hb⟩ => ⟨he, ⟨w', p.h.step hb⟩, rfl⟩)
      have QF2 : Hid (∀ p : EnvW W1 [(a, n, cp, l), (a2, n2, cp2, ps), (a4, n4, cp4, ps4)], Calls Try.prog 36 #[.slice none 0 0, .agg #[.int .i64 cB, .int .i64 sB, .int .i64 kB, .slice a4 n4 cp4, .int .i64 loB, .int .i64 hiB, .int .i64 oldB], .slice none 0 0] p.W fun e w'' => e = .returned (.bool true) ∧ ∃ q : EnvW W1 [(a, n, cp, l), (a2, n2, cp2, ps), (a4, n4, cp4, ps4)], w'' = q.W) := Lib.hid fun p => ((F2.out p.W).mono fun _ w' ⟨he, hb⟩ => ⟨he, ⟨w', p.h.step hb⟩, rfl⟩)
      have QT : Hid (∀ p : EnvW W1 [(a, n, cp, l), (a2, n2, cp2, ps), (a4, n4, cp4, ps4)], Calls Try.prog 51 #[.slice a n cp] p.W fun e w'' => e = .returned (.bool true) ∧ ∃ q : EnvW W1 [(a, n, cp, l), (a2, n2, cp2, ps), (a4, n4, cp4, ps4)], w'' = q.W) := Lib.hid fun p => env_of p (T1.out p.W (p.h.get (by repeat (first | exact List.mem_cons_self | apply List.mem_cons_of_mem))))
      have QA : Hid (∀ p : EnvW W1 [(a, n, cp, l), (a2, n2, cp2, ps), (a4, n4, cp4, ps4)], Calls Try.prog 32 #[.agg #[.int .i64 c, .int .i64 s, .int .i64 k, .slice a2 n2 cp2, .int .i64 lo, .int .i64 hi, .int .i64 old]] p.W fun e w'' => e = .returned (.bool false) ∧ ∃ q : EnvW W1 [(a, n, cp, l), (a2, n2, cp2, ps), (a4, n4, cp4, ps4)], w'' = q.W) := Lib.hid fun p => env_of p (M1.out p.W (p.h.get (by repeat (first | exact List.mem_cons_self | apply List.mem_cons_of_mem))))
      go_enter Try.func13, Try.ntmps13
      go_wp2_with fail
      replace hW1 := Lib.hid hW1
      have HQ : Env W1 _ [(a, n, cp, l), (a2, n2, cp2, ps), (a4, n4, cp4, ps4)] := ⟨HS.out.low, fun x hx => HS.out.args x (List.mem_cons_of_mem _ hx)⟩
      have KE := fun (p : EnvW W1 [(a, n, cp, l), (a2, n2, cp2, ps), (a4, n4, cp4, ps4)]) => K.out _ p.h.low
      have E0 := fun p => (KE p).1
      have E1 := fun p => (KE p).2.1
      have E2 := fun p => (KE p).2.2.1
      have E3 := fun p => (KE p).2.2.2.1
      have E4 := fun p => (KE p).2.2.2.2.1
      have E5 := fun p => (KE p).2.2.2.2.2.1
      have E6 := fun p => (KE p).2.2.2.2.2.2.1
      have E7 := fun p => (KE p).2.2.2.2.2.2.2.1
      have E8 := fun p => (KE p).2.2.2.2.2.2.2.2.1
      have E9 := fun p => (KE p).2.2.2.2.2.2.2.2.2.1
      have E10 := fun p => (KE p).2.2.2.2.2.2.2.2.2.2.1
      have E11 := fun p => (KE p).2.2.2.2.2.2.2.2.2.2.2.1
      have E12 := fun p => (KE p).2.2.2.2.2.2.2.2.2.2.2.2.1
      have E13 := fun p => (KE p).2.2.2.2.2.2.2.2.2.2.2.2.2
      clear KE
      have hne : Nonempty (EnvW W1 [(a, n, cp, l), (a2, n2, cp2, ps), (a4, n4, cp4, ps4)]) := ⟨⟨_, HQ⟩⟩
      refine wp_region_quiet_env HQ mixed (by kernel_rfl) ?_
      clear HQ
      repeat (first | go_big_quiet_step (first | (go_at_call 36; with_reducible exact QF1.out _) | (go_at_call 36; with_reducible exact QF2.out _) | (go_at_call 51; with_reducible exact QT.out _) | (go_at_call 32; with_reducible exact QA.out _)) | quiet_step (first | (go_at_call 36; with_reducible exact QF1.out _) | (go_at_call 36; with_reducible exact QF2.out _) | (go_at_call 51; with_reducible exact QT.out _) | (go_at_call 32; with_reducible exact QA.out _)))
      refine wpQuiet_nil ?_
      intro _ hw'
      obtain ⟨⟨W9, hE⟩, hw''⟩ := hw'
      subst hw''
      go_wp2_with (first | (go_at_call 37; (with_reducible refine (awake5_any _).mono ?_); rintro e w9 ⟨rfl, hb9⟩))
      go_ret
      exact ⟨rfl, bw.trans ((below_next hE.low hb9).mono bw.size)⟩
    · have QF1 : Hid (∀ p : EnvW W1 [(a, n, cp, l), (a2, n2, cp2, ps), (a4, n4, cp4, ps4)], Calls Try.prog 36 #[.slice a n cp, .agg #[.int .i64 c, .int .i64 s, .int .i64 k, .slice a2 n2 cp2, .int .i64 lo, .int .i64 hi, .int .i64 old], .slice none 0 0] p.W fun e w'' => e = .returned (.bool true) ∧ ∃ q : EnvW W1 [(a, n, cp, l), (a2, n2, cp2, ps), (a4, n4, cp4, ps4)], w'' = q.W) := Lib.hid fun p => ((F1.out p.W).mono fun _ w' ⟨he, hb⟩ => ⟨he, ⟨w', p.h.step hb⟩, rfl⟩)
      have QF2 : Hid (∀ p : EnvW W1 [(a, n, cp, l), (a2, n2, cp2, ps), (a4, n4, cp4, ps4)], Calls Try.prog 36 #[.slice none 0 0, .agg #[.int .i64 cB, .int .i64 sB, .int .i64 kB, .slice a4 n4 cp4, .int .i64 loB, .int .i64 hiB, .int .i64 oldB], .slice none 0 0] p.W fun e w'' => e = .returned (.bool true) ∧ ∃ q : EnvW W1 [(a, n, cp, l), (a2, n2, cp2, ps), (a4, n4, cp4, ps4)], w'' = q.W) := Lib.hid fun p => ((F2.out p.W).mono fun _ w' ⟨he, hb⟩ => ⟨he, ⟨w', p.h.step hb⟩, rfl⟩)
      have QT : Hid (∀ p : EnvW W1 [(a, n, cp, l), (a2, n2, cp2, ps), (a4, n4, cp4, ps4)], Calls Try.prog 51 #[.slice a n cp] p.W fun e w'' => e = .returned (.bool true) ∧ ∃ q : EnvW W1 [(a, n, cp, l), (a2, n2, cp2, ps), (a4, n4, cp4, ps4)], w'' = q.W) := Lib.hid fun p => env_of p (T1.out p.W (p.h.get (by repeat (first | exact List.mem_cons_self | apply List.mem_cons_of_mem))))
      have QA : Hid (∀ p : EnvW W1 [(a, n, cp, l), (a2, n2, cp2, ps), (a4, n4, cp4, ps4)], Calls Try.prog 32 #[.agg #[.int .i64 c, .int .i64 s, .int .i64 k, .slice a2 n2 cp2, .int .i64 lo, .int .i64 hi, .int .i64 old]] p.W fun e w'' => e = .returned (.bool true) ∧ ∃ q : EnvW W1 [(a, n, cp, l), (a2, n2, cp2, ps), (a4, n4, cp4, ps4)], w'' = q.W) := Lib.hid fun p => env_of p (M1.out p.W (p.h.get (by repeat (first | exact List.mem_cons_self | apply List.mem_cons_of_mem))))
      have QB : Hid (∀ p : EnvW W1 [(a, n, cp, l), (a2, n2, cp2, ps), (a4, n4, cp4, ps4)], Calls Try.prog 32 #[.agg #[.int .i64 cB, .int .i64 sB, .int .i64 kB, .slice a4 n4 cp4, .int .i64 loB, .int .i64 hiB, .int .i64 oldB]] p.W fun e w'' => e = .returned (.bool false) ∧ ∃ q : EnvW W1 [(a, n, cp, l), (a2, n2, cp2, ps), (a4, n4, cp4, ps4)], w'' = q.W) := Lib.hid fun p => env_of p (M2.out p.W (p.h.get (by repeat (first | exact List.mem_cons_self | apply List.mem_cons_of_mem))))
      go_enter Try.func13, Try.ntmps13
      go_wp2_with fail
      replace hW1 := Lib.hid hW1
      have HQ : Env W1 _ [(a, n, cp, l), (a2, n2, cp2, ps), (a4, n4, cp4, ps4)] := ⟨HS.out.low, fun x hx => HS.out.args x (List.mem_cons_of_mem _ hx)⟩
      have KE := fun (p : EnvW W1 [(a, n, cp, l), (a2, n2, cp2, ps), (a4, n4, cp4, ps4)]) => K.out _ p.h.low
      have E0 := fun p => (KE p).1
      have E1 := fun p => (KE p).2.1
      have E2 := fun p => (KE p).2.2.1
      have E3 := fun p => (KE p).2.2.2.1
      have E4 := fun p => (KE p).2.2.2.2.1
      have E5 := fun p => (KE p).2.2.2.2.2.1
      have E6 := fun p => (KE p).2.2.2.2.2.2.1
      have E7 := fun p => (KE p).2.2.2.2.2.2.2.1
      have E8 := fun p => (KE p).2.2.2.2.2.2.2.2.1
      have E9 := fun p => (KE p).2.2.2.2.2.2.2.2.2.1
      have E10 := fun p => (KE p).2.2.2.2.2.2.2.2.2.2.1
      have E11 := fun p => (KE p).2.2.2.2.2.2.2.2.2.2.2.1
      have E12 := fun p => (KE p).2.2.2.2.2.2.2.2.2.2.2.2.1
      have E13 := fun p => (KE p).2.2.2.2.2.2.2.2.2.2.2.2.2
      clear KE
      have hne : Nonempty (EnvW W1 [(a, n, cp, l), (a2, n2, cp2, ps), (a4, n4, cp4, ps4)]) := ⟨⟨_, HQ⟩⟩
      refine wp_region_quiet_env HQ mixed (by kernel_rfl) ?_
      clear HQ
      repeat (first | go_big_quiet_step (first | (go_at_call 36; with_reducible exact QF1.out _) | (go_at_call 36; with_reducible exact QF2.out _) | (go_at_call 51; with_reducible exact QT.out _) | (go_at_call 32; with_reducible exact QA.out _) | (go_at_call 32; with_reducible exact QB.out _)) | quiet_step (first | (go_at_call 36; with_reducible exact QF1.out _) | (go_at_call 36; with_reducible exact QF2.out _) | (go_at_call 51; with_reducible exact QT.out _) | (go_at_call 32; with_reducible exact QA.out _) | (go_at_call 32; with_reducible exact QB.out _)))
      refine wpQuiet_nil ?_
      intro _ hw'
      obtain ⟨⟨W9, hE⟩, hw''⟩ := hw'
      subst hw''
      go_wp2_with (first | (go_at_call 37; (with_reducible refine (awake5_any _).mono ?_); rintro e w9 ⟨rfl, hb9⟩))
      go_ret
      exact ⟨rfl, bw.trans ((below_next hE.low hb9).mono bw.size)⟩
    · go_enter Try.func13, Try.ntmps13
      go_wp2_with fail
      replace hW1 := Lib.hid hW1
      replace HS := Lib.hid (env_drew HS.out)
      go_region_held3 (fun w' => w'.cell? ⟨w.heap.size, 0, none⟩ = some (.int .i64 c) ∧ w'.cell? ⟨w.heap.size, 1, none⟩ = some (.int .i64 s) ∧ w'.cell? ⟨w.heap.size, 2, none⟩ = some (.int .i64 k) ∧ w'.cell? ⟨w.heap.size, 3, none⟩ = some (.slice a2 n2 cp2) ∧ w'.cell? ⟨w.heap.size, 4, none⟩ = some (.int .i64 lo) ∧ w'.cell? ⟨w.heap.size, 5, none⟩ = some (.int .i64 hi) ∧ w'.cell? ⟨w.heap.size, 6, none⟩ = some (.int .i64 old) ∧ w'.cell? ⟨w.heap.size + 1, 0, none⟩ = some (.int .i64 cB) ∧ w'.cell? ⟨w.heap.size + 1, 1, none⟩ = some (.int .i64 sB) ∧ w'.cell? ⟨w.heap.size + 1, 2, none⟩ = some (.int .i64 kB) ∧ w'.cell? ⟨w.heap.size + 1, 3, none⟩ = some (.slice a4 n4 cp4) ∧ w'.cell? ⟨w.heap.size + 1, 4, none⟩ = some (.int .i64 loB) ∧ w'.cell? ⟨w.heap.size + 1, 5, none⟩ = some (.int .i64 hiB) ∧ w'.cell? ⟨w.heap.size + 1, 6, none⟩ = some (.int .i64 oldB)) (first | exact ⟨q0, q1, q2, q3, q4, q5, q6, q7, q8, q9, q10, q11, q12, q13⟩ | go_keep) ((first | (go_at_call 36; (with_reducible refine (F1.out _).mono ?_); rintro e w' ⟨rfl, hb⟩; replace HS := Lib.hid (HS.out.step hb); clear hb; obtain ⟨q0, q1, q2, q3, q4, q5, q6, q7, q8, q9, q10, q11, q12, q13⟩ := K.out _ HS.out.low) | (go_at_call 36; (with_reducible refine (F2.out _).mono ?_); rintro e w' ⟨rfl, hb⟩; replace HS := Lib.hid (HS.out.step hb); clear hb; obtain ⟨q0, q1, q2, q3, q4, q5, q6, q7, q8, q9, q10, q11, q12, q13⟩ := K.out _ HS.out.low) | (go_at_call 51; (with_reducible refine (T1.out _ (HS.out.get (by repeat (first | exact List.mem_cons_self | apply List.mem_cons_of_mem)))).mono ?_); rintro e w' ⟨rfl, hb⟩; replace HS := Lib.hid (HS.out.step hb); clear hb; obtain ⟨q0, q1, q2, q3, q4, q5, q6, q7, q8, q9, q10, q11, q12, q13⟩ := K.out _ HS.out.low) | (go_at_call 32; (with_reducible refine (M1.out _ (HS.out.get (by repeat (first | exact List.mem_cons_self | apply List.mem_cons_of_mem)))).mono ?_); rintro e w' ⟨rfl, hb⟩; replace HS := Lib.hid (HS.out.step hb); clear hb; obtain ⟨q0, q1, q2, q3, q4, q5, q6, q7, q8, q9, q10, q11, q12, q13⟩ := K.out _ HS.out.low) | (go_at_call 32; (with_reducible refine (M2.out _ (HS.out.get (by repeat (first | exact List.mem_cons_self | apply List.mem_cons_of_mem)))).mono ?_); rintro e w' ⟨rfl, hb⟩; replace HS := Lib.hid (HS.out.step hb); clear hb; obtain ⟨q0, q1, q2, q3, q4, q5, q6, q7, q8, q9, q10, q11, q12, q13⟩ := K.out _ HS.out.low) | (go_at_call 16; (with_reducible refine (X1.out _ (HS.out.get (by repeat (first | exact List.mem_cons_self | apply List.mem_cons_of_mem)))).mono ?_); rintro e w' ⟨at8, nt8, ct8, rfl, ht8, hb⟩; replace HS := Lib.hid ((HS.out.step hb).add ht8); clear hb ht8; obtain ⟨q0, q1, q2, q3, q4, q5, q6, q7, q8, q9, q10, q11, q12, q13⟩ := K.out _ HS.out.low) | (go_at_call 16; (with_reducible refine (X3.out _ (HS.out.get (by repeat (first | exact List.mem_cons_self | apply List.mem_cons_of_mem)))).mono ?_); rintro e w' ⟨at9, nt9, ct9, rfl, ht9, hb⟩; replace HS := Lib.hid ((HS.out.step hb).add ht9); clear hb ht9; obtain ⟨q0, q1, q2, q3, q4, q5, q6, q7, q8, q9, q10, q11, q12, q13⟩ := K.out _ HS.out.low) | (go_at_call 52; (with_reducible refine (X2.out at8 nt8 ct8 at9 nt9 ct9 _ (HS.out.get (by repeat (first | exact List.mem_cons_self | apply List.mem_cons_of_mem))) (HS.out.get (by repeat (first | exact List.mem_cons_self | apply List.mem_cons_of_mem)))).mono ?_); rintro e w' ⟨rfl, hb⟩; replace HS := Lib.hid (HS.out.step hb); clear hb; obtain ⟨q0, q1, q2, q3, q4, q5, q6, q7, q8, q9, q10, q11, q12, q13⟩ := K.out _ HS.out.low) | fail))
      all_goals
        go_wp2_with (first | (go_at_call 37; (with_reducible refine (awake5_any _).mono ?_); rintro e w' ⟨rfl, hb⟩; replace HS := Lib.hid (HS.out.step hb); clear hb; obtain ⟨q0, q1, q2, q3, q4, q5, q6, q7, q8, q9, q10, q11, q12, q13⟩ := K.out _ HS.out.low) | (go_at_call 38; (with_reducible refine (A1.out _ _ _ _ (HS.out.get (by repeat (first | exact List.mem_cons_self | apply List.mem_cons_of_mem))) (HS.out.get (by repeat (first | exact List.mem_cons_self | apply List.mem_cons_of_mem))) (HS.out.get (by repeat (first | exact List.mem_cons_self | apply List.mem_cons_of_mem)))).mono ?_); rintro e w' ⟨vw1, rfl, ow1, hb⟩; obtain ⟨aw1, nw1, cw1, rfl, hw1⟩ := ow1.ready; dsimp only at hw1; replace HS := Lib.hid ((HS.out.step hb).add hw1); clear hb hw1 ow1; obtain ⟨q0, q1, q2, q3, q4, q5, q6, q7, q8, q9, q10, q11, q12, q13⟩ := K.out _ HS.out.low) | (go_at_call 38; (with_reducible refine (A2.out aw1 nw1 cw1 _ _ _ _ (HS.out.get (by repeat (first | exact List.mem_cons_self | apply List.mem_cons_of_mem))) (HS.out.get (by repeat (first | exact List.mem_cons_self | apply List.mem_cons_of_mem))) (HS.out.get (by repeat (first | exact List.mem_cons_self | apply List.mem_cons_of_mem)))).mono ?_); rintro e w' ⟨vw2, rfl, ow2, hb⟩; obtain ⟨aw2, nw2, cw2, rfl, hw2⟩ := ow2.ready; dsimp only at hw2; replace HS := Lib.hid ((HS.out.step hb).add hw2); clear hb hw2 ow2; obtain ⟨q0, q1, q2, q3, q4, q5, q6, q7, q8, q9, q10, q11, q12, q13⟩ := K.out _ HS.out.low) | (go_at_call 38; (with_reducible refine (A3.out _ _ _ _ (HS.out.get (by repeat (first | exact List.mem_cons_self | apply List.mem_cons_of_mem))) (HS.out.get (by repeat (first | exact List.mem_cons_self | apply List.mem_cons_of_mem))) (HS.out.get (by repeat (first | exact List.mem_cons_self | apply List.mem_cons_of_mem)))).mono ?_); rintro e w' ⟨vw3, rfl, ow3, hb⟩; obtain ⟨aw3, nw3, cw3, rfl, hw3⟩ := ow3.ready; dsimp only at hw3; replace HS := Lib.hid ((HS.out.step hb).add hw3); clear hb hw3 ow3; obtain ⟨q0, q1, q2, q3, q4, q5, q6, q7, q8, q9, q10, q11, q12, q13⟩ := K.out _ HS.out.low) | (go_at_call 38; (with_reducible refine (A4.out aw3 nw3 cw3 _ _ _ _ (HS.out.get (by repeat (first | exact List.mem_cons_self | apply List.mem_cons_of_mem))) (HS.out.get (by repeat (first | exact List.mem_cons_self | apply List.mem_cons_of_mem))) (HS.out.get (by repeat (first | exact List.mem_cons_self | apply List.mem_cons_of_mem)))).mono ?_); rintro e w' ⟨vw4, rfl, ow4, hb⟩; obtain ⟨aw4, nw4, cw4, rfl, hw4⟩ := ow4.ready; dsimp only at hw4; replace HS := Lib.hid ((HS.out.step hb).add hw4); clear hb hw4 ow4; obtain ⟨q0, q1, q2, q3, q4, q5, q6, q7, q8, q9, q10, q11, q12, q13⟩ := K.out _ HS.out.low) | (go_at_call 40; (with_reducible refine (refs5_any aw2 nw2 cw2 AB _ zAB (HS.out.get (by repeat (first | exact List.mem_cons_self | apply List.mem_cons_of_mem)))).mono ?_); rintro e w' ⟨au1, nu1, cu1, rfl, hu1, hb⟩; replace HS := Lib.hid ((HS.out.step hb).add hu1); clear hb hu1; obtain ⟨q0, q1, q2, q3, q4, q5, q6, q7, q8, q9, q10, q11, q12, q13⟩ := K.out _ HS.out.low) | (go_at_call 40; (with_reducible refine (refs5_any aw4 nw4 cw4 BA _ (hAB'.out ▸ zAB) (HS.out.get (by repeat (first | exact List.mem_cons_self | apply List.mem_cons_of_mem)))).mono ?_); rintro e w' ⟨au2, nu2, cu2, rfl, hu2, hb⟩; replace HS := Lib.hid ((HS.out.step hb).add hu2); clear hb hu2; obtain ⟨q0, q1, q2, q3, q4, q5, q6, q7, q8, q9, q10, q11, q12, q13⟩ := K.out _ HS.out.low) | (go_at_call 41; (with_reducible refine (same5_any au1 au2 nu1 nu2 cu1 cu2 AB BA _ (HS.out.get (by repeat (first | exact List.mem_cons_self | apply List.mem_cons_of_mem))) (HS.out.get (by repeat (first | exact List.mem_cons_self | apply List.mem_cons_of_mem)))).mono ?_); rw [same_listF hAB'.out]; rintro e w' ⟨rfl, hb⟩; replace HS := Lib.hid (HS.out.step hb); clear hb; obtain ⟨q0, q1, q2, q3, q4, q5, q6, q7, q8, q9, q10, q11, q12, q13⟩ := K.out _ HS.out.low))
        go_ret
        exact ⟨ret_bool (by simp), bw.trans (HS.out.low.mono bw.size)⟩
end Go.Proofs.Ytfpgelobddglaaa
