/-
  THE WALKS of TableNone, TableFails.
-/
import Derived.Test.YtfnjadiibiedgabTabM
import Derived.Test.YtfnjadiibiedgabMutH
namespace Go.Proofs.Ytfnjadiibiedgab
open Go.RowKit Go.Shelf Go.ChangeShapes Go.WideShapes Go.Deep

theorem few_len5 {n n2 n3 : Nat} {l ps on : List Sp} (h : fewB n n2 n3 = true) (h1 : n = l.length) (h2 : n2 = ps.length) (h3 : n3 = on.length) : l.length ≤ 100000 ∧ ps.length ≤ 100000 ∧ on.length ≤ 100000 := by
  unfold fewB at h
  simp at h
  omega
theorem same_list {a b : List Sp} (h : a = b) : decide (a = b) = true := decide_eq_true h

set_option maxRecDepth 100000 in
set_option maxHeartbeats 4000000 in
theorem tableNone_walk (a : Option Addr) (n cp : Nat) (l : List Sp) (c s k : Int) (a2 : Option Addr) (n2 cp2 : Nat) (ps : List Sp) (lo hi old : Int) (a3 : Option Addr) (n3 cp3 : Nat) (on : List Sp) (w : World) (hL : Arg w a n cp l) (hP : Arg w a2 n2 cp2 ps) (hO : Arg w a3 n3 cp3 on) :
    Calls Try.prog 6 #[.slice a n cp, .agg #[.int .i64 c, .int .i64 s, .int .i64 k, .slice a2 n2 cp2, .int .i64 lo, .int .i64 hi, .int .i64 old], .slice a3 n3 cp3] w (TruePost w) := by
  obtain ⟨W1, hW1⟩ : ∃ W1, (w.alloc (.cells #[.int .i64 c, .int .i64 s, .int .i64 k, .slice a2 n2 cp2, .int .i64 lo, .int .i64 hi, .int .i64 old] 26)) = W1 := ⟨_, rfl⟩
  have K := Lib.hid (fun W (h : Below W1.heap.size W1 W) => box7 (w := w) (t := 26) (v0 := .int .i64 c) (v1 := .int .i64 s) (v2 := .int .i64 k) (v3 := .slice a2 n2 cp2) (v4 := .int .i64 lo) (v5 := .int .i64 hi) (v6 := .int .i64 old) (w' := W) (by rw [hW1]; exact h))
  have bw : Below w.heap.size w W1 := by rw [← hW1]; exact (Below.refl _ _).alloc (Nat.le_refl _) _
  have s1 : w.heap.size < W1.heap.size := by rw [← hW1]; simp
  have z1 : (n : Int) ≤ 9223372036854775807 := by have := hL.1; have := hL.2.1; omega
  have z2 : (n2 : Int) ≤ 9223372036854775807 := by have := hP.1; have := hP.2.1; omega
  have z3 : (n3 : Int) ≤ 9223372036854775807 := by have := hO.1; have := hO.2.1; omega
  have HS := Lib.hid ((((Env.mk (L := []) (Below.refl W1.heap.size W1) (by simp)).add (hO.below bw)).add (hP.below bw)).add (hL.below bw))
  obtain ⟨q0, q1, q2, q3, q4, q5, q6⟩ := K.out _ HS.out.low
  have F1 := Lib.hid (fun W => few5_any a n cp c s k a2 n2 cp2 lo hi old a3 n3 cp3 W z1 z2 z3)
  cases hf : fewB n n2 n3
  · rw [hf] at F1
    clear hL hP hO hf
    go_enter Try.func6, Try.ntmps6
    go_wp2_with (first | (go_at_call 15; (with_reducible refine (F1.out _).mono ?_); rintro e w' ⟨rfl, hb⟩; replace HS := Lib.hid (HS.out.step hb); clear hb; obtain ⟨q0, q1, q2, q3, q4, q5, q6⟩ := K.out _ HS.out.low) | (go_at_call 18; (with_reducible refine (awake5_any _).mono ?_); rintro e w' ⟨rfl, hb⟩; replace HS := Lib.hid (HS.out.step hb); clear hb; obtain ⟨q0, q1, q2, q3, q4, q5, q6⟩ := K.out _ HS.out.low))
    go_ret
    exact ⟨rfl, bw.trans (HS.out.low.mono (Nat.le_of_lt s1))⟩
  · rw [hf] at F1
    obtain ⟨zl, zp, zo⟩ := few_len5 hf hL.1 hP.1 hO.1
    obtain ⟨t1, ht1⟩ : ∃ f, tblB l = f := ⟨_, rfl⟩
    obtain ⟨m1, hm1⟩ : ∃ f, chkM c s k ps lo hi old = f := ⟨_, rfl⟩
    obtain ⟨o1, ho1⟩ : ∃ f, chkB on = f := ⟨_, rfl⟩
    obtain ⟨T, hT⟩ : ∃ T, touchL c s k ps lo hi old = T := ⟨_, rfl⟩
    obtain ⟨tt, htt⟩ : ∃ f, touchB T on = f := ⟨_, rfl⟩
    have T1 := Lib.hid (fun W h => ht1 ▸ tcheck_any a n cp l W h)
    have M1 := Lib.hid (fun W h => hm1 ▸ mcheck_any c s k a2 n2 cp2 ps lo hi old W h)
    have O1 := Lib.hid (fun a n c W h => ho1 ▸ rcheck_any a n c on W h)
    have X1 := Lib.hid (fun W h => hT ▸ mtouch_any c s k a2 n2 cp2 ps lo hi old W h)
    have X2 := Lib.hid (fun a n c a' n' c' W h h' => htt ▸ touch_any T on a a' n n' c c' W h h')
    have hcase : t1 = false ∨ (t1 = true ∧ m1 = false) ∨ (t1 = true ∧ m1 = true ∧ o1 = false) ∨ (t1 = true ∧ m1 = true ∧ o1 = true ∧ tt = true) ∨ (t1 = true ∧ m1 = true ∧ o1 = true ∧ tt = false) := by
      cases t1 <;> cases m1 <;> cases o1 <;> cases tt <;> simp
    replace ht1 := Lib.hid ht1
    replace hm1 := Lib.hid hm1
    replace ho1 := Lib.hid ho1
    replace hT := Lib.hid hT
    replace htt := Lib.hid htt
    clear hL hP hO hf
    rcases hcase with rfl | ⟨rfl, rfl⟩ | ⟨rfl, rfl, rfl⟩ | ⟨rfl, rfl, rfl, rfl⟩ | ⟨rfl, rfl, rfl, rfl⟩
    case' inr.inr.inr.inr =>
      have A1 := Lib.hid (fun a3 n3 cp3 W h1 h2 h3 => (tnone_math ht1.out hm1.out ho1.out (by rw [hT.out]; exact htt.out)) ▸ apply_any a n cp l c s k a2 n2 cp2 ps lo hi old a3 n3 cp3 on W h1 h2 h3)
    all_goals
      go_enter Try.func6, Try.ntmps6
      go_wp2_with (first | (go_at_call 15; (with_reducible refine (F1.out _).mono ?_); rintro e w' ⟨rfl, hb⟩; replace HS := Lib.hid (HS.out.step hb); clear hb; obtain ⟨q0, q1, q2, q3, q4, q5, q6⟩ := K.out _ HS.out.low) | (go_at_call 16; (with_reducible refine (T1.out _ (HS.out.get (by repeat (first | exact List.mem_cons_self | apply List.mem_cons_of_mem)))).mono ?_); rintro e w' ⟨rfl, hb⟩; replace HS := Lib.hid (HS.out.step hb); clear hb; obtain ⟨q0, q1, q2, q3, q4, q5, q6⟩ := K.out _ HS.out.low) | (go_at_call 17; (with_reducible refine (M1.out _ (HS.out.get (by repeat (first | exact List.mem_cons_self | apply List.mem_cons_of_mem)))).mono ?_); rintro e w' ⟨rfl, hb⟩; replace HS := Lib.hid (HS.out.step hb); clear hb; obtain ⟨q0, q1, q2, q3, q4, q5, q6⟩ := K.out _ HS.out.low) | (go_at_call 29; (with_reducible refine (refs_any a3 n3 cp3 on _ zo (HS.out.get (by repeat (first | exact List.mem_cons_self | apply List.mem_cons_of_mem)))).mono ?_); rintro e w' ⟨ar, nr, cr, rfl, hr, hb⟩; replace HS := Lib.hid ((HS.out.step hb).add hr); clear hb hr; obtain ⟨q0, q1, q2, q3, q4, q5, q6⟩ := K.out _ HS.out.low) | (go_at_call 28; (with_reducible refine (O1.out ar nr cr _ (HS.out.get (by repeat (first | exact List.mem_cons_self | apply List.mem_cons_of_mem)))).mono ?_); rintro e w' ⟨rfl, hb⟩; replace HS := Lib.hid (HS.out.step hb); clear hb; obtain ⟨q0, q1, q2, q3, q4, q5, q6⟩ := K.out _ HS.out.low) | (go_at_call 31; (with_reducible refine (X1.out _ (HS.out.get (by repeat (first | exact List.mem_cons_self | apply List.mem_cons_of_mem)))).mono ?_); rintro e w' ⟨at9, nt9, ct9, rfl, ht9, hb⟩; replace HS := Lib.hid ((HS.out.step hb).add ht9); clear hb ht9; obtain ⟨q0, q1, q2, q3, q4, q5, q6⟩ := K.out _ HS.out.low) | (go_at_call 30; (with_reducible refine (X2.out at9 nt9 ct9 a3 n3 cp3 _ (HS.out.get (by repeat (first | exact List.mem_cons_self | apply List.mem_cons_of_mem))) (HS.out.get (by repeat (first | exact List.mem_cons_self | apply List.mem_cons_of_mem)))).mono ?_); rintro e w' ⟨rfl, hb⟩; replace HS := Lib.hid (HS.out.step hb); clear hb; obtain ⟨q0, q1, q2, q3, q4, q5, q6⟩ := K.out _ HS.out.low) | (go_at_call 18; (with_reducible refine (awake5_any _).mono ?_); rintro e w' ⟨rfl, hb⟩; replace HS := Lib.hid (HS.out.step hb); clear hb; obtain ⟨q0, q1, q2, q3, q4, q5, q6⟩ := K.out _ HS.out.low) | (go_at_call 19; (with_reducible refine (A1.out _ _ _ _ (HS.out.get (by repeat (first | exact List.mem_cons_self | apply List.mem_cons_of_mem))) (HS.out.get (by repeat (first | exact List.mem_cons_self | apply List.mem_cons_of_mem))) (HS.out.get (by repeat (first | exact List.mem_cons_self | apply List.mem_cons_of_mem)))).mono ?_); rintro e w' ⟨vx, rfl, ox, hb⟩; obtain ⟨ax, nx, cx, rfl, hx⟩ := ox.ready; dsimp only at hx; replace HS := Lib.hid ((HS.out.step hb).add hx); clear hb hx ox; obtain ⟨q0, q1, q2, q3, q4, q5, q6⟩ := K.out _ HS.out.low) | (go_at_call 23; (with_reducible refine (refs5_any ax nx cx l _ zl (HS.out.get (by repeat (first | exact List.mem_cons_self | apply List.mem_cons_of_mem)))).mono ?_); rintro e w' ⟨au, nu, cu, rfl, hu, hb⟩; replace HS := Lib.hid ((HS.out.step hb).add hu); clear hb hu; obtain ⟨q0, q1, q2, q3, q4, q5, q6⟩ := K.out _ HS.out.low) | (go_at_call 23; (with_reducible refine (refs5_any a n cp l _ zl (HS.out.get (by repeat (first | exact List.mem_cons_self | apply List.mem_cons_of_mem)))).mono ?_); rintro e w' ⟨av, nv, cv, rfl, hv, hb⟩; replace HS := Lib.hid ((HS.out.step hb).add hv); clear hb hv; obtain ⟨q0, q1, q2, q3, q4, q5, q6⟩ := K.out _ HS.out.low) | (go_at_call 22; (with_reducible refine (same5_any au av nu nv cu cv l l _ (HS.out.get (by repeat (first | exact List.mem_cons_self | apply List.mem_cons_of_mem))) (HS.out.get (by repeat (first | exact List.mem_cons_self | apply List.mem_cons_of_mem)))).mono ?_); rw [same_list rfl]; rintro e w' ⟨rfl, hb⟩; replace HS := Lib.hid (HS.out.step hb); clear hb; obtain ⟨q0, q1, q2, q3, q4, q5, q6⟩ := K.out _ HS.out.low))
      go_ret
      exact ⟨rfl, bw.trans (HS.out.low.mono (Nat.le_of_lt s1))⟩

set_option maxRecDepth 100000 in
set_option maxHeartbeats 4000000 in
theorem tableFails_walk (a : Option Addr) (n cp : Nat) (l : List Sp) (c s k : Int) (a2 : Option Addr) (n2 cp2 : Nat) (ps : List Sp) (lo hi old key : Int) (w : World) (hL : Arg w a n cp l) (hP : Arg w a2 n2 cp2 ps) (_hkey : (Lit.int .i64 key).wf = true) :
    Calls Try.prog 5 #[.slice a n cp, .agg #[.int .i64 c, .int .i64 s, .int .i64 k, .slice a2 n2 cp2, .int .i64 lo, .int .i64 hi, .int .i64 old], .int .i64 key] w (TruePost w) := by
  obtain ⟨W1, hW1⟩ : ∃ W1, (w.alloc (.cells #[.int .i64 c, .int .i64 s, .int .i64 k, .slice a2 n2 cp2, .int .i64 lo, .int .i64 hi, .int .i64 old] 26)) = W1 := ⟨_, rfl⟩
  have K := Lib.hid (fun W (h : Below W1.heap.size W1 W) => box7 (w := w) (t := 26) (v0 := .int .i64 c) (v1 := .int .i64 s) (v2 := .int .i64 k) (v3 := .slice a2 n2 cp2) (v4 := .int .i64 lo) (v5 := .int .i64 hi) (v6 := .int .i64 old) (w' := W) (by rw [hW1]; exact h))
  have bw : Below w.heap.size w W1 := by rw [← hW1]; exact (Below.refl _ _).alloc (Nat.le_refl _) _
  have s1 : w.heap.size < W1.heap.size := by rw [← hW1]; simp
  have z1 : (n : Int) ≤ 9223372036854775807 := by have := hL.1; have := hL.2.1; omega
  have z2 : (n2 : Int) ≤ 9223372036854775807 := by have := hP.1; have := hP.2.1; omega
  have HS := Lib.hid (((Env.mk (L := []) (Below.refl W1.heap.size W1) (by simp)).add (hP.below bw)).add (hL.below bw))
  obtain ⟨q0, q1, q2, q3, q4, q5, q6⟩ := K.out _ HS.out.low
  have F1 := Lib.hid (fun W => few5_any a n cp c s k a2 n2 cp2 lo hi old none 0 0 W z1 z2 (by omega))
  cases hf : fewB n n2 0
  · rw [hf] at F1
    clear hL hP hf
    go_enter Try.func5, Try.ntmps5
    go_wp2_with (first | (go_at_call 15; (with_reducible refine (F1.out _).mono ?_); rintro e w' ⟨rfl, hb⟩; replace HS := Lib.hid (HS.out.step hb); clear hb; obtain ⟨q0, q1, q2, q3, q4, q5, q6⟩ := K.out _ HS.out.low) | (go_at_call 18; (with_reducible refine (awake5_any _).mono ?_); rintro e w' ⟨rfl, hb⟩; replace HS := Lib.hid (HS.out.step hb); clear hb; obtain ⟨q0, q1, q2, q3, q4, q5, q6⟩ := K.out _ HS.out.low))
    go_ret
    exact ⟨rfl, bw.trans (HS.out.low.mono (Nat.le_of_lt s1))⟩
  · rw [hf] at F1
    obtain ⟨zl, zp, _⟩ := few_len5 (on := []) hf hL.1 hP.1 rfl
    obtain ⟨t1, ht1⟩ : ∃ f, tblB l = f := ⟨_, rfl⟩
    obtain ⟨m1, hm1⟩ : ∃ f, chkM c s k ps lo hi old = f := ⟨_, rfl⟩
    have T1 := Lib.hid (fun W h => ht1 ▸ tcheck_any a n cp l W h)
    have M1 := Lib.hid (fun W h => hm1 ▸ mcheck_any c s k a2 n2 cp2 ps lo hi old W h)
    have hcase : t1 = false ∨ (t1 = true ∧ m1 = false) ∨ (t1 = true ∧ m1 = true) := by
      cases t1 <;> cases m1 <;> simp
    clear hL hP hf
    rcases hcase with rfl | ⟨rfl, rfl⟩ | ⟨rfl, rfl⟩
    case' inr.inr =>
      obtain ⟨R, d, hR⟩ : ∃ R d, applyP l c s k ps lo hi old [(0, 4096)] = (R, d) := ⟨_, _, rfl⟩
      obtain ⟨r1, r2, r3⟩ := tfails_math (key := key) ht1 hm1
      rw [hR] at r1 r2 r3
      dsimp only at r1 r2 r3
      obtain ⟨tc, htc⟩ : ∃ f, touchesB k ps lo hi key = f := ⟨_, rfl⟩
      obtain ⟨v1, s1', hg1⟩ : ∃ v s, cellOut (getC l key) = .tuple #[.int .i64 v, .bool s] := ⟨_, _, rfl⟩
      obtain ⟨v2, s2', hg2⟩ : ∃ v s, cellOut (getC R key) = .tuple #[.int .i64 v, .bool s] := ⟨_, _, rfl⟩
      rw [htc] at r3
      have hcon : (d = true ∨ (d = false ∧ aloneB c s k ps lo hi old = true ∧ l = R)) ∧ (tc = true ∨ (tc = false ∧ v1 = v2 ∧ s1' = s2')) := by
        refine ⟨?_, ?_⟩
        · cases d
          · exact .inr ⟨rfl, (r2 rfl).1, (r2 rfl).2.symm⟩
          · exact .inl rfl
        · cases tc
          · rw [r3 rfl, hg1] at hg2
            simp at hg2
            exact .inr ⟨rfl, hg2⟩
          · exact .inl rfl
      have A1 := Lib.hid (fun a3 n3 cp3 W h1 h2 h3 => hR ▸ apply_any a n cp l c s k a2 n2 cp2 ps lo hi old a3 n3 cp3 [(0, 4096)] W h1 h2 h3)
      have C1 := Lib.hid (fun a n c W h => r1 ▸ tcheck_any a n c R W h)
      have G1 := Lib.hid (fun W h => hg1 ▸ get_tab a n cp l key W h)
      have G2 := Lib.hid (fun a n c W h => hg2 ▸ get_tab a n c R key W h)
      have U1 := Lib.hid (fun a n cp W h => htc ▸ touches4_any c s k a n cp ps lo hi old key W h)
      replace hR := Lib.hid hR
      replace hg1 := Lib.hid hg1
      replace hg2 := Lib.hid hg2
      replace htc := Lib.hid htc
      clear r1 r2 r3
      obtain ⟨hd, ht⟩ := hcon
      rcases hd with rfl | ⟨rfl, hal, rfl⟩
      case' inr => have AL := Lib.hid (fun W h => hal ▸ malone_any c s k a2 n2 cp2 ps lo hi old W h); replace hal := Lib.hid hal
      all_goals rcases ht with rfl | ⟨rfl, rfl, rfl⟩
    all_goals
      replace ht1 := Lib.hid ht1
      replace hm1 := Lib.hid hm1
      go_enter Try.func5, Try.ntmps5
      go_wp2_with (first | (go_at_call 15; (with_reducible refine (F1.out _).mono ?_); rintro e w' ⟨rfl, hb⟩; replace HS := Lib.hid (HS.out.step hb); clear hb; obtain ⟨q0, q1, q2, q3, q4, q5, q6⟩ := K.out _ HS.out.low) | (go_at_call 16; (with_reducible refine (T1.out _ (HS.out.get (by repeat (first | exact List.mem_cons_self | apply List.mem_cons_of_mem)))).mono ?_); rintro e w' ⟨rfl, hb⟩; replace HS := Lib.hid (HS.out.step hb); clear hb; obtain ⟨q0, q1, q2, q3, q4, q5, q6⟩ := K.out _ HS.out.low) | (go_at_call 17; (with_reducible refine (M1.out _ (HS.out.get (by repeat (first | exact List.mem_cons_self | apply List.mem_cons_of_mem)))).mono ?_); rintro e w' ⟨rfl, hb⟩; replace HS := Lib.hid (HS.out.step hb); clear hb; obtain ⟨q0, q1, q2, q3, q4, q5, q6⟩ := K.out _ HS.out.low) | (go_at_call 18; (with_reducible refine (awake5_any _).mono ?_); rintro e w' ⟨rfl, hb⟩; replace HS := Lib.hid (HS.out.step hb); clear hb; obtain ⟨q0, q1, q2, q3, q4, q5, q6⟩ := K.out _ HS.out.low) | (go_at_call 19; (refine (A1.out _ 1 1 _ (((HS.out.step ((Below.refl _ _).alloc (Nat.le_refl _) _)).get (by repeat (first | exact List.mem_cons_self | apply List.mem_cons_of_mem)))) (((HS.out.step ((Below.refl _ _).alloc (Nat.le_refl _) _)).get (by repeat (first | exact List.mem_cons_self | apply List.mem_cons_of_mem)))) (show Arg _ _ 1 1 [(0, 4096)] from arg_new _ 24 [(0, 4096)] #[.int .i64 0, .int .i64 4096] rfl (by simp))).mono ?_); rintro e w' ⟨vx, rfl, ox, hb⟩; obtain ⟨ax, nx, cx, rfl, hx⟩ := ox.ready; dsimp only at hx; replace HS := Lib.hid ((((HS.out.step ((Below.refl _ _).alloc (Nat.le_refl _) (.cells #[.int .i64 0, .int .i64 4096] 24))).add (n := 1) (c := 1) (l := [(0, 4096)]) (arg_new _ 24 [(0, 4096)] #[.int .i64 0, .int .i64 4096] rfl (by simp))).step hb).add hx); clear hb hx ox; obtain ⟨q0, q1, q2, q3, q4, q5, q6⟩ := K.out _ HS.out.low) | (go_at_call 25; (with_reducible refine (AL.out _ (HS.out.get (by repeat (first | exact List.mem_cons_self | apply List.mem_cons_of_mem)))).mono ?_); rintro e w' ⟨rfl, hb⟩; replace HS := Lib.hid (HS.out.step hb); clear hb; obtain ⟨q0, q1, q2, q3, q4, q5, q6⟩ := K.out _ HS.out.low) | (go_at_call 23; (with_reducible refine (refs5_any ax nx cx l _ zl (HS.out.get (by repeat (first | exact List.mem_cons_self | apply List.mem_cons_of_mem)))).mono ?_); rintro e w' ⟨au, nu, cu, rfl, hu, hb⟩; replace HS := Lib.hid ((HS.out.step hb).add hu); clear hb hu; obtain ⟨q0, q1, q2, q3, q4, q5, q6⟩ := K.out _ HS.out.low) | (go_at_call 23; (with_reducible refine (refs5_any a n cp l _ zl (HS.out.get (by repeat (first | exact List.mem_cons_self | apply List.mem_cons_of_mem)))).mono ?_); rintro e w' ⟨av, nv, cv, rfl, hv, hb⟩; replace HS := Lib.hid ((HS.out.step hb).add hv); clear hb hv; obtain ⟨q0, q1, q2, q3, q4, q5, q6⟩ := K.out _ HS.out.low) | (go_at_call 22; (with_reducible refine (same5_any au av nu nv cu cv l l _ (HS.out.get (by repeat (first | exact List.mem_cons_self | apply List.mem_cons_of_mem))) (HS.out.get (by repeat (first | exact List.mem_cons_self | apply List.mem_cons_of_mem)))).mono ?_); rw [same_list rfl]; rintro e w' ⟨rfl, hb⟩; replace HS := Lib.hid (HS.out.step hb); clear hb; obtain ⟨q0, q1, q2, q3, q4, q5, q6⟩ := K.out _ HS.out.low) | (go_at_call 24; (with_reducible refine (G1.out _ (HS.out.get (by repeat (first | exact List.mem_cons_self | apply List.mem_cons_of_mem)))).mono ?_); rintro e w' ⟨rfl, hb⟩; replace HS := Lib.hid (HS.out.step hb); clear hb; obtain ⟨q0, q1, q2, q3, q4, q5, q6⟩ := K.out _ HS.out.low) | (go_at_call 24; (with_reducible refine (G2.out ax nx cx _ (HS.out.get (by repeat (first | exact List.mem_cons_self | apply List.mem_cons_of_mem)))).mono ?_); rintro e w' ⟨rfl, hb⟩; replace HS := Lib.hid (HS.out.step hb); clear hb; obtain ⟨q0, q1, q2, q3, q4, q5, q6⟩ := K.out _ HS.out.low) | (go_at_call 27; (with_reducible refine (ref4_any c s k a2 n2 cp2 ps lo hi old _ zp (HS.out.get (by repeat (first | exact List.mem_cons_self | apply List.mem_cons_of_mem)))).mono ?_); rintro e w' ⟨am, nm, cm, rfl, hm, hb⟩; replace HS := Lib.hid ((HS.out.step hb).add hm); clear hb hm; obtain ⟨q0, q1, q2, q3, q4, q5, q6⟩ := K.out _ HS.out.low) | (go_at_call 26; (with_reducible refine (U1.out am nm cm _ (HS.out.get (by repeat (first | exact List.mem_cons_self | apply List.mem_cons_of_mem)))).mono ?_); rintro e w' ⟨rfl, hb⟩; replace HS := Lib.hid (HS.out.step hb); clear hb; obtain ⟨q0, q1, q2, q3, q4, q5, q6⟩ := K.out _ HS.out.low) | (go_at_call 16; (with_reducible refine (C1.out ax nx cx _ (HS.out.get (by repeat (first | exact List.mem_cons_self | apply List.mem_cons_of_mem)))).mono ?_); rintro e w' ⟨rfl, hb⟩; replace HS := Lib.hid (HS.out.step hb); clear hb; obtain ⟨q0, q1, q2, q3, q4, q5, q6⟩ := K.out _ HS.out.low))
      go_ret
      exact ⟨rfl, bw.trans (HS.out.low.mono (Nat.le_of_lt s1))⟩
end Go.Proofs.Ytfnjadiibiedgab
