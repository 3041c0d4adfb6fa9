/-
  THE WALK of TableTwice.
-/
import Derived.Test.YtfnjadiibiedgabTabN
namespace Go.Proofs.Ytfnjadiibiedgab
open Go.RowKit Go.Shelf Go.ChangeShapes Go.WideShapes Go.Deep

set_option maxRecDepth 100000 in
set_option maxHeartbeats 4000000 in
theorem tableTwice_4 (a : Option Addr) (n cp : Nat) (l : List Sp) (c s k : Int) (a2 : Option Addr) (n2 cp2 : Nat) (ps : List Sp) (lo hi old : Int) (a3 : Option Addr) (n3 cp3 : Nat) (on : List Sp) (w : World) (hL : Arg w a n cp l) (hP : Arg w a2 n2 cp2 ps) (hO : Arg w a3 n3 cp3 on) (hk : k = 4) :
    Calls Try.prog 7 #[.slice a n cp, .agg #[.int .i64 c, .int .i64 s, .int .i64 k, .slice a2 n2 cp2, .int .i64 lo, .int .i64 hi, .int .i64 old], .slice a3 n3 cp3] w (TruePost w) := by
  obtain ⟨W1, hW1⟩ : ∃ W1, (w.alloc (.cells #[.int .i64 c, .int .i64 s, .int .i64 k, .slice a2 n2 cp2, .int .i64 lo, .int .i64 hi, .int .i64 old] 26)) = W1 := ⟨_, rfl⟩
  have K := Lib.hid (fun W (h : Below W1.heap.size W1 W) => box7 (w := w) (t := 26) (v0 := .int .i64 c) (v1 := .int .i64 s) (v2 := .int .i64 k) (v3 := .slice a2 n2 cp2) (v4 := .int .i64 lo) (v5 := .int .i64 hi) (v6 := .int .i64 old) (w' := W) (by rw [hW1]; exact h))
  have bw : Below w.heap.size w W1 := by rw [← hW1]; exact (Below.refl _ _).alloc (Nat.le_refl _) _
  have s1 : w.heap.size < W1.heap.size := by rw [← hW1]; simp
  replace hk := Lib.hid hk
  have z1 : (n : Int) ≤ 9223372036854775807 := by have := hL.1; have := hL.2.1; omega
  have z2 : (n2 : Int) ≤ 9223372036854775807 := by have := hP.1; have := hP.2.1; omega
  have z3 : (n3 : Int) ≤ 9223372036854775807 := by have := hO.1; have := hO.2.1; omega
  have HS := Lib.hid ((((Env.mk (L := []) (Below.refl W1.heap.size W1) (by simp)).add (hO.below bw)).add (hP.below bw)).add (hL.below bw))
  obtain ⟨q0, q1, q2, q3, q4, q5, q6⟩ := K.out _ HS.out.low
  have F1 := Lib.hid (fun W => few5_any a n cp c s k a2 n2 cp2 lo hi old a3 n3 cp3 W z1 z2 z3)
  have mixed : Try.prog.follows .mixedOrders = true := by kernel_rfl
  cases hf : fewB n n2 n3
  · rw [hf] at F1
    clear hL hP hO hf
    go_enter Try.func7, Try.ntmps7
    go_wp2_with (first | (go_at_call 15; (with_reducible refine (F1.out _).mono ?_); rintro e w' ⟨rfl, hb⟩; replace HS := Lib.hid (HS.out.step hb); clear hb; obtain ⟨q0, q1, q2, q3, q4, q5, q6⟩ := K.out _ HS.out.low) | (go_at_call 18; (with_reducible refine (awake5_any _).mono ?_); rintro e w' ⟨rfl, hb⟩; replace HS := Lib.hid (HS.out.step hb); clear hb; obtain ⟨q0, q1, q2, q3, q4, q5, q6⟩ := K.out _ HS.out.low))
    go_ret
    exact ⟨rfl, bw.trans (HS.out.low.mono (Nat.le_of_lt s1))⟩
  · rw [hf] at F1
    obtain ⟨zl, zp, zo⟩ := few_len5 hf hL.1 hP.1 hO.1
    obtain ⟨t1, ht1⟩ : ∃ f, tblB l = f := ⟨_, rfl⟩
    obtain ⟨m1, hm1⟩ : ∃ f, chkM c s k ps lo hi old = f := ⟨_, rfl⟩
    obtain ⟨o1, ho1⟩ : ∃ f, chkB on = f := ⟨_, rfl⟩
    have T1 := Lib.hid (fun W h => ht1 ▸ tcheck_any a n cp l W h)
    have M1 := Lib.hid (fun W h => hm1 ▸ mcheck_any c s k a2 n2 cp2 ps lo hi old W h)
    have O1 := Lib.hid (fun a n c W h => ho1 ▸ rcheck_any a n c on W h)
    have hcase : t1 = false ∨ (t1 = true ∧ m1 = false) ∨ (t1 = true ∧ m1 = true ∧ o1 = false) ∨ (t1 = true ∧ m1 = true ∧ o1 = true) := by
      cases t1 <;> cases m1 <;> cases o1 <;> simp
    rcases hcase with rfl | ⟨rfl, rfl⟩ | ⟨rfl, rfl, rfl⟩ | ⟨rfl, rfl, rfl⟩
    case' inr.inr.inr =>
      obtain ⟨A, x, eA⟩ : ∃ A p, applyP l c s k ps lo hi old on = (A, p) := ⟨_, _, rfl⟩
      obtain ⟨B, y, eB⟩ : ∃ A' p', applyP A c s k ps lo hi old on = (A', p') := ⟨_, _, rfl⟩
      obtain ⟨tA, h12, h4⟩ := ttwice_math ht1 hm1 ho1 eA
      rw [eB] at h12 h4
      have zA : A.length ≤ 100000 := by have := tbl_le tA; omega
      have A1 := Lib.hid (fun W h1 h2 h3 => eA ▸ apply_any a n cp l c s k a2 n2 cp2 ps lo hi old a3 n3 cp3 on W h1 h2 h3)
      have A2 := Lib.hid (fun aX nX cX W h1 h2 h3 => eB ▸ apply_any aX nX cX A c s k a2 n2 cp2 ps lo hi old a3 n3 cp3 on W h1 h2 h3)
      obtain ⟨p0, hp0⟩ : ∃ p, ps.getD 0 (0, 0) = p := ⟨_, rfl⟩
      obtain ⟨hh, hhh⟩ : ∃ f, hasB on p0.1 = f := ⟨_, rfl⟩
      obtain ⟨b, off, ea, hb, c0, c1⟩ : ∃ b off, a2 = some ⟨b, off, none⟩ ∧ b < W1.heap.size ∧ W1.cell? ⟨b, off, none⟩ = some (.int .i64 p0.1) ∧ W1.cell? ⟨b, off + 1, none⟩ = some (.int .i64 p0.2) := by
        obtain ⟨b, off, e, hb, c0, c1⟩ := (hP.below bw).2.2.2.2 0 (by
          rcases fits_cases (chkM_and hm1).2.2.2 with ⟨i, _⟩ | ⟨i, _⟩ | ⟨_, p, hp, _⟩ | ⟨i, _⟩
          · have := hk.out; omega
          · have := hk.out; omega
          · rw [hp]; simp
          · have := hk.out; omega)
        rw [hp0] at c0 c1
        exact ⟨b, off, e, hb, by simpa using c0, by simpa using c1⟩
      have hlz : (0 : Int) < (n2 : Int) := by
        have : 0 < ps.length := by
          rcases fits_cases (chkM_and hm1).2.2.2 with ⟨i, _⟩ | ⟨i, _⟩ | ⟨_, p, hp, _⟩ | ⟨i, _⟩
          · have := hk.out; omega
          · have := hk.out; omega
          · rw [hp]; simp
          · have := hk.out; omega
        have := hP.1
        omega
      replace ea := Lib.hid ea
      have d1 : (k == 1) = false := by rw [hk.out]; rfl
      have d2 : (k == 2) = false := by rw [hk.out]; rfl
      have d4 : (k == 4) = true := by rw [hk.out]; rfl
      have hcon : x = false ∨ (x = true ∧ (p0.2 != old) = false) ∨ (x = true ∧ (p0.2 != old) = true ∧ hh = false) ∨ (x = true ∧ (p0.2 != old) = true ∧ hh = true ∧ y = false ∧ Hid (A = B)) := by
        rw [hp0] at h4
        cases x
        · exact .inl rfl
        · by_cases hv : p0.2 = old
          · exact .inr (.inl ⟨rfl, by simpa using hv⟩)
          · have ev : (p0.2 != old) = true := by simpa using hv
            cases hh
            · exact .inr (.inr (.inl ⟨rfl, ev, rfl⟩))
            · have := h4 hk.out rfl hv hhh
              cases this
              exact .inr (.inr (.inr ⟨rfl, ev, rfl, rfl, Lib.hid rfl⟩))
      have CH := Lib.hid (fun W h => hhh ▸ has_arg on p0.1 a3 n3 cp3 W h)
      replace eA := Lib.hid eA
      replace eB := Lib.hid eB
      replace hhh := Lib.hid hhh
      replace hp0 := Lib.hid hp0
      clear h12 h4 tA
      rcases hcon with rfl | ⟨rfl, dv⟩ | ⟨rfl, dv, rfl⟩ | ⟨rfl, dv, rfl, rfl, hAB⟩
    all_goals
      replace ht1 := Lib.hid ht1
      replace hm1 := Lib.hid hm1
      replace ho1 := Lib.hid ho1
      clear hf hL hP hO
      go_enter Try.func7, Try.ntmps7
      go_wp2_with (first | (go_at_call 15; (with_reducible refine (F1.out _).mono ?_); rintro e w' ⟨rfl, hb⟩; replace HS := Lib.hid (HS.out.step hb); clear hb; obtain ⟨q0, q1, q2, q3, q4, q5, q6⟩ := K.out _ HS.out.low) | (go_at_call 16; (with_reducible refine (T1.out _ (HS.out.get (by repeat (first | exact List.mem_cons_self | apply List.mem_cons_of_mem)))).mono ?_); rintro e w' ⟨rfl, hb⟩; replace HS := Lib.hid (HS.out.step hb); clear hb; obtain ⟨q0, q1, q2, q3, q4, q5, q6⟩ := K.out _ HS.out.low) | (go_at_call 17; (with_reducible refine (M1.out _ (HS.out.get (by repeat (first | exact List.mem_cons_self | apply List.mem_cons_of_mem)))).mono ?_); rintro e w' ⟨rfl, hb⟩; replace HS := Lib.hid (HS.out.step hb); clear hb; obtain ⟨q0, q1, q2, q3, q4, q5, q6⟩ := K.out _ HS.out.low) | (go_at_call 29; (with_reducible refine (refs_any a3 n3 cp3 on _ zo (HS.out.get (by repeat (first | exact List.mem_cons_self | apply List.mem_cons_of_mem)))).mono ?_); rintro e w' ⟨ar, nr, cr, rfl, hr, hb⟩; replace HS := Lib.hid ((HS.out.step hb).add hr); clear hb hr; obtain ⟨q0, q1, q2, q3, q4, q5, q6⟩ := K.out _ HS.out.low) | (go_at_call 28; (with_reducible refine (O1.out ar nr cr _ (HS.out.get (by repeat (first | exact List.mem_cons_self | apply List.mem_cons_of_mem)))).mono ?_); rintro e w' ⟨rfl, hb⟩; replace HS := Lib.hid (HS.out.step hb); clear hb; obtain ⟨q0, q1, q2, q3, q4, q5, q6⟩ := K.out _ HS.out.low) | (go_at_call 18; (with_reducible refine (awake5_any _).mono ?_); rintro e w' ⟨rfl, hb⟩; replace HS := Lib.hid (HS.out.step hb); clear hb; obtain ⟨q0, q1, q2, q3, q4, q5, q6⟩ := K.out _ HS.out.low) | (go_at_call 19; (with_reducible refine (A1.out _ (HS.out.get (by repeat (first | exact List.mem_cons_self | apply List.mem_cons_of_mem))) (HS.out.get (by repeat (first | exact List.mem_cons_self | apply List.mem_cons_of_mem))) (HS.out.get (by repeat (first | exact List.mem_cons_self | apply List.mem_cons_of_mem)))).mono ?_); rintro e w' ⟨vw1, rfl, ow1, hb⟩; obtain ⟨aw1, nw1, cw1, rfl, hw1⟩ := ow1.ready; dsimp only at hw1; replace HS := Lib.hid ((HS.out.step hb).add hw1); clear hb hw1 ow1; obtain ⟨q0, q1, q2, q3, q4, q5, q6⟩ := K.out _ HS.out.low) | (go_at_call 19; (with_reducible refine (A2.out aw1 nw1 cw1 _ (HS.out.get (by repeat (first | exact List.mem_cons_self | apply List.mem_cons_of_mem))) (HS.out.get (by repeat (first | exact List.mem_cons_self | apply List.mem_cons_of_mem))) (HS.out.get (by repeat (first | exact List.mem_cons_self | apply List.mem_cons_of_mem)))).mono ?_); rintro e w' ⟨vw2, rfl, ow2, hb⟩; obtain ⟨aw2, nw2, cw2, rfl, hw2⟩ := ow2.ready; dsimp only at hw2; replace HS := Lib.hid ((HS.out.step hb).add hw2); clear hb hw2 ow2; obtain ⟨q0, q1, q2, q3, q4, q5, q6⟩ := K.out _ HS.out.low) | (go_at_call 23; (with_reducible refine (refs5_any aw1 nw1 cw1 A _ zA (HS.out.get (by repeat (first | exact List.mem_cons_self | apply List.mem_cons_of_mem)))).mono ?_); rintro e w' ⟨au1, nu1, cu1, rfl, hu1, hb⟩; replace HS := Lib.hid ((HS.out.step hb).add hu1); clear hb hu1; obtain ⟨q0, q1, q2, q3, q4, q5, q6⟩ := K.out _ HS.out.low) | (go_at_call 23; (with_reducible refine (refs5_any aw2 nw2 cw2 B _ (hAB.out ▸ zA) (HS.out.get (by repeat (first | exact List.mem_cons_self | apply List.mem_cons_of_mem)))).mono ?_); rintro e w' ⟨au2, nu2, cu2, rfl, hu2, hb⟩; replace HS := Lib.hid ((HS.out.step hb).add hu2); clear hb hu2; obtain ⟨q0, q1, q2, q3, q4, q5, q6⟩ := K.out _ HS.out.low) | (go_at_call 22; (with_reducible refine (same5_any au1 au2 nu1 nu2 cu1 cu2 A B _ (HS.out.get (by repeat (first | exact List.mem_cons_self | apply List.mem_cons_of_mem))) (HS.out.get (by repeat (first | exact List.mem_cons_self | apply List.mem_cons_of_mem)))).mono ?_); rw [same_list hAB.out]; rintro e w' ⟨rfl, hb⟩; replace HS := Lib.hid (HS.out.step hb); clear hb; obtain ⟨q0, q1, q2, q3, q4, q5, q6⟩ := K.out _ HS.out.low))
      first
        | (go_ret; exact ⟨rfl, bw.trans (HS.out.low.mono (Nat.le_of_lt s1))⟩)
        | (have HE := HS.out
           have K0 : ∀ p : EnvW W1 [(aw2, nw2, cw2, B), (aw1, nw1, cw1, A), (ar, nr, cr, on), (a, n, cp, l), (a2, n2, cp2, ps), (a3, n3, cp3, on)], p.W.cell? ⟨w.heap.size, 2, none⟩ = some (.int .i64 k) := fun p => (K.out _ p.h.low).2.2.1
           have K2 : ∀ p : EnvW W1 [(aw2, nw2, cw2, B), (aw1, nw1, cw1, A), (ar, nr, cr, on), (a, n, cp, l), (a2, n2, cp2, ps), (a3, n3, cp3, on)], p.W.cell? ⟨w.heap.size, 5, none⟩ = some (.int .i64 hi) := fun p => (K.out _ p.h.low).2.2.2.2.2.1
           have K3 : ∀ p : EnvW W1 [(aw2, nw2, cw2, B), (aw1, nw1, cw1, A), (ar, nr, cr, on), (a, n, cp, l), (a2, n2, cp2, ps), (a3, n3, cp3, on)], p.W.cell? ⟨w.heap.size, 6, none⟩ = some (.int .i64 old) := fun p => (K.out _ p.h.low).2.2.2.2.2.2
           have hne : Nonempty (EnvW W1 [(aw2, nw2, cw2, B), (aw1, nw1, cw1, A), (ar, nr, cr, on), (a, n, cp, l), (a2, n2, cp2, ps), (a3, n3, cp3, on)]) := ⟨⟨_, HE⟩⟩
           have K1 : ∀ p : EnvW W1 [(aw2, nw2, cw2, B), (aw1, nw1, cw1, A), (ar, nr, cr, on), (a, n, cp, l), (a2, n2, cp2, ps), (a3, n3, cp3, on)], p.W.cell? ⟨w.heap.size, 3, none⟩ = some (.slice (some ⟨b, off, none⟩) n2 cp2) := fun p => by rw [← ea.out]; exact (K.out _ p.h.low).2.2.2.1
           have K4 : ∀ p : EnvW W1 [(aw2, nw2, cw2, B), (aw1, nw1, cw1, A), (ar, nr, cr, on), (a, n, cp, l), (a2, n2, cp2, ps), (a3, n3, cp3, on)], p.W.cell? ⟨b, off, none⟩ = some (.int .i64 p0.1) := fun p => (p.h.low.cell (p := ⟨b, off, none⟩) hb).trans c0
           have K5 : ∀ p : EnvW W1 [(aw2, nw2, cw2, B), (aw1, nw1, cw1, A), (ar, nr, cr, on), (a, n, cp, l), (a2, n2, cp2, ps), (a3, n3, cp3, on)], p.W.cell? ⟨b, off + 1, none⟩ = some (.int .i64 p0.2) := fun p => (p.h.low.cell (p := ⟨b, off + 1, none⟩) hb).trans c1
           refine wp_region_quiet_env HE mixed (by kernel_rfl) ?_
           clear HE
           repeat (first | go_big_quiet_step ((go_at_call 32; with_reducible exact env_of _ (CH.out _ ((EnvW.h _).get (by repeat (first | exact List.mem_cons_self | apply List.mem_cons_of_mem)))))) | quiet_step ((go_at_call 32; with_reducible exact env_of _ (CH.out _ ((EnvW.h _).get (by repeat (first | exact List.mem_cons_self | apply List.mem_cons_of_mem)))))))
           refine wpQuiet_nil ?_
           intro _ hw'
           obtain ⟨⟨W9, hE9⟩, hw''⟩ := hw'
           subst hw''
           replace HS := Lib.hid hE9
           go_wp2_with (first | (go_at_call 15; (with_reducible refine (F1.out _).mono ?_); rintro e w' ⟨rfl, hb⟩; replace HS := Lib.hid (HS.out.step hb); clear hb; obtain ⟨q0, q1, q2, q3, q4, q5, q6⟩ := K.out _ HS.out.low) | (go_at_call 16; (with_reducible refine (T1.out _ (HS.out.get (by repeat (first | exact List.mem_cons_self | apply List.mem_cons_of_mem)))).mono ?_); rintro e w' ⟨rfl, hb⟩; replace HS := Lib.hid (HS.out.step hb); clear hb; obtain ⟨q0, q1, q2, q3, q4, q5, q6⟩ := K.out _ HS.out.low) | (go_at_call 17; (with_reducible refine (M1.out _ (HS.out.get (by repeat (first | exact List.mem_cons_self | apply List.mem_cons_of_mem)))).mono ?_); rintro e w' ⟨rfl, hb⟩; replace HS := Lib.hid (HS.out.step hb); clear hb; obtain ⟨q0, q1, q2, q3, q4, q5, q6⟩ := K.out _ HS.out.low) | (go_at_call 29; (with_reducible refine (refs_any a3 n3 cp3 on _ zo (HS.out.get (by repeat (first | exact List.mem_cons_self | apply List.mem_cons_of_mem)))).mono ?_); rintro e w' ⟨ar, nr, cr, rfl, hr, hb⟩; replace HS := Lib.hid ((HS.out.step hb).add hr); clear hb hr; obtain ⟨q0, q1, q2, q3, q4, q5, q6⟩ := K.out _ HS.out.low) | (go_at_call 28; (with_reducible refine (O1.out ar nr cr _ (HS.out.get (by repeat (first | exact List.mem_cons_self | apply List.mem_cons_of_mem)))).mono ?_); rintro e w' ⟨rfl, hb⟩; replace HS := Lib.hid (HS.out.step hb); clear hb; obtain ⟨q0, q1, q2, q3, q4, q5, q6⟩ := K.out _ HS.out.low) | (go_at_call 18; (with_reducible refine (awake5_any _).mono ?_); rintro e w' ⟨rfl, hb⟩; replace HS := Lib.hid (HS.out.step hb); clear hb; obtain ⟨q0, q1, q2, q3, q4, q5, q6⟩ := K.out _ HS.out.low) | (go_at_call 19; (with_reducible refine (A1.out _ (HS.out.get (by repeat (first | exact List.mem_cons_self | apply List.mem_cons_of_mem))) (HS.out.get (by repeat (first | exact List.mem_cons_self | apply List.mem_cons_of_mem))) (HS.out.get (by repeat (first | exact List.mem_cons_self | apply List.mem_cons_of_mem)))).mono ?_); rintro e w' ⟨vw1, rfl, ow1, hb⟩; obtain ⟨aw1, nw1, cw1, rfl, hw1⟩ := ow1.ready; dsimp only at hw1; replace HS := Lib.hid ((HS.out.step hb).add hw1); clear hb hw1 ow1; obtain ⟨q0, q1, q2, q3, q4, q5, q6⟩ := K.out _ HS.out.low) | (go_at_call 19; (with_reducible refine (A2.out aw1 nw1 cw1 _ (HS.out.get (by repeat (first | exact List.mem_cons_self | apply List.mem_cons_of_mem))) (HS.out.get (by repeat (first | exact List.mem_cons_self | apply List.mem_cons_of_mem))) (HS.out.get (by repeat (first | exact List.mem_cons_self | apply List.mem_cons_of_mem)))).mono ?_); rintro e w' ⟨vw2, rfl, ow2, hb⟩; obtain ⟨aw2, nw2, cw2, rfl, hw2⟩ := ow2.ready; dsimp only at hw2; replace HS := Lib.hid ((HS.out.step hb).add hw2); clear hb hw2 ow2; obtain ⟨q0, q1, q2, q3, q4, q5, q6⟩ := K.out _ HS.out.low) | (go_at_call 23; (with_reducible refine (refs5_any aw1 nw1 cw1 A _ zA (HS.out.get (by repeat (first | exact List.mem_cons_self | apply List.mem_cons_of_mem)))).mono ?_); rintro e w' ⟨au1, nu1, cu1, rfl, hu1, hb⟩; replace HS := Lib.hid ((HS.out.step hb).add hu1); clear hb hu1; obtain ⟨q0, q1, q2, q3, q4, q5, q6⟩ := K.out _ HS.out.low) | (go_at_call 23; (with_reducible refine (refs5_any aw2 nw2 cw2 B _ (hAB.out ▸ zA) (HS.out.get (by repeat (first | exact List.mem_cons_self | apply List.mem_cons_of_mem)))).mono ?_); rintro e w' ⟨au2, nu2, cu2, rfl, hu2, hb⟩; replace HS := Lib.hid ((HS.out.step hb).add hu2); clear hb hu2; obtain ⟨q0, q1, q2, q3, q4, q5, q6⟩ := K.out _ HS.out.low) | (go_at_call 22; (with_reducible refine (same5_any au1 au2 nu1 nu2 cu1 cu2 A B _ (HS.out.get (by repeat (first | exact List.mem_cons_self | apply List.mem_cons_of_mem))) (HS.out.get (by repeat (first | exact List.mem_cons_self | apply List.mem_cons_of_mem)))).mono ?_); rw [same_list hAB.out]; rintro e w' ⟨rfl, hb⟩; replace HS := Lib.hid (HS.out.step hb); clear hb; obtain ⟨q0, q1, q2, q3, q4, q5, q6⟩ := K.out _ HS.out.low))
           go_ret
           exact ⟨rfl, bw.trans (HS.out.low.mono (Nat.le_of_lt s1))⟩)

set_option maxRecDepth 100000 in
set_option maxHeartbeats 4000000 in
theorem tableTwice_0 (a : Option Addr) (n cp : Nat) (l : List Sp) (c s k : Int) (a2 : Option Addr) (n2 cp2 : Nat) (ps : List Sp) (lo hi old : Int) (a3 : Option Addr) (n3 cp3 : Nat) (on : List Sp) (w : World) (hL : Arg w a n cp l) (hP : Arg w a2 n2 cp2 ps) (hO : Arg w a3 n3 cp3 on) (hk : k ≠ 4) :
    Calls Try.prog 7 #[.slice a n cp, .agg #[.int .i64 c, .int .i64 s, .int .i64 k, .slice a2 n2 cp2, .int .i64 lo, .int .i64 hi, .int .i64 old], .slice a3 n3 cp3] w (TruePost w) := by
  obtain ⟨W1, hW1⟩ : ∃ W1, (w.alloc (.cells #[.int .i64 c, .int .i64 s, .int .i64 k, .slice a2 n2 cp2, .int .i64 lo, .int .i64 hi, .int .i64 old] 26)) = W1 := ⟨_, rfl⟩
  have K := Lib.hid (fun W (h : Below W1.heap.size W1 W) => box7 (w := w) (t := 26) (v0 := .int .i64 c) (v1 := .int .i64 s) (v2 := .int .i64 k) (v3 := .slice a2 n2 cp2) (v4 := .int .i64 lo) (v5 := .int .i64 hi) (v6 := .int .i64 old) (w' := W) (by rw [hW1]; exact h))
  have bw : Below w.heap.size w W1 := by rw [← hW1]; exact (Below.refl _ _).alloc (Nat.le_refl _) _
  have s1 : w.heap.size < W1.heap.size := by rw [← hW1]; simp
  replace hk := Lib.hid hk
  have z1 : (n : Int) ≤ 9223372036854775807 := by have := hL.1; have := hL.2.1; omega
  have z2 : (n2 : Int) ≤ 9223372036854775807 := by have := hP.1; have := hP.2.1; omega
  have z3 : (n3 : Int) ≤ 9223372036854775807 := by have := hO.1; have := hO.2.1; omega
  have HS := Lib.hid ((((Env.mk (L := []) (Below.refl W1.heap.size W1) (by simp)).add (hO.below bw)).add (hP.below bw)).add (hL.below bw))
  obtain ⟨q0, q1, q2, q3, q4, q5, q6⟩ := K.out _ HS.out.low
  have F1 := Lib.hid (fun W => few5_any a n cp c s k a2 n2 cp2 lo hi old a3 n3 cp3 W z1 z2 z3)
  have mixed : Try.prog.follows .mixedOrders = true := by kernel_rfl
  cases hf : fewB n n2 n3
  · rw [hf] at F1
    clear hL hP hO hf
    go_enter Try.func7, Try.ntmps7
    go_wp2_with (first | (go_at_call 15; (with_reducible refine (F1.out _).mono ?_); rintro e w' ⟨rfl, hb⟩; replace HS := Lib.hid (HS.out.step hb); clear hb; obtain ⟨q0, q1, q2, q3, q4, q5, q6⟩ := K.out _ HS.out.low) | (go_at_call 18; (with_reducible refine (awake5_any _).mono ?_); rintro e w' ⟨rfl, hb⟩; replace HS := Lib.hid (HS.out.step hb); clear hb; obtain ⟨q0, q1, q2, q3, q4, q5, q6⟩ := K.out _ HS.out.low))
    go_ret
    exact ⟨rfl, bw.trans (HS.out.low.mono (Nat.le_of_lt s1))⟩
  · rw [hf] at F1
    obtain ⟨zl, zp, zo⟩ := few_len5 hf hL.1 hP.1 hO.1
    obtain ⟨t1, ht1⟩ : ∃ f, tblB l = f := ⟨_, rfl⟩
    obtain ⟨m1, hm1⟩ : ∃ f, chkM c s k ps lo hi old = f := ⟨_, rfl⟩
    obtain ⟨o1, ho1⟩ : ∃ f, chkB on = f := ⟨_, rfl⟩
    have T1 := Lib.hid (fun W h => ht1 ▸ tcheck_any a n cp l W h)
    have M1 := Lib.hid (fun W h => hm1 ▸ mcheck_any c s k a2 n2 cp2 ps lo hi old W h)
    have O1 := Lib.hid (fun a n c W h => ho1 ▸ rcheck_any a n c on W h)
    have hcase : t1 = false ∨ (t1 = true ∧ m1 = false) ∨ (t1 = true ∧ m1 = true ∧ o1 = false) ∨ (t1 = true ∧ m1 = true ∧ o1 = true) := by
      cases t1 <;> cases m1 <;> cases o1 <;> simp
    rcases hcase with rfl | ⟨rfl, rfl⟩ | ⟨rfl, rfl, rfl⟩ | ⟨rfl, rfl, rfl⟩
    case' inr.inr.inr =>
      obtain ⟨A, x, eA⟩ : ∃ A p, applyP l c s k ps lo hi old on = (A, p) := ⟨_, _, rfl⟩
      obtain ⟨B, y, eB⟩ : ∃ A' p', applyP A c s k ps lo hi old on = (A', p') := ⟨_, _, rfl⟩
      obtain ⟨tA, h12, h4⟩ := ttwice_math ht1 hm1 ho1 eA
      rw [eB] at h12 h4
      have zA : A.length ≤ 100000 := by have := tbl_le tA; omega
      have A1 := Lib.hid (fun W h1 h2 h3 => eA ▸ apply_any a n cp l c s k a2 n2 cp2 ps lo hi old a3 n3 cp3 on W h1 h2 h3)
      have A2 := Lib.hid (fun aX nX cX W h1 h2 h3 => eB ▸ apply_any aX nX cX A c s k a2 n2 cp2 ps lo hi old a3 n3 cp3 on W h1 h2 h3)
      obtain ⟨p0, hp0⟩ : ∃ p, ps.getD 0 (0, 0) = p := ⟨_, rfl⟩
      obtain ⟨hh, hhh⟩ : ∃ f, hasB on p0.1 = f := ⟨_, rfl⟩
      have d4 : (k == 4) = false := by simpa using hk.out
      have hcon : ((k == 1) = true ∧ x = true ∧ y = true ∧ Hid (A = B)) ∨ ((k == 1) = false ∧ (k == 2) = true ∧ x = true ∧ y = true ∧ Hid (A = B)) ∨ ((k == 1) = false ∧ (k == 2) = false) := by
        by_cases k1 : k = 1
        · obtain ⟨i, j⟩ := h12 (.inl k1)
          cases j
          exact .inl ⟨by simpa using k1, i, rfl, Lib.hid rfl⟩
        · have e1 : (k == 1) = false := by simpa using k1
          by_cases k2 : k = 2
          · obtain ⟨i, j⟩ := h12 (.inr k2)
            cases j
            exact .inr (.inl ⟨e1, by simpa using k2, i, rfl, Lib.hid rfl⟩)
          · exact .inr (.inr ⟨e1, by simpa using k2⟩)
      have CH := Lib.hid (fun W h => hhh ▸ has_arg on p0.1 a3 n3 cp3 W h)
      replace eA := Lib.hid eA
      replace eB := Lib.hid eB
      replace hhh := Lib.hid hhh
      replace hp0 := Lib.hid hp0
      clear h12 h4 tA
      rcases hcon with ⟨d1, rfl, rfl, hAB⟩ | ⟨d1, d2, rfl, rfl, hAB⟩ | ⟨d1, d2⟩
    all_goals
      replace ht1 := Lib.hid ht1
      replace hm1 := Lib.hid hm1
      replace ho1 := Lib.hid ho1
      clear hf hL hP hO
      go_enter Try.func7, Try.ntmps7
      go_wp2_with (first | (go_at_call 15; (with_reducible refine (F1.out _).mono ?_); rintro e w' ⟨rfl, hb⟩; replace HS := Lib.hid (HS.out.step hb); clear hb; obtain ⟨q0, q1, q2, q3, q4, q5, q6⟩ := K.out _ HS.out.low) | (go_at_call 16; (with_reducible refine (T1.out _ (HS.out.get (by repeat (first | exact List.mem_cons_self | apply List.mem_cons_of_mem)))).mono ?_); rintro e w' ⟨rfl, hb⟩; replace HS := Lib.hid (HS.out.step hb); clear hb; obtain ⟨q0, q1, q2, q3, q4, q5, q6⟩ := K.out _ HS.out.low) | (go_at_call 17; (with_reducible refine (M1.out _ (HS.out.get (by repeat (first | exact List.mem_cons_self | apply List.mem_cons_of_mem)))).mono ?_); rintro e w' ⟨rfl, hb⟩; replace HS := Lib.hid (HS.out.step hb); clear hb; obtain ⟨q0, q1, q2, q3, q4, q5, q6⟩ := K.out _ HS.out.low) | (go_at_call 29; (with_reducible refine (refs_any a3 n3 cp3 on _ zo (HS.out.get (by repeat (first | exact List.mem_cons_self | apply List.mem_cons_of_mem)))).mono ?_); rintro e w' ⟨ar, nr, cr, rfl, hr, hb⟩; replace HS := Lib.hid ((HS.out.step hb).add hr); clear hb hr; obtain ⟨q0, q1, q2, q3, q4, q5, q6⟩ := K.out _ HS.out.low) | (go_at_call 28; (with_reducible refine (O1.out ar nr cr _ (HS.out.get (by repeat (first | exact List.mem_cons_self | apply List.mem_cons_of_mem)))).mono ?_); rintro e w' ⟨rfl, hb⟩; replace HS := Lib.hid (HS.out.step hb); clear hb; obtain ⟨q0, q1, q2, q3, q4, q5, q6⟩ := K.out _ HS.out.low) | (go_at_call 18; (with_reducible refine (awake5_any _).mono ?_); rintro e w' ⟨rfl, hb⟩; replace HS := Lib.hid (HS.out.step hb); clear hb; obtain ⟨q0, q1, q2, q3, q4, q5, q6⟩ := K.out _ HS.out.low) | (go_at_call 19; (with_reducible refine (A1.out _ (HS.out.get (by repeat (first | exact List.mem_cons_self | apply List.mem_cons_of_mem))) (HS.out.get (by repeat (first | exact List.mem_cons_self | apply List.mem_cons_of_mem))) (HS.out.get (by repeat (first | exact List.mem_cons_self | apply List.mem_cons_of_mem)))).mono ?_); rintro e w' ⟨vw1, rfl, ow1, hb⟩; obtain ⟨aw1, nw1, cw1, rfl, hw1⟩ := ow1.ready; dsimp only at hw1; replace HS := Lib.hid ((HS.out.step hb).add hw1); clear hb hw1 ow1; obtain ⟨q0, q1, q2, q3, q4, q5, q6⟩ := K.out _ HS.out.low) | (go_at_call 19; (with_reducible refine (A2.out aw1 nw1 cw1 _ (HS.out.get (by repeat (first | exact List.mem_cons_self | apply List.mem_cons_of_mem))) (HS.out.get (by repeat (first | exact List.mem_cons_self | apply List.mem_cons_of_mem))) (HS.out.get (by repeat (first | exact List.mem_cons_self | apply List.mem_cons_of_mem)))).mono ?_); rintro e w' ⟨vw2, rfl, ow2, hb⟩; obtain ⟨aw2, nw2, cw2, rfl, hw2⟩ := ow2.ready; dsimp only at hw2; replace HS := Lib.hid ((HS.out.step hb).add hw2); clear hb hw2 ow2; obtain ⟨q0, q1, q2, q3, q4, q5, q6⟩ := K.out _ HS.out.low) | (go_at_call 23; (with_reducible refine (refs5_any aw1 nw1 cw1 A _ zA (HS.out.get (by repeat (first | exact List.mem_cons_self | apply List.mem_cons_of_mem)))).mono ?_); rintro e w' ⟨au1, nu1, cu1, rfl, hu1, hb⟩; replace HS := Lib.hid ((HS.out.step hb).add hu1); clear hb hu1; obtain ⟨q0, q1, q2, q3, q4, q5, q6⟩ := K.out _ HS.out.low) | (go_at_call 23; (with_reducible refine (refs5_any aw2 nw2 cw2 B _ (hAB.out ▸ zA) (HS.out.get (by repeat (first | exact List.mem_cons_self | apply List.mem_cons_of_mem)))).mono ?_); rintro e w' ⟨au2, nu2, cu2, rfl, hu2, hb⟩; replace HS := Lib.hid ((HS.out.step hb).add hu2); clear hb hu2; obtain ⟨q0, q1, q2, q3, q4, q5, q6⟩ := K.out _ HS.out.low) | (go_at_call 22; (with_reducible refine (same5_any au1 au2 nu1 nu2 cu1 cu2 A B _ (HS.out.get (by repeat (first | exact List.mem_cons_self | apply List.mem_cons_of_mem))) (HS.out.get (by repeat (first | exact List.mem_cons_self | apply List.mem_cons_of_mem)))).mono ?_); rw [same_list hAB.out]; rintro e w' ⟨rfl, hb⟩; replace HS := Lib.hid (HS.out.step hb); clear hb; obtain ⟨q0, q1, q2, q3, q4, q5, q6⟩ := K.out _ HS.out.low))
      first
        | (go_ret; exact ⟨rfl, bw.trans (HS.out.low.mono (Nat.le_of_lt s1))⟩)
        | (have HE := HS.out
           have K0 : ∀ p : EnvW W1 [(aw2, nw2, cw2, B), (aw1, nw1, cw1, A), (ar, nr, cr, on), (a, n, cp, l), (a2, n2, cp2, ps), (a3, n3, cp3, on)], p.W.cell? ⟨w.heap.size, 2, none⟩ = some (.int .i64 k) := fun p => (K.out _ p.h.low).2.2.1
           have K2 : ∀ p : EnvW W1 [(aw2, nw2, cw2, B), (aw1, nw1, cw1, A), (ar, nr, cr, on), (a, n, cp, l), (a2, n2, cp2, ps), (a3, n3, cp3, on)], p.W.cell? ⟨w.heap.size, 5, none⟩ = some (.int .i64 hi) := fun p => (K.out _ p.h.low).2.2.2.2.2.1
           have K3 : ∀ p : EnvW W1 [(aw2, nw2, cw2, B), (aw1, nw1, cw1, A), (ar, nr, cr, on), (a, n, cp, l), (a2, n2, cp2, ps), (a3, n3, cp3, on)], p.W.cell? ⟨w.heap.size, 6, none⟩ = some (.int .i64 old) := fun p => (K.out _ p.h.low).2.2.2.2.2.2
           have hne : Nonempty (EnvW W1 [(aw2, nw2, cw2, B), (aw1, nw1, cw1, A), (ar, nr, cr, on), (a, n, cp, l), (a2, n2, cp2, ps), (a3, n3, cp3, on)]) := ⟨⟨_, HE⟩⟩
           have K1 : ∀ p : EnvW W1 [(aw2, nw2, cw2, B), (aw1, nw1, cw1, A), (ar, nr, cr, on), (a, n, cp, l), (a2, n2, cp2, ps), (a3, n3, cp3, on)], p.W.cell? ⟨w.heap.size, 3, none⟩ = some (.slice a2 n2 cp2) := fun p => (K.out _ p.h.low).2.2.2.1
           refine wp_region_quiet_env HE mixed (by kernel_rfl) ?_
           clear HE
           repeat (first | go_big_quiet_step ((go_at_call 32; with_reducible exact env_of _ (CH.out _ ((EnvW.h _).get (by repeat (first | exact List.mem_cons_self | apply List.mem_cons_of_mem)))))) | quiet_step ((go_at_call 32; with_reducible exact env_of _ (CH.out _ ((EnvW.h _).get (by repeat (first | exact List.mem_cons_self | apply List.mem_cons_of_mem)))))))
           refine wpQuiet_nil ?_
           intro _ hw'
           obtain ⟨⟨W9, hE9⟩, hw''⟩ := hw'
           subst hw''
           replace HS := Lib.hid hE9
           go_wp2_with (first | (go_at_call 15; (with_reducible refine (F1.out _).mono ?_); rintro e w' ⟨rfl, hb⟩; replace HS := Lib.hid (HS.out.step hb); clear hb; obtain ⟨q0, q1, q2, q3, q4, q5, q6⟩ := K.out _ HS.out.low) | (go_at_call 16; (with_reducible refine (T1.out _ (HS.out.get (by repeat (first | exact List.mem_cons_self | apply List.mem_cons_of_mem)))).mono ?_); rintro e w' ⟨rfl, hb⟩; replace HS := Lib.hid (HS.out.step hb); clear hb; obtain ⟨q0, q1, q2, q3, q4, q5, q6⟩ := K.out _ HS.out.low) | (go_at_call 17; (with_reducible refine (M1.out _ (HS.out.get (by repeat (first | exact List.mem_cons_self | apply List.mem_cons_of_mem)))).mono ?_); rintro e w' ⟨rfl, hb⟩; replace HS := Lib.hid (HS.out.step hb); clear hb; obtain ⟨q0, q1, q2, q3, q4, q5, q6⟩ := K.out _ HS.out.low) | (go_at_call 29; (with_reducible refine (refs_any a3 n3 cp3 on _ zo (HS.out.get (by repeat (first | exact List.mem_cons_self | apply List.mem_cons_of_mem)))).mono ?_); rintro e w' ⟨ar, nr, cr, rfl, hr, hb⟩; replace HS := Lib.hid ((HS.out.step hb).add hr); clear hb hr; obtain ⟨q0, q1, q2, q3, q4, q5, q6⟩ := K.out _ HS.out.low) | (go_at_call 28; (with_reducible refine (O1.out ar nr cr _ (HS.out.get (by repeat (first | exact List.mem_cons_self | apply List.mem_cons_of_mem)))).mono ?_); rintro e w' ⟨rfl, hb⟩; replace HS := Lib.hid (HS.out.step hb); clear hb; obtain ⟨q0, q1, q2, q3, q4, q5, q6⟩ := K.out _ HS.out.low) | (go_at_call 18; (with_reducible refine (awake5_any _).mono ?_); rintro e w' ⟨rfl, hb⟩; replace HS := Lib.hid (HS.out.step hb); clear hb; obtain ⟨q0, q1, q2, q3, q4, q5, q6⟩ := K.out _ HS.out.low) | (go_at_call 19; (with_reducible refine (A1.out _ (HS.out.get (by repeat (first | exact List.mem_cons_self | apply List.mem_cons_of_mem))) (HS.out.get (by repeat (first | exact List.mem_cons_self | apply List.mem_cons_of_mem))) (HS.out.get (by repeat (first | exact List.mem_cons_self | apply List.mem_cons_of_mem)))).mono ?_); rintro e w' ⟨vw1, rfl, ow1, hb⟩; obtain ⟨aw1, nw1, cw1, rfl, hw1⟩ := ow1.ready; dsimp only at hw1; replace HS := Lib.hid ((HS.out.step hb).add hw1); clear hb hw1 ow1; obtain ⟨q0, q1, q2, q3, q4, q5, q6⟩ := K.out _ HS.out.low) | (go_at_call 19; (with_reducible refine (A2.out aw1 nw1 cw1 _ (HS.out.get (by repeat (first | exact List.mem_cons_self | apply List.mem_cons_of_mem))) (HS.out.get (by repeat (first | exact List.mem_cons_self | apply List.mem_cons_of_mem))) (HS.out.get (by repeat (first | exact List.mem_cons_self | apply List.mem_cons_of_mem)))).mono ?_); rintro e w' ⟨vw2, rfl, ow2, hb⟩; obtain ⟨aw2, nw2, cw2, rfl, hw2⟩ := ow2.ready; dsimp only at hw2; replace HS := Lib.hid ((HS.out.step hb).add hw2); clear hb hw2 ow2; obtain ⟨q0, q1, q2, q3, q4, q5, q6⟩ := K.out _ HS.out.low) | (go_at_call 23; (with_reducible refine (refs5_any aw1 nw1 cw1 A _ zA (HS.out.get (by repeat (first | exact List.mem_cons_self | apply List.mem_cons_of_mem)))).mono ?_); rintro e w' ⟨au1, nu1, cu1, rfl, hu1, hb⟩; replace HS := Lib.hid ((HS.out.step hb).add hu1); clear hb hu1; obtain ⟨q0, q1, q2, q3, q4, q5, q6⟩ := K.out _ HS.out.low) | (go_at_call 23; (with_reducible refine (refs5_any aw2 nw2 cw2 B _ (hAB.out ▸ zA) (HS.out.get (by repeat (first | exact List.mem_cons_self | apply List.mem_cons_of_mem)))).mono ?_); rintro e w' ⟨au2, nu2, cu2, rfl, hu2, hb⟩; replace HS := Lib.hid ((HS.out.step hb).add hu2); clear hb hu2; obtain ⟨q0, q1, q2, q3, q4, q5, q6⟩ := K.out _ HS.out.low) | (go_at_call 22; (with_reducible refine (same5_any au1 au2 nu1 nu2 cu1 cu2 A B _ (HS.out.get (by repeat (first | exact List.mem_cons_self | apply List.mem_cons_of_mem))) (HS.out.get (by repeat (first | exact List.mem_cons_self | apply List.mem_cons_of_mem)))).mono ?_); rw [same_list hAB.out]; rintro e w' ⟨rfl, hb⟩; replace HS := Lib.hid (HS.out.step hb); clear hb; obtain ⟨q0, q1, q2, q3, q4, q5, q6⟩ := K.out _ HS.out.low))
           go_ret
           exact ⟨rfl, bw.trans (HS.out.low.mono (Nat.le_of_lt s1))⟩)

theorem tableTwice_walk (a : Option Addr) (n cp : Nat) (l : List Sp) (c s k : Int) (a2 : Option Addr) (n2 cp2 : Nat) (ps : List Sp) (lo hi old : Int) (a3 : Option Addr) (n3 cp3 : Nat) (on : List Sp) (w : World) (hL : Arg w a n cp l) (hP : Arg w a2 n2 cp2 ps) (hO : Arg w a3 n3 cp3 on) :
    Calls Try.prog 7 #[.slice a n cp, .agg #[.int .i64 c, .int .i64 s, .int .i64 k, .slice a2 n2 cp2, .int .i64 lo, .int .i64 hi, .int .i64 old], .slice a3 n3 cp3] w (TruePost w) := by
  by_cases hk : k = 4
  · exact tableTwice_4 a n cp l c s k a2 n2 cp2 ps lo hi old a3 n3 cp3 on w hL hP hO hk
  · exact tableTwice_0 a n cp l c s k a2 n2 cp2 ps lo hi old a3 n3 cp3 on w hL hP hO hk
end Go.Proofs.Ytfnjadiibiedgab
