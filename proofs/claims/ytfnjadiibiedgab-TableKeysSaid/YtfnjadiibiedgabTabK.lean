/-
  THE WALK of TableKeys.
-/
import Derived.Test.YtfnjadiibiedgabTabJ
namespace Go.Proofs.Ytfnjadiibiedgab
open Go.RowKit Go.Shelf Go.ChangeShapes Go.WideShapes Go.Deep

set_option maxRecDepth 100000 in
/-- Two tables by value that came in. -/
theorem twoVal_of {H : Type} {enc : TypeId × Value → H} {w : World} {r : Reach} {b0 base : Nat} {spare : Nat → Bool} {held : Bool} {v : Value} {d : DataW H} {p : List MemPlace}
    (hv : Value.okWide Try.prog w r b0 44 v) (h : DataW.Trod enc Try.prog w base spare held 44 v d p) :
    ∃ (a : Option Addr) (n c : Nat) (l : List Sp) (a' : Option Addr) (n' c' : Nat) (l' : List Sp), (Arg w a n c l ∧ Arg w a' n' c' l') ∧ v = .agg #[.slice a n c, .slice a' n' c'] := by
  obtain ⟨v0, v1, y0, y1, n, rfl, _, _, r1, r2⟩ := Go.Joins.open_agg2 Try.underlying44 (by kernel_rfl) (by kernel_rfl) hv h
  obtain ⟨a, n1, c, l, e1, h1⟩ := argP_of Try.underlying22 Try.underlying60 (by kernel_rfl) rfl rfl rfl rfl (by kernel_rfl) r1
  obtain ⟨a', n2, c', l', e2, h2⟩ := argP_of Try.underlying22 Try.underlying60 (by kernel_rfl) rfl rfl rfl rfl (by kernel_rfl) r2
  subst e1
  subst e2
  exact ⟨a, n1, c, l, a', n2, c', l', ⟨h1, h2⟩, rfl⟩

theorem cell_eq {g h : Option Int} {v : Int} {s : Bool} (a : cellOut g = .tuple #[.int .i64 v, .bool s]) (b : cellOut h = .tuple #[.int .i64 v, .bool s]) : g = h := by
  rw [← b] at a
  unfold cellOut at a
  cases g <;> cases h <;> simp at a ⊢
  exact a
set_option maxRecDepth 100000 in
set_option maxHeartbeats 4000000 in
theorem tableKeys_walk (a : Option Addr) (n cp : Nat) (A : List Sp) (a' : Option Addr) (n' cp' : Nat) (B : List Sp) (c s k : Int) (a2 : Option Addr) (n2 cp2 : Nat) (ps : List Sp) (lo hi old key : Int) (w : World) (hAB : Arg w a n cp A ∧ Arg w a' n' cp' B) (hP : Arg w a2 n2 cp2 ps) (_hkey : (Lit.int .i64 key).wf = true) :
    Calls Try.prog 4 #[.agg #[.slice a n cp, .slice a' n' cp'], .agg #[.int .i64 c, .int .i64 s, .int .i64 k, .slice a2 n2 cp2, .int .i64 lo, .int .i64 hi, .int .i64 old], .int .i64 key] w (TruePost w) := by
  obtain ⟨hA, hB⟩ := hAB
  obtain ⟨W1, hW1⟩ : ∃ W1, (w.alloc (.cells #[.slice a n cp, .slice a' n' cp'] 44)).alloc (.cells #[.int .i64 c, .int .i64 s, .int .i64 k, .slice a2 n2 cp2, .int .i64 lo, .int .i64 hi, .int .i64 old] 26) = W1 := ⟨_, rfl⟩
  have K := Lib.hid (fun W (h : Below W1.heap.size W1 W) => (show W.cell? ⟨w.heap.size + 1, 0, none⟩ = some (.int .i64 c) ∧ W.cell? ⟨w.heap.size + 1, 1, none⟩ = some (.int .i64 s) ∧ W.cell? ⟨w.heap.size + 1, 2, none⟩ = some (.int .i64 k) ∧ W.cell? ⟨w.heap.size + 1, 3, none⟩ = some (.slice a2 n2 cp2) ∧ W.cell? ⟨w.heap.size + 1, 4, none⟩ = some (.int .i64 lo) ∧ W.cell? ⟨w.heap.size + 1, 5, none⟩ = some (.int .i64 hi) ∧ W.cell? ⟨w.heap.size + 1, 6, none⟩ = some (.int .i64 old) from by
    rw [← hW1] at h
    have h2 := (bx2 h).2
    exact ⟨h2 0, h2 1, h2 2, h2 3, h2 4, h2 5, h2 6⟩))
  have x0 : W1.cell? ⟨w.heap.size, 0, none⟩ = some (.slice a n cp) := by have h := Below.refl W1.heap.size W1; rw [← hW1] at h ⊢; exact (bx2 h).1 0
  have x1 : W1.cell? ⟨w.heap.size, 1, none⟩ = some (.slice a' n' cp') := by have h := Below.refl W1.heap.size W1; rw [← hW1] at h ⊢; exact (bx2 h).1 1
  have bw : Below w.heap.size w W1 := by rw [← hW1]; exact ((Below.refl _ _).alloc (Nat.le_refl _) _).alloc (by simp) _
  have HS := Lib.hid ((((Env.mk (L := []) (Below.refl W1.heap.size W1) (by simp)).add (hP.below bw)).add (hB.below bw)).add (hA.below bw))
  have z1 : (n : Int) ≤ 9223372036854775807 := by have := hA.1; have := hA.2.1; omega
  have z2 : (n' : Int) ≤ 9223372036854775807 := by have := hB.1; have := hB.2.1; omega
  have z3 : (n2 : Int) ≤ 9223372036854775807 := by have := hP.1; have := hP.2.1; omega
  obtain ⟨f1, hf1⟩ : ∃ f, fewB n n2 0 = f := ⟨_, rfl⟩
  obtain ⟨f2, hf2⟩ : ∃ f, fewB n' n2 0 = f := ⟨_, rfl⟩
  obtain ⟨t1, ht1⟩ : ∃ f, tblB A = f := ⟨_, rfl⟩
  obtain ⟨t2, ht2⟩ : ∃ f, tblB B = f := ⟨_, rfl⟩
  obtain ⟨m1, hm1⟩ : ∃ f, chkM c s k ps lo hi old = f := ⟨_, rfl⟩
  have F1 := Lib.hid (fun W => hf1 ▸ few5_any a n cp c s k a2 n2 cp2 lo hi old none 0 0 W z1 z3 (by omega))
  have F2 := Lib.hid (fun W => hf2 ▸ few5_any a' n' cp' c s k a2 n2 cp2 lo hi old none 0 0 W z2 z3 (by omega))
  have T1 := Lib.hid (fun W h => ht1 ▸ tcheck_any a n cp A W h)
  have T2 := Lib.hid (fun W h => ht2 ▸ tcheck_any a' n' cp' B W h)
  have M1 := Lib.hid (fun W h => hm1 ▸ mcheck_any c s k a2 n2 cp2 ps lo hi old W h)
  have hcase : f1 = false ∨ (f1 = true ∧ f2 = false) ∨ (f1 = true ∧ f2 = true ∧ t1 = false) ∨ (f1 = true ∧ f2 = true ∧ t1 = true ∧ t2 = false) ∨ (f1 = true ∧ f2 = true ∧ t1 = true ∧ t2 = true ∧ m1 = false) ∨
      (f1 = true ∧ f2 = true ∧ t1 = true ∧ t2 = true ∧ m1 = true ∧ decide (key < 0) = true) ∨ (f1 = true ∧ f2 = true ∧ t1 = true ∧ t2 = true ∧ m1 = true ∧ decide (key < 0) = false ∧ decide (4096 ≤ key) = true) ∨ (f1 = true ∧ f2 = true ∧ t1 = true ∧ t2 = true ∧ m1 = true ∧ decide (key < 0) = false ∧ decide (4096 ≤ key) = false) := by
    cases f1 <;> cases f2 <;> cases t1 <;> cases t2 <;> cases m1 <;> cases decide (key < 0) <;> cases decide (4096 ≤ key) <;> simp
  replace hf1 := Lib.hid hf1
  replace hf2 := Lib.hid hf2
  replace ht1 := Lib.hid ht1
  replace ht2 := Lib.hid ht2
  replace hm1 := Lib.hid hm1
  clear hA hB hP
  rcases hcase with rfl | ⟨rfl, rfl⟩ | ⟨rfl, rfl, rfl⟩ | ⟨rfl, rfl, rfl, rfl⟩ | ⟨rfl, rfl, rfl, rfl, rfl⟩ | ⟨rfl, rfl, rfl, rfl, rfl, d1⟩ | ⟨rfl, rfl, rfl, rfl, rfl, d1, d2⟩ | ⟨rfl, rfl, rfl, rfl, rfl, d1, d2⟩
  case' inr.inr.inr.inr.inr.inr.inr =>
    have g0 : 0 ≤ key := by have := of_decide_eq_false d1; omega
    have g1 : key < 4096 := by have := of_decide_eq_false d2; omega
    have kw : IntKind.i64.wrap (key + 1) = key + 1 := IntWalk.i64_in _ (by omega)
    obtain ⟨v1, s1, hg1⟩ : ∃ v s, cellOut (getC A key) = .tuple #[.int .i64 v, .bool s] := ⟨_, _, rfl⟩
    obtain ⟨v2, s2, hg2⟩ : ∃ v s, cellOut (getC B key) = .tuple #[.int .i64 v, .bool s] := ⟨_, _, rfl⟩
    obtain ⟨RA, pA, hRA⟩ : ∃ R p, applyP A c s k ps lo hi old [(key, key + 1)] = (R, p) := ⟨_, _, rfl⟩
    obtain ⟨RB, pB, hRB⟩ : ∃ R p, applyP B c s k ps lo hi old [(key, key + 1)] = (R, p) := ⟨_, _, rfl⟩
    obtain ⟨v3, s3, hg3⟩ : ∃ v s, cellOut (getC RA key) = .tuple #[.int .i64 v, .bool s] := ⟨_, _, rfl⟩
    obtain ⟨v4, s4, hg4⟩ : ∃ v s, cellOut (getC RB key) = .tuple #[.int .i64 v, .bool s] := ⟨_, _, rfl⟩
    have hcon : ((v1 != v2) = true) ∨ ((v1 != v2) = false ∧ (s1 == s2) = false) ∨ ((v1 != v2) = false ∧ (s1 == s2) = true ∧ pA = pB ∧ v3 = v4 ∧ s3 = s4) := by
      by_cases q1 : v1 = v2
      · by_cases q2 : s1 = s2
        · refine .inr (.inr ⟨by simp [q1], by simp [q2], ?_⟩)
          have ea : getC A key = getT A key := if_pos ht1.out
          have eb : getC B key = getT B key := if_pos ht2.out
          rw [ea] at hg1
          rw [eb] at hg2
          have hgg : getT A key = getT B key := cell_eq hg1 (by rw [hg2, q1, q2])
          obtain ⟨r1, r2⟩ := tkeys_math (ps := ps) (c := c) (s := s) (k := k) (lo := lo) (hi := hi) (old := old) ht1.out ht2.out hm1.out g0 g1 hgg
          rw [hRA, hRB] at r1 r2
          dsimp only at r1 r2
          rw [r2, hg4] at hg3
          simp at hg3
          exact ⟨r1, hg3.1.symm, hg3.2.symm⟩
        · exact .inr (.inl ⟨by simp [q1], by simpa using q2⟩)
      · exact .inl (by simpa using q1)
    have G1 := Lib.hid (fun W h => hg1 ▸ get_tab a n cp A key W h)
    have G2 := Lib.hid (fun W h => hg2 ▸ get_tab a' n' cp' B key W h)
    have P1 := Lib.hid (fun a3 n3 cp3 W h1 h2 h3 => hRA ▸ apply_any a n cp A c s k a2 n2 cp2 ps lo hi old a3 n3 cp3 [(key, key + 1)] W h1 h2 h3)
    have P2 := Lib.hid (fun a3 n3 cp3 W h1 h2 h3 => hRB ▸ apply_any a' n' cp' B c s k a2 n2 cp2 ps lo hi old a3 n3 cp3 [(key, key + 1)] W h1 h2 h3)
    have G3 := Lib.hid (fun a n c W h => hg3 ▸ get_tab a n c RA key W h)
    have G4 := Lib.hid (fun a n c W h => hg4 ▸ get_tab a n c RB key W h)
    replace hg1 := Lib.hid hg1
    replace hg2 := Lib.hid hg2
    replace hg3 := Lib.hid hg3
    replace hg4 := Lib.hid hg4
    replace hRA := Lib.hid hRA
    replace hRB := Lib.hid hRB
    rcases hcon with e1 | ⟨e1, e2⟩ | ⟨e1, e2, rfl, rfl, rfl⟩
  all_goals
    go_enter Try.func4, Try.ntmps4
    go_wp2_with fail
    go_quiet (fail)
    generalize hW2 : W1.drewN _ = W2
    replace HS := Lib.hid (HS.out.step (W' := W2) (by rw [← hW2]; exact below_drewN (Below.refl W1.heap.size W1) _))
    replace hW2 := Lib.hid hW2
    obtain ⟨q0, q1, q2, q3, q4, q5, q6⟩ := K.out _ HS.out.low
    clear x0 x1
    replace hW1 := Lib.hid hW1
    go_wp2_with (first | (go_at_call 15; (with_reducible refine (F1.out _).mono ?_); rintro e w' ⟨rfl, hb⟩; replace HS := Lib.hid (HS.out.step hb); clear hb; obtain ⟨q0, q1, q2, q3, q4, q5, q6⟩ := K.out _ HS.out.low) | (go_at_call 15; (with_reducible refine (F2.out _).mono ?_); rintro e w' ⟨rfl, hb⟩; replace HS := Lib.hid (HS.out.step hb); clear hb; obtain ⟨q0, q1, q2, q3, q4, q5, q6⟩ := K.out _ HS.out.low) | (go_at_call 16; (with_reducible refine (T1.out _ (HS.out.get (by repeat (first | exact List.mem_cons_self | apply List.mem_cons_of_mem)))).mono ?_); rintro e w' ⟨rfl, hb⟩; replace HS := Lib.hid (HS.out.step hb); clear hb; obtain ⟨q0, q1, q2, q3, q4, q5, q6⟩ := K.out _ HS.out.low) | (go_at_call 16; (with_reducible refine (T2.out _ (HS.out.get (by repeat (first | exact List.mem_cons_self | apply List.mem_cons_of_mem)))).mono ?_); rintro e w' ⟨rfl, hb⟩; replace HS := Lib.hid (HS.out.step hb); clear hb; obtain ⟨q0, q1, q2, q3, q4, q5, q6⟩ := K.out _ HS.out.low) | (go_at_call 17; (with_reducible refine (M1.out _ (HS.out.get (by repeat (first | exact List.mem_cons_self | apply List.mem_cons_of_mem)))).mono ?_); rintro e w' ⟨rfl, hb⟩; replace HS := Lib.hid (HS.out.step hb); clear hb; obtain ⟨q0, q1, q2, q3, q4, q5, q6⟩ := K.out _ HS.out.low) | (go_at_call 18; (with_reducible refine (awake5_any _).mono ?_); rintro e w' ⟨rfl, hb⟩; replace HS := Lib.hid (HS.out.step hb); clear hb; obtain ⟨q0, q1, q2, q3, q4, q5, q6⟩ := K.out _ HS.out.low) | (go_at_call 24; (with_reducible refine (G1.out _ ((HS.out.step ((Below.refl _ _).alloc (Nat.le_refl _) _)).get (by repeat (first | exact List.mem_cons_self | apply List.mem_cons_of_mem)))).mono ?_); rintro e w' ⟨rfl, hb⟩; replace HS := Lib.hid (((HS.out.step ((Below.refl _ _).alloc (Nat.le_refl _) _)).add (n := 1) (c := 1) (l := [(key, key + 1)]) (arg_new _ 24 [(key, key + 1)] #[.int .i64 key, .int .i64 (key + 1)] rfl (by simp))).step hb); clear hb; obtain ⟨q0, q1, q2, q3, q4, q5, q6⟩ := K.out _ HS.out.low) | (go_at_call 24; (with_reducible refine (G2.out _ (HS.out.get (by repeat (first | exact List.mem_cons_self | apply List.mem_cons_of_mem)))).mono ?_); rintro e w' ⟨rfl, hb⟩; replace HS := Lib.hid (HS.out.step hb); clear hb; obtain ⟨q0, q1, q2, q3, q4, q5, q6⟩ := K.out _ HS.out.low) | (go_at_call 24; (with_reducible refine (G3.out ax nx cx _ (HS.out.get (by repeat (first | exact List.mem_cons_self | apply List.mem_cons_of_mem)))).mono ?_); rintro e w' ⟨rfl, hb⟩; replace HS := Lib.hid (HS.out.step hb); clear hb; obtain ⟨q0, q1, q2, q3, q4, q5, q6⟩ := K.out _ HS.out.low) | (go_at_call 24; (with_reducible refine (G4.out ay ny cy _ (HS.out.get (by repeat (first | exact List.mem_cons_self | apply List.mem_cons_of_mem)))).mono ?_); rintro e w' ⟨rfl, hb⟩; replace HS := Lib.hid (HS.out.step hb); clear hb; obtain ⟨q0, q1, q2, q3, q4, q5, q6⟩ := K.out _ HS.out.low) | (go_at_call 19; (with_reducible refine (P1.out _ _ _ _ (HS.out.get (by repeat (first | exact List.mem_cons_self | apply List.mem_cons_of_mem))) (HS.out.get (by repeat (first | exact List.mem_cons_self | apply List.mem_cons_of_mem))) (HS.out.get (by repeat (first | exact List.mem_cons_self | apply List.mem_cons_of_mem)))).mono ?_); rintro e w' ⟨vx, rfl, ox, hb⟩; obtain ⟨ax, nx, cx, rfl, hx⟩ := ox.ready; dsimp only at hx; replace HS := Lib.hid ((HS.out.step hb).add hx); clear hb hx ox; obtain ⟨q0, q1, q2, q3, q4, q5, q6⟩ := K.out _ HS.out.low) | (go_at_call 19; (with_reducible refine (P2.out _ _ _ _ (HS.out.get (by repeat (first | exact List.mem_cons_self | apply List.mem_cons_of_mem))) (HS.out.get (by repeat (first | exact List.mem_cons_self | apply List.mem_cons_of_mem))) (HS.out.get (by repeat (first | exact List.mem_cons_self | apply List.mem_cons_of_mem)))).mono ?_); rintro e w' ⟨vy, rfl, oy, hb⟩; obtain ⟨ay, ny, cy, rfl, hy⟩ := oy.ready; dsimp only at hy; replace HS := Lib.hid ((HS.out.step hb).add hy); clear hb hy oy; obtain ⟨q0, q1, q2, q3, q4, q5, q6⟩ := K.out _ HS.out.low))
    go_ret
    exact ⟨rfl, bw.trans (HS.out.low.mono bw.size)⟩
end Go.Proofs.Ytfnjadiibiedgab
