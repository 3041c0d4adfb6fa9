/-
  THE WALKS of SpanOrder, SpanSpreads, SpanParts, SpanKeys.
-/
import Derived.Test.YtelgigahjgjjiaaLaw3A
namespace Go.Proofs.Ytelgigahjgjjiaa
open Go.RowKit Go.Shelf

theorem mixP_comm {f : Bool → Bool → Bool} (hf : ∀ x y, f x y = f y x) (A B : List Sp) : mixP f A B = mixP f B A := by
  unfold mixP
  rw [setOf_congr fun k _ _ => hf (hasB A k) (hasB B k)]
  by_cases hc : chkB A = true ∧ chkB B = true
  · rw [if_pos hc, if_pos ⟨hc.2, hc.1⟩]
  · rw [if_neg hc, if_neg fun h => hc ⟨h.2, h.1⟩]
theorem joinP_comm (A B : List Sp) : joinP A B = joinP B A := mixP_comm (fun x y => by cases x <;> cases y <;> rfl) A B
theorem meetP_comm (A B : List Sp) : meetP A B = meetP B A := mixP_comm (fun x y => by cases x <;> cases y <;> rfl) A B
theorem has_out {l : List Sp} {k : Int} (h : ¬ (0 ≤ k ∧ k < 4096)) : hasB l k = false := by
  cases hb : hasB l k
  · rfl
  · exact absurd (hasB_range hb) h
theorem mixP_has {f : Bool → Bool → Bool} (hf : f false false = false) {A B l : List Sp} (h : mixP f A B = (l, 0)) (k : Int) : hasB l k = f (hasB A k) (hasB B k) := by
  have h' := mixP_ok (f := f) (A := A) (B := B) (by rw [h])
  rw [h] at h'
  rw [show l = _ from h'.2.2.1, setOf_has]
  by_cases hk : 0 ≤ k ∧ k < 4096
  · rw [decide_eq_true hk, Bool.true_and]
  · rw [decide_eq_false hk, Bool.false_and, has_out hk, has_out hk, hf]
theorem mixP_chk {f : Bool → Bool → Bool} {A B l : List Sp} (h : mixP f A B = (l, 0)) : chkB A = true ∧ chkB B = true ∧ chkB l = true := by
  have h' := mixP_ok (f := f) (A := A) (B := B) (by rw [h])
  rw [h] at h'
  exact ⟨h'.1, h'.2.1, h'.2.2.2⟩
theorem chk_ext {l m : List Sp} (hl : chkB l = true) (hm : chkB m = true) (h : ∀ k, hasB l k = hasB m k) : l = m := can_ext l m _ _ (chkB_can hl).1 (chkB_can hm).1 h
theorem mixP_of {f : Bool → Bool → Bool} {A B l : List Sp} (hA : chkB A = true) (hB : chkB B = true) (hl : chkB l = true) (h : ∀ k, hasB l k = f (hasB A k) (hasB B k)) : mixP f A B = (l, 0) := by
  rw [mixP_yes f hA hB, ← setOf_eq (chkB_can hl).1 fun k _ _ => h k]
  exact limP_yes (chkB_can hl).2
theorem joinP_has {A B l : List Sp} (h : joinP A B = (l, 0)) (k : Int) : hasB l k = (hasB A k || hasB B k) := mixP_has (f := fun x y => x || y) rfl h k
theorem meetP_has {A B l : List Sp} (h : meetP A B = (l, 0)) (k : Int) : hasB l k = (hasB A k && hasB B k) := mixP_has (f := fun x y => x && y) rfl h k
theorem lessP_has {A B l : List Sp} (h : lessP A B = (l, 0)) (k : Int) : hasB l k = (hasB A k && !hasB B k) := mixP_has (f := fun x y => x && !y) rfl h k
theorem joinP_chk {A B l : List Sp} (h : joinP A B = (l, 0)) : chkB A = true ∧ chkB B = true ∧ chkB l = true := mixP_chk h
theorem meetP_chk {A B l : List Sp} (h : meetP A B = (l, 0)) : chkB A = true ∧ chkB B = true ∧ chkB l = true := mixP_chk h
theorem lessP_chk {A B l : List Sp} (h : lessP A B = (l, 0)) : chkB A = true ∧ chkB B = true ∧ chkB l = true := mixP_chk h
theorem joinP_len {A B l : List Sp} {e : Int} (h : joinP A B = (l, e)) : l.length ≤ 100000 := by have := mixP_len (fun x y => x || y) A B; rw [show mixP (fun x y => x || y) A B = (l, e) from h] at this; dsimp only at this; omega
theorem meetP_len {A B l : List Sp} {e : Int} (h : meetP A B = (l, e)) : l.length ≤ 100000 := by have := mixP_len (fun x y => x && y) A B; rw [show mixP (fun x y => x && y) A B = (l, e) from h] at this; dsimp only at this; omega
theorem few_len {w : World} {a : Option Addr} {n c : Nat} {l : List Sp} (h : Arg w a n c l) (hn : n ≤ 200) : l.length ≤ 100000 := by have := h.1; omega

theorem order_math {A B C AB ABC BC X : List Sp} (h1 : joinP A B = (AB, 0)) (h2 : joinP AB C = (ABC, 0)) (h3 : joinP B C = (BC, 0)) (h4 : joinP A BC = (X, 0)) : ABC = X :=
  (chk_ext (joinP_chk h2).2.2 (joinP_chk h4).2.2 fun k => by rw [joinP_has h2, joinP_has h1, joinP_has h4, joinP_has h3, Bool.or_assoc])
theorem spreads_math {A B C BC X AB AC Y : List Sp} (h1 : joinP B C = (BC, 0)) (h2 : meetP A BC = (X, 0)) (h3 : meetP A B = (AB, 0)) (h4 : meetP A C = (AC, 0)) (h5 : joinP AB AC = (Y, 0)) : X = Y :=
  (chk_ext (meetP_chk h2).2.2 (joinP_chk h5).2.2 fun k => by rw [meetP_has h2, joinP_has h1, joinP_has h5, meetP_has h3, meetP_has h4, Bool.and_or_distrib_left])
theorem within_of {A B : List Sp} (h : meetP A B = (A, 0)) : withinB A B = true := by
  unfold withinB; rw [h, decide_eq_true rfl, decide_eq_true rfl]; rfl
theorem parts_math {A B M L : List Sp} (h1 : meetP A B = (M, 0)) (h2 : lessP A B = (L, 0)) :
    joinP M L = (A, 0) ∧ touchB M L = false ∧ cntB M + cntB L = cntB A ∧ withinB M B = true ∧ withinB M A = true := by
  obtain ⟨cA, cB, cM⟩ := meetP_chk h1
  obtain ⟨_, _, cL⟩ := lessP_chk h2
  have kM := meetP_has h1
  have kL := lessP_has h2
  refine ⟨mixP_of cM cL cA fun k => ?_, ?_, ?_, within_of (mixP_of cM cB cM fun k => ?_), within_of (mixP_of cM cA cM fun k => ?_)⟩
  · rw [kM, kL]; cases hasB A k <;> cases hasB B k <;> rfl
  · unfold touchB
    rw [meets_no fun k => ?_, Bool.and_false]
    rw [kM, kL]; cases hasB A k <;> cases hasB B k <;> rfl
  · rw [cntB_chk cM, cntB_chk cL, cntB_chk cA]
    have h0 : cntN (fun _ => false) 4096 = 0 := by
      have : ∀ n, cntN (fun _ => false) n = 0 := fun n => by
        induction n with
        | zero => rfl
        | succ n ih => show cntN _ n + _ = 0; rw [ih]; rfl
      exact this 4096
    have := cntN_add (p := hasB M) (q := hasB L) (r := hasB A) (s := fun _ => false) 4096 fun k _ => by
      rw [kM, kL]; cases hasB A k <;> cases hasB B k <;> rfl
    rw [h0, Int.add_zero] at this
    exact this
  · rw [kM]; cases hasB A k <;> cases hasB B k <;> rfl
  · rw [kM]; cases hasB A k <;> cases hasB B k <;> rfl
theorem self_meet {A : List Sp} (h : chkB A = true) : meetP A A = (A, 0) := mixP_of h h h fun k => by cases hasB A k <;> rfl
theorem keys_math {A B : List Sp} (hA : chkB A = true) (hB : chkB B = true) : makeP A = (A, 0) ∧ decide (A = B) = (withinB A B && withinB B A) := by
  refine ⟨?_, ?_⟩
  · rw [makeP_yes (by rw [List.all_eq_true]; exact canB_all (chkB_can hA).1), setOf_of_can (chkB_can hA).1]
    exact limP_yes (chkB_can hA).2
  · by_cases h : A = B
    · subst h
      rw [within_of (self_meet hA), decide_eq_true rfl]; rfl
    · rw [decide_eq_false h]
      cases h1 : withinB A B
      · rfl
      · cases h2 : withinB B A
        · rfl
        · exfalso
          unfold withinB at h1 h2
          rw [Bool.and_eq_true, decide_eq_true_eq, decide_eq_true_eq] at h1 h2
          exact h (by rw [← h1.2, meetP_comm, h2.2])

set_option maxRecDepth 100000 in
set_option maxHeartbeats 2000000 in
theorem spanOrder_walk (a0 : Option Addr) (n0 c0 : Nat) (A : List Sp) (a1 : Option Addr) (n1 c1 : Nat) (B : List Sp) (a2 : Option Addr) (n2 c2 : Nat) (C : List Sp) (w : World) (hA : Arg w a0 n0 c0 A) (hB : Arg w a1 n1 c1 B) (hC : Arg w a2 n2 c2 C) :
    Calls Try.prog 9 #[.slice a0 n0 c0, .slice a1 n1 c1, .slice a2 n2 c2] w (TruePost w) := by
  have HS := Lib.hid ((Env.mk (L := []) (Below.refl w.heap.size w) (by simp)).add hC |>.add hB |>.add hA)
  by_cases h0 : n0 ≤ 200
  · by_cases h1 : n1 ≤ 200
    · by_cases h2 : n2 ≤ 200
      · have zA := few_len hA h0
        have zB := few_len hB h1
        have zC := few_len hC h2
        clear hA hB hC
        obtain ⟨⟨AB, e⟩, r1⟩ : ∃ r, joinP A B = r := ⟨_, rfl⟩
        obtain ⟨⟨M, g⟩, r2⟩ : ∃ r, meetP A B = r := ⟨_, rfl⟩
        obtain ⟨⟨ABC, i⟩, r3⟩ : ∃ r, joinP AB C = r := ⟨_, rfl⟩
        obtain ⟨⟨BC, j⟩, r4⟩ : ∃ r, joinP B C = r := ⟨_, rfl⟩
        obtain ⟨⟨X, k⟩, r5⟩ : ∃ r, joinP A BC = r := ⟨_, rfl⟩
        have q1 := joinP_len r1
        have q2 := meetP_len r2
        have q3 := joinP_len r3
        have q5 := joinP_len r5
        have r1' := Lib.hid ((joinP_comm B A).trans r1)
        have r2' := Lib.hid ((meetP_comm B A).trans r2)
        have hmath : e = 0 → i = 0 → j = 0 → k = 0 → ABC = X := fun z1 z2 z3 z4 => by subst z1; subst z2; subst z3; subst z4; exact order_math r1 r3 r4 r5
        replace r1 := Lib.hid r1
        replace r2 := Lib.hid r2
        replace r3 := Lib.hid r3
        replace r4 := Lib.hid r4
        replace r5 := Lib.hid r5
        by_cases ze : e = 0
        · have ye := ze
          by_cases zi : i = 0
          · have yi := zi
            by_cases zj : j = 0
            · have yj := zj
              by_cases zk : k = 0
              · have yk := zk
                have t3 := Lib.hid (hmath ye yi yj yk)
                clear hmath
                clear ye
                clear yi
                clear yj
                clear yk
                subst ze
                subst zi
                subst zj
                subst zk
                go_enter Try.func9, Try.ntmps9
                go_wp2_with (first | (go_at_call 13; (with_reducible refine (few_yes a0 n0 c0 _ h0).mono ?_); rintro e w' ⟨rfl, rfl⟩) | (go_at_call 13; (with_reducible refine (few_yes a1 n1 c1 _ h1).mono ?_); rintro e w' ⟨rfl, rfl⟩) | (go_at_call 13; (with_reducible refine (few_yes a2 n2 c2 _ h2).mono ?_); rintro e w' ⟨rfl, rfl⟩) | (go_at_call 27; (with_reducible refine (join_any A B a0 a1 n0 n1 c0 c1 _ (HS.out.get (by repeat (first | exact List.mem_cons_self | apply List.mem_cons_of_mem))) (HS.out.get (by repeat (first | exact List.mem_cons_self | apply List.mem_cons_of_mem)))).mono ?_); rw [r1.out]; rintro e w' ⟨ap, np, cp, rfl, hx, hb⟩; dsimp only at hx; replace HS := Lib.hid ((HS.out.step hb).add hx)) | (go_at_call 27; (with_reducible refine (join_any B A a1 a0 n1 n0 c1 c0 _ (HS.out.get (by repeat (first | exact List.mem_cons_self | apply List.mem_cons_of_mem))) (HS.out.get (by repeat (first | exact List.mem_cons_self | apply List.mem_cons_of_mem)))).mono ?_); rw [r1'.out]; rintro e w' ⟨aq, nq, cq, rfl, hx, hb⟩; dsimp only at hx; replace HS := Lib.hid ((HS.out.step hb).add hx)) | (go_at_call 29; (with_reducible refine (meet_any A B a0 a1 n0 n1 c0 c1 _ (HS.out.get (by repeat (first | exact List.mem_cons_self | apply List.mem_cons_of_mem))) (HS.out.get (by repeat (first | exact List.mem_cons_self | apply List.mem_cons_of_mem)))).mono ?_); rw [r2.out]; rintro e w' ⟨am, nm, cm, rfl, hx, hb⟩; dsimp only at hx; replace HS := Lib.hid ((HS.out.step hb).add hx)) | (go_at_call 29; (with_reducible refine (meet_any B A a1 a0 n1 n0 c1 c0 _ (HS.out.get (by repeat (first | exact List.mem_cons_self | apply List.mem_cons_of_mem))) (HS.out.get (by repeat (first | exact List.mem_cons_self | apply List.mem_cons_of_mem)))).mono ?_); rw [r2'.out]; rintro e w' ⟨ao, no, co, rfl, hx, hb⟩; dsimp only at hx; replace HS := Lib.hid ((HS.out.step hb).add hx)) | (go_at_call 34; (with_reducible refine (alike_yes ap aq np nq cp cq AB AB _ q1 q1 rfl (HS.out.get (by repeat (first | exact List.mem_cons_self | apply List.mem_cons_of_mem))) (HS.out.get (by repeat (first | exact List.mem_cons_self | apply List.mem_cons_of_mem)))).mono ?_); rintro e w' ⟨rfl, hb⟩; replace HS := Lib.hid (HS.out.step hb)) | (go_at_call 34; (with_reducible refine (alike_yes am ao nm no cm co M M _ q2 q2 rfl (HS.out.get (by repeat (first | exact List.mem_cons_self | apply List.mem_cons_of_mem))) (HS.out.get (by repeat (first | exact List.mem_cons_self | apply List.mem_cons_of_mem)))).mono ?_); rintro e w' ⟨rfl, hb⟩; replace HS := Lib.hid (HS.out.step hb)) | (go_at_call 27; (with_reducible refine (join_any AB C ap a2 np n2 cp c2 _ (HS.out.get (by repeat (first | exact List.mem_cons_self | apply List.mem_cons_of_mem))) (HS.out.get (by repeat (first | exact List.mem_cons_self | apply List.mem_cons_of_mem)))).mono ?_); rw [r3.out]; rintro e w' ⟨ar, nr, cr, rfl, hx, hb⟩; dsimp only at hx; replace HS := Lib.hid ((HS.out.step hb).add hx)) | (go_at_call 27; (with_reducible refine (join_any B C a1 a2 n1 n2 c1 c2 _ (HS.out.get (by repeat (first | exact List.mem_cons_self | apply List.mem_cons_of_mem))) (HS.out.get (by repeat (first | exact List.mem_cons_self | apply List.mem_cons_of_mem)))).mono ?_); rw [r4.out]; rintro e w' ⟨ay, ny, cy, rfl, hx, hb⟩; dsimp only at hx; replace HS := Lib.hid ((HS.out.step hb).add hx)) | (go_at_call 27; (with_reducible refine (join_any A BC a0 ay n0 ny c0 cy _ (HS.out.get (by repeat (first | exact List.mem_cons_self | apply List.mem_cons_of_mem))) (HS.out.get (by repeat (first | exact List.mem_cons_self | apply List.mem_cons_of_mem)))).mono ?_); rw [r5.out]; rintro e w' ⟨az, nz, cz, rfl, hx, hb⟩; dsimp only at hx; replace HS := Lib.hid ((HS.out.step hb).add hx)) | (go_at_call 14; refine (awake_any _).mono ?_; rintro e w' ⟨rfl, hb⟩; replace HS := Lib.hid (HS.out.step hb)) | (go_at_call 34; (with_reducible refine (alike_yes ar az nr nz cr cz ABC X _ q3 q5 t3.out (HS.out.get (by repeat (first | exact List.mem_cons_self | apply List.mem_cons_of_mem))) (HS.out.get (by repeat (first | exact List.mem_cons_self | apply List.mem_cons_of_mem)))).mono ?_); rintro e w' ⟨rfl, hb⟩; replace HS := Lib.hid (HS.out.step hb)))
                go_ret
                exact ⟨rfl, HS.out.low⟩
              · have e1 : (k != 0) = true := by simpa using zk
                clear hmath
                clear ye
                subst ze
                clear yi
                subst zi
                clear yj
                subst zj
                go_enter Try.func9, Try.ntmps9
                go_wp2_with (first | (go_at_call 13; (with_reducible refine (few_yes a0 n0 c0 _ h0).mono ?_); rintro e w' ⟨rfl, rfl⟩) | (go_at_call 13; (with_reducible refine (few_yes a1 n1 c1 _ h1).mono ?_); rintro e w' ⟨rfl, rfl⟩) | (go_at_call 13; (with_reducible refine (few_yes a2 n2 c2 _ h2).mono ?_); rintro e w' ⟨rfl, rfl⟩) | (go_at_call 27; (with_reducible refine (join_any A B a0 a1 n0 n1 c0 c1 _ (HS.out.get (by repeat (first | exact List.mem_cons_self | apply List.mem_cons_of_mem))) (HS.out.get (by repeat (first | exact List.mem_cons_self | apply List.mem_cons_of_mem)))).mono ?_); rw [r1.out]; rintro e w' ⟨ap, np, cp, rfl, hx, hb⟩; dsimp only at hx; replace HS := Lib.hid ((HS.out.step hb).add hx)) | (go_at_call 27; (with_reducible refine (join_any B A a1 a0 n1 n0 c1 c0 _ (HS.out.get (by repeat (first | exact List.mem_cons_self | apply List.mem_cons_of_mem))) (HS.out.get (by repeat (first | exact List.mem_cons_self | apply List.mem_cons_of_mem)))).mono ?_); rw [r1'.out]; rintro e w' ⟨aq, nq, cq, rfl, hx, hb⟩; dsimp only at hx; replace HS := Lib.hid ((HS.out.step hb).add hx)) | (go_at_call 29; (with_reducible refine (meet_any A B a0 a1 n0 n1 c0 c1 _ (HS.out.get (by repeat (first | exact List.mem_cons_self | apply List.mem_cons_of_mem))) (HS.out.get (by repeat (first | exact List.mem_cons_self | apply List.mem_cons_of_mem)))).mono ?_); rw [r2.out]; rintro e w' ⟨am, nm, cm, rfl, hx, hb⟩; dsimp only at hx; replace HS := Lib.hid ((HS.out.step hb).add hx)) | (go_at_call 29; (with_reducible refine (meet_any B A a1 a0 n1 n0 c1 c0 _ (HS.out.get (by repeat (first | exact List.mem_cons_self | apply List.mem_cons_of_mem))) (HS.out.get (by repeat (first | exact List.mem_cons_self | apply List.mem_cons_of_mem)))).mono ?_); rw [r2'.out]; rintro e w' ⟨ao, no, co, rfl, hx, hb⟩; dsimp only at hx; replace HS := Lib.hid ((HS.out.step hb).add hx)) | (go_at_call 34; (with_reducible refine (alike_yes ap aq np nq cp cq AB AB _ q1 q1 rfl (HS.out.get (by repeat (first | exact List.mem_cons_self | apply List.mem_cons_of_mem))) (HS.out.get (by repeat (first | exact List.mem_cons_self | apply List.mem_cons_of_mem)))).mono ?_); rintro e w' ⟨rfl, hb⟩; replace HS := Lib.hid (HS.out.step hb)) | (go_at_call 34; (with_reducible refine (alike_yes am ao nm no cm co M M _ q2 q2 rfl (HS.out.get (by repeat (first | exact List.mem_cons_self | apply List.mem_cons_of_mem))) (HS.out.get (by repeat (first | exact List.mem_cons_self | apply List.mem_cons_of_mem)))).mono ?_); rintro e w' ⟨rfl, hb⟩; replace HS := Lib.hid (HS.out.step hb)) | (go_at_call 27; (with_reducible refine (join_any AB C ap a2 np n2 cp c2 _ (HS.out.get (by repeat (first | exact List.mem_cons_self | apply List.mem_cons_of_mem))) (HS.out.get (by repeat (first | exact List.mem_cons_self | apply List.mem_cons_of_mem)))).mono ?_); rw [r3.out]; rintro e w' ⟨ar, nr, cr, rfl, hx, hb⟩; dsimp only at hx; replace HS := Lib.hid ((HS.out.step hb).add hx)) | (go_at_call 27; (with_reducible refine (join_any B C a1 a2 n1 n2 c1 c2 _ (HS.out.get (by repeat (first | exact List.mem_cons_self | apply List.mem_cons_of_mem))) (HS.out.get (by repeat (first | exact List.mem_cons_self | apply List.mem_cons_of_mem)))).mono ?_); rw [r4.out]; rintro e w' ⟨ay, ny, cy, rfl, hx, hb⟩; dsimp only at hx; replace HS := Lib.hid ((HS.out.step hb).add hx)) | (go_at_call 27; (with_reducible refine (join_any A BC a0 ay n0 ny c0 cy _ (HS.out.get (by repeat (first | exact List.mem_cons_self | apply List.mem_cons_of_mem))) (HS.out.get (by repeat (first | exact List.mem_cons_self | apply List.mem_cons_of_mem)))).mono ?_); rw [r5.out]; rintro e w' ⟨az, nz, cz, rfl, hx, hb⟩; dsimp only at hx; replace HS := Lib.hid ((HS.out.step hb).add hx)) | (go_at_call 14; refine (awake_any _).mono ?_; rintro e w' ⟨rfl, hb⟩; replace HS := Lib.hid (HS.out.step hb)))
                go_ret
                exact ⟨rfl, HS.out.low⟩
            · have e1 : (j != 0) = true := by simpa using zj
              clear hmath
              clear ye
              subst ze
              clear yi
              subst zi
              go_enter Try.func9, Try.ntmps9
              go_wp2_with (first | (go_at_call 13; (with_reducible refine (few_yes a0 n0 c0 _ h0).mono ?_); rintro e w' ⟨rfl, rfl⟩) | (go_at_call 13; (with_reducible refine (few_yes a1 n1 c1 _ h1).mono ?_); rintro e w' ⟨rfl, rfl⟩) | (go_at_call 13; (with_reducible refine (few_yes a2 n2 c2 _ h2).mono ?_); rintro e w' ⟨rfl, rfl⟩) | (go_at_call 27; (with_reducible refine (join_any A B a0 a1 n0 n1 c0 c1 _ (HS.out.get (by repeat (first | exact List.mem_cons_self | apply List.mem_cons_of_mem))) (HS.out.get (by repeat (first | exact List.mem_cons_self | apply List.mem_cons_of_mem)))).mono ?_); rw [r1.out]; rintro e w' ⟨ap, np, cp, rfl, hx, hb⟩; dsimp only at hx; replace HS := Lib.hid ((HS.out.step hb).add hx)) | (go_at_call 27; (with_reducible refine (join_any B A a1 a0 n1 n0 c1 c0 _ (HS.out.get (by repeat (first | exact List.mem_cons_self | apply List.mem_cons_of_mem))) (HS.out.get (by repeat (first | exact List.mem_cons_self | apply List.mem_cons_of_mem)))).mono ?_); rw [r1'.out]; rintro e w' ⟨aq, nq, cq, rfl, hx, hb⟩; dsimp only at hx; replace HS := Lib.hid ((HS.out.step hb).add hx)) | (go_at_call 29; (with_reducible refine (meet_any A B a0 a1 n0 n1 c0 c1 _ (HS.out.get (by repeat (first | exact List.mem_cons_self | apply List.mem_cons_of_mem))) (HS.out.get (by repeat (first | exact List.mem_cons_self | apply List.mem_cons_of_mem)))).mono ?_); rw [r2.out]; rintro e w' ⟨am, nm, cm, rfl, hx, hb⟩; dsimp only at hx; replace HS := Lib.hid ((HS.out.step hb).add hx)) | (go_at_call 29; (with_reducible refine (meet_any B A a1 a0 n1 n0 c1 c0 _ (HS.out.get (by repeat (first | exact List.mem_cons_self | apply List.mem_cons_of_mem))) (HS.out.get (by repeat (first | exact List.mem_cons_self | apply List.mem_cons_of_mem)))).mono ?_); rw [r2'.out]; rintro e w' ⟨ao, no, co, rfl, hx, hb⟩; dsimp only at hx; replace HS := Lib.hid ((HS.out.step hb).add hx)) | (go_at_call 34; (with_reducible refine (alike_yes ap aq np nq cp cq AB AB _ q1 q1 rfl (HS.out.get (by repeat (first | exact List.mem_cons_self | apply List.mem_cons_of_mem))) (HS.out.get (by repeat (first | exact List.mem_cons_self | apply List.mem_cons_of_mem)))).mono ?_); rintro e w' ⟨rfl, hb⟩; replace HS := Lib.hid (HS.out.step hb)) | (go_at_call 34; (with_reducible refine (alike_yes am ao nm no cm co M M _ q2 q2 rfl (HS.out.get (by repeat (first | exact List.mem_cons_self | apply List.mem_cons_of_mem))) (HS.out.get (by repeat (first | exact List.mem_cons_self | apply List.mem_cons_of_mem)))).mono ?_); rintro e w' ⟨rfl, hb⟩; replace HS := Lib.hid (HS.out.step hb)) | (go_at_call 27; (with_reducible refine (join_any AB C ap a2 np n2 cp c2 _ (HS.out.get (by repeat (first | exact List.mem_cons_self | apply List.mem_cons_of_mem))) (HS.out.get (by repeat (first | exact List.mem_cons_self | apply List.mem_cons_of_mem)))).mono ?_); rw [r3.out]; rintro e w' ⟨ar, nr, cr, rfl, hx, hb⟩; dsimp only at hx; replace HS := Lib.hid ((HS.out.step hb).add hx)) | (go_at_call 27; (with_reducible refine (join_any B C a1 a2 n1 n2 c1 c2 _ (HS.out.get (by repeat (first | exact List.mem_cons_self | apply List.mem_cons_of_mem))) (HS.out.get (by repeat (first | exact List.mem_cons_self | apply List.mem_cons_of_mem)))).mono ?_); rw [r4.out]; rintro e w' ⟨ay, ny, cy, rfl, hx, hb⟩; dsimp only at hx; replace HS := Lib.hid ((HS.out.step hb).add hx)) | (go_at_call 27; (with_reducible refine (join_any A BC a0 ay n0 ny c0 cy _ (HS.out.get (by repeat (first | exact List.mem_cons_self | apply List.mem_cons_of_mem))) (HS.out.get (by repeat (first | exact List.mem_cons_self | apply List.mem_cons_of_mem)))).mono ?_); rw [r5.out]; rintro e w' ⟨az, nz, cz, rfl, hx, hb⟩; dsimp only at hx; replace HS := Lib.hid ((HS.out.step hb).add hx)) | (go_at_call 14; refine (awake_any _).mono ?_; rintro e w' ⟨rfl, hb⟩; replace HS := Lib.hid (HS.out.step hb)))
              go_ret
              exact ⟨rfl, HS.out.low⟩
          · have e1 : (i != 0) = true := by simpa using zi
            clear hmath
            clear ye
            subst ze
            go_enter Try.func9, Try.ntmps9
            go_wp2_with (first | (go_at_call 13; (with_reducible refine (few_yes a0 n0 c0 _ h0).mono ?_); rintro e w' ⟨rfl, rfl⟩) | (go_at_call 13; (with_reducible refine (few_yes a1 n1 c1 _ h1).mono ?_); rintro e w' ⟨rfl, rfl⟩) | (go_at_call 13; (with_reducible refine (few_yes a2 n2 c2 _ h2).mono ?_); rintro e w' ⟨rfl, rfl⟩) | (go_at_call 27; (with_reducible refine (join_any A B a0 a1 n0 n1 c0 c1 _ (HS.out.get (by repeat (first | exact List.mem_cons_self | apply List.mem_cons_of_mem))) (HS.out.get (by repeat (first | exact List.mem_cons_self | apply List.mem_cons_of_mem)))).mono ?_); rw [r1.out]; rintro e w' ⟨ap, np, cp, rfl, hx, hb⟩; dsimp only at hx; replace HS := Lib.hid ((HS.out.step hb).add hx)) | (go_at_call 27; (with_reducible refine (join_any B A a1 a0 n1 n0 c1 c0 _ (HS.out.get (by repeat (first | exact List.mem_cons_self | apply List.mem_cons_of_mem))) (HS.out.get (by repeat (first | exact List.mem_cons_self | apply List.mem_cons_of_mem)))).mono ?_); rw [r1'.out]; rintro e w' ⟨aq, nq, cq, rfl, hx, hb⟩; dsimp only at hx; replace HS := Lib.hid ((HS.out.step hb).add hx)) | (go_at_call 29; (with_reducible refine (meet_any A B a0 a1 n0 n1 c0 c1 _ (HS.out.get (by repeat (first | exact List.mem_cons_self | apply List.mem_cons_of_mem))) (HS.out.get (by repeat (first | exact List.mem_cons_self | apply List.mem_cons_of_mem)))).mono ?_); rw [r2.out]; rintro e w' ⟨am, nm, cm, rfl, hx, hb⟩; dsimp only at hx; replace HS := Lib.hid ((HS.out.step hb).add hx)) | (go_at_call 29; (with_reducible refine (meet_any B A a1 a0 n1 n0 c1 c0 _ (HS.out.get (by repeat (first | exact List.mem_cons_self | apply List.mem_cons_of_mem))) (HS.out.get (by repeat (first | exact List.mem_cons_self | apply List.mem_cons_of_mem)))).mono ?_); rw [r2'.out]; rintro e w' ⟨ao, no, co, rfl, hx, hb⟩; dsimp only at hx; replace HS := Lib.hid ((HS.out.step hb).add hx)) | (go_at_call 34; (with_reducible refine (alike_yes ap aq np nq cp cq AB AB _ q1 q1 rfl (HS.out.get (by repeat (first | exact List.mem_cons_self | apply List.mem_cons_of_mem))) (HS.out.get (by repeat (first | exact List.mem_cons_self | apply List.mem_cons_of_mem)))).mono ?_); rintro e w' ⟨rfl, hb⟩; replace HS := Lib.hid (HS.out.step hb)) | (go_at_call 34; (with_reducible refine (alike_yes am ao nm no cm co M M _ q2 q2 rfl (HS.out.get (by repeat (first | exact List.mem_cons_self | apply List.mem_cons_of_mem))) (HS.out.get (by repeat (first | exact List.mem_cons_self | apply List.mem_cons_of_mem)))).mono ?_); rintro e w' ⟨rfl, hb⟩; replace HS := Lib.hid (HS.out.step hb)) | (go_at_call 27; (with_reducible refine (join_any AB C ap a2 np n2 cp c2 _ (HS.out.get (by repeat (first | exact List.mem_cons_self | apply List.mem_cons_of_mem))) (HS.out.get (by repeat (first | exact List.mem_cons_self | apply List.mem_cons_of_mem)))).mono ?_); rw [r3.out]; rintro e w' ⟨ar, nr, cr, rfl, hx, hb⟩; dsimp only at hx; replace HS := Lib.hid ((HS.out.step hb).add hx)) | (go_at_call 27; (with_reducible refine (join_any B C a1 a2 n1 n2 c1 c2 _ (HS.out.get (by repeat (first | exact List.mem_cons_self | apply List.mem_cons_of_mem))) (HS.out.get (by repeat (first | exact List.mem_cons_self | apply List.mem_cons_of_mem)))).mono ?_); rw [r4.out]; rintro e w' ⟨ay, ny, cy, rfl, hx, hb⟩; dsimp only at hx; replace HS := Lib.hid ((HS.out.step hb).add hx)) | (go_at_call 27; (with_reducible refine (join_any A BC a0 ay n0 ny c0 cy _ (HS.out.get (by repeat (first | exact List.mem_cons_self | apply List.mem_cons_of_mem))) (HS.out.get (by repeat (first | exact List.mem_cons_self | apply List.mem_cons_of_mem)))).mono ?_); rw [r5.out]; rintro e w' ⟨az, nz, cz, rfl, hx, hb⟩; dsimp only at hx; replace HS := Lib.hid ((HS.out.step hb).add hx)) | (go_at_call 14; refine (awake_any _).mono ?_; rintro e w' ⟨rfl, hb⟩; replace HS := Lib.hid (HS.out.step hb)))
            go_ret
            exact ⟨rfl, HS.out.low⟩
        · have e1 : (e != 0) = true := by simpa using ze
          clear hmath
          go_enter Try.func9, Try.ntmps9
          go_wp2_with (first | (go_at_call 13; (with_reducible refine (few_yes a0 n0 c0 _ h0).mono ?_); rintro e w' ⟨rfl, rfl⟩) | (go_at_call 13; (with_reducible refine (few_yes a1 n1 c1 _ h1).mono ?_); rintro e w' ⟨rfl, rfl⟩) | (go_at_call 13; (with_reducible refine (few_yes a2 n2 c2 _ h2).mono ?_); rintro e w' ⟨rfl, rfl⟩) | (go_at_call 27; (with_reducible refine (join_any A B a0 a1 n0 n1 c0 c1 _ (HS.out.get (by repeat (first | exact List.mem_cons_self | apply List.mem_cons_of_mem))) (HS.out.get (by repeat (first | exact List.mem_cons_self | apply List.mem_cons_of_mem)))).mono ?_); rw [r1.out]; rintro e w' ⟨ap, np, cp, rfl, hx, hb⟩; dsimp only at hx; replace HS := Lib.hid ((HS.out.step hb).add hx)) | (go_at_call 27; (with_reducible refine (join_any B A a1 a0 n1 n0 c1 c0 _ (HS.out.get (by repeat (first | exact List.mem_cons_self | apply List.mem_cons_of_mem))) (HS.out.get (by repeat (first | exact List.mem_cons_self | apply List.mem_cons_of_mem)))).mono ?_); rw [r1'.out]; rintro e w' ⟨aq, nq, cq, rfl, hx, hb⟩; dsimp only at hx; replace HS := Lib.hid ((HS.out.step hb).add hx)) | (go_at_call 29; (with_reducible refine (meet_any A B a0 a1 n0 n1 c0 c1 _ (HS.out.get (by repeat (first | exact List.mem_cons_self | apply List.mem_cons_of_mem))) (HS.out.get (by repeat (first | exact List.mem_cons_self | apply List.mem_cons_of_mem)))).mono ?_); rw [r2.out]; rintro e w' ⟨am, nm, cm, rfl, hx, hb⟩; dsimp only at hx; replace HS := Lib.hid ((HS.out.step hb).add hx)) | (go_at_call 29; (with_reducible refine (meet_any B A a1 a0 n1 n0 c1 c0 _ (HS.out.get (by repeat (first | exact List.mem_cons_self | apply List.mem_cons_of_mem))) (HS.out.get (by repeat (first | exact List.mem_cons_self | apply List.mem_cons_of_mem)))).mono ?_); rw [r2'.out]; rintro e w' ⟨ao, no, co, rfl, hx, hb⟩; dsimp only at hx; replace HS := Lib.hid ((HS.out.step hb).add hx)) | (go_at_call 34; (with_reducible refine (alike_yes ap aq np nq cp cq AB AB _ q1 q1 rfl (HS.out.get (by repeat (first | exact List.mem_cons_self | apply List.mem_cons_of_mem))) (HS.out.get (by repeat (first | exact List.mem_cons_self | apply List.mem_cons_of_mem)))).mono ?_); rintro e w' ⟨rfl, hb⟩; replace HS := Lib.hid (HS.out.step hb)) | (go_at_call 34; (with_reducible refine (alike_yes am ao nm no cm co M M _ q2 q2 rfl (HS.out.get (by repeat (first | exact List.mem_cons_self | apply List.mem_cons_of_mem))) (HS.out.get (by repeat (first | exact List.mem_cons_self | apply List.mem_cons_of_mem)))).mono ?_); rintro e w' ⟨rfl, hb⟩; replace HS := Lib.hid (HS.out.step hb)) | (go_at_call 27; (with_reducible refine (join_any AB C ap a2 np n2 cp c2 _ (HS.out.get (by repeat (first | exact List.mem_cons_self | apply List.mem_cons_of_mem))) (HS.out.get (by repeat (first | exact List.mem_cons_self | apply List.mem_cons_of_mem)))).mono ?_); rw [r3.out]; rintro e w' ⟨ar, nr, cr, rfl, hx, hb⟩; dsimp only at hx; replace HS := Lib.hid ((HS.out.step hb).add hx)) | (go_at_call 27; (with_reducible refine (join_any B C a1 a2 n1 n2 c1 c2 _ (HS.out.get (by repeat (first | exact List.mem_cons_self | apply List.mem_cons_of_mem))) (HS.out.get (by repeat (first | exact List.mem_cons_self | apply List.mem_cons_of_mem)))).mono ?_); rw [r4.out]; rintro e w' ⟨ay, ny, cy, rfl, hx, hb⟩; dsimp only at hx; replace HS := Lib.hid ((HS.out.step hb).add hx)) | (go_at_call 27; (with_reducible refine (join_any A BC a0 ay n0 ny c0 cy _ (HS.out.get (by repeat (first | exact List.mem_cons_self | apply List.mem_cons_of_mem))) (HS.out.get (by repeat (first | exact List.mem_cons_self | apply List.mem_cons_of_mem)))).mono ?_); rw [r5.out]; rintro e w' ⟨az, nz, cz, rfl, hx, hb⟩; dsimp only at hx; replace HS := Lib.hid ((HS.out.step hb).add hx)) | (go_at_call 14; refine (awake_any _).mono ?_; rintro e w' ⟨rfl, hb⟩; replace HS := Lib.hid (HS.out.step hb)))
          go_ret
          exact ⟨rfl, HS.out.low⟩

      · clear hA hB hC
        go_enter Try.func9, Try.ntmps9
        go_wp2_with (first | (go_at_call 13; (with_reducible refine (few_yes a0 n0 c0 _ h0).mono ?_); rintro e w' ⟨rfl, rfl⟩) | (go_at_call 13; (with_reducible refine (few_yes a1 n1 c1 _ h1).mono ?_); rintro e w' ⟨rfl, rfl⟩) | (go_at_call 13; (with_reducible refine (few_no a2 n2 c2 C _ (HS.out.get (by repeat (first | exact List.mem_cons_self | apply List.mem_cons_of_mem))) h2).mono ?_); rintro e w' ⟨rfl, rfl⟩) | (go_at_call 14; refine (awake_any _).mono ?_; rintro e w' ⟨rfl, hb⟩; replace HS := Lib.hid (HS.out.step hb)))
        go_ret
        exact ⟨rfl, HS.out.low⟩
    · clear hA hB hC
      go_enter Try.func9, Try.ntmps9
      go_wp2_with (first | (go_at_call 13; (with_reducible refine (few_yes a0 n0 c0 _ h0).mono ?_); rintro e w' ⟨rfl, rfl⟩) | (go_at_call 13; (with_reducible refine (few_no a1 n1 c1 B _ (HS.out.get (by repeat (first | exact List.mem_cons_self | apply List.mem_cons_of_mem))) h1).mono ?_); rintro e w' ⟨rfl, rfl⟩) | (go_at_call 14; refine (awake_any _).mono ?_; rintro e w' ⟨rfl, hb⟩; replace HS := Lib.hid (HS.out.step hb)))
      go_ret
      exact ⟨rfl, HS.out.low⟩
  · clear hA hB hC
    go_enter Try.func9, Try.ntmps9
    go_wp2_with (first | (go_at_call 13; (with_reducible refine (few_no a0 n0 c0 A _ (HS.out.get (by repeat (first | exact List.mem_cons_self | apply List.mem_cons_of_mem))) h0).mono ?_); rintro e w' ⟨rfl, rfl⟩) | (go_at_call 14; refine (awake_any _).mono ?_; rintro e w' ⟨rfl, hb⟩; replace HS := Lib.hid (HS.out.step hb)))
    go_ret
    exact ⟨rfl, HS.out.low⟩

set_option maxRecDepth 100000 in
set_option maxHeartbeats 2000000 in
theorem spanSpreads_walk (a0 : Option Addr) (n0 c0 : Nat) (A : List Sp) (a1 : Option Addr) (n1 c1 : Nat) (B : List Sp) (a2 : Option Addr) (n2 c2 : Nat) (C : List Sp) (w : World) (hA : Arg w a0 n0 c0 A) (hB : Arg w a1 n1 c1 B) (hC : Arg w a2 n2 c2 C) :
    Calls Try.prog 11 #[.slice a0 n0 c0, .slice a1 n1 c1, .slice a2 n2 c2] w (TruePost w) := by
  have HS := Lib.hid ((Env.mk (L := []) (Below.refl w.heap.size w) (by simp)).add hC |>.add hB |>.add hA)
  by_cases h0 : n0 ≤ 200
  · by_cases h1 : n1 ≤ 200
    · by_cases h2 : n2 ≤ 200
      · have zA := few_len hA h0
        have zB := few_len hB h1
        have zC := few_len hC h2
        clear hA hB hC
        obtain ⟨⟨BC, e⟩, r1⟩ : ∃ r, joinP B C = r := ⟨_, rfl⟩
        obtain ⟨⟨X, f⟩, r2⟩ : ∃ r, meetP A BC = r := ⟨_, rfl⟩
        obtain ⟨⟨AB, g⟩, r3⟩ : ∃ r, meetP A B = r := ⟨_, rfl⟩
        obtain ⟨⟨AC, h⟩, r4⟩ : ∃ r, meetP A C = r := ⟨_, rfl⟩
        obtain ⟨⟨Y, i⟩, r5⟩ : ∃ r, joinP AB AC = r := ⟨_, rfl⟩
        have q2 := meetP_len r2
        have q5 := joinP_len r5
        have hmath : e = 0 → f = 0 → g = 0 → h = 0 → i = 0 → X = Y := fun z1 z2 z3 z4 z5 => by subst z1; subst z2; subst z3; subst z4; subst z5; exact spreads_math r1 r2 r3 r4 r5
        replace r1 := Lib.hid r1
        replace r2 := Lib.hid r2
        replace r3 := Lib.hid r3
        replace r4 := Lib.hid r4
        replace r5 := Lib.hid r5
        by_cases ze : e = 0
        · have ye := ze
          by_cases zf : f = 0
          · have yf := zf
            by_cases zg : g = 0
            · have yg := zg
              by_cases zh : h = 0
              · have yh := zh
                by_cases zi : i = 0
                · have yi := zi
                  have t3 := Lib.hid (hmath ye yf yg yh yi)
                  clear hmath
                  clear ye
                  clear yf
                  clear yg
                  clear yh
                  clear yi
                  subst ze
                  subst zf
                  subst zg
                  subst zh
                  subst zi
                  go_enter Try.func11, Try.ntmps11
                  go_wp2_with (first | (go_at_call 13; (with_reducible refine (few_yes a0 n0 c0 _ h0).mono ?_); rintro e w' ⟨rfl, rfl⟩) | (go_at_call 13; (with_reducible refine (few_yes a1 n1 c1 _ h1).mono ?_); rintro e w' ⟨rfl, rfl⟩) | (go_at_call 13; (with_reducible refine (few_yes a2 n2 c2 _ h2).mono ?_); rintro e w' ⟨rfl, rfl⟩) | (go_at_call 27; (with_reducible refine (join_any B C a1 a2 n1 n2 c1 c2 _ (HS.out.get (by repeat (first | exact List.mem_cons_self | apply List.mem_cons_of_mem))) (HS.out.get (by repeat (first | exact List.mem_cons_self | apply List.mem_cons_of_mem)))).mono ?_); rw [r1.out]; rintro e w' ⟨ap, np, cp, rfl, hx, hb⟩; dsimp only at hx; replace HS := Lib.hid ((HS.out.step hb).add hx)) | (go_at_call 29; (with_reducible refine (meet_any A BC a0 ap n0 np c0 cp _ (HS.out.get (by repeat (first | exact List.mem_cons_self | apply List.mem_cons_of_mem))) (HS.out.get (by repeat (first | exact List.mem_cons_self | apply List.mem_cons_of_mem)))).mono ?_); rw [r2.out]; rintro e w' ⟨aq, nq, cq, rfl, hx, hb⟩; dsimp only at hx; replace HS := Lib.hid ((HS.out.step hb).add hx)) | (go_at_call 29; (with_reducible refine (meet_any A B a0 a1 n0 n1 c0 c1 _ (HS.out.get (by repeat (first | exact List.mem_cons_self | apply List.mem_cons_of_mem))) (HS.out.get (by repeat (first | exact List.mem_cons_self | apply List.mem_cons_of_mem)))).mono ?_); rw [r3.out]; rintro e w' ⟨am, nm, cm, rfl, hx, hb⟩; dsimp only at hx; replace HS := Lib.hid ((HS.out.step hb).add hx)) | (go_at_call 29; (with_reducible refine (meet_any A C a0 a2 n0 n2 c0 c2 _ (HS.out.get (by repeat (first | exact List.mem_cons_self | apply List.mem_cons_of_mem))) (HS.out.get (by repeat (first | exact List.mem_cons_self | apply List.mem_cons_of_mem)))).mono ?_); rw [r4.out]; rintro e w' ⟨ao, no, co, rfl, hx, hb⟩; dsimp only at hx; replace HS := Lib.hid ((HS.out.step hb).add hx)) | (go_at_call 27; (with_reducible refine (join_any AB AC am ao nm no cm co _ (HS.out.get (by repeat (first | exact List.mem_cons_self | apply List.mem_cons_of_mem))) (HS.out.get (by repeat (first | exact List.mem_cons_self | apply List.mem_cons_of_mem)))).mono ?_); rw [r5.out]; rintro e w' ⟨ar, nr, cr, rfl, hx, hb⟩; dsimp only at hx; replace HS := Lib.hid ((HS.out.step hb).add hx)) | (go_at_call 14; refine (awake_any _).mono ?_; rintro e w' ⟨rfl, hb⟩; replace HS := Lib.hid (HS.out.step hb)) | (go_at_call 34; (with_reducible refine (alike_yes aq ar nq nr cq cr X Y _ q2 q5 t3.out (HS.out.get (by repeat (first | exact List.mem_cons_self | apply List.mem_cons_of_mem))) (HS.out.get (by repeat (first | exact List.mem_cons_self | apply List.mem_cons_of_mem)))).mono ?_); rintro e w' ⟨rfl, hb⟩; replace HS := Lib.hid (HS.out.step hb)))
                  go_ret
                  exact ⟨rfl, HS.out.low⟩
                · have e1 : (i != 0) = true := by simpa using zi
                  clear hmath
                  clear ye
                  subst ze
                  clear yf
                  subst zf
                  clear yg
                  subst zg
                  clear yh
                  subst zh
                  go_enter Try.func11, Try.ntmps11
                  go_wp2_with (first | (go_at_call 13; (with_reducible refine (few_yes a0 n0 c0 _ h0).mono ?_); rintro e w' ⟨rfl, rfl⟩) | (go_at_call 13; (with_reducible refine (few_yes a1 n1 c1 _ h1).mono ?_); rintro e w' ⟨rfl, rfl⟩) | (go_at_call 13; (with_reducible refine (few_yes a2 n2 c2 _ h2).mono ?_); rintro e w' ⟨rfl, rfl⟩) | (go_at_call 27; (with_reducible refine (join_any B C a1 a2 n1 n2 c1 c2 _ (HS.out.get (by repeat (first | exact List.mem_cons_self | apply List.mem_cons_of_mem))) (HS.out.get (by repeat (first | exact List.mem_cons_self | apply List.mem_cons_of_mem)))).mono ?_); rw [r1.out]; rintro e w' ⟨ap, np, cp, rfl, hx, hb⟩; dsimp only at hx; replace HS := Lib.hid ((HS.out.step hb).add hx)) | (go_at_call 29; (with_reducible refine (meet_any A BC a0 ap n0 np c0 cp _ (HS.out.get (by repeat (first | exact List.mem_cons_self | apply List.mem_cons_of_mem))) (HS.out.get (by repeat (first | exact List.mem_cons_self | apply List.mem_cons_of_mem)))).mono ?_); rw [r2.out]; rintro e w' ⟨aq, nq, cq, rfl, hx, hb⟩; dsimp only at hx; replace HS := Lib.hid ((HS.out.step hb).add hx)) | (go_at_call 29; (with_reducible refine (meet_any A B a0 a1 n0 n1 c0 c1 _ (HS.out.get (by repeat (first | exact List.mem_cons_self | apply List.mem_cons_of_mem))) (HS.out.get (by repeat (first | exact List.mem_cons_self | apply List.mem_cons_of_mem)))).mono ?_); rw [r3.out]; rintro e w' ⟨am, nm, cm, rfl, hx, hb⟩; dsimp only at hx; replace HS := Lib.hid ((HS.out.step hb).add hx)) | (go_at_call 29; (with_reducible refine (meet_any A C a0 a2 n0 n2 c0 c2 _ (HS.out.get (by repeat (first | exact List.mem_cons_self | apply List.mem_cons_of_mem))) (HS.out.get (by repeat (first | exact List.mem_cons_self | apply List.mem_cons_of_mem)))).mono ?_); rw [r4.out]; rintro e w' ⟨ao, no, co, rfl, hx, hb⟩; dsimp only at hx; replace HS := Lib.hid ((HS.out.step hb).add hx)) | (go_at_call 27; (with_reducible refine (join_any AB AC am ao nm no cm co _ (HS.out.get (by repeat (first | exact List.mem_cons_self | apply List.mem_cons_of_mem))) (HS.out.get (by repeat (first | exact List.mem_cons_self | apply List.mem_cons_of_mem)))).mono ?_); rw [r5.out]; rintro e w' ⟨ar, nr, cr, rfl, hx, hb⟩; dsimp only at hx; replace HS := Lib.hid ((HS.out.step hb).add hx)) | (go_at_call 14; refine (awake_any _).mono ?_; rintro e w' ⟨rfl, hb⟩; replace HS := Lib.hid (HS.out.step hb)))
                  go_ret
                  exact ⟨rfl, HS.out.low⟩
              · have e1 : (h != 0) = true := by simpa using zh
                clear hmath
                clear ye
                subst ze
                clear yf
                subst zf
                clear yg
                subst zg
                go_enter Try.func11, Try.ntmps11
                go_wp2_with (first | (go_at_call 13; (with_reducible refine (few_yes a0 n0 c0 _ h0).mono ?_); rintro e w' ⟨rfl, rfl⟩) | (go_at_call 13; (with_reducible refine (few_yes a1 n1 c1 _ h1).mono ?_); rintro e w' ⟨rfl, rfl⟩) | (go_at_call 13; (with_reducible refine (few_yes a2 n2 c2 _ h2).mono ?_); rintro e w' ⟨rfl, rfl⟩) | (go_at_call 27; (with_reducible refine (join_any B C a1 a2 n1 n2 c1 c2 _ (HS.out.get (by repeat (first | exact List.mem_cons_self | apply List.mem_cons_of_mem))) (HS.out.get (by repeat (first | exact List.mem_cons_self | apply List.mem_cons_of_mem)))).mono ?_); rw [r1.out]; rintro e w' ⟨ap, np, cp, rfl, hx, hb⟩; dsimp only at hx; replace HS := Lib.hid ((HS.out.step hb).add hx)) | (go_at_call 29; (with_reducible refine (meet_any A BC a0 ap n0 np c0 cp _ (HS.out.get (by repeat (first | exact List.mem_cons_self | apply List.mem_cons_of_mem))) (HS.out.get (by repeat (first | exact List.mem_cons_self | apply List.mem_cons_of_mem)))).mono ?_); rw [r2.out]; rintro e w' ⟨aq, nq, cq, rfl, hx, hb⟩; dsimp only at hx; replace HS := Lib.hid ((HS.out.step hb).add hx)) | (go_at_call 29; (with_reducible refine (meet_any A B a0 a1 n0 n1 c0 c1 _ (HS.out.get (by repeat (first | exact List.mem_cons_self | apply List.mem_cons_of_mem))) (HS.out.get (by repeat (first | exact List.mem_cons_self | apply List.mem_cons_of_mem)))).mono ?_); rw [r3.out]; rintro e w' ⟨am, nm, cm, rfl, hx, hb⟩; dsimp only at hx; replace HS := Lib.hid ((HS.out.step hb).add hx)) | (go_at_call 29; (with_reducible refine (meet_any A C a0 a2 n0 n2 c0 c2 _ (HS.out.get (by repeat (first | exact List.mem_cons_self | apply List.mem_cons_of_mem))) (HS.out.get (by repeat (first | exact List.mem_cons_self | apply List.mem_cons_of_mem)))).mono ?_); rw [r4.out]; rintro e w' ⟨ao, no, co, rfl, hx, hb⟩; dsimp only at hx; replace HS := Lib.hid ((HS.out.step hb).add hx)) | (go_at_call 27; (with_reducible refine (join_any AB AC am ao nm no cm co _ (HS.out.get (by repeat (first | exact List.mem_cons_self | apply List.mem_cons_of_mem))) (HS.out.get (by repeat (first | exact List.mem_cons_self | apply List.mem_cons_of_mem)))).mono ?_); rw [r5.out]; rintro e w' ⟨ar, nr, cr, rfl, hx, hb⟩; dsimp only at hx; replace HS := Lib.hid ((HS.out.step hb).add hx)) | (go_at_call 14; refine (awake_any _).mono ?_; rintro e w' ⟨rfl, hb⟩; replace HS := Lib.hid (HS.out.step hb)))
                go_ret
                exact ⟨rfl, HS.out.low⟩
            · have e1 : (g != 0) = true := by simpa using zg
              clear hmath
              clear ye
              subst ze
              clear yf
              subst zf
              go_enter Try.func11, Try.ntmps11
              go_wp2_with (first | (go_at_call 13; (with_reducible refine (few_yes a0 n0 c0 _ h0).mono ?_); rintro e w' ⟨rfl, rfl⟩) | (go_at_call 13; (with_reducible refine (few_yes a1 n1 c1 _ h1).mono ?_); rintro e w' ⟨rfl, rfl⟩) | (go_at_call 13; (with_reducible refine (few_yes a2 n2 c2 _ h2).mono ?_); rintro e w' ⟨rfl, rfl⟩) | (go_at_call 27; (with_reducible refine (join_any B C a1 a2 n1 n2 c1 c2 _ (HS.out.get (by repeat (first | exact List.mem_cons_self | apply List.mem_cons_of_mem))) (HS.out.get (by repeat (first | exact List.mem_cons_self | apply List.mem_cons_of_mem)))).mono ?_); rw [r1.out]; rintro e w' ⟨ap, np, cp, rfl, hx, hb⟩; dsimp only at hx; replace HS := Lib.hid ((HS.out.step hb).add hx)) | (go_at_call 29; (with_reducible refine (meet_any A BC a0 ap n0 np c0 cp _ (HS.out.get (by repeat (first | exact List.mem_cons_self | apply List.mem_cons_of_mem))) (HS.out.get (by repeat (first | exact List.mem_cons_self | apply List.mem_cons_of_mem)))).mono ?_); rw [r2.out]; rintro e w' ⟨aq, nq, cq, rfl, hx, hb⟩; dsimp only at hx; replace HS := Lib.hid ((HS.out.step hb).add hx)) | (go_at_call 29; (with_reducible refine (meet_any A B a0 a1 n0 n1 c0 c1 _ (HS.out.get (by repeat (first | exact List.mem_cons_self | apply List.mem_cons_of_mem))) (HS.out.get (by repeat (first | exact List.mem_cons_self | apply List.mem_cons_of_mem)))).mono ?_); rw [r3.out]; rintro e w' ⟨am, nm, cm, rfl, hx, hb⟩; dsimp only at hx; replace HS := Lib.hid ((HS.out.step hb).add hx)) | (go_at_call 29; (with_reducible refine (meet_any A C a0 a2 n0 n2 c0 c2 _ (HS.out.get (by repeat (first | exact List.mem_cons_self | apply List.mem_cons_of_mem))) (HS.out.get (by repeat (first | exact List.mem_cons_self | apply List.mem_cons_of_mem)))).mono ?_); rw [r4.out]; rintro e w' ⟨ao, no, co, rfl, hx, hb⟩; dsimp only at hx; replace HS := Lib.hid ((HS.out.step hb).add hx)) | (go_at_call 27; (with_reducible refine (join_any AB AC am ao nm no cm co _ (HS.out.get (by repeat (first | exact List.mem_cons_self | apply List.mem_cons_of_mem))) (HS.out.get (by repeat (first | exact List.mem_cons_self | apply List.mem_cons_of_mem)))).mono ?_); rw [r5.out]; rintro e w' ⟨ar, nr, cr, rfl, hx, hb⟩; dsimp only at hx; replace HS := Lib.hid ((HS.out.step hb).add hx)) | (go_at_call 14; refine (awake_any _).mono ?_; rintro e w' ⟨rfl, hb⟩; replace HS := Lib.hid (HS.out.step hb)))
              go_ret
              exact ⟨rfl, HS.out.low⟩
          · have e1 : (f != 0) = true := by simpa using zf
            clear hmath
            clear ye
            subst ze
            go_enter Try.func11, Try.ntmps11
            go_wp2_with (first | (go_at_call 13; (with_reducible refine (few_yes a0 n0 c0 _ h0).mono ?_); rintro e w' ⟨rfl, rfl⟩) | (go_at_call 13; (with_reducible refine (few_yes a1 n1 c1 _ h1).mono ?_); rintro e w' ⟨rfl, rfl⟩) | (go_at_call 13; (with_reducible refine (few_yes a2 n2 c2 _ h2).mono ?_); rintro e w' ⟨rfl, rfl⟩) | (go_at_call 27; (with_reducible refine (join_any B C a1 a2 n1 n2 c1 c2 _ (HS.out.get (by repeat (first | exact List.mem_cons_self | apply List.mem_cons_of_mem))) (HS.out.get (by repeat (first | exact List.mem_cons_self | apply List.mem_cons_of_mem)))).mono ?_); rw [r1.out]; rintro e w' ⟨ap, np, cp, rfl, hx, hb⟩; dsimp only at hx; replace HS := Lib.hid ((HS.out.step hb).add hx)) | (go_at_call 29; (with_reducible refine (meet_any A BC a0 ap n0 np c0 cp _ (HS.out.get (by repeat (first | exact List.mem_cons_self | apply List.mem_cons_of_mem))) (HS.out.get (by repeat (first | exact List.mem_cons_self | apply List.mem_cons_of_mem)))).mono ?_); rw [r2.out]; rintro e w' ⟨aq, nq, cq, rfl, hx, hb⟩; dsimp only at hx; replace HS := Lib.hid ((HS.out.step hb).add hx)) | (go_at_call 29; (with_reducible refine (meet_any A B a0 a1 n0 n1 c0 c1 _ (HS.out.get (by repeat (first | exact List.mem_cons_self | apply List.mem_cons_of_mem))) (HS.out.get (by repeat (first | exact List.mem_cons_self | apply List.mem_cons_of_mem)))).mono ?_); rw [r3.out]; rintro e w' ⟨am, nm, cm, rfl, hx, hb⟩; dsimp only at hx; replace HS := Lib.hid ((HS.out.step hb).add hx)) | (go_at_call 29; (with_reducible refine (meet_any A C a0 a2 n0 n2 c0 c2 _ (HS.out.get (by repeat (first | exact List.mem_cons_self | apply List.mem_cons_of_mem))) (HS.out.get (by repeat (first | exact List.mem_cons_self | apply List.mem_cons_of_mem)))).mono ?_); rw [r4.out]; rintro e w' ⟨ao, no, co, rfl, hx, hb⟩; dsimp only at hx; replace HS := Lib.hid ((HS.out.step hb).add hx)) | (go_at_call 27; (with_reducible refine (join_any AB AC am ao nm no cm co _ (HS.out.get (by repeat (first | exact List.mem_cons_self | apply List.mem_cons_of_mem))) (HS.out.get (by repeat (first | exact List.mem_cons_self | apply List.mem_cons_of_mem)))).mono ?_); rw [r5.out]; rintro e w' ⟨ar, nr, cr, rfl, hx, hb⟩; dsimp only at hx; replace HS := Lib.hid ((HS.out.step hb).add hx)) | (go_at_call 14; refine (awake_any _).mono ?_; rintro e w' ⟨rfl, hb⟩; replace HS := Lib.hid (HS.out.step hb)))
            go_ret
            exact ⟨rfl, HS.out.low⟩
        · have e1 : (e != 0) = true := by simpa using ze
          clear hmath
          go_enter Try.func11, Try.ntmps11
          go_wp2_with (first | (go_at_call 13; (with_reducible refine (few_yes a0 n0 c0 _ h0).mono ?_); rintro e w' ⟨rfl, rfl⟩) | (go_at_call 13; (with_reducible refine (few_yes a1 n1 c1 _ h1).mono ?_); rintro e w' ⟨rfl, rfl⟩) | (go_at_call 13; (with_reducible refine (few_yes a2 n2 c2 _ h2).mono ?_); rintro e w' ⟨rfl, rfl⟩) | (go_at_call 27; (with_reducible refine (join_any B C a1 a2 n1 n2 c1 c2 _ (HS.out.get (by repeat (first | exact List.mem_cons_self | apply List.mem_cons_of_mem))) (HS.out.get (by repeat (first | exact List.mem_cons_self | apply List.mem_cons_of_mem)))).mono ?_); rw [r1.out]; rintro e w' ⟨ap, np, cp, rfl, hx, hb⟩; dsimp only at hx; replace HS := Lib.hid ((HS.out.step hb).add hx)) | (go_at_call 29; (with_reducible refine (meet_any A BC a0 ap n0 np c0 cp _ (HS.out.get (by repeat (first | exact List.mem_cons_self | apply List.mem_cons_of_mem))) (HS.out.get (by repeat (first | exact List.mem_cons_self | apply List.mem_cons_of_mem)))).mono ?_); rw [r2.out]; rintro e w' ⟨aq, nq, cq, rfl, hx, hb⟩; dsimp only at hx; replace HS := Lib.hid ((HS.out.step hb).add hx)) | (go_at_call 29; (with_reducible refine (meet_any A B a0 a1 n0 n1 c0 c1 _ (HS.out.get (by repeat (first | exact List.mem_cons_self | apply List.mem_cons_of_mem))) (HS.out.get (by repeat (first | exact List.mem_cons_self | apply List.mem_cons_of_mem)))).mono ?_); rw [r3.out]; rintro e w' ⟨am, nm, cm, rfl, hx, hb⟩; dsimp only at hx; replace HS := Lib.hid ((HS.out.step hb).add hx)) | (go_at_call 29; (with_reducible refine (meet_any A C a0 a2 n0 n2 c0 c2 _ (HS.out.get (by repeat (first | exact List.mem_cons_self | apply List.mem_cons_of_mem))) (HS.out.get (by repeat (first | exact List.mem_cons_self | apply List.mem_cons_of_mem)))).mono ?_); rw [r4.out]; rintro e w' ⟨ao, no, co, rfl, hx, hb⟩; dsimp only at hx; replace HS := Lib.hid ((HS.out.step hb).add hx)) | (go_at_call 27; (with_reducible refine (join_any AB AC am ao nm no cm co _ (HS.out.get (by repeat (first | exact List.mem_cons_self | apply List.mem_cons_of_mem))) (HS.out.get (by repeat (first | exact List.mem_cons_self | apply List.mem_cons_of_mem)))).mono ?_); rw [r5.out]; rintro e w' ⟨ar, nr, cr, rfl, hx, hb⟩; dsimp only at hx; replace HS := Lib.hid ((HS.out.step hb).add hx)) | (go_at_call 14; refine (awake_any _).mono ?_; rintro e w' ⟨rfl, hb⟩; replace HS := Lib.hid (HS.out.step hb)))
          go_ret
          exact ⟨rfl, HS.out.low⟩

      · clear hA hB hC
        go_enter Try.func11, Try.ntmps11
        go_wp2_with (first | (go_at_call 13; (with_reducible refine (few_yes a0 n0 c0 _ h0).mono ?_); rintro e w' ⟨rfl, rfl⟩) | (go_at_call 13; (with_reducible refine (few_yes a1 n1 c1 _ h1).mono ?_); rintro e w' ⟨rfl, rfl⟩) | (go_at_call 13; (with_reducible refine (few_no a2 n2 c2 C _ (HS.out.get (by repeat (first | exact List.mem_cons_self | apply List.mem_cons_of_mem))) h2).mono ?_); rintro e w' ⟨rfl, rfl⟩) | (go_at_call 14; refine (awake_any _).mono ?_; rintro e w' ⟨rfl, hb⟩; replace HS := Lib.hid (HS.out.step hb)))
        go_ret
        exact ⟨rfl, HS.out.low⟩
    · clear hA hB hC
      go_enter Try.func11, Try.ntmps11
      go_wp2_with (first | (go_at_call 13; (with_reducible refine (few_yes a0 n0 c0 _ h0).mono ?_); rintro e w' ⟨rfl, rfl⟩) | (go_at_call 13; (with_reducible refine (few_no a1 n1 c1 B _ (HS.out.get (by repeat (first | exact List.mem_cons_self | apply List.mem_cons_of_mem))) h1).mono ?_); rintro e w' ⟨rfl, rfl⟩) | (go_at_call 14; refine (awake_any _).mono ?_; rintro e w' ⟨rfl, hb⟩; replace HS := Lib.hid (HS.out.step hb)))
      go_ret
      exact ⟨rfl, HS.out.low⟩
  · clear hA hB hC
    go_enter Try.func11, Try.ntmps11
    go_wp2_with (first | (go_at_call 13; (with_reducible refine (few_no a0 n0 c0 A _ (HS.out.get (by repeat (first | exact List.mem_cons_self | apply List.mem_cons_of_mem))) h0).mono ?_); rintro e w' ⟨rfl, rfl⟩) | (go_at_call 14; refine (awake_any _).mono ?_; rintro e w' ⟨rfl, hb⟩; replace HS := Lib.hid (HS.out.step hb)))
    go_ret
    exact ⟨rfl, HS.out.low⟩

set_option maxRecDepth 100000 in
set_option maxHeartbeats 2000000 in
theorem spanParts_walk (a0 : Option Addr) (n0 c0 : Nat) (A : List Sp) (a1 : Option Addr) (n1 c1 : Nat) (B : List Sp) (w : World) (hA : Arg w a0 n0 c0 A) (hB : Arg w a1 n1 c1 B) :
    Calls Try.prog 8 #[.slice a0 n0 c0, .slice a1 n1 c1] w (TruePost w) := by
  have HS := Lib.hid ((Env.mk (L := []) (Below.refl w.heap.size w) (by simp)).add hB |>.add hA)
  by_cases h0 : n0 ≤ 200
  · by_cases h1 : n1 ≤ 200
    · have zA := few_len hA h0
      have zB := few_len hB h1
      clear hA hB
      obtain ⟨⟨M, e⟩, r1⟩ : ∃ r, meetP A B = r := ⟨_, rfl⟩
      obtain ⟨⟨L, f⟩, r2⟩ : ∃ r, lessP A B = r := ⟨_, rfl⟩
      by_cases ze : e = 0
      · by_cases zf : f = 0
        · subst ze
          subst zf
          obtain ⟨t1, t2, t3, t4, t5⟩ := parts_math r1 r2
          obtain ⟨x0, x1⟩ := cntB_bd M
          obtain ⟨y0, y1⟩ := cntB_bd L
          obtain ⟨u1, k1⟩ : ∃ c, cntB M = c := ⟨_, rfl⟩
          obtain ⟨u2, k2⟩ : ∃ c, cntB L = c := ⟨_, rfl⟩
          obtain ⟨u3, k3⟩ : ∃ c, cntB A = c := ⟨_, rfl⟩
          rw [k1] at t3 x0 x1
          rw [k2] at t3 y0 y1
          rw [k3] at t3
          have s1 : (u1 + u2 == u3) = true := by simpa using t3
          replace k1 := Lib.hid k1
          replace k2 := Lib.hid k2
          replace k3 := Lib.hid k3
          replace r1 := Lib.hid r1
          replace r2 := Lib.hid r2
          replace t1 := Lib.hid t1
          replace t2 := Lib.hid t2
          replace t4 := Lib.hid t4
          replace t5 := Lib.hid t5
          clear t3
          go_enter Try.func8, Try.ntmps8
          go_wp2_with (first | (go_at_call 13; (with_reducible refine (few_yes a0 n0 c0 _ h0).mono ?_); rintro e w' ⟨rfl, rfl⟩) | (go_at_call 13; (with_reducible refine (few_yes a1 n1 c1 _ h1).mono ?_); rintro e w' ⟨rfl, rfl⟩) | (go_at_call 29; (with_reducible refine (meet_any A B a0 a1 n0 n1 c0 c1 _ (HS.out.get (by repeat (first | exact List.mem_cons_self | apply List.mem_cons_of_mem))) (HS.out.get (by repeat (first | exact List.mem_cons_self | apply List.mem_cons_of_mem)))).mono ?_); rw [r1.out]; rintro e w' ⟨am, nm, cm, rfl, hx, hb⟩; dsimp only at hx; replace HS := Lib.hid ((HS.out.step hb).add hx)) | (go_at_call 32; (with_reducible refine (less_any A B a0 a1 n0 n1 c0 c1 _ (HS.out.get (by repeat (first | exact List.mem_cons_self | apply List.mem_cons_of_mem))) (HS.out.get (by repeat (first | exact List.mem_cons_self | apply List.mem_cons_of_mem)))).mono ?_); rw [r2.out]; rintro e w' ⟨al, nl, cl, rfl, hx, hb⟩; dsimp only at hx; replace HS := Lib.hid ((HS.out.step hb).add hx)) | (go_at_call 14; refine (awake_any _).mono ?_; rintro e w' ⟨rfl, hb⟩; replace HS := Lib.hid (HS.out.step hb)) | (go_at_call 27; (with_reducible refine (join_any M L am al nm nl cm cl _ (HS.out.get (by repeat (first | exact List.mem_cons_self | apply List.mem_cons_of_mem))) (HS.out.get (by repeat (first | exact List.mem_cons_self | apply List.mem_cons_of_mem)))).mono ?_); rw [t1.out]; rintro e w' ⟨aj, nj, cj, rfl, hx, hb⟩; dsimp only at hx; replace HS := Lib.hid ((HS.out.step hb).add hx)) | (go_at_call 34; (with_reducible refine (alike_yes aj a0 nj n0 cj c0 A A _ zA zA rfl (HS.out.get (by repeat (first | exact List.mem_cons_self | apply List.mem_cons_of_mem))) (HS.out.get (by repeat (first | exact List.mem_cons_self | apply List.mem_cons_of_mem)))).mono ?_); rintro e w' ⟨rfl, hb⟩; replace HS := Lib.hid (HS.out.step hb)) | (go_at_call 30; (with_reducible refine (touch_any M L am al nm nl cm cl _ (HS.out.get (by repeat (first | exact List.mem_cons_self | apply List.mem_cons_of_mem))) (HS.out.get (by repeat (first | exact List.mem_cons_self | apply List.mem_cons_of_mem)))).mono ?_); rw [t2.out]; rintro e w' ⟨rfl, hb⟩; replace HS := Lib.hid (HS.out.step hb)) | (go_at_call 22; (with_reducible refine (count_arg M am nm cm _ (HS.out.get (by repeat (first | exact List.mem_cons_self | apply List.mem_cons_of_mem)))).mono ?_); rw [k1.out]; rintro e w' ⟨rfl, hb⟩; replace HS := Lib.hid (HS.out.step hb)) | (go_at_call 22; (with_reducible refine (count_arg L al nl cl _ (HS.out.get (by repeat (first | exact List.mem_cons_self | apply List.mem_cons_of_mem)))).mono ?_); rw [k2.out]; rintro e w' ⟨rfl, hb⟩; replace HS := Lib.hid (HS.out.step hb)) | (go_at_call 22; (with_reducible refine (count_arg A a0 n0 c0 _ (HS.out.get (by repeat (first | exact List.mem_cons_self | apply List.mem_cons_of_mem)))).mono ?_); rw [k3.out]; rintro e w' ⟨rfl, hb⟩; replace HS := Lib.hid (HS.out.step hb)) | (go_at_call 33; (with_reducible refine (within_any M B am a1 nm n1 cm c1 _ (HS.out.get (by repeat (first | exact List.mem_cons_self | apply List.mem_cons_of_mem))) (HS.out.get (by repeat (first | exact List.mem_cons_self | apply List.mem_cons_of_mem)))).mono ?_); rw [t4.out]; rintro e w' ⟨rfl, hb⟩; replace HS := Lib.hid (HS.out.step hb)) | (go_at_call 33; (with_reducible refine (within_any M A am a0 nm n0 cm c0 _ (HS.out.get (by repeat (first | exact List.mem_cons_self | apply List.mem_cons_of_mem))) (HS.out.get (by repeat (first | exact List.mem_cons_self | apply List.mem_cons_of_mem)))).mono ?_); rw [t5.out]; rintro e w' ⟨rfl, hb⟩; replace HS := Lib.hid (HS.out.step hb)))
          go_ret
          exact ⟨rfl, HS.out.low⟩
        · have e1 : (f != 0) = true := by simpa using zf
          subst ze
          replace r1 := Lib.hid r1
          replace r2 := Lib.hid r2
          go_enter Try.func8, Try.ntmps8
          go_wp2_with (first | (go_at_call 13; (with_reducible refine (few_yes a0 n0 c0 _ h0).mono ?_); rintro e w' ⟨rfl, rfl⟩) | (go_at_call 13; (with_reducible refine (few_yes a1 n1 c1 _ h1).mono ?_); rintro e w' ⟨rfl, rfl⟩) | (go_at_call 29; (with_reducible refine (meet_any A B a0 a1 n0 n1 c0 c1 _ (HS.out.get (by repeat (first | exact List.mem_cons_self | apply List.mem_cons_of_mem))) (HS.out.get (by repeat (first | exact List.mem_cons_self | apply List.mem_cons_of_mem)))).mono ?_); rw [r1.out]; rintro e w' ⟨am, nm, cm, rfl, hx, hb⟩; dsimp only at hx; replace HS := Lib.hid ((HS.out.step hb).add hx)) | (go_at_call 32; (with_reducible refine (less_any A B a0 a1 n0 n1 c0 c1 _ (HS.out.get (by repeat (first | exact List.mem_cons_self | apply List.mem_cons_of_mem))) (HS.out.get (by repeat (first | exact List.mem_cons_self | apply List.mem_cons_of_mem)))).mono ?_); rw [r2.out]; rintro e w' ⟨al, nl, cl, rfl, hx, hb⟩; dsimp only at hx; replace HS := Lib.hid ((HS.out.step hb).add hx)) | (go_at_call 14; refine (awake_any _).mono ?_; rintro e w' ⟨rfl, hb⟩; replace HS := Lib.hid (HS.out.step hb)))
          go_ret
          exact ⟨rfl, HS.out.low⟩
      · have e1 : (e != 0) = true := by simpa using ze
        replace r1 := Lib.hid r1
        replace r2 := Lib.hid r2
        go_enter Try.func8, Try.ntmps8
        go_wp2_with (first | (go_at_call 13; (with_reducible refine (few_yes a0 n0 c0 _ h0).mono ?_); rintro e w' ⟨rfl, rfl⟩) | (go_at_call 13; (with_reducible refine (few_yes a1 n1 c1 _ h1).mono ?_); rintro e w' ⟨rfl, rfl⟩) | (go_at_call 29; (with_reducible refine (meet_any A B a0 a1 n0 n1 c0 c1 _ (HS.out.get (by repeat (first | exact List.mem_cons_self | apply List.mem_cons_of_mem))) (HS.out.get (by repeat (first | exact List.mem_cons_self | apply List.mem_cons_of_mem)))).mono ?_); rw [r1.out]; rintro e w' ⟨am, nm, cm, rfl, hx, hb⟩; dsimp only at hx; replace HS := Lib.hid ((HS.out.step hb).add hx)) | (go_at_call 32; (with_reducible refine (less_any A B a0 a1 n0 n1 c0 c1 _ (HS.out.get (by repeat (first | exact List.mem_cons_self | apply List.mem_cons_of_mem))) (HS.out.get (by repeat (first | exact List.mem_cons_self | apply List.mem_cons_of_mem)))).mono ?_); rw [r2.out]; rintro e w' ⟨al, nl, cl, rfl, hx, hb⟩; dsimp only at hx; replace HS := Lib.hid ((HS.out.step hb).add hx)) | (go_at_call 14; refine (awake_any _).mono ?_; rintro e w' ⟨rfl, hb⟩; replace HS := Lib.hid (HS.out.step hb)))
        go_ret
        exact ⟨rfl, HS.out.low⟩

    · clear hA hB
      go_enter Try.func8, Try.ntmps8
      go_wp2_with (first | (go_at_call 13; (with_reducible refine (few_yes a0 n0 c0 _ h0).mono ?_); rintro e w' ⟨rfl, rfl⟩) | (go_at_call 13; (with_reducible refine (few_no a1 n1 c1 B _ (HS.out.get (by repeat (first | exact List.mem_cons_self | apply List.mem_cons_of_mem))) h1).mono ?_); rintro e w' ⟨rfl, rfl⟩) | (go_at_call 14; refine (awake_any _).mono ?_; rintro e w' ⟨rfl, hb⟩; replace HS := Lib.hid (HS.out.step hb)))
      go_ret
      exact ⟨rfl, HS.out.low⟩
  · clear hA hB
    go_enter Try.func8, Try.ntmps8
    go_wp2_with (first | (go_at_call 13; (with_reducible refine (few_no a0 n0 c0 A _ (HS.out.get (by repeat (first | exact List.mem_cons_self | apply List.mem_cons_of_mem))) h0).mono ?_); rintro e w' ⟨rfl, rfl⟩) | (go_at_call 14; refine (awake_any _).mono ?_; rintro e w' ⟨rfl, hb⟩; replace HS := Lib.hid (HS.out.step hb)))
    go_ret
    exact ⟨rfl, HS.out.low⟩

set_option maxRecDepth 100000 in
set_option maxHeartbeats 2000000 in
theorem spanKeys_walk (a0 : Option Addr) (n0 c0 : Nat) (A : List Sp) (a1 : Option Addr) (n1 c1 : Nat) (B : List Sp) (w : World) (hA : Arg w a0 n0 c0 A) (hB : Arg w a1 n1 c1 B) :
    Calls Try.prog 10 #[.slice a0 n0 c0, .slice a1 n1 c1] w (TruePost w) := by
  have HS := Lib.hid ((Env.mk (L := []) (Below.refl w.heap.size w) (by simp)).add hB |>.add hA)
  by_cases h0 : n0 ≤ 200
  · by_cases h1 : n1 ≤ 200
    · have zA := few_len hA h0
      have zB := few_len hB h1
      clear hA hB
      cases cA : chkB A
      · replace cA := Lib.hid cA
        go_enter Try.func10, Try.ntmps10
        go_wp2_with (first | (go_at_call 13; (with_reducible refine (few_yes a0 n0 c0 _ h0).mono ?_); rintro e w' ⟨rfl, rfl⟩) | (go_at_call 13; (with_reducible refine (few_yes a1 n1 c1 _ h1).mono ?_); rintro e w' ⟨rfl, rfl⟩) | (go_at_call 14; refine (awake_any _).mono ?_; rintro e w' ⟨rfl, hb⟩; replace HS := Lib.hid (HS.out.step hb)) | (go_at_call 18; (with_reducible refine (check_arg A a0 n0 c0 _ (HS.out.get (by repeat (first | exact List.mem_cons_self | apply List.mem_cons_of_mem)))).mono ?_); rw [cA.out]; rintro e w' ⟨rfl, hb⟩; replace HS := Lib.hid (HS.out.step hb)))
        go_ret
        exact ⟨rfl, HS.out.low⟩
      · cases cB : chkB B
        · replace cA := Lib.hid cA
          replace cB := Lib.hid cB
          go_enter Try.func10, Try.ntmps10
          go_wp2_with (first | (go_at_call 13; (with_reducible refine (few_yes a0 n0 c0 _ h0).mono ?_); rintro e w' ⟨rfl, rfl⟩) | (go_at_call 13; (with_reducible refine (few_yes a1 n1 c1 _ h1).mono ?_); rintro e w' ⟨rfl, rfl⟩) | (go_at_call 14; refine (awake_any _).mono ?_; rintro e w' ⟨rfl, hb⟩; replace HS := Lib.hid (HS.out.step hb)) | (go_at_call 18; (with_reducible refine (check_arg A a0 n0 c0 _ (HS.out.get (by repeat (first | exact List.mem_cons_self | apply List.mem_cons_of_mem)))).mono ?_); rw [cA.out]; rintro e w' ⟨rfl, hb⟩; replace HS := Lib.hid (HS.out.step hb)) | (go_at_call 18; (with_reducible refine (check_arg B a1 n1 c1 _ (HS.out.get (by repeat (first | exact List.mem_cons_self | apply List.mem_cons_of_mem)))).mono ?_); rw [cB.out]; rintro e w' ⟨rfl, hb⟩; replace HS := Lib.hid (HS.out.step hb)))
          go_ret
          exact ⟨rfl, HS.out.low⟩
        · obtain ⟨m1, m2⟩ := keys_math cA cB
          replace cA := Lib.hid cA
          replace cB := Lib.hid cB
          replace m1 := Lib.hid m1
          cases x1 : withinB A B <;> cases y1 : withinB B A
          all_goals
            rw [x1, y1] at m2
            simp only [Bool.and_true, Bool.and_false] at m2
            replace m2 := Lib.hid m2
            replace x1 := Lib.hid x1
            replace y1 := Lib.hid y1
            go_enter Try.func10, Try.ntmps10
            go_wp2_with (first | (go_at_call 13; (with_reducible refine (few_yes a0 n0 c0 _ h0).mono ?_); rintro e w' ⟨rfl, rfl⟩) | (go_at_call 13; (with_reducible refine (few_yes a1 n1 c1 _ h1).mono ?_); rintro e w' ⟨rfl, rfl⟩) | (go_at_call 14; refine (awake_any _).mono ?_; rintro e w' ⟨rfl, hb⟩; replace HS := Lib.hid (HS.out.step hb)) | (go_at_call 18; (with_reducible refine (check_arg A a0 n0 c0 _ (HS.out.get (by repeat (first | exact List.mem_cons_self | apply List.mem_cons_of_mem)))).mono ?_); rw [cA.out]; rintro e w' ⟨rfl, hb⟩; replace HS := Lib.hid (HS.out.step hb)) | (go_at_call 18; (with_reducible refine (check_arg B a1 n1 c1 _ (HS.out.get (by repeat (first | exact List.mem_cons_self | apply List.mem_cons_of_mem)))).mono ?_); rw [cB.out]; rintro e w' ⟨rfl, hb⟩; replace HS := Lib.hid (HS.out.step hb)) | (go_at_call 24; (with_reducible refine (make_any a0 n0 c0 A _ zA (HS.out.get (by repeat (first | exact List.mem_cons_self | apply List.mem_cons_of_mem)))).mono ?_); rw [m1.out]; rintro e w' ⟨ay, ny, cy, rfl, hx, hb⟩; dsimp only at hx; replace HS := Lib.hid ((HS.out.step hb).add hx)) | (go_at_call 34; (with_reducible refine (alike_yes ay a0 ny n0 cy c0 A A _ zA zA rfl (HS.out.get (by repeat (first | exact List.mem_cons_self | apply List.mem_cons_of_mem))) (HS.out.get (by repeat (first | exact List.mem_cons_self | apply List.mem_cons_of_mem)))).mono ?_); rintro e w' ⟨rfl, hb⟩; replace HS := Lib.hid (HS.out.step hb)) | (go_at_call 33; (with_reducible refine (within_any A B a0 a1 n0 n1 c0 c1 _ (HS.out.get (by repeat (first | exact List.mem_cons_self | apply List.mem_cons_of_mem))) (HS.out.get (by repeat (first | exact List.mem_cons_self | apply List.mem_cons_of_mem)))).mono ?_); rw [x1.out]; rintro e w' ⟨rfl, hb⟩; replace HS := Lib.hid (HS.out.step hb)) | (go_at_call 33; (with_reducible refine (within_any B A a1 a0 n1 n0 c1 c0 _ (HS.out.get (by repeat (first | exact List.mem_cons_self | apply List.mem_cons_of_mem))) (HS.out.get (by repeat (first | exact List.mem_cons_self | apply List.mem_cons_of_mem)))).mono ?_); rw [y1.out]; rintro e w' ⟨rfl, hb⟩; replace HS := Lib.hid (HS.out.step hb)) | (go_at_call 34; (with_reducible refine (alike_any a0 a1 n0 n1 c0 c1 A B _ zA zB (HS.out.get (by repeat (first | exact List.mem_cons_self | apply List.mem_cons_of_mem))) (HS.out.get (by repeat (first | exact List.mem_cons_self | apply List.mem_cons_of_mem)))).mono ?_); rw [m2.out]; rintro e w' ⟨rfl, hb⟩; replace HS := Lib.hid (HS.out.step hb)))
            go_ret
            exact ⟨rfl, HS.out.low⟩

    · clear hA hB
      go_enter Try.func10, Try.ntmps10
      go_wp2_with (first | (go_at_call 13; (with_reducible refine (few_yes a0 n0 c0 _ h0).mono ?_); rintro e w' ⟨rfl, rfl⟩) | (go_at_call 13; (with_reducible refine (few_no a1 n1 c1 B _ (HS.out.get (by repeat (first | exact List.mem_cons_self | apply List.mem_cons_of_mem))) h1).mono ?_); rintro e w' ⟨rfl, rfl⟩) | (go_at_call 14; refine (awake_any _).mono ?_; rintro e w' ⟨rfl, hb⟩; replace HS := Lib.hid (HS.out.step hb)))
      go_ret
      exact ⟨rfl, HS.out.low⟩
  · clear hA hB
    go_enter Try.func10, Try.ntmps10
    go_wp2_with (first | (go_at_call 13; (with_reducible refine (few_no a0 n0 c0 A _ (HS.out.get (by repeat (first | exact List.mem_cons_self | apply List.mem_cons_of_mem))) h0).mono ?_); rintro e w' ⟨rfl, rfl⟩) | (go_at_call 14; refine (awake_any _).mono ?_; rintro e w' ⟨rfl, hb⟩; replace HS := Lib.hid (HS.out.step hb)))
    go_ret
    exact ⟨rfl, HS.out.low⟩
end Go.Proofs.Ytelgigahjgjjiaa
