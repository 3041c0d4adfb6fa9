/-
  CONTRACT: the document's Check (of a mutation): additions, moves; all kinds.
-/
import Derived.Test.YtfnjadiibiedgabMutJ
namespace Go.Proofs.Ytfnjadiibiedgab
open Go.RowKit Go.Shelf

set_option maxRecDepth 100000 in
set_option maxHeartbeats 2000000 in
theorem rchk1 (c s : Int) (a : Option Addr) (n cp : Nat) (l : List Sp) (w : World) (hA : Arg w a n cp l) (hcs : 1 ≤ c ∧ c ≤ 1048576 ∧ 1 ≤ s ∧ s ≤ 1073741824) :
    Calls Try.prog 116 #[.agg #[.int .i64 c, .int .i64 s, .int .i64 1, .slice a n cp, .int .i64 0, .int .i64 0, .int .i64 0]] w (Gives w (.bool (chkM c s 1 l 0 0 0))) := by
  have hn := hA.1
  have hnz : (n : Int) ≤ 9223372036854775807 := by have := hA.2.1; omega
  have hb0 : Below w.heap.size w (w.alloc (.cells #[.int .i64 c, .int .i64 s, .int .i64 1, .slice a n cp, .int .i64 0, .int .i64 0, .int .i64 0] 51)) := (Below.refl _ _).alloc (Nat.le_refl _) _
  have hF : chkM c s 1 l 0 0 0 = ((btw 1 n 8 && okPs l) && riseB l) := by
    rw [chk_good hcs, hn]
    show (btw 1 l.length 8 && okPs l && riseB l) = _
    rfl
  obtain ⟨u1, u2, u3, u4⟩ := hcs
  have x1 : ¬ c < 1 := by omega
  have x2 : ¬ 1048576 < c := by omega
  have x3 : ¬ s < 1 := by omega
  have x4 : ¬ 1073741824 < s := by omega
  have hp := hA.2.2.2.2
  replace hA := Lib.hid hA
  obtain ⟨r, hr⟩ : ∃ r, (btw 1 n 8 && okPs l) = r := ⟨_, rfl⟩
  obtain ⟨q, hq⟩ : ∃ r, riseB l = r := ⟨_, rfl⟩
  rw [hr, hq] at hF
  replace hF := Lib.hid hF
  replace hr := Lib.hid hr
  replace hq := Lib.hid hq
  replace hn := Lib.hid hn
  replace hp := Lib.hid hp
  obtain ⟨W1, hW1⟩ : ∃ W1, (w.alloc (.cells #[.int .i64 c, .int .i64 s, .int .i64 1, .slice a n cp, .int .i64 0, .int .i64 0, .int .i64 0] 51)) = W1 := ⟨_, rfl⟩
  have K7 := Lib.hid (fun W (h : Below W1.heap.size W1 W) => box7 (w := w) (t := 51) (v0 := .int .i64 c) (v1 := .int .i64 s) (v2 := .int .i64 1) (v3 := .slice a n cp) (v4 := .int .i64 0) (v5 := .int .i64 0) (v6 := .int .i64 0) (w' := W) (by rw [hW1]; exact h))
  have s1 : w.heap.size ≤ W1.heap.size := by rw [← hW1]; simp
  rw [hW1] at hb0
  obtain ⟨z0, z1, z2, z3, z4, z5, z6⟩ := K7.out _ (Below.refl _ _)
  go_enter Try.func116, Try.ntmps116
  go_wp2_with fail
  clear z0 z1 z2 z3 z4 z5 z6
  replace hW1 := Lib.hid hW1
  clear x1 x2 x3 x4 u1 u2 u3 u4
  go_loopw [3] (fun i wr => ∃ (k : Nat), i = .int .i64 ((k : Int) + 1) ∧ (k < n ∨ k = 0) ∧ Hid (riseB (l.take (k + 1)) = true) ∧ Hid (Below W1.heap.size W1 wr))
    (fun i _ => n - (intOf i).toNat)
  case atStart =>
    refine ⟨0, rfl, .inr rfl, Lib.hid ?_, Lib.hid (Below.refl _ _)⟩
    cases l with
    | nil => rfl
    | cons x t => rfl
  case round =>
    obtain ⟨k, rfl, hk, HK, HL⟩ := hrel
    obtain ⟨_, _, _, c3, _, _, _⟩ := K7.out _ HL.out
    have hlow : Below w.heap.size w wr := hb0.trans (HL.out.mono s1)
    by_cases hlt : k + 1 < n
    · have hltz : (k : Int) + 1 < (n : Int) := by omega
      have hkz : (k : Int) < (n : Int) := by omega
      obtain ⟨b, off, e, hb, d0, _⟩ := (hp.out.below hlow) k (by rw [← hn.out]; omega)
      subst e
      obtain ⟨b', off', e, _, e0, _⟩ := (hp.out.below hlow) (k + 1) (by rw [← hn.out]; exact hlt)
      cases e
      obtain ⟨p, hpk⟩ : ∃ s, l.getD k (0, 0) = s := ⟨_, rfl⟩
      obtain ⟨q', hq'⟩ : ∃ s, l.getD (k + 1) (0, 0) = s := ⟨_, rfl⟩
      rw [hpk] at d0
      rw [hq'] at e0
      have hnext : riseB (l.take (k + 1 + 1)) = decide (p.1 < q'.1) := by
        have h1 := HK.out
        rw [take_more (k := k) (by rw [← hn.out]; omega)] at h1
        rw [take_more (k := k + 1) (by rw [← hn.out]; exact hlt), take_more (k := k) (by rw [← hn.out]; omega), riseB_snoc, h1, hpk, hq', Bool.true_and]
      replace hpk := Lib.hid hpk
      replace hq' := Lib.hid hq'
      obtain ⟨x, y⟩ := p
      obtain ⟨u, v⟩ := q'
      dsimp only at d0 e0 hnext
      rw [show off + (k + 1) * 2 = off + k * 2 + 2 from by omega] at e0
      have hks : (k : Int) + 1 - 1 = k := by omega
      have hkw : IntKind.i64.wrap ((k : Int) + 1 - 1) = k := by rw [hks]; exact IntWalk.i64_in _ (by omega)
      have ht : ((k : Int) + 1).toNat = k + 1 := by omega
      have hoff : off + (k + 1) * 2 = off + k * 2 + 2 := by omega
      replace hks := Lib.hid hks
      by_cases hxu : x < u
      · have hN := Lib.hid (hnext.trans (decide_eq_true hxu))
        have hd : decide (u ≤ x) = false := decide_eq_false (by omega)
        clear hnext hlow
        go_wp2_with fail
        go_quiet (fail)
        go_wp2
        go_roundw
        case rel => exact ⟨k + 1, by go_num, .inl hlt, hN, Lib.hid (below_drewN HL.out _)⟩
        case measure => simp [intOf]; omega
      · have hbad : q = false := by
          rw [← hq.out]
          cases hq'' : riseB l
          · rfl
          · have := riseB_pre (l.take (k + 1 + 1)) (l.drop (k + 1 + 1)) (by rw [List.take_append_drop]; exact hq'')
            rw [hnext, decide_eq_false hxu] at this; cases this
        subst hbad
        have hd : u ≤ x := by omega
        clear hnext
        go_wp2_with fail
        go_quiet (fail)
        go_wp2
        go_ret
        exact ⟨ret_bool (by rw [hF.out, Bool.and_false]), below_drewN hlow _⟩
    · have hnlt : ¬ (k : Int) + 1 < (n : Int) := by omega
      have hk' : l.take (k + 1) = l := List.take_of_length_le (by rw [← hn.out]; omega)
      have hfin := HK.out
      rw [hk', hq.out] at hfin
      subst hfin
      replace hk' := Lib.hid hk'
      have HB := Lib.hid (hA.out.below hlow)
      go_wp2_with (go_at_call 141; (with_reducible refine (pairs4_any 1 8 a n cp l _ HB.out).mono ?_); rw [hr.out]; rintro e w2 ⟨rfl, b2⟩; have b02 := below_next hlow b2)
      go_ret
      exact ⟨ret_bool (by rw [hF.out, Bool.and_true]), b02⟩

set_option maxRecDepth 100000 in
set_option maxHeartbeats 2000000 in
theorem rchk0 (c s k : Int) (a : Option Addr) (n cp : Nat) (l : List Sp) (w : World) (hA : Arg w a n cp l) (hcs : 1 ≤ c ∧ c ≤ 1048576 ∧ 1 ≤ s ∧ s ≤ 1073741824) (hk : k ≠ 1 ∧ k ≠ 2 ∧ k ≠ 3 ∧ k ≠ 4 ∧ k ≠ 5) :
    Calls Try.prog 116 #[.agg #[.int .i64 c, .int .i64 s, .int .i64 k, .slice a n cp, .int .i64 0, .int .i64 0, .int .i64 0]] w (Gives w (.bool (chkM c s k l 0 0 0))) := by
  have hn := hA.1
  have hnz : (n : Int) ≤ 9223372036854775807 := by have := hA.2.1; omega
  have hb0 : Below w.heap.size w (w.alloc (.cells #[.int .i64 c, .int .i64 s, .int .i64 k, .slice a n cp, .int .i64 0, .int .i64 0, .int .i64 0] 51)) := (Below.refl _ _).alloc (Nat.le_refl _) _
  have mixed : Try.prog.follows .mixedOrders = true := by kernel_rfl
  obtain ⟨q1, q2, q3, q4, q5⟩ := hk
  have hF := Lib.hid (show chkM c s k l 0 0 0 = false by rw [chk_good hcs]; unfold fitsB; rw [if_neg q1, if_neg q2, if_neg q3, if_neg q4, if_neg q5, Bool.and_false])
  generalize chkM c s k l 0 0 0 = r at hF
  have r1 : (k == 1) = false := by simpa using q1
  have r2 : (k == 2) = false := by simpa using q2
  have r3 : (k == 3) = false := by simpa using q3
  have r4 : (k == 4) = false := by simpa using q4
  have r5 : (k == 5) = false := by simpa using q5
  clear q1 q2 q3 q4 q5
  obtain ⟨u1, u2, u3, u4⟩ := hcs
  have x1 : ¬ c < 1 := by omega
  have x2 : ¬ 1048576 < c := by omega
  have x3 : ¬ s < 1 := by omega
  have x4 : ¬ 1073741824 < s := by omega
  clear hA hn
  obtain ⟨W1, hW1⟩ : ∃ W1, (w.alloc (.cells #[.int .i64 c, .int .i64 s, .int .i64 k, .slice a n cp, .int .i64 0, .int .i64 0, .int .i64 0] 51)) = W1 := ⟨_, rfl⟩
  have s0 : w.heap.size < W1.heap.size := by rw [← hW1]; simp
  have z0 : W1.cell? ⟨w.heap.size, 0, none⟩ = some (.int .i64 c) := by rw [← hW1]; simp
  have z1 : W1.cell? ⟨w.heap.size, 1, none⟩ = some (.int .i64 s) := by rw [← hW1]; simp
  have z2 : W1.cell? ⟨w.heap.size, 2, none⟩ = some (.int .i64 k) := by rw [← hW1]; simp
  have z3 : W1.cell? ⟨w.heap.size, 3, none⟩ = some (.slice a n cp) := by rw [← hW1]; simp
  have z4 : W1.cell? ⟨w.heap.size, 4, none⟩ = some (.int .i64 0) := by rw [← hW1]; simp
  have z5 : W1.cell? ⟨w.heap.size, 5, none⟩ = some (.int .i64 0) := by rw [← hW1]; simp
  have z6 : W1.cell? ⟨w.heap.size, 6, none⟩ = some (.int .i64 0) := by rw [← hW1]; simp
  have F2 : ∀ x : EnvW W1 [], x.W.cell? ⟨w.heap.size, 2, none⟩ = some (.int .i64 k) := fun x => (x.h.low.cell (p := ⟨w.heap.size, 2, none⟩) s0).trans z2
  have F3 : ∀ x : EnvW W1 [], x.W.cell? ⟨w.heap.size, 3, none⟩ = some (.slice a n cp) := fun x => (x.h.low.cell (p := ⟨w.heap.size, 3, none⟩) s0).trans z3
  have hE : Env W1 W1 [] := Env.mk (L := []) (Below.refl W1.heap.size W1) (by simp)
  have hne : Nonempty (EnvW W1 []) := ⟨⟨_, hE⟩⟩
  rw [hW1] at hb0
  go_enter Try.func116, Try.ntmps116
  go_wp2
  replace hW1 := Lib.hid hW1
  refine wp_region_quiet_env hE mixed (by kernel_rfl) ?_
  repeat (first | go_big_quiet_step (fail) | quiet_step (fail))
  refine wpQuiet_nil ?_
  intro _ hw'
  obtain ⟨⟨W9, hE9⟩, hw''⟩ := hw'
  subst hw''
  go_wp2
  go_ret
  exact ⟨ret_bool (by rw [hF.out]), hb0.trans (hE9.low.mono (Nat.le_of_lt s0))⟩

set_option maxRecDepth 100000 in
set_option maxHeartbeats 2000000 in
theorem rchk5 (c s : Int) (a : Option Addr) (n cp : Nat) (l : List Sp) (w : World) (hA : Arg w a n cp l) (hcs : 1 ≤ c ∧ c ≤ 1048576 ∧ 1 ≤ s ∧ s ≤ 1073741824) :
    Calls Try.prog 116 #[.agg #[.int .i64 c, .int .i64 s, .int .i64 5, .slice a n cp, .int .i64 0, .int .i64 0, .int .i64 0]] w (Gives w (.bool (chkM c s 5 l 0 0 0))) := by
  have hn := hA.1
  have hnz : (n : Int) ≤ 9223372036854775807 := by have := hA.2.1; omega
  have hb0 : Below w.heap.size w (w.alloc (.cells #[.int .i64 c, .int .i64 s, .int .i64 5, .slice a n cp, .int .i64 0, .int .i64 0, .int .i64 0] 51)) := (Below.refl _ _).alloc (Nat.le_refl _) _
  have mixed : Try.prog.follows .mixedOrders = true := by kernel_rfl
  have hF : chkM c s 5 l 0 0 0 = ((btw 2 n 2 && okPs l) && moveB (l.getD 0 (0, 0)) (l.getD 1 (0, 0))) := by
    rw [chk_good hcs, show btw 2 n 2 = (n == 2) from btw_one 2 n, hn]
    show ((l.length == 2) && okPs l && moveB (l.getD 0 (0, 0)) (l.getD 1 (0, 0))) = _
    rfl
  generalize chkM c s 5 l 0 0 0 = res at hF
  obtain ⟨u1, u2, u3, u4⟩ := hcs
  have x1 : ¬ c < 1 := by omega
  have x2 : ¬ 1048576 < c := by omega
  have x3 : ¬ s < 1 := by omega
  have x4 : ¬ 1073741824 < s := by omega
  cases hr : (btw 2 n 2 && okPs l)
  · rw [hr, Bool.false_and] at hF
    replace hF := Lib.hid hF
    have hA9 := Lib.hid (hA.below hb0)
    clear hA hn
    obtain ⟨W1, hW1⟩ : ∃ W1, (w.alloc (.cells #[.int .i64 c, .int .i64 s, .int .i64 5, .slice a n cp, .int .i64 0, .int .i64 0, .int .i64 0] 51)) = W1 := ⟨_, rfl⟩
    rw [hW1] at hA9 hb0
    have s0 : w.heap.size < W1.heap.size := by rw [← hW1]; simp
    have z0 : W1.cell? ⟨w.heap.size, 0, none⟩ = some (.int .i64 c) := by rw [← hW1]; simp
    have z1 : W1.cell? ⟨w.heap.size, 1, none⟩ = some (.int .i64 s) := by rw [← hW1]; simp
    have z2 : W1.cell? ⟨w.heap.size, 2, none⟩ = some (.int .i64 5) := by rw [← hW1]; simp
    have z3 : W1.cell? ⟨w.heap.size, 3, none⟩ = some (.slice a n cp) := by rw [← hW1]; simp
    have z4 : W1.cell? ⟨w.heap.size, 4, none⟩ = some (.int .i64 0) := by rw [← hW1]; simp
    have z5 : W1.cell? ⟨w.heap.size, 5, none⟩ = some (.int .i64 0) := by rw [← hW1]; simp
    have z6 : W1.cell? ⟨w.heap.size, 6, none⟩ = some (.int .i64 0) := by rw [← hW1]; simp
    have F2 : ∀ x : EnvW W1 [(a, n, cp, l)], x.W.cell? ⟨w.heap.size, 2, none⟩ = some (.int .i64 5) := fun x => (x.h.low.cell (p := ⟨w.heap.size, 2, none⟩) s0).trans z2
    have F3 : ∀ x : EnvW W1 [(a, n, cp, l)], x.W.cell? ⟨w.heap.size, 3, none⟩ = some (.slice a n cp) := fun x => (x.h.low.cell (p := ⟨w.heap.size, 3, none⟩) s0).trans z3
    have hE : Env W1 W1 [(a, n, cp, l)] := (Env.mk (L := []) (Below.refl W1.heap.size W1) (by simp)).add hA9.out
    have hne : Nonempty (EnvW W1 [(a, n, cp, l)]) := ⟨⟨_, hE⟩⟩
    have C2 := Lib.hid (fun (z : EnvW W1 [(a, n, cp, l)]) => hr ▸ env_of z (pairs4_any 2 2 a n cp l z.W (z.h.get List.mem_cons_self)))
    replace hr := Lib.hid hr
    go_enter Try.func116, Try.ntmps116
    go_wp2
    replace hW1 := Lib.hid hW1
    refine wp_region_quiet_env hE mixed (by kernel_rfl) ?_
    repeat (first | go_big_quiet_step ((first | (go_at_call 141; with_reducible exact C2.out _))) | quiet_step ((first | (go_at_call 141; with_reducible exact C2.out _))))
    refine wpQuiet_nil ?_
    intro _ hw'
    obtain ⟨⟨W9, hE9⟩, hw''⟩ := hw'
    subst hw''
    go_wp2
    go_ret
    exact ⟨ret_bool (by rw [hF.out]), hb0.trans (hE9.low.mono (Nat.le_of_lt s0))⟩

  · have h2 : n = 2 := by
      rw [Bool.and_eq_true, show btw 2 n 2 = (n == 2) from btw_one 2 n] at hr
      simpa using hr.1
    subst h2
    obtain ⟨p, q, rfl⟩ : ∃ p q, l = [p, q] := by
      match l, hn with
      | [p, q], _ => exact ⟨p, q, rfl⟩
    obtain ⟨_, b, off, rfl, hb, _⟩ := hA.two
    have hA9 := Lib.hid (hA.below hb0)
    clear hA hn
    rw [hr, Bool.true_and] at hF
    obtain ⟨x, y⟩ := p
    obtain ⟨u, v⟩ := q
    have hG : res = ((x != u) && (y == v) && decide (0 ≤ y)) := hF
    clear hF
    obtain ⟨W1, hW1⟩ : ∃ W1, (w.alloc (.cells #[.int .i64 c, .int .i64 s, .int .i64 5, .slice (some ⟨b, off, none⟩) 2 cp, .int .i64 0, .int .i64 0, .int .i64 0] 51)) = W1 := ⟨_, rfl⟩
    rw [hW1] at hA9 hb0
    have s0 : w.heap.size < W1.heap.size := by rw [← hW1]; simp
    have z0 : W1.cell? ⟨w.heap.size, 0, none⟩ = some (.int .i64 c) := by rw [← hW1]; simp
    have z1 : W1.cell? ⟨w.heap.size, 1, none⟩ = some (.int .i64 s) := by rw [← hW1]; simp
    have z2 : W1.cell? ⟨w.heap.size, 2, none⟩ = some (.int .i64 5) := by rw [← hW1]; simp
    have z3 : W1.cell? ⟨w.heap.size, 3, none⟩ = some (.slice (some ⟨b, off, none⟩) 2 cp) := by rw [← hW1]; simp
    have z4 : W1.cell? ⟨w.heap.size, 4, none⟩ = some (.int .i64 0) := by rw [← hW1]; simp
    have z5 : W1.cell? ⟨w.heap.size, 5, none⟩ = some (.int .i64 0) := by rw [← hW1]; simp
    have z6 : W1.cell? ⟨w.heap.size, 6, none⟩ = some (.int .i64 0) := by rw [← hW1]; simp
    have F2 : ∀ x : EnvW W1 [(some (⟨b, off, none⟩ : Addr), 2, cp, [(x, y), (u, v)])], x.W.cell? ⟨w.heap.size, 2, none⟩ = some (.int .i64 5) := fun x => (x.h.low.cell (p := ⟨w.heap.size, 2, none⟩) s0).trans z2
    have F3 : ∀ x : EnvW W1 [(some (⟨b, off, none⟩ : Addr), 2, cp, [(x, y), (u, v)])], x.W.cell? ⟨w.heap.size, 3, none⟩ = some (.slice (some ⟨b, off, none⟩) 2 cp) := fun x => (x.h.low.cell (p := ⟨w.heap.size, 3, none⟩) s0).trans z3
    have hE : Env W1 W1 [(some (⟨b, off, none⟩ : Addr), 2, cp, [(x, y), (u, v)])] := (Env.mk (L := []) (Below.refl W1.heap.size W1) (by simp)).add hA9.out
    have hne : Nonempty (EnvW W1 [(some (⟨b, off, none⟩ : Addr), 2, cp, [(x, y), (u, v)])]) := ⟨⟨_, hE⟩⟩
    have P : ∀ e : EnvW W1 [(some (⟨b, off, none⟩ : Addr), 2, cp, [(x, y), (u, v)])], e.W.cell? ⟨b, off, none⟩ = some (.int .i64 x) ∧ e.W.cell? ⟨b, off + 1, none⟩ = some (.int .i64 y) ∧ e.W.cell? ⟨b, off + 2, none⟩ = some (.int .i64 u) ∧ e.W.cell? ⟨b, off + 2 + 1, none⟩ = some (.int .i64 v) := fun e => by
      obtain ⟨_, b', off', e, _, h1, h2, h3, h4⟩ := (e.h.get List.mem_cons_self).two
      cases e
      exact ⟨h1, h2, h3, h4⟩
    have P0 := fun e => (P e).1
    have P1 := fun e => (P e).2.1
    have P2 := fun e => (P e).2.2.1
    have P3 := fun e => (P e).2.2.2
    have P4 : ∀ e : EnvW W1 [(some (⟨b, off, none⟩ : Addr), 2, cp, [(x, y), (u, v)])], e.W.cell? ⟨b, off + 3, none⟩ = some (.int .i64 v) := P3
    clear P
    have C2 := Lib.hid (fun (z : EnvW W1 [(some (⟨b, off, none⟩ : Addr), 2, cp, [(x, y), (u, v)])]) => hr ▸ env_of z (pairs4_any 2 2 (some ⟨b, off, none⟩) 2 cp [(x, y), (u, v)] z.W (z.h.get List.mem_cons_self)))
    replace hr := Lib.hid hr
    by_cases e1 : x = u
    · subst e1
      have hF := Lib.hid (show res = false by rw [hG]; simp)
      clear hG
      go_enter Try.func116, Try.ntmps116
      go_wp2
      replace hW1 := Lib.hid hW1
      refine wp_region_quiet_env hE mixed (by kernel_rfl) ?_
      repeat (first | go_big_quiet_step ((first | (go_at_call 141; with_reducible exact C2.out _))) | quiet_step ((first | (go_at_call 141; with_reducible exact C2.out _))))
      refine wpQuiet_nil ?_
      intro _ hw'
      obtain ⟨⟨W9, hE9⟩, hw''⟩ := hw'
      subst hw''
      go_wp2
      go_ret
      exact ⟨ret_bool (by rw [hF.out]), hb0.trans (hE9.low.mono (Nat.le_of_lt s0))⟩

    · have e1' : (x != u) = true := by simpa using e1
      by_cases e2 : y = v
      · subst e2
        by_cases e3 : 0 ≤ y
        · have hF := Lib.hid (show res = true by rw [hG]; simp [e1, e3])
          clear hG e1
          go_enter Try.func116, Try.ntmps116
          go_wp2
          replace hW1 := Lib.hid hW1
          refine wp_region_quiet_env hE mixed (by kernel_rfl) ?_
          repeat (first | go_big_quiet_step ((first | (go_at_call 141; with_reducible exact C2.out _))) | quiet_step ((first | (go_at_call 141; with_reducible exact C2.out _))))
          refine wpQuiet_nil ?_
          intro _ hw'
          obtain ⟨⟨W9, hE9⟩, hw''⟩ := hw'
          subst hw''
          go_wp2
          go_ret
          exact ⟨ret_bool (by rw [hF.out]), hb0.trans (hE9.low.mono (Nat.le_of_lt s0))⟩

        · have hF := Lib.hid (show res = false by rw [hG]; simp [e3])
          have e3' : decide (0 ≤ y) = false := decide_eq_false e3
          clear hG e1
          go_enter Try.func116, Try.ntmps116
          go_wp2
          replace hW1 := Lib.hid hW1
          refine wp_region_quiet_env hE mixed (by kernel_rfl) ?_
          repeat (first | go_big_quiet_step ((first | (go_at_call 141; with_reducible exact C2.out _))) | quiet_step ((first | (go_at_call 141; with_reducible exact C2.out _))))
          refine wpQuiet_nil ?_
          intro _ hw'
          obtain ⟨⟨W9, hE9⟩, hw''⟩ := hw'
          subst hw''
          go_wp2
          go_ret
          exact ⟨ret_bool (by rw [hF.out]), hb0.trans (hE9.low.mono (Nat.le_of_lt s0))⟩

      · have e2' : (y == v) = false := by simpa using e2
        have hF := Lib.hid (show res = false by rw [hG, e2']; simp)
        clear hG e1 e2
        go_enter Try.func116, Try.ntmps116
        go_wp2
        replace hW1 := Lib.hid hW1
        refine wp_region_quiet_env hE mixed (by kernel_rfl) ?_
        repeat (first | go_big_quiet_step ((first | (go_at_call 141; with_reducible exact C2.out _))) | quiet_step ((first | (go_at_call 141; with_reducible exact C2.out _))))
        refine wpQuiet_nil ?_
        intro _ hw'
        obtain ⟨⟨W9, hE9⟩, hw''⟩ := hw'
        subst hw''
        go_wp2
        go_ret
        exact ⟨ret_bool (by rw [hF.out]), hb0.trans (hE9.low.mono (Nat.le_of_lt s0))⟩

set_option maxRecDepth 100000 in
theorem rcheck4_any (c s k : Int) (a : Option Addr) (n cp : Nat) (l : List Sp) (lo hi old : Int) (w : World) (hA : Arg w a n cp l) :
    Calls Try.prog 116 #[.agg #[.int .i64 c, .int .i64 s, .int .i64 k, .slice a n cp, .int .i64 lo, .int .i64 hi, .int .i64 old]] w (Gives w (.bool (chkM c s k l lo hi old))) := by
  by_cases hcs : 1 ≤ c ∧ c ≤ 1048576 ∧ 1 ≤ s ∧ s ≤ 1073741824
  · by_cases k2 : k = 2
    · subst k2; exact rchk2 c s a n cp l lo hi old w hA hcs
    · by_cases ho : lo = 0 ∧ hi = 0
      · obtain ⟨rfl, rfl⟩ := ho
        by_cases k4 : k = 4
        · subst k4; exact rchk4 c s a n cp l old w hA hcs
        · by_cases o0 : old = 0
          · subst o0
            by_cases k1 : k = 1
            · subst k1; exact rchk1 c s a n cp l w hA hcs
            · by_cases k3 : k = 3
              · subst k3; exact rchk3 c s a n cp l w hA hcs
              · by_cases k5 : k = 5
                · subst k5; exact rchk5 c s a n cp l w hA hcs
                · exact rchk0 c s k a n cp l w hA hcs ⟨k1, k2, k3, k4, k5⟩
          · exact rchkOld c s k a n cp l old w hA hcs (by simpa using k2) (by simpa using k4) o0
      · exact rchkOver c s k a n cp l lo hi old w hA hcs (by simpa using k2) ho
  · exact rchk_out c s k a n cp l lo hi old w hA hcs
end Go.Proofs.Ytfnjadiibiedgab
