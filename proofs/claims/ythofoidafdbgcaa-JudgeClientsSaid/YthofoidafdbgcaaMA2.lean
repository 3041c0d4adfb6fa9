/-
  MutC, MutD, Tch, MutE: one text.
-/
import Derived.Test.YthofoidafdbgcaaMA1
import Derived.Test.YthofoidafdbgcaaSD
/-
  CONTRACTS of fits and of Check (of a mutation).
-/
namespace Go.Proofs.Ythofoidafdbgcaa
open Go.RowKit Go.Shelf

set_option maxRecDepth 100000 in
set_option maxHeartbeats 2000000 in
theorem fits1 (c s : Int) (a : Option Addr) (n cp : Nat) (l : List Sp) (lo hi old : Int) (w : World) (hA : Arg w a n cp l) :
    Calls Try.prog 49 #[.agg #[.int .i64 c, .int .i64 s, .int .i64 1, .slice a n cp, .int .i64 lo, .int .i64 hi, .int .i64 old]] w (Gives w (.bool (fitsB 1 l lo hi old))) := by
  have hn := hA.1
  have hnz : (n : Int) ≤ 9223372036854775807 := by have := hA.2.1; omega
  have hb0 : Below w.heap.size w (w.alloc (.cells #[.int .i64 c, .int .i64 s, .int .i64 1, .slice a n cp, .int .i64 lo, .int .i64 hi, .int .i64 old] 42)) := (Below.refl _ _).alloc (Nat.le_refl _) _
  replace hA := Lib.hid hA
  have HA := hA
  have hF : fitsB 1 l lo hi old = (btw 1 n 8 && okPs l && riseB l) := by rw [hn]; rfl
  replace hn := Lib.hid hn
  cases h1 : btw 1 (n : Int) 8
  · have H := Lib.hid (hF.trans (by rw [h1]))
    replace h1 := Lib.hid h1
    clear hF
    go_enter Try.func49, Try.ntmps49
    go_wp2_with (first | (go_at_call 47; (with_reducible refine (between_any _ _ _ _).mono ?_); rw [h1.out]; rintro e w' ⟨rfl, rfl⟩))
    go_ret
    exact ⟨ret_bool H.out.symm, hb0⟩
  · cases h2 : okPs l
    · have H := Lib.hid (hF.trans (by rw [h1, h2]))
      replace h1 := Lib.hid h1
      replace h2 := Lib.hid h2
      clear hF
      go_enter Try.func49, Try.ntmps49
      go_wp2_with (first | (go_at_call 47; (with_reducible refine (between_any _ _ _ _).mono ?_); rw [h1.out]; rintro e w' ⟨rfl, rfl⟩) | (go_at_call 71; (with_reducible refine (areValid_any a n cp l _ (HA.out.below hb0)).mono ?_); rw [h2.out]; rintro e w2 ⟨rfl, b2⟩; obtain ⟨g0, g1, g2, g3, g4, g5, g6⟩ := box7 b2; have b02 := below_next hb0 b2))
      go_ret
      exact ⟨ret_bool H.out.symm, b02⟩
    · cases h3 : riseB l
      all_goals
        have H := Lib.hid (hF.trans (by rw [h1, h2, h3]))
        replace h1' := Lib.hid h1
        replace h2' := Lib.hid h2
        replace h3' := Lib.hid h3
        clear hF h1 h2 h3
        go_enter Try.func49, Try.ntmps49
        go_wp2_with (first | (go_at_call 47; (with_reducible refine (between_any _ _ _ _).mono ?_); rw [h1'.out]; rintro e w' ⟨rfl, rfl⟩) | (go_at_call 71; (with_reducible refine (areValid_any a n cp l _ (HA.out.below hb0)).mono ?_); rw [h2'.out]; rintro e w2 ⟨rfl, b2⟩; obtain ⟨g0, g1, g2, g3, g4, g5, g6⟩ := box7 b2; have b02 := below_next hb0 b2) | (go_at_call 72; (with_reducible refine (rise_any a n cp l _ (HA.out.below b02)).mono ?_); rw [h3'.out]; rintro e w3 ⟨rfl, b3⟩; have b03 := below_next b02 b3))
        go_ret
        exact ⟨ret_bool H.out.symm, b03⟩

set_option maxRecDepth 100000 in
set_option maxHeartbeats 2000000 in
theorem fits2 (c s : Int) (a : Option Addr) (n cp : Nat) (l : List Sp) (lo hi old : Int) (w : World) (hA : Arg w a n cp l) :
    Calls Try.prog 49 #[.agg #[.int .i64 c, .int .i64 s, .int .i64 2, .slice a n cp, .int .i64 lo, .int .i64 hi, .int .i64 old]] w (Gives w (.bool (fitsB 2 l lo hi old))) := by
  have hn := hA.1
  have hnz : (n : Int) ≤ 9223372036854775807 := by have := hA.2.1; omega
  have hb0 : Below w.heap.size w (w.alloc (.cells #[.int .i64 c, .int .i64 s, .int .i64 2, .slice a n cp, .int .i64 lo, .int .i64 hi, .int .i64 old] 42)) := (Below.refl _ _).alloc (Nat.le_refl _) _
  replace hA := Lib.hid hA
  have HA := hA
  have hF : fitsB 2 l lo hi old = ((n == 0) && oneB (lo, hi)) := by rw [hn]; rfl
  replace hn := Lib.hid hn
  by_cases n0 : n = 0
  · subst n0
    cases h2 : oneB (lo, hi)
    all_goals
      have H := Lib.hid (hF.trans (by rw [h2]))
      replace h2' := Lib.hid h2
      clear hF h2
      go_enter Try.func49, Try.ntmps49
      go_wp2_with (first | (go_at_call 55; (with_reducible refine (one_any (lo, hi) _).mono ?_); rw [h2'.out]; rintro e w2 ⟨rfl, b2⟩; have b02 := below_next hb0 b2))
      go_ret
      exact ⟨ret_bool H.out.symm, b02⟩
  · have nb : ((n : Int) == 0) = false := by simp; omega
    have H := Lib.hid (hF.trans (show _ = false by rw [show (n == 0) = false from by simpa using n0]; rfl))
    clear hF
    go_enter Try.func49, Try.ntmps49
    go_wp2
    go_ret
    exact ⟨ret_bool H.out.symm, hb0⟩

set_option maxRecDepth 100000 in
set_option maxHeartbeats 2000000 in
theorem fits3 (c s : Int) (a : Option Addr) (n cp : Nat) (l : List Sp) (lo hi old : Int) (w : World) (hA : Arg w a n cp l) :
    Calls Try.prog 49 #[.agg #[.int .i64 c, .int .i64 s, .int .i64 3, .slice a n cp, .int .i64 lo, .int .i64 hi, .int .i64 old]] w (Gives w (.bool (fitsB 3 l lo hi old))) := by
  have hn := hA.1
  have hnz : (n : Int) ≤ 9223372036854775807 := by have := hA.2.1; omega
  have hb0 : Below w.heap.size w (w.alloc (.cells #[.int .i64 c, .int .i64 s, .int .i64 3, .slice a n cp, .int .i64 lo, .int .i64 hi, .int .i64 old] 42)) := (Below.refl _ _).alloc (Nat.le_refl _) _
  replace hA := Lib.hid hA
  have HA := hA
  have hF : fitsB 3 l lo hi old = ((n == 1) && okPs l) := by rw [hn]; rfl
  replace hn := Lib.hid hn
  by_cases n0 : n = 1
  · subst n0
    cases h2 : okPs l
    all_goals
      have H := Lib.hid (hF.trans (by rw [h2]))
      replace h2' := Lib.hid h2
      clear hF h2
      go_enter Try.func49, Try.ntmps49
      go_wp2_with (first | (go_at_call 71; (with_reducible refine (areValid_any a 1 cp l _ (HA.out.below hb0)).mono ?_); rw [h2'.out]; rintro e w2 ⟨rfl, b2⟩; obtain ⟨g0, g1, g2, g3, g4, g5, g6⟩ := box7 b2; have b02 := below_next hb0 b2))
      go_ret
      exact ⟨ret_bool H.out.symm, b02⟩
  · have nb : ((n : Int) == 1) = false := by simp; omega
    have H := Lib.hid (hF.trans (show _ = false by rw [show (n == 1) = false from by simpa using n0]; rfl))
    clear hF
    go_enter Try.func49, Try.ntmps49
    go_wp2
    go_ret
    exact ⟨ret_bool H.out.symm, hb0⟩

set_option maxRecDepth 100000 in
set_option maxHeartbeats 2000000 in
theorem fits4 (c s : Int) (a : Option Addr) (n cp : Nat) (l : List Sp) (lo hi old : Int) (w : World) (hA : Arg w a n cp l) :
    Calls Try.prog 49 #[.agg #[.int .i64 c, .int .i64 s, .int .i64 4, .slice a n cp, .int .i64 lo, .int .i64 hi, .int .i64 old]] w (Gives w (.bool (fitsB 4 l lo hi old))) := by
  have hn := hA.1
  have hnz : (n : Int) ≤ 9223372036854775807 := by have := hA.2.1; omega
  have hb0 : Below w.heap.size w (w.alloc (.cells #[.int .i64 c, .int .i64 s, .int .i64 4, .slice a n cp, .int .i64 lo, .int .i64 hi, .int .i64 old] 42)) := (Below.refl _ _).alloc (Nat.le_refl _) _
  replace hA := Lib.hid hA
  have HA := hA
  have hF : fitsB 4 l lo hi old = ((n == 1) && okPs l && (isVal old || old == 1099511627777)) := by rw [hn]; rfl
  replace hn := Lib.hid hn
  by_cases n0 : n = 1
  · subst n0
    cases h2 : okPs l
    · have H := Lib.hid (hF.trans (by rw [h2]))
      replace h2 := Lib.hid h2
      clear hF
      go_enter Try.func49, Try.ntmps49
      go_wp2_with (first | (go_at_call 71; (with_reducible refine (areValid_any a 1 cp l _ (HA.out.below hb0)).mono ?_); rw [h2.out]; rintro e w2 ⟨rfl, b2⟩; obtain ⟨g0, g1, g2, g3, g4, g5, g6⟩ := box7 b2; have b02 := below_next hb0 b2))
      go_ret
      exact ⟨ret_bool H.out.symm, b02⟩
    · cases h3 : isVal old
      · cases h4 : (old == 1099511627777)
        all_goals
          have H := Lib.hid (hF.trans (by rw [h2, h3, h4]))
          replace h2' := Lib.hid h2
          replace h3' := Lib.hid h3
          clear hF h2 h3
          go_enter Try.func49, Try.ntmps49
          go_wp2_with (first | (go_at_call 71; (with_reducible refine (areValid_any a 1 cp l _ (HA.out.below hb0)).mono ?_); rw [h2'.out]; rintro e w2 ⟨rfl, b2⟩; obtain ⟨g0, g1, g2, g3, g4, g5, g6⟩ := box7 b2; have b02 := below_next hb0 b2) | (go_at_call 73; (with_reducible refine (isValue_any old _).mono ?_); rw [h3'.out]; rintro e w' ⟨rfl, rfl⟩))
          go_ret
          exact ⟨ret_bool H.out.symm, b02⟩
      · have H := Lib.hid (hF.trans (by rw [h2, h3]))
        replace h2 := Lib.hid h2
        replace h3 := Lib.hid h3
        clear hF
        go_enter Try.func49, Try.ntmps49
        go_wp2_with (first | (go_at_call 71; (with_reducible refine (areValid_any a 1 cp l _ (HA.out.below hb0)).mono ?_); rw [h2.out]; rintro e w2 ⟨rfl, b2⟩; obtain ⟨g0, g1, g2, g3, g4, g5, g6⟩ := box7 b2; have b02 := below_next hb0 b2) | (go_at_call 73; (with_reducible refine (isValue_any old _).mono ?_); rw [h3.out]; rintro e w' ⟨rfl, rfl⟩))
        go_ret
        exact ⟨ret_bool H.out.symm, b02⟩
  · have nb : ((n : Int) == 1) = false := by simp; omega
    have H := Lib.hid (hF.trans (show _ = false by rw [show (n == 1) = false from by simpa using n0]; rfl))
    clear hF
    go_enter Try.func49, Try.ntmps49
    go_wp2
    go_ret
    exact ⟨ret_bool H.out.symm, hb0⟩

set_option maxRecDepth 100000 in
set_option maxHeartbeats 2000000 in
theorem fits0 (c s k : Int) (a : Option Addr) (n cp : Nat) (l : List Sp) (lo hi old : Int) (w : World) (hA : Arg w a n cp l) (hk : k ≠ 1 ∧ k ≠ 2 ∧ k ≠ 3 ∧ k ≠ 4 ∧ k ≠ 5) :
    Calls Try.prog 49 #[.agg #[.int .i64 c, .int .i64 s, .int .i64 k, .slice a n cp, .int .i64 lo, .int .i64 hi, .int .i64 old]] w (Gives w (.bool (fitsB k l lo hi old))) := by
  have hn := hA.1
  have hnz : (n : Int) ≤ 9223372036854775807 := by have := hA.2.1; omega
  have hb0 : Below w.heap.size w (w.alloc (.cells #[.int .i64 c, .int .i64 s, .int .i64 k, .slice a n cp, .int .i64 lo, .int .i64 hi, .int .i64 old] 42)) := (Below.refl _ _).alloc (Nat.le_refl _) _
  replace hA := Lib.hid hA
  have HA := hA
  obtain ⟨q1, q2, q3, q4, q5⟩ := hk
  have H := Lib.hid (show fitsB k l lo hi old = false by unfold fitsB; rw [if_neg q1, if_neg q2, if_neg q3, if_neg q4, if_neg q5])
  have r1 : (k == 1) = false := by simpa using q1
  have r2 : (k == 2) = false := by simpa using q2
  have r3 : (k == 3) = false := by simpa using q3
  have r4 : (k == 4) = false := by simpa using q4
  have r5 : (k == 5) = false := by simpa using q5
  replace hn := Lib.hid hn
  go_enter Try.func49, Try.ntmps49
  go_wp2
  go_ret
  exact ⟨ret_bool H.out.symm, hb0⟩

set_option maxRecDepth 100000 in
set_option maxHeartbeats 2000000 in
theorem fits5 (c s : Int) (a : Option Addr) (n cp : Nat) (l : List Sp) (lo hi old : Int) (w : World) (hA : Arg w a n cp l) :
    Calls Try.prog 49 #[.agg #[.int .i64 c, .int .i64 s, .int .i64 5, .slice a n cp, .int .i64 lo, .int .i64 hi, .int .i64 old]] w (Gives w (.bool (fitsB 5 l lo hi old))) := by
  have hn := hA.1
  have hnz : (n : Int) ≤ 9223372036854775807 := by have := hA.2.1; omega
  have hb0 : Below w.heap.size w (w.alloc (.cells #[.int .i64 c, .int .i64 s, .int .i64 5, .slice a n cp, .int .i64 lo, .int .i64 hi, .int .i64 old] 42)) := (Below.refl _ _).alloc (Nat.le_refl _) _
  replace hA := Lib.hid hA
  have HA := hA
  have mixed : Try.prog.follows .mixedOrders = true := by kernel_rfl
  have hF : fitsB 5 l lo hi old = ((n == 2) && okPs l && moveB (l.getD 0 (0, 0)) (l.getD 1 (0, 0))) := by rw [hn]; rfl
  by_cases n0 : n = 2
  · subst n0
    obtain ⟨p, q, rfl⟩ : ∃ p q, l = [p, q] := by
      match l, hn with
      | [p, q], _ => exact ⟨p, q, rfl⟩
    obtain ⟨_, b, off, rfl, hb, _⟩ := hA.out.two
    have s0 : w.heap.size < (w.alloc (.cells #[.int .i64 c, .int .i64 s, .int .i64 5, .slice (some ⟨b, off, none⟩) 2 cp, .int .i64 lo, .int .i64 hi, .int .i64 old] 42)).heap.size := by simp
    obtain ⟨W1, hW1⟩ : ∃ W1, w.alloc (.cells #[.int .i64 c, .int .i64 s, .int .i64 5, .slice (some ⟨b, off, none⟩) 2 cp, .int .i64 lo, .int .i64 hi, .int .i64 old] 42) = W1 := ⟨_, rfl⟩
    have hE : Env W1 W1 [(some (⟨b, off, none⟩ : Addr), 2, cp, [p, q])] := (Env.mk (L := []) (Below.refl W1.heap.size W1) (by simp)).add (by rw [← hW1]; exact hA.out.below hb0)
    have c3 : W1.cell? ⟨w.heap.size, 3, none⟩ = some (.slice (some ⟨b, off, none⟩) 2 cp) := by rw [← hW1]; simp
    have k2 : W1.cell? ⟨w.heap.size, 2, none⟩ = some (.int .i64 5) := by rw [← hW1]; simp
    rw [hW1] at s0 hb0
    have F3 : ∀ x : EnvW W1 [(some (⟨b, off, none⟩ : Addr), 2, cp, [p, q])], x.W.cell? ⟨w.heap.size, 3, none⟩ = some (.slice (some ⟨b, off, none⟩) 2 cp) := fun x => (x.h.low.cell (p := ⟨w.heap.size, 3, none⟩) s0).trans c3
    have P : ∀ x : EnvW W1 [(some (⟨b, off, none⟩ : Addr), 2, cp, [p, q])], x.W.cell? ⟨b, off, none⟩ = some (.int .i64 p.1) ∧ x.W.cell? ⟨b, off + 1, none⟩ = some (.int .i64 p.2) ∧ x.W.cell? ⟨b, off + 2, none⟩ = some (.int .i64 q.1) ∧ x.W.cell? ⟨b, off + 2 + 1, none⟩ = some (.int .i64 q.2) := fun x => by
      obtain ⟨_, b', off', e, _, h1, h2, h3, h4⟩ := (x.h.get List.mem_cons_self).two
      cases e
      exact ⟨h1, h2, h3, h4⟩
    have P0 := fun x => (P x).1
    have P1 := fun x => (P x).2.1
    have P2 := fun x => (P x).2.2.1
    have P3 := fun x => (P x).2.2.2
    have P4 : ∀ x : EnvW W1 [(some (⟨b, off, none⟩ : Addr), 2, cp, [p, q])], x.W.cell? ⟨b, off + 3, none⟩ = some (.int .i64 q.2) := P3
    have hne : Nonempty (EnvW W1 [(some (⟨b, off, none⟩ : Addr), 2, cp, [p, q])]) := ⟨⟨_, hE⟩⟩
    clear P
    obtain ⟨x, y⟩ := p
    obtain ⟨u, v⟩ := q
    dsimp only at P0 P1 P2 P3 P4
    replace hn := Lib.hid hn
    have hF' : fitsB 5 [(x, y), (u, v)] lo hi old = (okPs [(x, y), (u, v)] && moveB (x, y) (u, v)) := hF
    clear hF
    cases h2 : okPs [(x, y), (u, v)]
    · have H := Lib.hid (hF'.trans (by rw [h2]))
      have C2 := Lib.hid (fun (z : EnvW W1 [(some (⟨b, off, none⟩ : Addr), 2, cp, [(x, y), (u, v)])]) => h2 ▸ env_of z (areValid_any (some ⟨b, off, none⟩) 2 cp [(x, y), (u, v)] z.W (z.h.get List.mem_cons_self)))
      replace h2 := Lib.hid h2
      clear hF'
      go_enter Try.func49, Try.ntmps49
      go_wp2
      replace hW1 := Lib.hid hW1
      refine wp_region_quiet_env hE mixed (by kernel_rfl) ?_
      repeat (first | go_big_quiet_step ((go_at_call 71; exact C2.out _)) | quiet_step ((go_at_call 71; exact C2.out _)))
      refine wpQuiet_nil ?_
      intro _ hw'
      obtain ⟨⟨W9, hE9⟩, hw''⟩ := hw'
      subst hw''
      go_wp2
      go_ret
      exact ⟨ret_bool H.out.symm, hb0.trans (hE9.low.mono (Nat.le_of_lt s0))⟩
    · obtain ⟨m, hm⟩ : ∃ m, moveB (x, y) (u, v) = m := ⟨_, rfl⟩
      have H := Lib.hid (hF'.trans (show _ = m by rw [h2, hm]; rfl))
      have C2 := Lib.hid (fun (z : EnvW W1 [(some (⟨b, off, none⟩ : Addr), 2, cp, [(x, y), (u, v)])]) => h2 ▸ env_of z (areValid_any (some ⟨b, off, none⟩) 2 cp [(x, y), (u, v)] z.W (z.h.get List.mem_cons_self)))
      have C3 := Lib.hid (fun (z : EnvW W1 [(some (⟨b, off, none⟩ : Addr), 2, cp, [(x, y), (u, v)])]) => hm ▸ env_of z (isMove_any (x, y) (u, v) z.W))
      replace h2 := Lib.hid h2
      replace hm := Lib.hid hm
      clear hF'
      go_enter Try.func49, Try.ntmps49
      go_wp2
      replace hW1 := Lib.hid hW1
      refine wp_region_quiet_env hE mixed (by kernel_rfl) ?_
      repeat (first | go_big_quiet_step (first | (go_at_call 71; exact C2.out _) | (go_at_call 74; exact C3.out _)) | quiet_step (first | (go_at_call 71; exact C2.out _) | (go_at_call 74; exact C3.out _)))
      refine wpQuiet_nil ?_
      intro _ hw'
      obtain ⟨⟨W9, hE9⟩, hw''⟩ := hw'
      subst hw''
      go_wp2
      go_ret
      exact ⟨ret_bool (by simp [H.out]), hb0.trans (hE9.low.mono (Nat.le_of_lt s0))⟩
  · have nb : ((n : Int) == 2) = false := by simp; omega
    have H := Lib.hid (hF.trans (show _ = false by rw [show (n == 2) = false from by simpa using n0]; rfl))
    have hE : Env (w.alloc (.cells #[.int .i64 c, .int .i64 s, .int .i64 5, .slice a n cp, .int .i64 lo, .int .i64 hi, .int .i64 old] 42)) (w.alloc (.cells #[.int .i64 c, .int .i64 s, .int .i64 5, .slice a n cp, .int .i64 lo, .int .i64 hi, .int .i64 old] 42)) [] := Env.mk (L := []) (Below.refl _ _) (by simp)
    have hne : Nonempty (EnvW (w.alloc (.cells #[.int .i64 c, .int .i64 s, .int .i64 5, .slice a n cp, .int .i64 lo, .int .i64 hi, .int .i64 old] 42)) []) := ⟨⟨_, hE⟩⟩
    clear hF hn
    go_enter Try.func49, Try.ntmps49
    go_wp2
    refine wp_region_quiet_env hE mixed (by kernel_rfl) ?_
    repeat (first | go_big_quiet_step (fail) | quiet_step (fail))
    refine wpQuiet_nil ?_
    intro _ hw'
    obtain ⟨⟨W9, hE9⟩, hw''⟩ := hw'
    subst hw''
    go_wp2
    go_ret
    exact ⟨ret_bool H.out.symm, hb0.trans (hE9.low.mono (by simp))⟩

theorem fits_any (c s k : Int) (a : Option Addr) (n cp : Nat) (l : List Sp) (lo hi old : Int) (w : World) (hA : Arg w a n cp l) :
    Calls Try.prog 49 #[.agg #[.int .i64 c, .int .i64 s, .int .i64 k, .slice a n cp, .int .i64 lo, .int .i64 hi, .int .i64 old]] w (Gives w (.bool (fitsB k l lo hi old))) := by
  by_cases h1 : k = 1
  · subst h1; exact fits1 c s a n cp l lo hi old w hA
  by_cases h2 : k = 2
  · subst h2; exact fits2 c s a n cp l lo hi old w hA
  by_cases h3 : k = 3
  · subst h3; exact fits3 c s a n cp l lo hi old w hA
  by_cases h4 : k = 4
  · subst h4; exact fits4 c s a n cp l lo hi old w hA
  by_cases h5 : k = 5
  · subst h5; exact fits5 c s a n cp l lo hi old w hA
  exact fits0 c s k a n cp l lo hi old w hA ⟨h1, h2, h3, h4, h5⟩

set_option maxRecDepth 100000 in
set_option maxHeartbeats 2000000 in
theorem mcheck_any (c s k : Int) (a : Option Addr) (n cp : Nat) (l : List Sp) (lo hi old : Int) (w : World) (hA : Arg w a n cp l) :
    Calls Try.prog 27 #[.agg #[.int .i64 c, .int .i64 s, .int .i64 k, .slice a n cp, .int .i64 lo, .int .i64 hi, .int .i64 old]] w (Gives w (.bool (chkM c s k l lo hi old))) := by
  have hb0 : Below w.heap.size w (w.alloc (.cells #[.int .i64 c, .int .i64 s, .int .i64 k, .slice a n cp, .int .i64 lo, .int .i64 hi, .int .i64 old] 42)) := (Below.refl _ _).alloc (Nat.le_refl _) _
  have HA := Lib.hid hA
  have hF : chkM c s k l lo hi old = (btw 1 c 1048576 && btw 1 s 1073741824 && bareB k lo hi old && fitsB k l lo hi old) := rfl
  clear hA
  obtain ⟨r1, h1⟩ : ∃ r, btw 1 c 1048576 = r := ⟨_, rfl⟩
  obtain ⟨r2, h2⟩ : ∃ r, btw 1 s 1073741824 = r := ⟨_, rfl⟩
  obtain ⟨r3, h3⟩ : ∃ r, bareB k lo hi old = r := ⟨_, rfl⟩
  obtain ⟨r4, h4⟩ : ∃ r, fitsB k l lo hi old = r := ⟨_, rfl⟩
  rw [h1, h2, h3, h4] at hF
  replace h1 := Lib.hid h1
  replace h2 := Lib.hid h2
  replace h3 := Lib.hid h3
  replace h4 := Lib.hid h4
  replace hF := Lib.hid hF
  cases r1
  · go_enter Try.func27, Try.ntmps27
    go_wp2_with (first | (go_at_call 47; (with_reducible refine (between_any 1 c 1048576 _).mono ?_); rw [h1.out]; rintro e w' ⟨rfl, rfl⟩))
    go_ret
    exact ⟨ret_bool (by rw [hF.out]; rfl), hb0⟩
  · cases r2
    · go_enter Try.func27, Try.ntmps27
      go_wp2_with (first | (go_at_call 47; (with_reducible refine (between_any 1 c 1048576 _).mono ?_); rw [h1.out]; rintro e w' ⟨rfl, rfl⟩) | (go_at_call 47; (with_reducible refine (between_any 1 s 1073741824 _).mono ?_); rw [h2.out]; rintro e w' ⟨rfl, rfl⟩))
      go_ret
      exact ⟨ret_bool (by rw [hF.out]; rfl), hb0⟩
    · cases r3
      · go_enter Try.func27, Try.ntmps27
        go_wp2_with (first | (go_at_call 47; (with_reducible refine (between_any 1 c 1048576 _).mono ?_); rw [h1.out]; rintro e w' ⟨rfl, rfl⟩) | (go_at_call 47; (with_reducible refine (between_any 1 s 1073741824 _).mono ?_); rw [h2.out]; rintro e w' ⟨rfl, rfl⟩) | (go_at_call 48; (with_reducible refine (bare_any c s k a n cp lo hi old _).mono ?_); rw [h3.out]; rintro e w2 ⟨rfl, b2⟩; obtain ⟨g0, g1, g2, g3, g4, g5, g6⟩ := box7 b2; have b02 := below_next hb0 b2))
        go_ret
        exact ⟨ret_bool (by rw [hF.out]; rfl), b02⟩
      · go_enter Try.func27, Try.ntmps27
        go_wp2_with (first | (go_at_call 47; (with_reducible refine (between_any 1 c 1048576 _).mono ?_); rw [h1.out]; rintro e w' ⟨rfl, rfl⟩) | (go_at_call 47; (with_reducible refine (between_any 1 s 1073741824 _).mono ?_); rw [h2.out]; rintro e w' ⟨rfl, rfl⟩) | (go_at_call 48; (with_reducible refine (bare_any c s k a n cp lo hi old _).mono ?_); rw [h3.out]; rintro e w2 ⟨rfl, b2⟩; obtain ⟨g0, g1, g2, g3, g4, g5, g6⟩ := box7 b2; have b02 := below_next hb0 b2) | (go_at_call 49; (with_reducible refine (fits_any c s k a n cp l lo hi old _ (HA.out.below b02)).mono ?_); rw [h4.out]; rintro e w3 ⟨rfl, b3⟩; have b03 := below_next b02 b3))
        go_ret
        exact ⟨ret_bool (by rw [hF.out]; simp), b03⟩
end Go.Proofs.Ythofoidafdbgcaa


/-
  CONTRACTS of Touch and Alone.
-/
namespace Go.Proofs.Ythofoidafdbgcaa
open Go.RowKit Go.Shelf

theorem chkM_and {c s k : Int} {l : List Sp} {lo hi old : Int} (h : chkM c s k l lo hi old = true) : btw 1 c 1048576 = true ∧ btw 1 s 1073741824 = true ∧ bareB k lo hi old = true ∧ fitsB k l lo hi old = true := by
  unfold chkM at h
  rw [Bool.and_eq_true, Bool.and_eq_true, Bool.and_eq_true] at h
  exact ⟨h.1.1.1, h.1.1.2, h.1.2, h.2⟩
theorem fits_kind {k : Int} {l : List Sp} {lo hi old : Int} (h : fitsB k l lo hi old = true) : (k = 2 ∧ l = [] ∧ oneB (lo, hi) = true) ∨ ((k = 1 ∨ k = 3 ∨ k = 4 ∨ k = 5) ∧ okPs l = true ∧ 1 ≤ l.length ∧ l.length ≤ 8) := by
  unfold fitsB at h
  split at h
  · rename_i e
    rw [Bool.and_eq_true, Bool.and_eq_true] at h
    have := of_decide_eq_true h.1.1
    exact .inr ⟨.inl e, h.1.2, by omega, by omega⟩
  · split at h
    · rename_i e
      rw [Bool.and_eq_true] at h
      exact .inl ⟨e, List.eq_nil_of_length_eq_zero (by simpa using h.1), h.2⟩
    · split at h
      · rename_i e
        rw [Bool.and_eq_true] at h
        have h1 : l.length = 1 := by simpa using h.1
        exact .inr ⟨.inr (.inl e), h.2, by omega, by omega⟩
      · split at h
        · rename_i e
          rw [Bool.and_eq_true, Bool.and_eq_true] at h
          have h1 : l.length = 1 := by simpa using h.1.1
          exact .inr ⟨.inr (.inr (.inl e)), h.1.2, by omega, by omega⟩
        · split at h
          · rename_i e
            rw [Bool.and_eq_true, Bool.and_eq_true] at h
            have h1 : l.length = 2 := by simpa using h.1.1
            exact .inr ⟨.inr (.inr (.inr e)), h.1.2, by omega, by omega⟩
          · cases h
theorem okP_bd {p : Sp} (h : okP p = true) : (0 ≤ p.1 ∧ p.1 ≤ 4095) ∧ (-1099511627776 ≤ p.2 ∧ p.2 ≤ 1099511627776) := by
  unfold okP isVal btw at h
  rw [Bool.and_eq_true, decide_eq_true_eq, decide_eq_true_eq] at h
  exact h
theorem okPs_get {l : List Sp} (h : okPs l = true) {k : Nat} (hk : k < l.length) : okP (l.getD k (0, 0)) = true := List.all_eq_true.1 h _ (List.mem_iff_getElem?.2 ⟨k, getD_of hk⟩)

def sing (p : Sp) : Sp := (p.1, p.1 + 1)
def touchL (c s k : Int) (l : List Sp) (lo hi old : Int) : List Sp := if chkM c s k l lo hi old = true then (if k = 2 then [(lo, hi)] else setOf (hasB (l.map sing))) else []
def part (l : List Sp) (k n : Nat) : List Sp := (List.range n).map fun j => if j < k then sing (l.getD j (0, 0)) else (0, 0)
theorem part_len (l : List Sp) (k n : Nat) : (part l k n).length = n := by simp [part]
theorem part_get (l : List Sp) (k n j : Nat) (h : j < n) : (part l k n)[j]? = some (if j < k then sing (l.getD j (0, 0)) else (0, 0)) := by simp [part, h]
theorem part_zero (l : List Sp) (n : Nat) : part l 0 n = List.replicate n (0, 0) := by
  refine List.ext_getElem? fun j => ?_
  by_cases h : j < n
  · rw [part_get _ _ _ _ h, if_neg (by omega)]; simp [h]
  · rw [List.getElem?_eq_none (by rw [part_len]; omega), List.getElem?_eq_none (by simp; omega)]
theorem part_full (l : List Sp) : part l l.length l.length = l.map sing := by
  refine List.ext_getElem? fun j => ?_
  by_cases h : j < l.length
  · rw [part_get _ _ _ _ h, if_pos h]; simp [h]
  · rw [List.getElem?_eq_none (by rw [part_len]; omega), List.getElem?_eq_none (by simp; omega)]
theorem part_set (l : List Sp) (k n : Nat) (hk : k < n) : (part l k n).set k (sing (l.getD k (0, 0))) = part l (k + 1) n := by
  refine List.ext_getElem? fun j => ?_
  rw [List.getElem?_set]
  by_cases h : j < n
  · rw [part_get _ _ _ _ h, part_get _ _ _ _ h]
    by_cases e : k = j
    · subst e
      rw [if_pos rfl, if_pos (by rw [part_len]; exact hk), if_pos (by omega)]
    · rw [if_neg e]
      by_cases h2 : j < k
      · rw [if_pos h2, if_pos (by omega)]
      · rw [if_neg h2, if_neg (by omega)]
  · rw [if_neg (by omega), List.getElem?_eq_none (by rw [part_len]; omega), List.getElem?_eq_none (by rw [part_len]; omega)]
theorem flatP_set2 (L : List Sp) (k : Nat) (x y : Int) (hk : k < L.length) : ((flatP L).set (k * 2) (.int .i64 x)).set (k * 2 + 1) (.int .i64 y) = flatP (L.set k (x, y)) := by
  induction L generalizing k with
  | nil => exact absurd hk (Nat.not_lt_zero _)
  | cons s t ih =>
    rw [show flatP (s :: t) = (.int .i64 s.1) :: (.int .i64 s.2) :: flatP t from rfl]
    cases k with
    | zero => rfl
    | succ k =>
      have := ih k (by simpa using hk)
      rw [show (k + 1) * 2 = k * 2 + 1 + 1 from by omega, show k * 2 + 1 + 1 + 1 = (k * 2 + 1) + 1 + 1 from rfl]
      simp only [List.set_cons_succ]
      rw [this]; rfl
theorem made_two (z : Value) (m : Nat) : (madeCells #[z, z] m).toList = List.replicate m z := by
  apply List.ext_getElem?
  intro j
  by_cases hj : j < m
  · simp [madeCells, hj]
    rcases Nat.mod_two_eq_zero_or_one j with h | h <;> simp [h]
  · simp [madeCells, hj]
theorem flatP_zeros (n : Nat) : flatP (List.replicate n (0, 0)) = List.replicate (n * 2) (.int .i64 0) := by
  induction n with
  | zero => rfl
  | succ n ih =>
    rw [List.replicate_succ, show flatP (((0, 0) : Sp) :: List.replicate n (0, 0)) = (.int .i64 0) :: (.int .i64 0) :: flatP (List.replicate n (0, 0)) from rfl, ih, show (n + 1) * 2 = n * 2 + 1 + 1 from by omega]
    rfl
theorem sing_all {l : List Sp} (h : okPs l = true) : (l.map sing).all oneB = true := by
  rw [List.all_eq_true]
  intro s hs
  obtain ⟨p, hp, rfl⟩ := List.mem_map.1 hs
  have := (okP_bd (List.all_eq_true.1 h p hp)).1
  exact (oneB_iff _).2 (by show 0 ≤ p.1 ∧ p.1 < p.1 + 1 ∧ p.1 + 1 ≤ 4096; omega)
theorem merge_len (l : List Sp) (h : l.all oneB = true) : (setOf (hasB l)).length ≤ l.length := by
  have hp : (l.mergeSort fun x y => decide (x.1 ≤ y.1)).Perm l := List.mergeSort_perm _ _
  have hs : (l.mergeSort fun x y => decide (x.1 ≤ y.1)).Pairwise (fun x y => x.1 ≤ y.1) := by
    have := List.pairwise_mergeSort (le := fun x y : Sp => decide (x.1 ≤ y.1)) (fun a b c h1 h2 => by simp at *; omega) (fun a b => by simp; omega) l
    exact this.imp fun h => by simpa using h
  rw [← made (by simpa using h) hp hs]
  have := fold_len (l.mergeSort fun x y => decide (x.1 ≤ y.1)) []
  simp at this
  exact this
theorem make_sing {l : List Sp} (h : okPs l = true) (hl : l.length ≤ 8) : makeP (l.map sing) = (setOf (hasB (l.map sing)), 0) := by
  rw [show makeP (l.map sing) = limP (setOf (hasB (l.map sing))) from if_pos (sing_all h)]
  refine if_pos ?_
  have := merge_len (l.map sing) (sing_all h)
  simp at this
  omega

def aloneB (c s k : Int) (l : List Sp) (lo hi old : Int) : Bool := (k == 3 || k == 4) && chkM c s k l lo hi old
end Go.Proofs.Ythofoidafdbgcaa


/-
  CONTRACT: the document's Touches (of a mutation).
-/
namespace Go.Proofs.Ythofoidafdbgcaa
open Go.RowKit Go.Shelf

def touchesB (k : Int) (l : List Sp) (lo hi key : Int) : Bool := if k = 2 then decide (lo ≤ key) && decide (key < hi) else l.any fun p => p.1 == key
set_option maxRecDepth 100000 in
set_option maxHeartbeats 2000000 in
theorem touches4_any (c s k : Int) (a : Option Addr) (n cp : Nat) (l : List Sp) (lo hi old key : Int) (w : World) (hA : Arg w a n cp l) :
    Calls Try.prog 52 #[.agg #[.int .i64 c, .int .i64 s, .int .i64 k, .slice a n cp, .int .i64 lo, .int .i64 hi, .int .i64 old], .int .i64 key] w (Gives w (.bool (touchesB k l lo hi key))) := by
  have hn := hA.1
  have hp := hA.2.2.2.2
  have hnz : (n : Int) ≤ 9223372036854775807 := by have := hA.2.1; omega
  replace hn := Lib.hid hn
  replace hp := Lib.hid hp
  obtain ⟨W1, hW1⟩ : ∃ W1, (w.alloc (.cells #[.int .i64 c, .int .i64 s, .int .i64 k, .slice a n cp, .int .i64 lo, .int .i64 hi, .int .i64 old] 45)) = W1 := ⟨_, rfl⟩
  have K7 := Lib.hid (fun W (h : Below W1.heap.size W1 W) => box7 (w := w) (t := 45) (v0 := .int .i64 c) (v1 := .int .i64 s) (v2 := .int .i64 k) (v3 := .slice a n cp) (v4 := .int .i64 lo) (v5 := .int .i64 hi) (v6 := .int .i64 old) (w' := W) (by rw [hW1]; exact h))
  have bw : Below w.heap.size w W1 := by rw [← hW1]; exact (Below.refl _ _).alloc (Nat.le_refl _) _
  have s1 : w.heap.size ≤ W1.heap.size := bw.size
  have s2 : w.heap.size < W1.heap.size := by rw [← hW1]; simp
  obtain ⟨z0, z1, z2, z3, z4, z5, z6⟩ := K7.out _ (Below.refl _ _)
  clear hA
  by_cases k2 : k = 2
  · subst k2
    have H := Lib.hid (show touchesB 2 l lo hi key = (decide (lo ≤ key) && decide (key < hi)) from rfl)
    generalize touchesB 2 l lo hi key = r at H
    by_cases e1 : lo ≤ key
    · by_cases e2 : key < hi
      all_goals
        go_enter Try.func52, Try.ntmps52
        go_wp2
        go_ret
        exact ⟨ret_bool (by rw [H.out]; simp [e1, e2]), bw⟩
    · have e3 : decide (lo ≤ key) = false := decide_eq_false e1
      go_enter Try.func52, Try.ntmps52
      go_wp2
      go_ret
      exact ⟨ret_bool (by rw [H.out, e3]; rfl), bw⟩
  · have H := Lib.hid (show touchesB k l lo hi key = l.any (fun p => p.1 == key) from if_neg k2)
    have k2' : (k == 2) = false := by simpa using k2
    generalize touchesB k l lo hi key = r at H
    clear k2
    go_enter Try.func52, Try.ntmps52
    go_wp2_with fail
    clear z0 z1 z2 z3 z4 z5 z6
    replace hW1 := Lib.hid hW1
    go_loopw [5] (fun i wr => ∃ (j : Nat), i = .int .i64 (j : Int) ∧ j ≤ n ∧ Hid ((l.take j).any (fun p => p.1 == key) = false) ∧ Hid (Below W1.heap.size W1 wr))
      (fun i _ => n - (intOf i).toNat)
    case atStart => exact ⟨0, rfl, Nat.zero_le _, Lib.hid rfl, Lib.hid (Below.refl _ _)⟩
    case round =>
      obtain ⟨j, rfl, hj, HK, HL⟩ := hrel
      obtain ⟨_, _, _, c3, _, _, _⟩ := K7.out _ HL.out
      have hlow : Below w.heap.size w wr := bw.trans (HL.out.mono s1)
      by_cases hlt : j < n
      · have hjz : (j : Int) < (n : Int) := by omega
        obtain ⟨b, off, e, hb, d0, _⟩ := (hp.out.below hlow) j (by rw [← hn.out]; exact hlt)
        subst e
        obtain ⟨p, hpk⟩ : ∃ q, l.getD j (0, 0) = q := ⟨_, rfl⟩
        rw [hpk] at d0
        have hnext : (l.take (j + 1)).any (fun p => p.1 == key) = (p.1 == key) := by
          rw [take_more (k := j) (by rw [← hn.out]; exact hlt), List.any_append, HK.out, hpk]
          simp
        replace hpk := Lib.hid hpk
        obtain ⟨x, y⟩ := p
        dsimp only at d0 hnext
        cases hx : (x == key)
        · rw [hx] at hnext
          have hN := Lib.hid hnext
          clear hnext
          go_wp2_with fail
          go_roundw
          case rel => exact ⟨j + 1, by go_num, by omega, hN, HL⟩
          case measure => simp [intOf]; omega
        · rw [hx] at hnext
          have hr := Lib.hid (show r = true by
            rw [H.out, ← List.take_append_drop (j + 1) l, List.any_append, hnext, Bool.true_or])
          clear hnext
          go_wp2_with fail
          go_ret
          exact ⟨ret_bool hr.out.symm, hlow⟩
      · have hk' : l.take j = l := List.take_of_length_le (by rw [← hn.out]; omega)
        have hjn : ¬ (j : Int) < (n : Int) := by omega
        have hr := Lib.hid (show r = false by rw [H.out, ← hk', HK.out])
        replace hk' := Lib.hid hk'
        go_wp2
        go_ret
        exact ⟨ret_bool hr.out.symm, hlow⟩
end Go.Proofs.Ythofoidafdbgcaa


/-
  CONTRACTS on stamps: Stamp, before, Compare, the document's Ahead; few.
-/
namespace Go.Proofs.Ythofoidafdbgcaa
open Go.RowKit Go.Shelf

def befB (t1 c1 s1 t2 c2 s2 : Int) : Bool := if t1 = t2 then (if c1 = c2 then decide (s1 < s2) else decide (c1 < c2)) else decide (t1 < t2)
def cmpS (t1 c1 s1 t2 c2 s2 : Int) : Int := if (t1 == t2 && (c1 == c2 && s1 == s2)) = true then 0 else if befB t1 c1 s1 t2 c2 s2 = true then -1 else 1

end Go.Proofs.Ythofoidafdbgcaa
