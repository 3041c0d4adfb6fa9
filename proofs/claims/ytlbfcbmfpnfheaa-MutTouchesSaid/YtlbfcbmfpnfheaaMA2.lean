/-
  MutC, MutD, Tch, MutE: one text.
-/
import Derived.Test.YtlbfcbmfpnfheaaMA1
import Derived.Test.YtlbfcbmfpnfheaaSD
/-
  CONTRACTS of fits and of Check (of a mutation).
-/
namespace Go.Proofs.Ytlbfcbmfpnfheaa
open Go.RowKit Go.Shelf

set_option maxRecDepth 100000 in
set_option maxHeartbeats 2000000 in
theorem fits1 (c s : Int) (a : Option Addr) (n cp : Nat) (l : List Sp) (lo hi old : Int) (w : World) (hA : Arg w a n cp l) :
    Calls Try.prog 65 #[.agg #[.int .i64 c, .int .i64 s, .int .i64 1, .slice a n cp, .int .i64 lo, .int .i64 hi, .int .i64 old]] w (Gives w (.bool (fitsB 1 l lo hi old))) := by
  have hn := hA.1
  have hnz : (n : Int) ≤ 9223372036854775807 := by have := hA.2.1; omega
  have hb0 : Below w.heap.size w (w.alloc (.cells #[.int .i64 c, .int .i64 s, .int .i64 1, .slice a n cp, .int .i64 lo, .int .i64 hi, .int .i64 old] 26)) := (Below.refl _ _).alloc (Nat.le_refl _) _
  replace hA := Lib.hid hA
  have HA := hA
  have hF : fitsB 1 l lo hi old = (btw 1 n 8 && okPs l && riseB l) := by rw [hn]; rfl
  replace hn := Lib.hid hn
  cases h1 : btw 1 (n : Int) 8
  · have H := Lib.hid (hF.trans (by rw [h1]))
    replace h1 := Lib.hid h1
    clear hF
    go_enter Try.func65, Try.ntmps65
    go_wp2_with (first | (go_at_call 63; (with_reducible refine (between_any _ _ _ _).mono ?_); rw [h1.out]; rintro e w' ⟨rfl, rfl⟩))
    go_ret
    exact ⟨ret_bool H.out.symm, hb0⟩
  · cases h2 : okPs l
    · have H := Lib.hid (hF.trans (by rw [h1, h2]))
      replace h1 := Lib.hid h1
      replace h2 := Lib.hid h2
      clear hF
      go_enter Try.func65, Try.ntmps65
      go_wp2_with (first | (go_at_call 63; (with_reducible refine (between_any _ _ _ _).mono ?_); rw [h1.out]; rintro e w' ⟨rfl, rfl⟩) | (go_at_call 94; (with_reducible refine (areValid_any a n cp l _ (HA.out.below hb0)).mono ?_); rw [h2.out]; rintro e w2 ⟨rfl, b2⟩; obtain ⟨g0, g1, g2, g3, g4, g5, g6⟩ := box7 b2; have b02 := below_next hb0 b2))
      go_ret
      exact ⟨ret_bool H.out.symm, b02⟩
    · cases h3 : riseB l
      all_goals
        have H := Lib.hid (hF.trans (by rw [h1, h2, h3]))
        replace h1' := Lib.hid h1
        replace h2' := Lib.hid h2
        replace h3' := Lib.hid h3
        clear hF h1 h2 h3
        go_enter Try.func65, Try.ntmps65
        go_wp2_with (first | (go_at_call 63; (with_reducible refine (between_any _ _ _ _).mono ?_); rw [h1'.out]; rintro e w' ⟨rfl, rfl⟩) | (go_at_call 94; (with_reducible refine (areValid_any a n cp l _ (HA.out.below hb0)).mono ?_); rw [h2'.out]; rintro e w2 ⟨rfl, b2⟩; obtain ⟨g0, g1, g2, g3, g4, g5, g6⟩ := box7 b2; have b02 := below_next hb0 b2) | (go_at_call 95; (with_reducible refine (rise_any a n cp l _ (HA.out.below b02)).mono ?_); rw [h3'.out]; rintro e w3 ⟨rfl, b3⟩; have b03 := below_next b02 b3))
        go_ret
        exact ⟨ret_bool H.out.symm, b03⟩

set_option maxRecDepth 100000 in
set_option maxHeartbeats 2000000 in
theorem fits2 (c s : Int) (a : Option Addr) (n cp : Nat) (l : List Sp) (lo hi old : Int) (w : World) (hA : Arg w a n cp l) :
    Calls Try.prog 65 #[.agg #[.int .i64 c, .int .i64 s, .int .i64 2, .slice a n cp, .int .i64 lo, .int .i64 hi, .int .i64 old]] w (Gives w (.bool (fitsB 2 l lo hi old))) := by
  have hn := hA.1
  have hnz : (n : Int) ≤ 9223372036854775807 := by have := hA.2.1; omega
  have hb0 : Below w.heap.size w (w.alloc (.cells #[.int .i64 c, .int .i64 s, .int .i64 2, .slice a n cp, .int .i64 lo, .int .i64 hi, .int .i64 old] 26)) := (Below.refl _ _).alloc (Nat.le_refl _) _
  replace hA := Lib.hid hA
  have HA := hA
  have hF : fitsB 2 l lo hi old = ((n == 0) && oneB (lo, hi)) := by rw [hn]; rfl
  replace hn := Lib.hid hn
  by_cases n0 : n = 0
  · subst n0
    cases h2 : oneB (lo, hi)
    all_goals
      have H := Lib.hid (hF.trans (by rw [h2]))
      replace h2' := Lib.hid h2
      clear hF h2
      go_enter Try.func65, Try.ntmps65
      go_wp2_with (first | (go_at_call 41; (with_reducible refine (one_any (lo, hi) _).mono ?_); rw [h2'.out]; rintro e w2 ⟨rfl, b2⟩; have b02 := below_next hb0 b2))
      go_ret
      exact ⟨ret_bool H.out.symm, b02⟩
  · have nb : ((n : Int) == 0) = false := by simp; omega
    have H := Lib.hid (hF.trans (show _ = false by rw [show (n == 0) = false from by simpa using n0]; rfl))
    clear hF
    go_enter Try.func65, Try.ntmps65
    go_wp2
    go_ret
    exact ⟨ret_bool H.out.symm, hb0⟩

set_option maxRecDepth 100000 in
set_option maxHeartbeats 2000000 in
theorem fits3 (c s : Int) (a : Option Addr) (n cp : Nat) (l : List Sp) (lo hi old : Int) (w : World) (hA : Arg w a n cp l) :
    Calls Try.prog 65 #[.agg #[.int .i64 c, .int .i64 s, .int .i64 3, .slice a n cp, .int .i64 lo, .int .i64 hi, .int .i64 old]] w (Gives w (.bool (fitsB 3 l lo hi old))) := by
  have hn := hA.1
  have hnz : (n : Int) ≤ 9223372036854775807 := by have := hA.2.1; omega
  have hb0 : Below w.heap.size w (w.alloc (.cells #[.int .i64 c, .int .i64 s, .int .i64 3, .slice a n cp, .int .i64 lo, .int .i64 hi, .int .i64 old] 26)) := (Below.refl _ _).alloc (Nat.le_refl _) _
  replace hA := Lib.hid hA
  have HA := hA
  have hF : fitsB 3 l lo hi old = ((n == 1) && okPs l) := by rw [hn]; rfl
  replace hn := Lib.hid hn
  by_cases n0 : n = 1
  · subst n0
    cases h2 : okPs l
    all_goals
      have H := Lib.hid (hF.trans (by rw [h2]))
      replace h2' := Lib.hid h2
      clear hF h2
      go_enter Try.func65, Try.ntmps65
      go_wp2_with (first | (go_at_call 94; (with_reducible refine (areValid_any a 1 cp l _ (HA.out.below hb0)).mono ?_); rw [h2'.out]; rintro e w2 ⟨rfl, b2⟩; obtain ⟨g0, g1, g2, g3, g4, g5, g6⟩ := box7 b2; have b02 := below_next hb0 b2))
      go_ret
      exact ⟨ret_bool H.out.symm, b02⟩
  · have nb : ((n : Int) == 1) = false := by simp; omega
    have H := Lib.hid (hF.trans (show _ = false by rw [show (n == 1) = false from by simpa using n0]; rfl))
    clear hF
    go_enter Try.func65, Try.ntmps65
    go_wp2
    go_ret
    exact ⟨ret_bool H.out.symm, hb0⟩

set_option maxRecDepth 100000 in
set_option maxHeartbeats 2000000 in
theorem fits4 (c s : Int) (a : Option Addr) (n cp : Nat) (l : List Sp) (lo hi old : Int) (w : World) (hA : Arg w a n cp l) :
    Calls Try.prog 65 #[.agg #[.int .i64 c, .int .i64 s, .int .i64 4, .slice a n cp, .int .i64 lo, .int .i64 hi, .int .i64 old]] w (Gives w (.bool (fitsB 4 l lo hi old))) := by
  have hn := hA.1
  have hnz : (n : Int) ≤ 9223372036854775807 := by have := hA.2.1; omega
  have hb0 : Below w.heap.size w (w.alloc (.cells #[.int .i64 c, .int .i64 s, .int .i64 4, .slice a n cp, .int .i64 lo, .int .i64 hi, .int .i64 old] 26)) := (Below.refl _ _).alloc (Nat.le_refl _) _
  replace hA := Lib.hid hA
  have HA := hA
  have hF : fitsB 4 l lo hi old = ((n == 1) && okPs l && (isVal old || old == 1099511627777)) := by rw [hn]; rfl
  replace hn := Lib.hid hn
  by_cases n0 : n = 1
  · subst n0
    cases h2 : okPs l
    · have H := Lib.hid (hF.trans (by rw [h2]))
      replace h2 := Lib.hid h2
      clear hF
      go_enter Try.func65, Try.ntmps65
      go_wp2_with (first | (go_at_call 94; (with_reducible refine (areValid_any a 1 cp l _ (HA.out.below hb0)).mono ?_); rw [h2.out]; rintro e w2 ⟨rfl, b2⟩; obtain ⟨g0, g1, g2, g3, g4, g5, g6⟩ := box7 b2; have b02 := below_next hb0 b2))
      go_ret
      exact ⟨ret_bool H.out.symm, b02⟩
    · cases h3 : isVal old
      · cases h4 : (old == 1099511627777)
        all_goals
          have H := Lib.hid (hF.trans (by rw [h2, h3, h4]))
          replace h2' := Lib.hid h2
          replace h3' := Lib.hid h3
          clear hF h2 h3
          go_enter Try.func65, Try.ntmps65
          go_wp2_with (first | (go_at_call 94; (with_reducible refine (areValid_any a 1 cp l _ (HA.out.below hb0)).mono ?_); rw [h2'.out]; rintro e w2 ⟨rfl, b2⟩; obtain ⟨g0, g1, g2, g3, g4, g5, g6⟩ := box7 b2; have b02 := below_next hb0 b2) | (go_at_call 96; (with_reducible refine (isValue_any old _).mono ?_); rw [h3'.out]; rintro e w' ⟨rfl, rfl⟩))
          go_ret
          exact ⟨ret_bool H.out.symm, b02⟩
      · have H := Lib.hid (hF.trans (by rw [h2, h3]))
        replace h2 := Lib.hid h2
        replace h3 := Lib.hid h3
        clear hF
        go_enter Try.func65, Try.ntmps65
        go_wp2_with (first | (go_at_call 94; (with_reducible refine (areValid_any a 1 cp l _ (HA.out.below hb0)).mono ?_); rw [h2.out]; rintro e w2 ⟨rfl, b2⟩; obtain ⟨g0, g1, g2, g3, g4, g5, g6⟩ := box7 b2; have b02 := below_next hb0 b2) | (go_at_call 96; (with_reducible refine (isValue_any old _).mono ?_); rw [h3.out]; rintro e w' ⟨rfl, rfl⟩))
        go_ret
        exact ⟨ret_bool H.out.symm, b02⟩
  · have nb : ((n : Int) == 1) = false := by simp; omega
    have H := Lib.hid (hF.trans (show _ = false by rw [show (n == 1) = false from by simpa using n0]; rfl))
    clear hF
    go_enter Try.func65, Try.ntmps65
    go_wp2
    go_ret
    exact ⟨ret_bool H.out.symm, hb0⟩

set_option maxRecDepth 100000 in
set_option maxHeartbeats 2000000 in
theorem fits0 (c s k : Int) (a : Option Addr) (n cp : Nat) (l : List Sp) (lo hi old : Int) (w : World) (hA : Arg w a n cp l) (hk : k ≠ 1 ∧ k ≠ 2 ∧ k ≠ 3 ∧ k ≠ 4 ∧ k ≠ 5) :
    Calls Try.prog 65 #[.agg #[.int .i64 c, .int .i64 s, .int .i64 k, .slice a n cp, .int .i64 lo, .int .i64 hi, .int .i64 old]] w (Gives w (.bool (fitsB k l lo hi old))) := by
  have hn := hA.1
  have hnz : (n : Int) ≤ 9223372036854775807 := by have := hA.2.1; omega
  have hb0 : Below w.heap.size w (w.alloc (.cells #[.int .i64 c, .int .i64 s, .int .i64 k, .slice a n cp, .int .i64 lo, .int .i64 hi, .int .i64 old] 26)) := (Below.refl _ _).alloc (Nat.le_refl _) _
  replace hA := Lib.hid hA
  have HA := hA
  obtain ⟨q1, q2, q3, q4, q5⟩ := hk
  have H := Lib.hid (show fitsB k l lo hi old = false by unfold fitsB; rw [if_neg q1, if_neg q2, if_neg q3, if_neg q4, if_neg q5])
  have r1 : (k == 1) = false := by simpa using q1
  have r2 : (k == 2) = false := by simpa using q2
  have r3 : (k == 3) = false := by simpa using q3
  have r4 : (k == 4) = false := by simpa using q4
  have r5 : (k == 5) = false := by simpa using q5
  replace hn := Lib.hid hn
  go_enter Try.func65, Try.ntmps65
  go_wp2
  go_ret
  exact ⟨ret_bool H.out.symm, hb0⟩

set_option maxRecDepth 100000 in
set_option maxHeartbeats 2000000 in
theorem fits5 (c s : Int) (a : Option Addr) (n cp : Nat) (l : List Sp) (lo hi old : Int) (w : World) (hA : Arg w a n cp l) :
    Calls Try.prog 65 #[.agg #[.int .i64 c, .int .i64 s, .int .i64 5, .slice a n cp, .int .i64 lo, .int .i64 hi, .int .i64 old]] w (Gives w (.bool (fitsB 5 l lo hi old))) := by
  have hn := hA.1
  have hnz : (n : Int) ≤ 9223372036854775807 := by have := hA.2.1; omega
  have hb0 : Below w.heap.size w (w.alloc (.cells #[.int .i64 c, .int .i64 s, .int .i64 5, .slice a n cp, .int .i64 lo, .int .i64 hi, .int .i64 old] 26)) := (Below.refl _ _).alloc (Nat.le_refl _) _
  replace hA := Lib.hid hA
  have HA := hA
  have mixed : Try.prog.follows .mixedOrders = true := by kernel_rfl
  have hF : fitsB 5 l lo hi old = ((n == 2) && okPs l && moveB (l.getD 0 (0, 0)) (l.getD 1 (0, 0))) := by rw [hn]; rfl
  by_cases n0 : n = 2
  · subst n0
    obtain ⟨p, q, rfl⟩ : ∃ p q, l = [p, q] := by
      match l, hn with
      | [p, q], _ => exact ⟨p, q, rfl⟩
    obtain ⟨_, b, off, rfl, hb, _⟩ := hA.out.two
    have s0 : w.heap.size < (w.alloc (.cells #[.int .i64 c, .int .i64 s, .int .i64 5, .slice (some ⟨b, off, none⟩) 2 cp, .int .i64 lo, .int .i64 hi, .int .i64 old] 26)).heap.size := by simp
    obtain ⟨W1, hW1⟩ : ∃ W1, w.alloc (.cells #[.int .i64 c, .int .i64 s, .int .i64 5, .slice (some ⟨b, off, none⟩) 2 cp, .int .i64 lo, .int .i64 hi, .int .i64 old] 26) = W1 := ⟨_, rfl⟩
    have hE : Env W1 W1 [(some (⟨b, off, none⟩ : Addr), 2, cp, [p, q])] := (Env.mk (L := []) (Below.refl W1.heap.size W1) (by simp)).add (by rw [← hW1]; exact hA.out.below hb0)
    have c3 : W1.cell? ⟨w.heap.size, 3, none⟩ = some (.slice (some ⟨b, off, none⟩) 2 cp) := by rw [← hW1]; simp
    have k2 : W1.cell? ⟨w.heap.size, 2, none⟩ = some (.int .i64 5) := by rw [← hW1]; simp
    rw [hW1] at s0 hb0
    have F3 : ∀ x : EnvW W1 [(some (⟨b, off, none⟩ : Addr), 2, cp, [p, q])], x.W.cell? ⟨w.heap.size, 3, none⟩ = some (.slice (some ⟨b, off, none⟩) 2 cp) := fun x => (x.h.low.cell (p := ⟨w.heap.size, 3, none⟩) s0).trans c3
    have P : ∀ x : EnvW W1 [(some (⟨b, off, none⟩ : Addr), 2, cp, [p, q])], x.W.cell? ⟨b, off, none⟩ = some (.int .i64 p.1) ∧ x.W.cell? ⟨b, off + 1, none⟩ = some (.int .i64 p.2) ∧ x.W.cell? ⟨b, off + 2, none⟩ = some (.int .i64 q.1) ∧ x.W.cell? ⟨b, off + 2 + 1, none⟩ = some (.int .i64 q.2) := fun x => by
      obtain ⟨_, b', off', e, _, h1, h2, h3, h4⟩ := (x.h.get List.mem_cons_self).two
      cases e
      exact ⟨h1, h2, h3, h4⟩
    have P0 := fun x => (P x).1
    have P1 := fun x => (P x).2.1
    have P2 := fun x => (P x).2.2.1
    have P3 := fun x => (P x).2.2.2
    have P4 : ∀ x : EnvW W1 [(some (⟨b, off, none⟩ : Addr), 2, cp, [p, q])], x.W.cell? ⟨b, off + 3, none⟩ = some (.int .i64 q.2) := P3
    have hne : Nonempty (EnvW W1 [(some (⟨b, off, none⟩ : Addr), 2, cp, [p, q])]) := ⟨⟨_, hE⟩⟩
    clear P
    obtain ⟨x, y⟩ := p
    obtain ⟨u, v⟩ := q
    dsimp only at P0 P1 P2 P3 P4
    replace hn := Lib.hid hn
    have hF' : fitsB 5 [(x, y), (u, v)] lo hi old = (okPs [(x, y), (u, v)] && moveB (x, y) (u, v)) := hF
    clear hF
    cases h2 : okPs [(x, y), (u, v)]
    · have H := Lib.hid (hF'.trans (by rw [h2]))
      have C2 := Lib.hid (fun (z : EnvW W1 [(some (⟨b, off, none⟩ : Addr), 2, cp, [(x, y), (u, v)])]) => h2 ▸ env_of z (areValid_any (some ⟨b, off, none⟩) 2 cp [(x, y), (u, v)] z.W (z.h.get List.mem_cons_self)))
      replace h2 := Lib.hid h2
      clear hF'
      go_enter Try.func65, Try.ntmps65
      go_wp2
      replace hW1 := Lib.hid hW1
      refine wp_region_quiet_env hE mixed (by kernel_rfl) ?_
      repeat (first | go_big_quiet_step ((go_at_call 94; exact C2.out _)) | quiet_step ((go_at_call 94; exact C2.out _)))
      refine wpQuiet_nil ?_
      intro _ hw'
      obtain ⟨⟨W9, hE9⟩, hw''⟩ := hw'
      subst hw''
      go_wp2
      go_ret
      exact ⟨ret_bool H.out.symm, hb0.trans (hE9.low.mono (Nat.le_of_lt s0))⟩
    · obtain ⟨m, hm⟩ : ∃ m, moveB (x, y) (u, v) = m := ⟨_, rfl⟩
      have H := Lib.hid (hF'.trans (show _ = m by rw [h2, hm]; rfl))
      have C2 := Lib.hid (fun (z : EnvW W1 [(some (⟨b, off, none⟩ : Addr), 2, cp, [(x, y), (u, v)])]) => h2 ▸ env_of z (areValid_any (some ⟨b, off, none⟩) 2 cp [(x, y), (u, v)] z.W (z.h.get List.mem_cons_self)))
      have C3 := Lib.hid (fun (z : EnvW W1 [(some (⟨b, off, none⟩ : Addr), 2, cp, [(x, y), (u, v)])]) => hm ▸ env_of z (isMove_any (x, y) (u, v) z.W))
      replace h2 := Lib.hid h2
      replace hm := Lib.hid hm
      clear hF'
      go_enter Try.func65, Try.ntmps65
      go_wp2
      replace hW1 := Lib.hid hW1
      refine wp_region_quiet_env hE mixed (by kernel_rfl) ?_
      repeat (first | go_big_quiet_step (first | (go_at_call 94; exact C2.out _) | (go_at_call 97; exact C3.out _)) | quiet_step (first | (go_at_call 94; exact C2.out _) | (go_at_call 97; exact C3.out _)))
      refine wpQuiet_nil ?_
      intro _ hw'
      obtain ⟨⟨W9, hE9⟩, hw''⟩ := hw'
      subst hw''
      go_wp2
      go_ret
      exact ⟨ret_bool (by simp [H.out]), hb0.trans (hE9.low.mono (Nat.le_of_lt s0))⟩
  · have nb : ((n : Int) == 2) = false := by simp; omega
    have H := Lib.hid (hF.trans (show _ = false by rw [show (n == 2) = false from by simpa using n0]; rfl))
    have hE : Env (w.alloc (.cells #[.int .i64 c, .int .i64 s, .int .i64 5, .slice a n cp, .int .i64 lo, .int .i64 hi, .int .i64 old] 26)) (w.alloc (.cells #[.int .i64 c, .int .i64 s, .int .i64 5, .slice a n cp, .int .i64 lo, .int .i64 hi, .int .i64 old] 26)) [] := Env.mk (L := []) (Below.refl _ _) (by simp)
    have hne : Nonempty (EnvW (w.alloc (.cells #[.int .i64 c, .int .i64 s, .int .i64 5, .slice a n cp, .int .i64 lo, .int .i64 hi, .int .i64 old] 26)) []) := ⟨⟨_, hE⟩⟩
    clear hF hn
    go_enter Try.func65, Try.ntmps65
    go_wp2
    refine wp_region_quiet_env hE mixed (by kernel_rfl) ?_
    repeat (first | go_big_quiet_step (fail) | quiet_step (fail))
    refine wpQuiet_nil ?_
    intro _ hw'
    obtain ⟨⟨W9, hE9⟩, hw''⟩ := hw'
    subst hw''
    go_wp2
    go_ret
    exact ⟨ret_bool H.out.symm, hb0.trans (hE9.low.mono (by simp))⟩

theorem fits_any (c s k : Int) (a : Option Addr) (n cp : Nat) (l : List Sp) (lo hi old : Int) (w : World) (hA : Arg w a n cp l) :
    Calls Try.prog 65 #[.agg #[.int .i64 c, .int .i64 s, .int .i64 k, .slice a n cp, .int .i64 lo, .int .i64 hi, .int .i64 old]] w (Gives w (.bool (fitsB k l lo hi old))) := by
  by_cases h1 : k = 1
  · subst h1; exact fits1 c s a n cp l lo hi old w hA
  by_cases h2 : k = 2
  · subst h2; exact fits2 c s a n cp l lo hi old w hA
  by_cases h3 : k = 3
  · subst h3; exact fits3 c s a n cp l lo hi old w hA
  by_cases h4 : k = 4
  · subst h4; exact fits4 c s a n cp l lo hi old w hA
  by_cases h5 : k = 5
  · subst h5; exact fits5 c s a n cp l lo hi old w hA
  exact fits0 c s k a n cp l lo hi old w hA ⟨h1, h2, h3, h4, h5⟩

set_option maxRecDepth 100000 in
set_option maxHeartbeats 2000000 in
theorem mcheck_any (c s k : Int) (a : Option Addr) (n cp : Nat) (l : List Sp) (lo hi old : Int) (w : World) (hA : Arg w a n cp l) :
    Calls Try.prog 35 #[.agg #[.int .i64 c, .int .i64 s, .int .i64 k, .slice a n cp, .int .i64 lo, .int .i64 hi, .int .i64 old]] w (Gives w (.bool (chkM c s k l lo hi old))) := by
  have hb0 : Below w.heap.size w (w.alloc (.cells #[.int .i64 c, .int .i64 s, .int .i64 k, .slice a n cp, .int .i64 lo, .int .i64 hi, .int .i64 old] 26)) := (Below.refl _ _).alloc (Nat.le_refl _) _
  have HA := Lib.hid hA
  have hF : chkM c s k l lo hi old = (btw 1 c 1048576 && btw 1 s 1073741824 && bareB k lo hi old && fitsB k l lo hi old) := rfl
  clear hA
  obtain ⟨r1, h1⟩ : ∃ r, btw 1 c 1048576 = r := ⟨_, rfl⟩
  obtain ⟨r2, h2⟩ : ∃ r, btw 1 s 1073741824 = r := ⟨_, rfl⟩
  obtain ⟨r3, h3⟩ : ∃ r, bareB k lo hi old = r := ⟨_, rfl⟩
  obtain ⟨r4, h4⟩ : ∃ r, fitsB k l lo hi old = r := ⟨_, rfl⟩
  rw [h1, h2, h3, h4] at hF
  replace h1 := Lib.hid h1
  replace h2 := Lib.hid h2
  replace h3 := Lib.hid h3
  replace h4 := Lib.hid h4
  replace hF := Lib.hid hF
  cases r1
  · go_enter Try.func35, Try.ntmps35
    go_wp2_with (first | (go_at_call 63; (with_reducible refine (between_any 1 c 1048576 _).mono ?_); rw [h1.out]; rintro e w' ⟨rfl, rfl⟩))
    go_ret
    exact ⟨ret_bool (by rw [hF.out]; rfl), hb0⟩
  · cases r2
    · go_enter Try.func35, Try.ntmps35
      go_wp2_with (first | (go_at_call 63; (with_reducible refine (between_any 1 c 1048576 _).mono ?_); rw [h1.out]; rintro e w' ⟨rfl, rfl⟩) | (go_at_call 63; (with_reducible refine (between_any 1 s 1073741824 _).mono ?_); rw [h2.out]; rintro e w' ⟨rfl, rfl⟩))
      go_ret
      exact ⟨ret_bool (by rw [hF.out]; rfl), hb0⟩
    · cases r3
      · go_enter Try.func35, Try.ntmps35
        go_wp2_with (first | (go_at_call 63; (with_reducible refine (between_any 1 c 1048576 _).mono ?_); rw [h1.out]; rintro e w' ⟨rfl, rfl⟩) | (go_at_call 63; (with_reducible refine (between_any 1 s 1073741824 _).mono ?_); rw [h2.out]; rintro e w' ⟨rfl, rfl⟩) | (go_at_call 64; (with_reducible refine (bare_any c s k a n cp lo hi old _).mono ?_); rw [h3.out]; rintro e w2 ⟨rfl, b2⟩; obtain ⟨g0, g1, g2, g3, g4, g5, g6⟩ := box7 b2; have b02 := below_next hb0 b2))
        go_ret
        exact ⟨ret_bool (by rw [hF.out]; rfl), b02⟩
      · go_enter Try.func35, Try.ntmps35
        go_wp2_with (first | (go_at_call 63; (with_reducible refine (between_any 1 c 1048576 _).mono ?_); rw [h1.out]; rintro e w' ⟨rfl, rfl⟩) | (go_at_call 63; (with_reducible refine (between_any 1 s 1073741824 _).mono ?_); rw [h2.out]; rintro e w' ⟨rfl, rfl⟩) | (go_at_call 64; (with_reducible refine (bare_any c s k a n cp lo hi old _).mono ?_); rw [h3.out]; rintro e w2 ⟨rfl, b2⟩; obtain ⟨g0, g1, g2, g3, g4, g5, g6⟩ := box7 b2; have b02 := below_next hb0 b2) | (go_at_call 65; (with_reducible refine (fits_any c s k a n cp l lo hi old _ (HA.out.below b02)).mono ?_); rw [h4.out]; rintro e w3 ⟨rfl, b3⟩; have b03 := below_next b02 b3))
        go_ret
        exact ⟨ret_bool (by rw [hF.out]; simp), b03⟩
end Go.Proofs.Ytlbfcbmfpnfheaa


/-
  CONTRACTS of Touch and Alone.
-/
namespace Go.Proofs.Ytlbfcbmfpnfheaa
open Go.RowKit Go.Shelf

theorem chkM_and {c s k : Int} {l : List Sp} {lo hi old : Int} (h : chkM c s k l lo hi old = true) : btw 1 c 1048576 = true ∧ btw 1 s 1073741824 = true ∧ bareB k lo hi old = true ∧ fitsB k l lo hi old = true := by
  unfold chkM at h
  rw [Bool.and_eq_true, Bool.and_eq_true, Bool.and_eq_true] at h
  exact ⟨h.1.1.1, h.1.1.2, h.1.2, h.2⟩
theorem fits_kind {k : Int} {l : List Sp} {lo hi old : Int} (h : fitsB k l lo hi old = true) : (k = 2 ∧ l = [] ∧ oneB (lo, hi) = true) ∨ ((k = 1 ∨ k = 3 ∨ k = 4 ∨ k = 5) ∧ okPs l = true ∧ 1 ≤ l.length ∧ l.length ≤ 8) := by
  unfold fitsB at h
  split at h
  · rename_i e
    rw [Bool.and_eq_true, Bool.and_eq_true] at h
    have := of_decide_eq_true h.1.1
    exact .inr ⟨.inl e, h.1.2, by omega, by omega⟩
  · split at h
    · rename_i e
      rw [Bool.and_eq_true] at h
      exact .inl ⟨e, List.eq_nil_of_length_eq_zero (by simpa using h.1), h.2⟩
    · split at h
      · rename_i e
        rw [Bool.and_eq_true] at h
        have h1 : l.length = 1 := by simpa using h.1
        exact .inr ⟨.inr (.inl e), h.2, by omega, by omega⟩
      · split at h
        · rename_i e
          rw [Bool.and_eq_true, Bool.and_eq_true] at h
          have h1 : l.length = 1 := by simpa using h.1.1
          exact .inr ⟨.inr (.inr (.inl e)), h.1.2, by omega, by omega⟩
        · split at h
          · rename_i e
            rw [Bool.and_eq_true, Bool.and_eq_true] at h
            have h1 : l.length = 2 := by simpa using h.1.1
            exact .inr ⟨.inr (.inr (.inr e)), h.1.2, by omega, by omega⟩
          · cases h
theorem okP_bd {p : Sp} (h : okP p = true) : (0 ≤ p.1 ∧ p.1 ≤ 4095) ∧ (-1099511627776 ≤ p.2 ∧ p.2 ≤ 1099511627776) := by
  unfold okP isVal btw at h
  rw [Bool.and_eq_true, decide_eq_true_eq, decide_eq_true_eq] at h
  exact h
theorem okPs_get {l : List Sp} (h : okPs l = true) {k : Nat} (hk : k < l.length) : okP (l.getD k (0, 0)) = true := List.all_eq_true.1 h _ (List.mem_iff_getElem?.2 ⟨k, getD_of hk⟩)

def sing (p : Sp) : Sp := (p.1, p.1 + 1)
def touchL (c s k : Int) (l : List Sp) (lo hi old : Int) : List Sp := if chkM c s k l lo hi old = true then (if k = 2 then [(lo, hi)] else setOf (hasB (l.map sing))) else []
def part (l : List Sp) (k n : Nat) : List Sp := (List.range n).map fun j => if j < k then sing (l.getD j (0, 0)) else (0, 0)
theorem part_len (l : List Sp) (k n : Nat) : (part l k n).length = n := by simp [part]
theorem part_get (l : List Sp) (k n j : Nat) (h : j < n) : (part l k n)[j]? = some (if j < k then sing (l.getD j (0, 0)) else (0, 0)) := by simp [part, h]
theorem part_zero (l : List Sp) (n : Nat) : part l 0 n = List.replicate n (0, 0) := by
  refine List.ext_getElem? fun j => ?_
  by_cases h : j < n
  · rw [part_get _ _ _ _ h, if_neg (by omega)]; simp [h]
  · rw [List.getElem?_eq_none (by rw [part_len]; omega), List.getElem?_eq_none (by simp; omega)]
theorem part_full (l : List Sp) : part l l.length l.length = l.map sing := by
  refine List.ext_getElem? fun j => ?_
  by_cases h : j < l.length
  · rw [part_get _ _ _ _ h, if_pos h]; simp [h]
  · rw [List.getElem?_eq_none (by rw [part_len]; omega), List.getElem?_eq_none (by simp; omega)]
theorem part_set (l : List Sp) (k n : Nat) (hk : k < n) : (part l k n).set k (sing (l.getD k (0, 0))) = part l (k + 1) n := by
  refine List.ext_getElem? fun j => ?_
  rw [List.getElem?_set]
  by_cases h : j < n
  · rw [part_get _ _ _ _ h, part_get _ _ _ _ h]
    by_cases e : k = j
    · subst e
      rw [if_pos rfl, if_pos (by rw [part_len]; exact hk), if_pos (by omega)]
    · rw [if_neg e]
      by_cases h2 : j < k
      · rw [if_pos h2, if_pos (by omega)]
      · rw [if_neg h2, if_neg (by omega)]
  · rw [if_neg (by omega), List.getElem?_eq_none (by rw [part_len]; omega), List.getElem?_eq_none (by rw [part_len]; omega)]
theorem flatP_set2 (L : List Sp) (k : Nat) (x y : Int) (hk : k < L.length) : ((flatP L).set (k * 2) (.int .i64 x)).set (k * 2 + 1) (.int .i64 y) = flatP (L.set k (x, y)) := by
  induction L generalizing k with
  | nil => exact absurd hk (Nat.not_lt_zero _)
  | cons s t ih =>
    rw [show flatP (s :: t) = (.int .i64 s.1) :: (.int .i64 s.2) :: flatP t from rfl]
    cases k with
    | zero => rfl
    | succ k =>
      have := ih k (by simpa using hk)
      rw [show (k + 1) * 2 = k * 2 + 1 + 1 from by omega, show k * 2 + 1 + 1 + 1 = (k * 2 + 1) + 1 + 1 from rfl]
      simp only [List.set_cons_succ]
      rw [this]; rfl
theorem made_two (z : Value) (m : Nat) : (madeCells #[z, z] m).toList = List.replicate m z := by
  apply List.ext_getElem?
  intro j
  by_cases hj : j < m
  · simp [madeCells, hj]
    rcases Nat.mod_two_eq_zero_or_one j with h | h <;> simp [h]
  · simp [madeCells, hj]
theorem flatP_zeros (n : Nat) : flatP (List.replicate n (0, 0)) = List.replicate (n * 2) (.int .i64 0) := by
  induction n with
  | zero => rfl
  | succ n ih =>
    rw [List.replicate_succ, show flatP (((0, 0) : Sp) :: List.replicate n (0, 0)) = (.int .i64 0) :: (.int .i64 0) :: flatP (List.replicate n (0, 0)) from rfl, ih, show (n + 1) * 2 = n * 2 + 1 + 1 from by omega]
    rfl
theorem sing_all {l : List Sp} (h : okPs l = true) : (l.map sing).all oneB = true := by
  rw [List.all_eq_true]
  intro s hs
  obtain ⟨p, hp, rfl⟩ := List.mem_map.1 hs
  have := (okP_bd (List.all_eq_true.1 h p hp)).1
  exact (oneB_iff _).2 (by show 0 ≤ p.1 ∧ p.1 < p.1 + 1 ∧ p.1 + 1 ≤ 4096; omega)
theorem merge_len (l : List Sp) (h : l.all oneB = true) : (setOf (hasB l)).length ≤ l.length := by
  have hp : (l.mergeSort fun x y => decide (x.1 ≤ y.1)).Perm l := List.mergeSort_perm _ _
  have hs : (l.mergeSort fun x y => decide (x.1 ≤ y.1)).Pairwise (fun x y => x.1 ≤ y.1) := by
    have := List.pairwise_mergeSort (le := fun x y : Sp => decide (x.1 ≤ y.1)) (fun a b c h1 h2 => by simp at *; omega) (fun a b => by simp; omega) l
    exact this.imp fun h => by simpa using h
  rw [← made (by simpa using h) hp hs]
  have := fold_len (l.mergeSort fun x y => decide (x.1 ≤ y.1)) []
  simp at this
  exact this
theorem make_sing {l : List Sp} (h : okPs l = true) (hl : l.length ≤ 8) : makeP (l.map sing) = (setOf (hasB (l.map sing)), 0) := by
  rw [show makeP (l.map sing) = limP (setOf (hasB (l.map sing))) from if_pos (sing_all h)]
  refine if_pos ?_
  have := merge_len (l.map sing) (sing_all h)
  simp at this
  omega

set_option maxRecDepth 100000 in
set_option maxHeartbeats 2000000 in
theorem touch_pairs (c s k : Int) (a : Option Addr) (n cp : Nat) (l : List Sp) (lo hi old : Int) (w : World) (hA : Arg w a n cp l) (hc : chkM c s k l lo hi old = true) (hk : k ≠ 2) :
    Calls Try.prog 10 #[.agg #[.int .i64 c, .int .i64 s, .int .i64 k, .slice a n cp, .int .i64 lo, .int .i64 hi, .int .i64 old]] w (ListArg w (setOf (hasB (l.map sing)))) := by
  obtain ⟨i0, hi0, hz0, hz1, hz2⟩ := info_parts Try.infoSpan
  have hb0 : Below w.heap.size w (w.alloc (.cells #[.int .i64 c, .int .i64 s, .int .i64 k, .slice a n cp, .int .i64 lo, .int .i64 hi, .int .i64 old] 26)) := (Below.refl _ _).alloc (Nat.le_refl _) _
  have hv : okPs l = true ∧ 1 ≤ l.length ∧ l.length ≤ 8 := by
    rcases fits_kind (chkM_and hc).2.2.2 with h | h
    · exact absurd h.1 hk
    · exact h.2
  have hn := hA.1
  have hn8 : n ≤ 8 := by omega
  have HV := Lib.hid hv.1
  have HM := Lib.hid (make_sing hv.1 hv.2.2)
  have HA := Lib.hid hA
  have h1 := Lib.hid hc
  have hk2 : (k == 2) = false := by simpa using hk
  replace hn := Lib.hid hn
  clear hv hA hc hk
  go_enter Try.func10, Try.ntmps10
  go_wp2_with (first | (go_at_call 35; (with_reducible refine (mcheck_any c s k a n cp l lo hi old _ (HA.out.below hb0)).mono ?_); rw [h1.out]; rintro e w2 ⟨rfl, b2⟩; obtain ⟨g0, g1, g2, g3, g4, g5, g6⟩ := box7 b2; have b02 := below_next hb0 b2) | (at_make; refine wpList_make_full _ rfl (.tmp 19) (.tmp 19) 29 rfl w.heap.size 24 i0 (.agg #[.int .i64 0, .int .i64 0]) 2 Try.underlying29 hi0 hz0 hz1 .i64 .i64 n n n rfl rfl rfl rfl (by rw [hz2]; omega) (by unfold maxLen; omega) b02.size ?_))
  intro w3 hrow hg3
  have b03 : Below w.heap.size w w3 := b02.grown hg3 b02.size (fun _ h => by cases h)
  have G : w2.heap.size < w3.heap.size := (hrow.lt w2.heap.size rfl).2
  have hr : w3.ownsRow w.heap.size 24 2 (.slice (some ⟨w2.heap.size, 0, none⟩) n n) n (flatP (part l 0 n)) := by
    rw [part_zero, flatP_zeros, ← made_two]; exact hrow
  have HR := Lib.hid hr
  have c3 : w3.cell? ⟨w.heap.size, 3, none⟩ = some (.slice a n cp) := by
    have := World.cell?_of_block (hg3.block w.heap.size (World.block_lt_of_cell? _ _ g3) (fun h => by cases h)) (a := ⟨w.heap.size, 3, none⟩)
    exact this.trans g3
  have hbase : w.heap.size ≤ w2.heap.size := b02.size
  generalize w2.heap.size = g at *
  clear hrow hr hg3
  go_wp2_with fail
  go_loopw [4, 5, 24] (fun _ _ i wr => ∃ (j : Nat), i = .int .i64 (j : Int) ∧ j ≤ n ∧ Hid (wr.ownsRow w.heap.size 24 2 (.slice (some ⟨g, 0, none⟩) n n) n (flatP (part l j n))) ∧ Below w.heap.size w wr)
    (fun _ _ i _ => n - (intOf i).toNat)
  case atStart => exact ⟨0, rfl, by omega, HR, b03⟩
  case round =>
    obtain ⟨j, rfl, hj, HO, hbl⟩ := hrel
    have hsz := hbl.size
    by_cases hlt : j < n
    · have hjl : j < l.length := by rw [← hn.out]; exact hlt
      obtain ⟨b, off, e, hb, d0, d1⟩ := (HA.out.2.2.2.2.below hbl) j hjl
      subst e
      obtain ⟨p, hp⟩ : ∃ s, l.getD j (0, 0) = s := ⟨_, rfl⟩
      rw [hp] at d0 d1
      have hbd := (okP_bd (okPs_get HV.out hjl)).1
      rw [hp] at hbd
      have hset := part_set l j n hlt
      rw [hp] at hset
      replace hp := Lib.hid hp
      obtain ⟨x, y⟩ := p
      dsimp only at d0 d1 hbd
      obtain ⟨x0, x1⟩ := hbd
      have R1 := World.ownsRow.alloc HO.out (.cells #[.int .i64 x, .int .i64 y] 70)
      have k0 : ∃ v, (wr.alloc (.cells #[.int .i64 x, .int .i64 y] 70)).cell? ⟨g, j * 2, none⟩ = some v := ⟨_, (World.ownsRow.cellAt R1 (j * 2) (by omega)).trans (flatP_get (part l j n) j (by rw [part_len]; exact hlt)).1⟩
      have k1 : ∃ v, (wr.alloc (.cells #[.int .i64 x, .int .i64 y] 70)).cell? ⟨g, j * 2 + 1, none⟩ = some v := ⟨_, (World.ownsRow.cellAt R1 (j * 2 + 1) (by omega)).trans (flatP_get (part l j n) j (by rw [part_len]; exact hlt)).2⟩
      obtain ⟨v0, k0⟩ := k0
      obtain ⟨v1, k1⟩ := k1
      have f0 := World.ownsRow.frozenAt R1 (j * 2)
      have f1 := World.ownsRow.frozenAt R1 (j * 2 + 1)
      have R2 := (World.ownsRow.stored (World.ownsRow.stored R1 (j * 2) (.int .i64 x)).1 (j * 2 + 1) (.int .i64 (x + 1))).1
      rw [flatP_set2 _ _ _ _ (by rw [part_len]; exact hlt), show (x, x + 1) = sing (x, y) from rfl, hset] at R2
      replace R2 := Lib.hid R2
      replace R1 := Lib.hid R1
      replace hset := Lib.hid hset
      have bW := ((hbl.alloc hsz (.cells #[.int .i64 x, .int .i64 y] 70)).setCell (p := ⟨g, j * 2, none⟩) hbase (.int .i64 x)).setCell (p := ⟨g, j * 2 + 1, none⟩) hbase (.int .i64 (x + 1))
      go_wp2
      go_roundw
      case rel => exact ⟨j + 1, by go_num, by omega, R2, bW⟩
      case measure => simp [intOf]; omega
    · have hj' : j = n := by omega
      have hfin := HO.out
      rw [hj'] at hfin
      have e0 : part l n n = l.map sing := by rw [hn.out]; exact part_full l
      rw [e0] at hfin
      have hlen : n = (l.map sing).length := by rw [List.length_map]; exact hn.out
      have AR := Lib.hid (Arg.of_own (ownsP_of_row hfin hlen) hlen)
      have hz : (l.map sing).length ≤ 100000 := by omega
      replace hlen := Lib.hid hlen
      replace e0 := Lib.hid e0
      rw [hj']
      replace hj' := Lib.hid hj'
      clear hfin HO
      go_wp2_with (go_at_call 37; (with_reducible refine (make_any _ _ _ _ _ hz AR.out).mono ?_); rw [HM.out]; rintro e w6 ⟨a6, n6, c6, rfl, h6, b6⟩; dsimp only at h6; replace h6 := Lib.hid h6)
      go_ret
      exact ⟨_, _, _, rfl, h6.out, below_next hbl b6⟩

set_option maxRecDepth 100000 in
set_option maxHeartbeats 2000000 in
theorem touch_del (c s : Int) (a : Option Addr) (n cp : Nat) (l : List Sp) (lo hi old : Int) (w : World) (hA : Arg w a n cp l) (hc : chkM c s 2 l lo hi old = true) :
    Calls Try.prog 10 #[.agg #[.int .i64 c, .int .i64 s, .int .i64 2, .slice a n cp, .int .i64 lo, .int .i64 hi, .int .i64 old]] w (ListArg w [(lo, hi)]) := by
  have hb0 : Below w.heap.size w (w.alloc (.cells #[.int .i64 c, .int .i64 s, .int .i64 2, .slice a n cp, .int .i64 lo, .int .i64 hi, .int .i64 old] 26)) := (Below.refl _ _).alloc (Nat.le_refl _) _
  have HA := Lib.hid hA
  have h1 := Lib.hid hc
  clear hA hc
  go_enter Try.func10, Try.ntmps10
  go_wp2_with (first | (go_at_call 35; (with_reducible refine (mcheck_any c s 2 a n cp l lo hi old _ (HA.out.below hb0)).mono ?_); rw [h1.out]; rintro e w2 ⟨rfl, b2⟩; obtain ⟨g0, g1, g2, g3, g4, g5, g6⟩ := box7 b2; have b02 := below_next hb0 b2))
  go_ret
  exact ⟨_, _, _, rfl, arg_new w2 24 [(lo, hi)] #[.int .i64 lo, .int .i64 hi] rfl (by simp), below_alloc b02 _⟩
set_option maxRecDepth 100000 in
theorem mtouch_bad (c s k : Int) (a : Option Addr) (n cp : Nat) (l : List Sp) (lo hi old : Int) (w : World) (hA : Arg w a n cp l) (hc : chkM c s k l lo hi old = false) :
    Calls Try.prog 10 #[.agg #[.int .i64 c, .int .i64 s, .int .i64 k, .slice a n cp, .int .i64 lo, .int .i64 hi, .int .i64 old]] w (ListArg w []) := by
  have hb0 : Below w.heap.size w (w.alloc (.cells #[.int .i64 c, .int .i64 s, .int .i64 k, .slice a n cp, .int .i64 lo, .int .i64 hi, .int .i64 old] 26)) := (Below.refl _ _).alloc (Nat.le_refl _) _
  have HA := Lib.hid hA
  have h1 := Lib.hid hc
  clear hA hc
  go_enter Try.func10, Try.ntmps10
  go_wp2_with (first | (go_at_call 35; (with_reducible refine (mcheck_any c s k a n cp l lo hi old _ (HA.out.below hb0)).mono ?_); rw [h1.out]; rintro e w2 ⟨rfl, b2⟩; obtain ⟨g0, g1, g2, g3, g4, g5, g6⟩ := box7 b2; have b02 := below_next hb0 b2))
  go_ret
  exact ⟨_, _, _, rfl, ⟨rfl, by simp, Nat.le_refl _, Nat.zero_le _, PIn.nil _ _ _⟩, b02⟩
theorem mtouch_any (c s k : Int) (a : Option Addr) (n cp : Nat) (l : List Sp) (lo hi old : Int) (w : World) (hA : Arg w a n cp l) :
    Calls Try.prog 10 #[.agg #[.int .i64 c, .int .i64 s, .int .i64 k, .slice a n cp, .int .i64 lo, .int .i64 hi, .int .i64 old]] w (ListArg w (touchL c s k l lo hi old)) := by
  cases hc : chkM c s k l lo hi old
  · rw [show touchL c s k l lo hi old = [] from if_neg (by rw [hc]; simp)]
    exact mtouch_bad c s k a n cp l lo hi old w hA hc
  · by_cases hk : k = 2
    · subst hk
      rw [show touchL c s 2 l lo hi old = [(lo, hi)] from (if_pos hc).trans (if_pos rfl)]
      exact touch_del c s a n cp l lo hi old w hA hc
    · rw [show touchL c s k l lo hi old = setOf (hasB (l.map sing)) from (if_pos hc).trans (if_neg hk)]
      exact touch_pairs c s k a n cp l lo hi old w hA hc hk

def aloneB (c s k : Int) (l : List Sp) (lo hi old : Int) : Bool := (k == 3 || k == 4) && chkM c s k l lo hi old
set_option maxRecDepth 100000 in
set_option maxHeartbeats 1000000 in
theorem malone_any (c s k : Int) (a : Option Addr) (n cp : Nat) (l : List Sp) (lo hi old : Int) (w : World) (hA : Arg w a n cp l) :
    Calls Try.prog 16 #[.agg #[.int .i64 c, .int .i64 s, .int .i64 k, .slice a n cp, .int .i64 lo, .int .i64 hi, .int .i64 old]] w (Gives w (.bool (aloneB c s k l lo hi old))) := by
  obtain ⟨r, h1⟩ : ∃ r, chkM c s k l lo hi old = r := ⟨_, rfl⟩
  have hF := Lib.hid (show aloneB c s k l lo hi old = ((k == 3 || k == 4) && r) by rw [← h1]; rfl)
  have HA := Lib.hid hA
  replace h1 := Lib.hid h1
  clear hA
  by_cases k3 : k = 3
  · subst k3
    have hb0 : Below w.heap.size w (w.alloc (.cells #[.int .i64 c, .int .i64 s, .int .i64 3, .slice a n cp, .int .i64 lo, .int .i64 hi, .int .i64 old] 26)) := (Below.refl _ _).alloc (Nat.le_refl _) _
    go_enter Try.func16, Try.ntmps16
    go_wp2_with (first | (go_at_call 35; (with_reducible refine (mcheck_any c s 3 a n cp l lo hi old _ (HA.out.below hb0)).mono ?_); rw [h1.out]; rintro e w2 ⟨rfl, b2⟩; obtain ⟨g0, g1, g2, g3, g4, g5, g6⟩ := box7 b2; have b02 := below_next hb0 b2))
    go_ret
    exact ⟨ret_bool (by rw [hF.out]; simp), b02⟩
  · have k3' : (k == 3) = false := by simpa using k3
    replace k3 := Lib.hid k3
    by_cases k4 : k = 4
    · subst k4
      have hb0 : Below w.heap.size w (w.alloc (.cells #[.int .i64 c, .int .i64 s, .int .i64 4, .slice a n cp, .int .i64 lo, .int .i64 hi, .int .i64 old] 26)) := (Below.refl _ _).alloc (Nat.le_refl _) _
      go_enter Try.func16, Try.ntmps16
      go_wp2_with (first | (go_at_call 35; (with_reducible refine (mcheck_any c s 4 a n cp l lo hi old _ (HA.out.below hb0)).mono ?_); rw [h1.out]; rintro e w2 ⟨rfl, b2⟩; obtain ⟨g0, g1, g2, g3, g4, g5, g6⟩ := box7 b2; have b02 := below_next hb0 b2))
      go_ret
      exact ⟨ret_bool (by rw [hF.out]; simp), b02⟩
    · have k4' : (k == 4) = false := by simpa using k4
      replace k4 := Lib.hid k4
      go_enter Try.func16, Try.ntmps16
      go_wp2
      go_ret
      exact ⟨ret_bool (by rw [hF.out, k3', k4']; rfl), (Below.refl _ _).alloc (Nat.le_refl _) _⟩
end Go.Proofs.Ytlbfcbmfpnfheaa


/-
  CONTRACT: the document's Touches (of a mutation).
-/
namespace Go.Proofs.Ytlbfcbmfpnfheaa
open Go.RowKit Go.Shelf

def touchesB (k : Int) (l : List Sp) (lo hi key : Int) : Bool := if k = 2 then decide (lo ≤ key) && decide (key < hi) else l.any fun p => p.1 == key
set_option maxRecDepth 100000 in
set_option maxHeartbeats 2000000 in
theorem touches4_any (c s k : Int) (a : Option Addr) (n cp : Nat) (l : List Sp) (lo hi old key : Int) (w : World) (hA : Arg w a n cp l) :
    Calls Try.prog 15 #[.agg #[.int .i64 c, .int .i64 s, .int .i64 k, .slice a n cp, .int .i64 lo, .int .i64 hi, .int .i64 old], .int .i64 key] w (Gives w (.bool (touchesB k l lo hi key))) := by
  have hn := hA.1
  have hp := hA.2.2.2.2
  have hnz : (n : Int) ≤ 9223372036854775807 := by have := hA.2.1; omega
  replace hn := Lib.hid hn
  replace hp := Lib.hid hp
  obtain ⟨W1, hW1⟩ : ∃ W1, (w.alloc (.cells #[.int .i64 c, .int .i64 s, .int .i64 k, .slice a n cp, .int .i64 lo, .int .i64 hi, .int .i64 old] 35)) = W1 := ⟨_, rfl⟩
  have K7 := Lib.hid (fun W (h : Below W1.heap.size W1 W) => box7 (w := w) (t := 35) (v0 := .int .i64 c) (v1 := .int .i64 s) (v2 := .int .i64 k) (v3 := .slice a n cp) (v4 := .int .i64 lo) (v5 := .int .i64 hi) (v6 := .int .i64 old) (w' := W) (by rw [hW1]; exact h))
  have bw : Below w.heap.size w W1 := by rw [← hW1]; exact (Below.refl _ _).alloc (Nat.le_refl _) _
  have s1 : w.heap.size ≤ W1.heap.size := bw.size
  have s2 : w.heap.size < W1.heap.size := by rw [← hW1]; simp
  obtain ⟨z0, z1, z2, z3, z4, z5, z6⟩ := K7.out _ (Below.refl _ _)
  clear hA
  by_cases k2 : k = 2
  · subst k2
    have H := Lib.hid (show touchesB 2 l lo hi key = (decide (lo ≤ key) && decide (key < hi)) from rfl)
    generalize touchesB 2 l lo hi key = r at H
    by_cases e1 : lo ≤ key
    · by_cases e2 : key < hi
      all_goals
        go_enter Try.func15, Try.ntmps15
        go_wp2
        go_ret
        exact ⟨ret_bool (by rw [H.out]; simp [e1, e2]), bw⟩
    · have e3 : decide (lo ≤ key) = false := decide_eq_false e1
      go_enter Try.func15, Try.ntmps15
      go_wp2
      go_ret
      exact ⟨ret_bool (by rw [H.out, e3]; rfl), bw⟩
  · have H := Lib.hid (show touchesB k l lo hi key = l.any (fun p => p.1 == key) from if_neg k2)
    have k2' : (k == 2) = false := by simpa using k2
    generalize touchesB k l lo hi key = r at H
    clear k2
    go_enter Try.func15, Try.ntmps15
    go_wp2_with fail
    clear z0 z1 z2 z3 z4 z5 z6
    replace hW1 := Lib.hid hW1
    go_loopw [5] (fun i wr => ∃ (j : Nat), i = .int .i64 (j : Int) ∧ j ≤ n ∧ Hid ((l.take j).any (fun p => p.1 == key) = false) ∧ Hid (Below W1.heap.size W1 wr))
      (fun i _ => n - (intOf i).toNat)
    case atStart => exact ⟨0, rfl, Nat.zero_le _, Lib.hid rfl, Lib.hid (Below.refl _ _)⟩
    case round =>
      obtain ⟨j, rfl, hj, HK, HL⟩ := hrel
      obtain ⟨_, _, _, c3, _, _, _⟩ := K7.out _ HL.out
      have hlow : Below w.heap.size w wr := bw.trans (HL.out.mono s1)
      by_cases hlt : j < n
      · have hjz : (j : Int) < (n : Int) := by omega
        obtain ⟨b, off, e, hb, d0, _⟩ := (hp.out.below hlow) j (by rw [← hn.out]; exact hlt)
        subst e
        obtain ⟨p, hpk⟩ : ∃ q, l.getD j (0, 0) = q := ⟨_, rfl⟩
        rw [hpk] at d0
        have hnext : (l.take (j + 1)).any (fun p => p.1 == key) = (p.1 == key) := by
          rw [take_more (k := j) (by rw [← hn.out]; exact hlt), List.any_append, HK.out, hpk]
          simp
        replace hpk := Lib.hid hpk
        obtain ⟨x, y⟩ := p
        dsimp only at d0 hnext
        cases hx : (x == key)
        · rw [hx] at hnext
          have hN := Lib.hid hnext
          clear hnext
          go_wp2_with fail
          go_roundw
          case rel => exact ⟨j + 1, by go_num, by omega, hN, HL⟩
          case measure => simp [intOf]; omega
        · rw [hx] at hnext
          have hr := Lib.hid (show r = true by
            rw [H.out, ← List.take_append_drop (j + 1) l, List.any_append, hnext, Bool.true_or])
          clear hnext
          go_wp2_with fail
          go_ret
          exact ⟨ret_bool hr.out.symm, hlow⟩
      · have hk' : l.take j = l := List.take_of_length_le (by rw [← hn.out]; omega)
        have hjn : ¬ (j : Int) < (n : Int) := by omega
        have hr := Lib.hid (show r = false by rw [H.out, ← hk', HK.out])
        replace hk' := Lib.hid hk'
        go_wp2
        go_ret
        exact ⟨ret_bool hr.out.symm, hlow⟩
end Go.Proofs.Ytlbfcbmfpnfheaa


/-
  CONTRACTS on stamps: Stamp, before, Compare, the document's Ahead; few.
-/
namespace Go.Proofs.Ytlbfcbmfpnfheaa
open Go.RowKit Go.Shelf

def befB (t1 c1 s1 t2 c2 s2 : Int) : Bool := if t1 = t2 then (if c1 = c2 then decide (s1 < s2) else decide (c1 < c2)) else decide (t1 < t2)
def cmpS (t1 c1 s1 t2 c2 s2 : Int) : Int := if (t1 == t2 && (c1 == c2 && s1 == s2)) = true then 0 else if befB t1 c1 s1 t2 c2 s2 = true then -1 else 1

set_option maxRecDepth 100000 in
theorem few4_any (c s k : Int) (a : Option Addr) (n cp : Nat) (lo hi old : Int) (w : World) (hz : (n : Int) ≤ 9223372036854775807) :
    Calls Try.prog 8 #[.agg #[.int .i64 c, .int .i64 s, .int .i64 k, .slice a n cp, .int .i64 lo, .int .i64 hi, .int .i64 old]] w (Gives w (.bool (decide (n ≤ 100)))) := by
  have H := Lib.hid (show decide (n ≤ 100) = decide ((n : Int) ≤ 100) from decide_eq_decide.2 (by omega))
  go_enter Try.func8, Try.ntmps8
  go_wp2
  go_ret
  exact ⟨ret_bool H.out.symm, (Below.refl _ _).alloc (Nat.le_refl _) _⟩
set_option maxRecDepth 100000 in
theorem stamp_any (t c s k : Int) (a : Option Addr) (n cp : Nat) (lo hi old : Int) (w : World) :
    Calls Try.prog 21 #[.int .i64 t, .agg #[.int .i64 c, .int .i64 s, .int .i64 k, .slice a n cp, .int .i64 lo, .int .i64 hi, .int .i64 old]] w (Gives w (.agg #[.int .i64 t, .int .i64 c, .int .i64 s])) := by
  go_enter Try.func21, Try.ntmps21
  go_wp2
  exact bodyPost_ret (v := .agg #[.int .i64 t, .int .i64 c, .int .i64 s]) (by simp [results, Try.results21, go_sem]) rfl ⟨rfl, ((Below.refl _ _).alloc (Nat.le_refl _) _).alloc (by simp) _⟩
theorem eqStamp (t1 c1 s1 t2 c2 s2 : Int) (w : World) : (binOp .eql 47 (.agg #[.int .i64 t1, .int .i64 c1, .int .i64 s1]) (.agg #[.int .i64 t2, .int .i64 c2, .int .i64 s2])).run Try.prog w = .ok (.bool (t1 == t2 && (c1 == c2 && s1 == s2))) w := by
  have u3 := Try.underlying3
  have a3 := Try.isAgg3
  have z3 := Try.sizeOf3
  have hS : Try.prog.underlying 47 = some (.struct (Try.prog.fieldsOf 47)) := by kernel_rfl
  have hp : Try.prog.stoodInHeld 47 = false := by kernel_rfl
  rw [run_eql_struct, show (10000 : Nat) = 9999 + 1 from rfl, run_equalIn_agg w 9999 47 _ _ hS hp]
  simp only [Program.fieldsOf, Try.underlying47]
  go_simp
  by_cases h1 : t1 = t2 <;> by_cases h2 : c1 = c2 <;> by_cases h3 : s1 = s2 <;> simp [h1, h2, h3]

set_option maxRecDepth 100000 in
set_option maxHeartbeats 1000000 in
theorem before_any (t1 c1 s1 t2 c2 s2 : Int) (w : World) : Calls Try.prog 45 #[.agg #[.int .i64 t1, .int .i64 c1, .int .i64 s1], .agg #[.int .i64 t2, .int .i64 c2, .int .i64 s2]] w (Gives w (.bool (befB t1 c1 s1 t2 c2 s2))) := by
  have hF : befB t1 c1 s1 t2 c2 s2 = (if t1 = t2 then (if c1 = c2 then decide (s1 < s2) else decide (c1 < c2)) else decide (t1 < t2)) := rfl
  generalize befB t1 c1 s1 t2 c2 s2 = r at hF
  by_cases q1 : t1 = t2
  · rw [if_pos q1] at hF
    subst q1
    by_cases q2 : c1 = c2
    · rw [if_pos q2] at hF
      subst q2
      replace hF := Lib.hid hF
      go_enter Try.func45, Try.ntmps45
      go_wp2
      go_ret
      exact ⟨ret_bool (by rw [hF.out]), ((Below.refl _ _).alloc (Nat.le_refl _) _).alloc (by simp) _⟩
    · rw [if_neg q2] at hF
      have q2' : (c1 != c2) = true := by simpa using q2
      replace hF := Lib.hid hF
      go_enter Try.func45, Try.ntmps45
      go_wp2
      go_ret
      exact ⟨ret_bool (by rw [hF.out]), ((Below.refl _ _).alloc (Nat.le_refl _) _).alloc (by simp) _⟩
  · rw [if_neg q1] at hF
    have q1' : (t1 != t2) = true := by simpa using q1
    replace hF := Lib.hid hF
    go_enter Try.func45, Try.ntmps45
    go_wp2
    go_ret
    exact ⟨ret_bool (by rw [hF.out]), ((Below.refl _ _).alloc (Nat.le_refl _) _).alloc (by simp) _⟩

set_option maxRecDepth 100000 in
set_option maxHeartbeats 1000000 in
theorem compare_any (t1 c1 s1 t2 c2 s2 : Int) (w : World) : Calls Try.prog 22 #[.agg #[.int .i64 t1, .int .i64 c1, .int .i64 s1], .agg #[.int .i64 t2, .int .i64 c2, .int .i64 s2]] w (Gives w (.int .i64 (cmpS t1 c1 s1 t2 c2 s2))) := by
  have EQ := fun w => eqStamp t1 c1 s1 t2 c2 s2 w
  have hF : cmpS t1 c1 s1 t2 c2 s2 = (if (t1 == t2 && (c1 == c2 && s1 == s2)) = true then 0 else if befB t1 c1 s1 t2 c2 s2 = true then -1 else 1) := rfl
  generalize cmpS t1 c1 s1 t2 c2 s2 = r at hF
  obtain ⟨e, he⟩ : ∃ e, (t1 == t2 && (c1 == c2 && s1 == s2)) = e := ⟨_, rfl⟩
  rw [he] at hF
  simp only [he] at EQ
  replace he := Lib.hid he
  cases e
  · obtain ⟨b, hb⟩ : ∃ b, befB t1 c1 s1 t2 c2 s2 = b := ⟨_, rfl⟩
    rw [hb, if_neg (by simp)] at hF
    replace hb := Lib.hid hb
    cases b
    all_goals
      replace hF := Lib.hid hF
      go_enter Try.func22, Try.ntmps22
      go_wp2_with (go_at_call 45; (with_reducible refine (before_any t1 c1 s1 t2 c2 s2 _).mono ?_); rw [hb.out]; rintro e w2 ⟨rfl, b2⟩)
      go_ret
      exact ⟨ret_int (by rw [hF.out]; rfl), below_next (((Below.refl _ _).alloc (Nat.le_refl _) _).alloc (by simp) _) b2⟩
  · replace hF := Lib.hid hF
    go_enter Try.func22, Try.ntmps22
    go_wp2
    go_ret
    exact ⟨ret_int (by rw [hF.out]; rfl), ((Below.refl _ _).alloc (Nat.le_refl _) _).alloc (by simp) _⟩
end Go.Proofs.Ytlbfcbmfpnfheaa
