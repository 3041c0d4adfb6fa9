/-
  CONTRACTS of fits and of Check (of a mutation).
-/
import Derived.Test.YtfnjadiibiedgaaMutB
import Derived.Test.YtfnjadiibiedgaaLaw3D
namespace Go.Proofs.Ytfnjadiibiedgaa
open Go.RowKit Go.Shelf

set_option maxRecDepth 100000 in
set_option maxHeartbeats 2000000 in
theorem fits1 (c s : Int) (a : Option Addr) (n cp : Nat) (l : List Sp) (lo hi old : Int) (w : World) (hA : Arg w a n cp l) :
    Calls Try.prog 78 #[.agg #[.int .i64 c, .int .i64 s, .int .i64 1, .slice a n cp, .int .i64 lo, .int .i64 hi, .int .i64 old]] w (Gives w (.bool (fitsB 1 l lo hi old))) := by
  have hn := hA.1
  have hnz : (n : Int) ≤ 9223372036854775807 := by have := hA.2.1; omega
  have hb0 : Below w.heap.size w (w.alloc (.cells #[.int .i64 c, .int .i64 s, .int .i64 1, .slice a n cp, .int .i64 lo, .int .i64 hi, .int .i64 old] 26)) := (Below.refl _ _).alloc (Nat.le_refl _) _
  replace hA := Lib.hid hA
  have HA := hA
  have hF : fitsB 1 l lo hi old = (btw 1 n 8 && okPs l && riseB l) := by rw [hn]; rfl
  replace hn := Lib.hid hn
  cases h1 : btw 1 (n : Int) 8
  · have H := Lib.hid (hF.trans (by rw [h1]))
    replace h1 := Lib.hid h1
    clear hF
    go_enter Try.func78, Try.ntmps78
    go_wp2_with (first | (go_at_call 76; (with_reducible refine (between_any _ _ _ _).mono ?_); rw [h1.out]; rintro e w' ⟨rfl, rfl⟩))
    go_ret
    exact ⟨ret_bool H.out.symm, hb0⟩
  · cases h2 : okPs l
    · have H := Lib.hid (hF.trans (by rw [h1, h2]))
      replace h1 := Lib.hid h1
      replace h2 := Lib.hid h2
      clear hF
      go_enter Try.func78, Try.ntmps78
      go_wp2_with (first | (go_at_call 76; (with_reducible refine (between_any _ _ _ _).mono ?_); rw [h1.out]; rintro e w' ⟨rfl, rfl⟩) | (go_at_call 115; (with_reducible refine (areValid_any a n cp l _ (HA.out.below hb0)).mono ?_); rw [h2.out]; rintro e w2 ⟨rfl, b2⟩; obtain ⟨g0, g1, g2, g3, g4, g5, g6⟩ := box7 b2; have b02 := below_next hb0 b2))
      go_ret
      exact ⟨ret_bool H.out.symm, b02⟩
    · cases h3 : riseB l
      all_goals
        have H := Lib.hid (hF.trans (by rw [h1, h2, h3]))
        replace h1' := Lib.hid h1
        replace h2' := Lib.hid h2
        replace h3' := Lib.hid h3
        clear hF h1 h2 h3
        go_enter Try.func78, Try.ntmps78
        go_wp2_with (first | (go_at_call 76; (with_reducible refine (between_any _ _ _ _).mono ?_); rw [h1'.out]; rintro e w' ⟨rfl, rfl⟩) | (go_at_call 115; (with_reducible refine (areValid_any a n cp l _ (HA.out.below hb0)).mono ?_); rw [h2'.out]; rintro e w2 ⟨rfl, b2⟩; obtain ⟨g0, g1, g2, g3, g4, g5, g6⟩ := box7 b2; have b02 := below_next hb0 b2) | (go_at_call 116; (with_reducible refine (rise_any a n cp l _ (HA.out.below b02)).mono ?_); rw [h3'.out]; rintro e w3 ⟨rfl, b3⟩; have b03 := below_next b02 b3))
        go_ret
        exact ⟨ret_bool H.out.symm, b03⟩

set_option maxRecDepth 100000 in
set_option maxHeartbeats 2000000 in
theorem fits2 (c s : Int) (a : Option Addr) (n cp : Nat) (l : List Sp) (lo hi old : Int) (w : World) (hA : Arg w a n cp l) :
    Calls Try.prog 78 #[.agg #[.int .i64 c, .int .i64 s, .int .i64 2, .slice a n cp, .int .i64 lo, .int .i64 hi, .int .i64 old]] w (Gives w (.bool (fitsB 2 l lo hi old))) := by
  have hn := hA.1
  have hnz : (n : Int) ≤ 9223372036854775807 := by have := hA.2.1; omega
  have hb0 : Below w.heap.size w (w.alloc (.cells #[.int .i64 c, .int .i64 s, .int .i64 2, .slice a n cp, .int .i64 lo, .int .i64 hi, .int .i64 old] 26)) := (Below.refl _ _).alloc (Nat.le_refl _) _
  replace hA := Lib.hid hA
  have HA := hA
  have hF : fitsB 2 l lo hi old = ((n == 0) && oneB (lo, hi)) := by rw [hn]; rfl
  replace hn := Lib.hid hn
  by_cases n0 : n = 0
  · subst n0
    cases h2 : oneB (lo, hi)
    all_goals
      have H := Lib.hid (hF.trans (by rw [h2]))
      replace h2' := Lib.hid h2
      clear hF h2
      go_enter Try.func78, Try.ntmps78
      go_wp2_with (first | (go_at_call 58; (with_reducible refine (one_any (lo, hi) _).mono ?_); rw [h2'.out]; rintro e w2 ⟨rfl, b2⟩; have b02 := below_next hb0 b2))
      go_ret
      exact ⟨ret_bool H.out.symm, b02⟩
  · have nb : ((n : Int) == 0) = false := by simp; omega
    have H := Lib.hid (hF.trans (show _ = false by rw [show (n == 0) = false from by simpa using n0]; rfl))
    clear hF
    go_enter Try.func78, Try.ntmps78
    go_wp2
    go_ret
    exact ⟨ret_bool H.out.symm, hb0⟩

set_option maxRecDepth 100000 in
set_option maxHeartbeats 2000000 in
theorem fits3 (c s : Int) (a : Option Addr) (n cp : Nat) (l : List Sp) (lo hi old : Int) (w : World) (hA : Arg w a n cp l) :
    Calls Try.prog 78 #[.agg #[.int .i64 c, .int .i64 s, .int .i64 3, .slice a n cp, .int .i64 lo, .int .i64 hi, .int .i64 old]] w (Gives w (.bool (fitsB 3 l lo hi old))) := by
  have hn := hA.1
  have hnz : (n : Int) ≤ 9223372036854775807 := by have := hA.2.1; omega
  have hb0 : Below w.heap.size w (w.alloc (.cells #[.int .i64 c, .int .i64 s, .int .i64 3, .slice a n cp, .int .i64 lo, .int .i64 hi, .int .i64 old] 26)) := (Below.refl _ _).alloc (Nat.le_refl _) _
  replace hA := Lib.hid hA
  have HA := hA
  have hF : fitsB 3 l lo hi old = ((n == 1) && okPs l) := by rw [hn]; rfl
  replace hn := Lib.hid hn
  by_cases n0 : n = 1
  · subst n0
    cases h2 : okPs l
    all_goals
      have H := Lib.hid (hF.trans (by rw [h2]))
      replace h2' := Lib.hid h2
      clear hF h2
      go_enter Try.func78, Try.ntmps78
      go_wp2_with (first | (go_at_call 115; (with_reducible refine (areValid_any a 1 cp l _ (HA.out.below hb0)).mono ?_); rw [h2'.out]; rintro e w2 ⟨rfl, b2⟩; obtain ⟨g0, g1, g2, g3, g4, g5, g6⟩ := box7 b2; have b02 := below_next hb0 b2))
      go_ret
      exact ⟨ret_bool H.out.symm, b02⟩
  · have nb : ((n : Int) == 1) = false := by simp; omega
    have H := Lib.hid (hF.trans (show _ = false by rw [show (n == 1) = false from by simpa using n0]; rfl))
    clear hF
    go_enter Try.func78, Try.ntmps78
    go_wp2
    go_ret
    exact ⟨ret_bool H.out.symm, hb0⟩

set_option maxRecDepth 100000 in
set_option maxHeartbeats 2000000 in
theorem fits4 (c s : Int) (a : Option Addr) (n cp : Nat) (l : List Sp) (lo hi old : Int) (w : World) (hA : Arg w a n cp l) :
    Calls Try.prog 78 #[.agg #[.int .i64 c, .int .i64 s, .int .i64 4, .slice a n cp, .int .i64 lo, .int .i64 hi, .int .i64 old]] w (Gives w (.bool (fitsB 4 l lo hi old))) := by
  have hn := hA.1
  have hnz : (n : Int) ≤ 9223372036854775807 := by have := hA.2.1; omega
  have hb0 : Below w.heap.size w (w.alloc (.cells #[.int .i64 c, .int .i64 s, .int .i64 4, .slice a n cp, .int .i64 lo, .int .i64 hi, .int .i64 old] 26)) := (Below.refl _ _).alloc (Nat.le_refl _) _
  replace hA := Lib.hid hA
  have HA := hA
  have hF : fitsB 4 l lo hi old = ((n == 1) && okPs l && (isVal old || old == 1099511627777)) := by rw [hn]; rfl
  replace hn := Lib.hid hn
  by_cases n0 : n = 1
  · subst n0
    cases h2 : okPs l
    · have H := Lib.hid (hF.trans (by rw [h2]))
      replace h2 := Lib.hid h2
      clear hF
      go_enter Try.func78, Try.ntmps78
      go_wp2_with (first | (go_at_call 115; (with_reducible refine (areValid_any a 1 cp l _ (HA.out.below hb0)).mono ?_); rw [h2.out]; rintro e w2 ⟨rfl, b2⟩; obtain ⟨g0, g1, g2, g3, g4, g5, g6⟩ := box7 b2; have b02 := below_next hb0 b2))
      go_ret
      exact ⟨ret_bool H.out.symm, b02⟩
    · cases h3 : isVal old
      · cases h4 : (old == 1099511627777)
        all_goals
          have H := Lib.hid (hF.trans (by rw [h2, h3, h4]))
          replace h2' := Lib.hid h2
          replace h3' := Lib.hid h3
          clear hF h2 h3
          go_enter Try.func78, Try.ntmps78
          go_wp2_with (first | (go_at_call 115; (with_reducible refine (areValid_any a 1 cp l _ (HA.out.below hb0)).mono ?_); rw [h2'.out]; rintro e w2 ⟨rfl, b2⟩; obtain ⟨g0, g1, g2, g3, g4, g5, g6⟩ := box7 b2; have b02 := below_next hb0 b2) | (go_at_call 117; (with_reducible refine (isValue_any old _).mono ?_); rw [h3'.out]; rintro e w' ⟨rfl, rfl⟩))
          go_ret
          exact ⟨ret_bool H.out.symm, b02⟩
      · have H := Lib.hid (hF.trans (by rw [h2, h3]))
        replace h2 := Lib.hid h2
        replace h3 := Lib.hid h3
        clear hF
        go_enter Try.func78, Try.ntmps78
        go_wp2_with (first | (go_at_call 115; (with_reducible refine (areValid_any a 1 cp l _ (HA.out.below hb0)).mono ?_); rw [h2.out]; rintro e w2 ⟨rfl, b2⟩; obtain ⟨g0, g1, g2, g3, g4, g5, g6⟩ := box7 b2; have b02 := below_next hb0 b2) | (go_at_call 117; (with_reducible refine (isValue_any old _).mono ?_); rw [h3.out]; rintro e w' ⟨rfl, rfl⟩))
        go_ret
        exact ⟨ret_bool H.out.symm, b02⟩
  · have nb : ((n : Int) == 1) = false := by simp; omega
    have H := Lib.hid (hF.trans (show _ = false by rw [show (n == 1) = false from by simpa using n0]; rfl))
    clear hF
    go_enter Try.func78, Try.ntmps78
    go_wp2
    go_ret
    exact ⟨ret_bool H.out.symm, hb0⟩

set_option maxRecDepth 100000 in
set_option maxHeartbeats 2000000 in
theorem fits0 (c s k : Int) (a : Option Addr) (n cp : Nat) (l : List Sp) (lo hi old : Int) (w : World) (hA : Arg w a n cp l) (hk : k ≠ 1 ∧ k ≠ 2 ∧ k ≠ 3 ∧ k ≠ 4 ∧ k ≠ 5) :
    Calls Try.prog 78 #[.agg #[.int .i64 c, .int .i64 s, .int .i64 k, .slice a n cp, .int .i64 lo, .int .i64 hi, .int .i64 old]] w (Gives w (.bool (fitsB k l lo hi old))) := by
  have hn := hA.1
  have hnz : (n : Int) ≤ 9223372036854775807 := by have := hA.2.1; omega
  have hb0 : Below w.heap.size w (w.alloc (.cells #[.int .i64 c, .int .i64 s, .int .i64 k, .slice a n cp, .int .i64 lo, .int .i64 hi, .int .i64 old] 26)) := (Below.refl _ _).alloc (Nat.le_refl _) _
  replace hA := Lib.hid hA
  have HA := hA
  obtain ⟨q1, q2, q3, q4, q5⟩ := hk
  have H := Lib.hid (show fitsB k l lo hi old = false by unfold fitsB; rw [if_neg q1, if_neg q2, if_neg q3, if_neg q4, if_neg q5])
  have r1 : (k == 1) = false := by simpa using q1
  have r2 : (k == 2) = false := by simpa using q2
  have r3 : (k == 3) = false := by simpa using q3
  have r4 : (k == 4) = false := by simpa using q4
  have r5 : (k == 5) = false := by simpa using q5
  replace hn := Lib.hid hn
  go_enter Try.func78, Try.ntmps78
  go_wp2
  go_ret
  exact ⟨ret_bool H.out.symm, hb0⟩

set_option maxRecDepth 100000 in
set_option maxHeartbeats 2000000 in
theorem fits5 (c s : Int) (a : Option Addr) (n cp : Nat) (l : List Sp) (lo hi old : Int) (w : World) (hA : Arg w a n cp l) :
    Calls Try.prog 78 #[.agg #[.int .i64 c, .int .i64 s, .int .i64 5, .slice a n cp, .int .i64 lo, .int .i64 hi, .int .i64 old]] w (Gives w (.bool (fitsB 5 l lo hi old))) := by
  have hn := hA.1
  have hnz : (n : Int) ≤ 9223372036854775807 := by have := hA.2.1; omega
  have hb0 : Below w.heap.size w (w.alloc (.cells #[.int .i64 c, .int .i64 s, .int .i64 5, .slice a n cp, .int .i64 lo, .int .i64 hi, .int .i64 old] 26)) := (Below.refl _ _).alloc (Nat.le_refl _) _
  replace hA := Lib.hid hA
  have HA := hA
  have mixed : Try.prog.follows .mixedOrders = true := by kernel_rfl
  have hF : fitsB 5 l lo hi old = ((n == 2) && okPs l && moveB (l.getD 0 (0, 0)) (l.getD 1 (0, 0))) := by rw [hn]; rfl
  by_cases n0 : n = 2
  · subst n0
    obtain ⟨p, q, rfl⟩ : ∃ p q, l = [p, q] := by
      match l, hn with
      | [p, q], _ => exact ⟨p, q, rfl⟩
    obtain ⟨_, b, off, rfl, hb, _⟩ := hA.out.two
    have s0 : w.heap.size < (w.alloc (.cells #[.int .i64 c, .int .i64 s, .int .i64 5, .slice (some ⟨b, off, none⟩) 2 cp, .int .i64 lo, .int .i64 hi, .int .i64 old] 26)).heap.size := by simp
    obtain ⟨W1, hW1⟩ : ∃ W1, w.alloc (.cells #[.int .i64 c, .int .i64 s, .int .i64 5, .slice (some ⟨b, off, none⟩) 2 cp, .int .i64 lo, .int .i64 hi, .int .i64 old] 26) = W1 := ⟨_, rfl⟩
    have hE : Env W1 W1 [(some (⟨b, off, none⟩ : Addr), 2, cp, [p, q])] := (Env.mk (L := []) (Below.refl W1.heap.size W1) (by simp)).add (by rw [← hW1]; exact hA.out.below hb0)
    have c3 : W1.cell? ⟨w.heap.size, 3, none⟩ = some (.slice (some ⟨b, off, none⟩) 2 cp) := by rw [← hW1]; simp
    have k2 : W1.cell? ⟨w.heap.size, 2, none⟩ = some (.int .i64 5) := by rw [← hW1]; simp
    rw [hW1] at s0 hb0
    have F3 : ∀ x : EnvW W1 [(some (⟨b, off, none⟩ : Addr), 2, cp, [p, q])], x.W.cell? ⟨w.heap.size, 3, none⟩ = some (.slice (some ⟨b, off, none⟩) 2 cp) := fun x => (x.h.low.cell (p := ⟨w.heap.size, 3, none⟩) s0).trans c3
    have P : ∀ x : EnvW W1 [(some (⟨b, off, none⟩ : Addr), 2, cp, [p, q])], x.W.cell? ⟨b, off, none⟩ = some (.int .i64 p.1) ∧ x.W.cell? ⟨b, off + 1, none⟩ = some (.int .i64 p.2) ∧ x.W.cell? ⟨b, off + 2, none⟩ = some (.int .i64 q.1) ∧ x.W.cell? ⟨b, off + 2 + 1, none⟩ = some (.int .i64 q.2) := fun x => by
      obtain ⟨_, b', off', e, _, h1, h2, h3, h4⟩ := (x.h.get List.mem_cons_self).two
      cases e
      exact ⟨h1, h2, h3, h4⟩
    have P0 := fun x => (P x).1
    have P1 := fun x => (P x).2.1
    have P2 := fun x => (P x).2.2.1
    have P3 := fun x => (P x).2.2.2
    have P4 : ∀ x : EnvW W1 [(some (⟨b, off, none⟩ : Addr), 2, cp, [p, q])], x.W.cell? ⟨b, off + 3, none⟩ = some (.int .i64 q.2) := P3
    have hne : Nonempty (EnvW W1 [(some (⟨b, off, none⟩ : Addr), 2, cp, [p, q])]) := ⟨⟨_, hE⟩⟩
    clear P
    obtain ⟨x, y⟩ := p
    obtain ⟨u, v⟩ := q
    dsimp only at P0 P1 P2 P3 P4
    replace hn := Lib.hid hn
    have hF' : fitsB 5 [(x, y), (u, v)] lo hi old = (okPs [(x, y), (u, v)] && moveB (x, y) (u, v)) := hF
    clear hF
    cases h2 : okPs [(x, y), (u, v)]
    · have H := Lib.hid (hF'.trans (by rw [h2]))
      have C2 := Lib.hid (fun (z : EnvW W1 [(some (⟨b, off, none⟩ : Addr), 2, cp, [(x, y), (u, v)])]) => h2 ▸ env_of z (areValid_any (some ⟨b, off, none⟩) 2 cp [(x, y), (u, v)] z.W (z.h.get List.mem_cons_self)))
      replace h2 := Lib.hid h2
      clear hF'
      go_enter Try.func78, Try.ntmps78
      go_wp2
      replace hW1 := Lib.hid hW1
      refine wp_region_quiet_env hE mixed (by kernel_rfl) ?_
      repeat (first | go_big_quiet_step ((go_at_call 115; exact C2.out _)) | quiet_step ((go_at_call 115; exact C2.out _)))
      refine wpQuiet_nil ?_
      intro _ hw'
      obtain ⟨⟨W9, hE9⟩, hw''⟩ := hw'
      subst hw''
      go_wp2
      go_ret
      exact ⟨ret_bool H.out.symm, hb0.trans (hE9.low.mono (Nat.le_of_lt s0))⟩
    · obtain ⟨m, hm⟩ : ∃ m, moveB (x, y) (u, v) = m := ⟨_, rfl⟩
      have H := Lib.hid (hF'.trans (show _ = m by rw [h2, hm]; rfl))
      have C2 := Lib.hid (fun (z : EnvW W1 [(some (⟨b, off, none⟩ : Addr), 2, cp, [(x, y), (u, v)])]) => h2 ▸ env_of z (areValid_any (some ⟨b, off, none⟩) 2 cp [(x, y), (u, v)] z.W (z.h.get List.mem_cons_self)))
      have C3 := Lib.hid (fun (z : EnvW W1 [(some (⟨b, off, none⟩ : Addr), 2, cp, [(x, y), (u, v)])]) => hm ▸ env_of z (isMove_any (x, y) (u, v) z.W))
      replace h2 := Lib.hid h2
      replace hm := Lib.hid hm
      clear hF'
      go_enter Try.func78, Try.ntmps78
      go_wp2
      replace hW1 := Lib.hid hW1
      refine wp_region_quiet_env hE mixed (by kernel_rfl) ?_
      repeat (first | go_big_quiet_step (first | (go_at_call 115; exact C2.out _) | (go_at_call 118; exact C3.out _)) | quiet_step (first | (go_at_call 115; exact C2.out _) | (go_at_call 118; exact C3.out _)))
      refine wpQuiet_nil ?_
      intro _ hw'
      obtain ⟨⟨W9, hE9⟩, hw''⟩ := hw'
      subst hw''
      go_wp2
      go_ret
      exact ⟨ret_bool (by simp [H.out]), hb0.trans (hE9.low.mono (Nat.le_of_lt s0))⟩
  · have nb : ((n : Int) == 2) = false := by simp; omega
    have H := Lib.hid (hF.trans (show _ = false by rw [show (n == 2) = false from by simpa using n0]; rfl))
    have hE : Env (w.alloc (.cells #[.int .i64 c, .int .i64 s, .int .i64 5, .slice a n cp, .int .i64 lo, .int .i64 hi, .int .i64 old] 26)) (w.alloc (.cells #[.int .i64 c, .int .i64 s, .int .i64 5, .slice a n cp, .int .i64 lo, .int .i64 hi, .int .i64 old] 26)) [] := Env.mk (L := []) (Below.refl _ _) (by simp)
    have hne : Nonempty (EnvW (w.alloc (.cells #[.int .i64 c, .int .i64 s, .int .i64 5, .slice a n cp, .int .i64 lo, .int .i64 hi, .int .i64 old] 26)) []) := ⟨⟨_, hE⟩⟩
    clear hF hn
    go_enter Try.func78, Try.ntmps78
    go_wp2
    refine wp_region_quiet_env hE mixed (by kernel_rfl) ?_
    repeat (first | go_big_quiet_step (fail) | quiet_step (fail))
    refine wpQuiet_nil ?_
    intro _ hw'
    obtain ⟨⟨W9, hE9⟩, hw''⟩ := hw'
    subst hw''
    go_wp2
    go_ret
    exact ⟨ret_bool H.out.symm, hb0.trans (hE9.low.mono (by simp))⟩

theorem fits_any (c s k : Int) (a : Option Addr) (n cp : Nat) (l : List Sp) (lo hi old : Int) (w : World) (hA : Arg w a n cp l) :
    Calls Try.prog 78 #[.agg #[.int .i64 c, .int .i64 s, .int .i64 k, .slice a n cp, .int .i64 lo, .int .i64 hi, .int .i64 old]] w (Gives w (.bool (fitsB k l lo hi old))) := by
  by_cases h1 : k = 1
  · subst h1; exact fits1 c s a n cp l lo hi old w hA
  by_cases h2 : k = 2
  · subst h2; exact fits2 c s a n cp l lo hi old w hA
  by_cases h3 : k = 3
  · subst h3; exact fits3 c s a n cp l lo hi old w hA
  by_cases h4 : k = 4
  · subst h4; exact fits4 c s a n cp l lo hi old w hA
  by_cases h5 : k = 5
  · subst h5; exact fits5 c s a n cp l lo hi old w hA
  exact fits0 c s k a n cp l lo hi old w hA ⟨h1, h2, h3, h4, h5⟩

set_option maxRecDepth 100000 in
set_option maxHeartbeats 2000000 in
theorem mcheck_any (c s k : Int) (a : Option Addr) (n cp : Nat) (l : List Sp) (lo hi old : Int) (w : World) (hA : Arg w a n cp l) :
    Calls Try.prog 32 #[.agg #[.int .i64 c, .int .i64 s, .int .i64 k, .slice a n cp, .int .i64 lo, .int .i64 hi, .int .i64 old]] w (Gives w (.bool (chkM c s k l lo hi old))) := by
  have hb0 : Below w.heap.size w (w.alloc (.cells #[.int .i64 c, .int .i64 s, .int .i64 k, .slice a n cp, .int .i64 lo, .int .i64 hi, .int .i64 old] 26)) := (Below.refl _ _).alloc (Nat.le_refl _) _
  have HA := Lib.hid hA
  have hF : chkM c s k l lo hi old = (btw 1 c 1048576 && btw 1 s 1073741824 && bareB k lo hi old && fitsB k l lo hi old) := rfl
  clear hA
  obtain ⟨r1, h1⟩ : ∃ r, btw 1 c 1048576 = r := ⟨_, rfl⟩
  obtain ⟨r2, h2⟩ : ∃ r, btw 1 s 1073741824 = r := ⟨_, rfl⟩
  obtain ⟨r3, h3⟩ : ∃ r, bareB k lo hi old = r := ⟨_, rfl⟩
  obtain ⟨r4, h4⟩ : ∃ r, fitsB k l lo hi old = r := ⟨_, rfl⟩
  rw [h1, h2, h3, h4] at hF
  replace h1 := Lib.hid h1
  replace h2 := Lib.hid h2
  replace h3 := Lib.hid h3
  replace h4 := Lib.hid h4
  replace hF := Lib.hid hF
  cases r1
  · go_enter Try.func32, Try.ntmps32
    go_wp2_with (first | (go_at_call 76; (with_reducible refine (between_any 1 c 1048576 _).mono ?_); rw [h1.out]; rintro e w' ⟨rfl, rfl⟩))
    go_ret
    exact ⟨ret_bool (by rw [hF.out]; rfl), hb0⟩
  · cases r2
    · go_enter Try.func32, Try.ntmps32
      go_wp2_with (first | (go_at_call 76; (with_reducible refine (between_any 1 c 1048576 _).mono ?_); rw [h1.out]; rintro e w' ⟨rfl, rfl⟩) | (go_at_call 76; (with_reducible refine (between_any 1 s 1073741824 _).mono ?_); rw [h2.out]; rintro e w' ⟨rfl, rfl⟩))
      go_ret
      exact ⟨ret_bool (by rw [hF.out]; rfl), hb0⟩
    · cases r3
      · go_enter Try.func32, Try.ntmps32
        go_wp2_with (first | (go_at_call 76; (with_reducible refine (between_any 1 c 1048576 _).mono ?_); rw [h1.out]; rintro e w' ⟨rfl, rfl⟩) | (go_at_call 76; (with_reducible refine (between_any 1 s 1073741824 _).mono ?_); rw [h2.out]; rintro e w' ⟨rfl, rfl⟩) | (go_at_call 77; (with_reducible refine (bare_any c s k a n cp lo hi old _).mono ?_); rw [h3.out]; rintro e w2 ⟨rfl, b2⟩; obtain ⟨g0, g1, g2, g3, g4, g5, g6⟩ := box7 b2; have b02 := below_next hb0 b2))
        go_ret
        exact ⟨ret_bool (by rw [hF.out]; rfl), b02⟩
      · go_enter Try.func32, Try.ntmps32
        go_wp2_with (first | (go_at_call 76; (with_reducible refine (between_any 1 c 1048576 _).mono ?_); rw [h1.out]; rintro e w' ⟨rfl, rfl⟩) | (go_at_call 76; (with_reducible refine (between_any 1 s 1073741824 _).mono ?_); rw [h2.out]; rintro e w' ⟨rfl, rfl⟩) | (go_at_call 77; (with_reducible refine (bare_any c s k a n cp lo hi old _).mono ?_); rw [h3.out]; rintro e w2 ⟨rfl, b2⟩; obtain ⟨g0, g1, g2, g3, g4, g5, g6⟩ := box7 b2; have b02 := below_next hb0 b2) | (go_at_call 78; (with_reducible refine (fits_any c s k a n cp l lo hi old _ (HA.out.below b02)).mono ?_); rw [h4.out]; rintro e w3 ⟨rfl, b3⟩; have b03 := below_next b02 b3))
        go_ret
        exact ⟨ret_bool (by rw [hF.out]; simp), b03⟩
end Go.Proofs.Ytfnjadiibiedgaa
