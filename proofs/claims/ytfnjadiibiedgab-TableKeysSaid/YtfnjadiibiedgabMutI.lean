/-
  CONTRACTS: the document's value, pairs (of mutations).
-/
import Derived.Test.YtfnjadiibiedgabMutH
namespace Go.Proofs.Ytfnjadiibiedgab
open Go.RowKit Go.Shelf

theorem value4_any (x : Int) (w : World) : Calls Try.prog 142 #[.int .i64 x] w fun e w' => e = .returned (.bool (isVal x)) ∧ w = w' := by
  have H := Lib.hid (show isVal x = (decide (-1099511627776 ≤ x) && decide (x ≤ 1099511627776)) by unfold isVal btw; rw [Bool.decide_and])
  generalize isVal x = r at H
  by_cases h1 : -1099511627776 ≤ x
  · by_cases h2 : x ≤ 1099511627776
    all_goals
      go_enter Try.func142, Try.ntmps142
      go_wp2
      go_ret
      exact ⟨ret_bool (by rw [H.out]; simp [h1, h2]), rfl⟩
  · go_enter Try.func142, Try.ntmps142
    go_wp2
    go_ret
    exact ⟨ret_bool (by rw [H.out]; simp; omega), rfl⟩
theorem okPs_pre (l m : List Sp) (h : okPs (l ++ m) = true) : okPs l = true := by
  unfold okPs at h ⊢
  rw [List.all_append, Bool.and_eq_true] at h
  exact h.1
theorem okPs_snoc (l : List Sp) (p : Sp) : okPs (l ++ [p]) = (okPs l && okP p) := by
  unfold okPs
  rw [List.all_append]
  simp

set_option maxRecDepth 100000 in
set_option maxHeartbeats 1000000 in
theorem pairs4_any (least most : Int) (a : Option Addr) (n c : Nat) (l : List Sp) (w : World) (h : Arg w a n c l) :
    Calls Try.prog 141 #[.slice a n c, .int .i64 least, .int .i64 most] w (Gives w (.bool (btw least n most && okPs l))) := by
  obtain ⟨hn, hz, _, _, hp⟩ := h
  have hnz : (n : Int) ≤ 9223372036854775807 := by omega
  by_cases h1 : (n : Int) < least
  · have H := Lib.hid (show (btw least n most && okPs l) = false by rw [show btw least n most = false from by unfold btw; exact decide_eq_false (by omega)]; rfl)
    clear hp hn
    go_enter Try.func141, Try.ntmps141
    go_wp2
    go_ret
    exact ⟨ret_bool H.out.symm, Below.refl _ _⟩
  · by_cases h2 : most < (n : Int)
    · have H := Lib.hid (show (btw least n most && okPs l) = false by rw [show btw least n most = false from by unfold btw; exact decide_eq_false (by omega)]; rfl)
      clear hp hn
      go_enter Try.func141, Try.ntmps141
      go_wp2
      go_ret
      exact ⟨ret_bool H.out.symm, Below.refl _ _⟩
    · obtain ⟨r, hr⟩ : ∃ r, okPs l = r := ⟨_, rfl⟩
      have H := Lib.hid (show (btw least n most && okPs l) = r by rw [show btw least n most = true from by unfold btw; exact decide_eq_true (by omega), hr]; rfl)
      generalize (btw least n most && okPs l) = r' at H
      replace hr := Lib.hid hr
      replace hn := Lib.hid hn
      replace hp := Lib.hid hp
      go_enter Try.func141, Try.ntmps141
      go_wp2_with fail
      clear h1 h2
      go_loopw [7] (fun i wr => ∃ (k : Nat), i = .int .i64 (k : Int) ∧ k ≤ n ∧ Hid (okPs (l.take k) = true) ∧ Below w.heap.size w wr)
        (fun i _ => n - (intOf i).toNat)
      case atStart => exact ⟨0, rfl, Nat.zero_le _, Lib.hid rfl, Below.refl _ _⟩
      case round =>
        obtain ⟨k, rfl, hk, HK, hbl⟩ := hrel
        by_cases hlt : k < n
        · have hkz : (k : Int) < (n : Int) := by omega
          obtain ⟨b, off, e, hb, d0, d1⟩ := (hp.out.below hbl) k (by rw [← hn.out]; omega)
          subst e
          obtain ⟨p, hpk⟩ : ∃ s, l.getD k (0, 0) = s := ⟨_, rfl⟩
          rw [hpk] at d0 d1
          have hnext : okPs (l.take (k + 1)) = okP p := by
            rw [take_more (k := k) (by rw [← hn.out]; omega), okPs_snoc, HK.out, hpk, Bool.true_and]
          have hbad : okP p = false → r = false := fun hq => by
            rw [← hr.out]
            cases hq' : okPs l
            · rfl
            · have := okPs_pre (l.take (k + 1)) (l.drop (k + 1)) (by rw [List.take_append_drop]; exact hq')
              rw [hnext, hq] at this; cases this
          replace hpk := Lib.hid hpk
          obtain ⟨x, y⟩ := p
          dsimp only at d0 d1
          have hok : okP (x, y) = ((decide (0 ≤ x) && decide (x ≤ 4095)) && isVal y) := by unfold okP btw; rw [Bool.decide_and]
          by_cases x0 : x < 0
          · have hr0 := Lib.hid (hbad (by rw [hok, decide_eq_false (by omega)]; rfl))
            clear hbad hok hnext
            go_wp2_with fail
            go_ret
            exact ⟨ret_bool (by rw [H.out, hr0.out]), hbl⟩
          · by_cases x1 : 4095 < x
            · have hr0 := Lib.hid (hbad (by rw [hok, decide_eq_false (show ¬ x ≤ 4095 by omega), Bool.and_false]; rfl))
              clear hbad hok hnext
              go_wp2_with fail
              go_ret
              exact ⟨ret_bool (by rw [H.out, hr0.out]), hbl⟩
            · rw [decide_eq_true (show 0 ≤ x by omega), decide_eq_true (show x ≤ 4095 by omega)] at hok
              cases hv' : isVal y
              · have hr0 := Lib.hid (hbad (by rw [hok, hv']; rfl))
                have hv := Lib.hid hv'
                clear hbad hok hnext hv'
                go_wp2_with ((go_at_call 142; refine (value4_any y _).mono ?_; rw [hv.out]; rintro e w9 ⟨rfl, rfl⟩))
                go_ret
                exact ⟨ret_bool (by rw [H.out, hr0.out]), hbl⟩
              · have hN := Lib.hid (hnext.trans (hok.trans (by rw [hv']; first | done | rfl)))
                have hv := Lib.hid hv'
                clear hbad hok hnext hv'
                go_wp2_with ((go_at_call 142; refine (value4_any y _).mono ?_; rw [hv.out]; rintro e w9 ⟨rfl, rfl⟩))
                go_roundw
                case rel => exact ⟨k + 1, by go_num, by omega, hN, hbl⟩
                case measure => simp [intOf]; omega
        · have hk' : l.take k = l := List.take_of_length_le (by rw [← hn.out]; omega)
          have hfin := HK.out
          have hkn : ¬ (k : Int) < (n : Int) := by omega
          rw [hk', hr.out] at hfin
          subst hfin
          replace hk' := Lib.hid hk'
          go_wp2
          go_ret
          exact ⟨ret_bool H.out.symm, hbl⟩
end Go.Proofs.Ytfnjadiibiedgab
