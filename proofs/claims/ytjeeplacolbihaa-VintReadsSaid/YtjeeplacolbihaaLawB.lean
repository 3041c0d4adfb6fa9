/-
  THE WALKS of the laws VintFolds, VintCut, VintOnce, VintBack: each returns true, and writes nothing that was there.
-/
import Derived.Test.YtjeeplacolbihaaLawA
import Derived.Test.YtjeeplacolbihaaPlainB
namespace Go.Proofs.Ytjeeplacolbihaa
open Go.RowKit

theorem wholeS_size_eq {z : Int} (h : mayZ z = true) : (wholeS z).size = (numL (foldZ z).toNat).length := by rw [wholeS_yes h]; simp [ByteArray.size]
theorem fold_mono {a b : Int} (h : 0 ≤ a) (hab : a ≤ b) : (foldZ a).toNat ≤ (foldZ b).toNat := by rw [foldZ_pos h, foldZ_pos (by omega)]; omega
theorem wholeS_mono {a b : Int} (h : 0 ≤ a) (hab : a ≤ b) (hb : mayZ b = true) : (wholeS a).size ≤ (wholeS b).size := by
  have ha : mayZ a = true := by unfold mayZ at *; simp at *; omega
  rw [wholeS_size_eq ha, wholeS_size_eq hb]
  exact numL_mono _ _ (fold_mono h hab)
/-- -a - 1 has as many bytes as a. -/
theorem numL_len_odd : ∀ (n : Nat), (numL (2 * n + 1)).length = (numL (2 * n)).length := by
  intro n
  induction n using Nat.strongRecOn with
  | ind n ih =>
    by_cases h : n < 64
    · rw [numL_lo (by omega), numL_lo (by omega)]; rfl
    · rw [numL_hi (by omega), numL_hi (n := 2 * n) (by omega)]
      have e : (2 * n + 1) / 128 = 2 * n / 128 := by omega
      rw [e, List.length_cons, List.length_cons]
theorem wholeS_other {a : Int} (h : 0 ≤ a) (ha : mayZ a = true) : (wholeS (-a - 1)).size = (wholeS a).size := by
  have hb : mayZ (-a - 1) = true := by unfold mayZ at *; simp at *; omega
  rw [wholeS_size_eq ha, wholeS_size_eq hb]
  have e1 : (foldZ (-a - 1)).toNat = 2 * a.toNat + 1 := by rw [foldZ_neg (by omega)]; omega
  have e2 : (foldZ a).toNat = 2 * a.toNat := by rw [foldZ_pos h]; omega
  rw [e1, e2, numL_len_odd]

set_option maxHeartbeats 2000000 in
theorem folds_yes (a b : Int) (w : World) (ha : mayZ a = true) (hb : mayZ b = true) (a0 : 0 ≤ a) (b0 : 0 ≤ b) :
    Calls Try.prog 11 #[.int .i64 a, .int .i64 b] w fun e w' => e = .returned (.bool true) ∧ Below w.heap.size w w' := by
  have a1 : a ≤ 4611686018427387903 := by unfold mayZ at ha; simp at ha; omega
  have b1 : b ≤ 4611686018427387903 := by unfold mayZ at hb; simp at hb; omega
  have l1 := wholeS_other a0 ha
  have HA := Lib.hid ha
  have HB := Lib.hid hb
  clear ha hb
  have hw : wrap64 (-a - 1) = -a - 1 := by simp [wrap64]; omega
  have HQ : ∀ c : Int, 0 ≤ c → c ≤ 1152921504606846976 → ((numS (2 * c)).toList == (wholeS c).toList) = true := by
    intro c c0 c1
    rw [wholeS_may (by unfold mayZ; simp; omega), foldZ_pos c0, Int.two_mul]; simp
  have HQ := Lib.hid HQ
  have q2 : ((numS 2305843009213693952).toList == (wholeS 1152921504606846976).toList) = true := HQ.out 1152921504606846976 (by decide) (by decide)
  have C := Below.refl w.heap.size w
  by_cases g : a ≤ 1152921504606846976
  all_goals
    try have q1 := HQ.out a a0 g
    rcases Int.lt_trichotomy a b with h | h | h
    all_goals
      first | (have l2 := wholeS_mono a0 (Int.le_of_lt h) HB.out) | (have l2 := wholeS_mono b0 (Int.le_of_lt h) HA.out) | (subst h)
      go_enter Try.func11, Try.ntmps11
      go_wp2_with (first
        | (go_at_call 42; (with_reducible refine (may_any a _).mono ?_); rw [HA.out]; rintro e w' ⟨rfl, rfl⟩)
        | (go_at_call 42; (with_reducible refine (may_any b _).mono ?_); rw [HB.out]; rintro e w' ⟨rfl, rfl⟩)
        | (go_at_call 15; refine (awake1_any _).mono ?_; rintro e w0 ⟨rfl, B0⟩; replace C := below_next C B0; clear B0)
        | (go_at_call 18; refine (whole_any _ _).mono ?_; rintro e w1 ⟨rfl, B1⟩; replace C := below_next C B1; clear B1)
        | (go_at_call 16; refine (num_any _ _ (by omega)).mono ?_; rintro e w1 ⟨rfl, B1⟩; replace C := below_next C B1; clear B1))
      go_ret
      exact ⟨rfl, C⟩

set_option maxHeartbeats 1000000 in
theorem vintFolds_walk (a b : Int) (w : World) (_a1 : (Lit.int .i64 a).wf = true) (_b1 : (Lit.int .i64 b).wf = true) :
    Calls Try.prog 11 #[.int .i64 a, .int .i64 b] w fun e w' => e = .returned (.bool true) ∧ Below w.heap.size w w' := by
  cases ha : mayZ a
  · have HA := Lib.hid ha
    clear ha
    go_enter Try.func11, Try.ntmps11
    go_wp2_with (first
      | (go_at_call 42; (with_reducible refine (may_any a _).mono ?_); rw [HA.out]; rintro e w' ⟨rfl, rfl⟩)
      | (go_at_call 15; refine (awake1_any _).mono ?_; rintro e w0 ⟨rfl, B0⟩))
    go_ret
    exact ⟨rfl, B0⟩
  · cases hb : mayZ b
    · have HA := Lib.hid ha
      have HB := Lib.hid hb
      clear ha hb
      have hne : a ≠ b := by intro e; have := HA.out; rw [e, HB.out] at this; cases this
      have HN := Lib.hid hne
      clear hne
      go_enter Try.func11, Try.ntmps11
      go_wp2_with (first
        | (go_at_call 42; (with_reducible refine (may_any a _).mono ?_); rw [HA.out]; rintro e w' ⟨rfl, rfl⟩)
        | (go_at_call 42; (with_reducible refine (may_any b _).mono ?_); rw [HB.out]; rintro e w' ⟨rfl, rfl⟩)
        | (go_at_call 15; refine (awake1_any _).mono ?_; rintro e w0 ⟨rfl, B0⟩))
      go_ret
      exact ⟨rfl, B0⟩
    · by_cases a0 : 0 ≤ a
      · by_cases b0 : 0 ≤ b
        · exact folds_yes a b w ha hb a0 b0
        · have HA := Lib.hid ha
          have HB := Lib.hid hb
          clear ha hb
          go_enter Try.func11, Try.ntmps11
          go_wp2_with (first
            | (go_at_call 42; (with_reducible refine (may_any a _).mono ?_); rw [HA.out]; rintro e w' ⟨rfl, rfl⟩)
            | (go_at_call 42; (with_reducible refine (may_any b _).mono ?_); rw [HB.out]; rintro e w' ⟨rfl, rfl⟩)
            | (go_at_call 15; refine (awake1_any _).mono ?_; rintro e w0 ⟨rfl, B0⟩))
          go_ret
          exact ⟨rfl, B0⟩
      · have HA := Lib.hid ha
        have HB := Lib.hid hb
        clear ha hb
        go_enter Try.func11, Try.ntmps11
        go_wp2_with (first
          | (go_at_call 42; (with_reducible refine (may_any a _).mono ?_); rw [HA.out]; rintro e w' ⟨rfl, rfl⟩)
          | (go_at_call 42; (with_reducible refine (may_any b _).mono ?_); rw [HB.out]; rintro e w' ⟨rfl, rfl⟩)
          | (go_at_call 15; refine (awake1_any _).mono ?_; rintro e w0 ⟨rfl, B0⟩))
        go_ret
        exact ⟨rfl, B0⟩
end Go.Proofs.Ytjeeplacolbihaa
