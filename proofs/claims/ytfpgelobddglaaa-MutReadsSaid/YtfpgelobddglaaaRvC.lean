/-
  CONTRACT: the document's Text, of a mutation.
-/
import Derived.Test.YtfpgelobddglaaaRvA
import Derived.Test.YtfpgelobddglaaaMB2
namespace Go.Proofs.Ytfpgelobddglaaa
open Go.RowKit Go.Shelf Go.ChangeShapes Go.WideShapes Go.Deep

def mH (c s k : Int) (m : Nat) : ByteArray := numS c ++ numS s ++ numS k ++ numS (m : Int)
/-- What was written behind so many pairs. -/
def mP (c s k : Int) (l : List Sp) (j : Nat) : ByteArray := mH c s k l.length ++ ofL (pairsT (l.take j))
theorem ba_nil (a : ByteArray) : a ++ ofL [] = a := ba_ext (by rw [ba_app]; simp [ofL])
theorem mP_zero (c s k : Int) (l : List Sp) : mP c s k l 0 = mH c s k l.length := by
  unfold mP
  rw [List.take_zero, show pairsT [] = [] from rfl, ba_nil]
theorem mP_succ {c s k : Int} {l : List Sp} {j : Nat} (h : j < l.length) : mP c s k l (j + 1) = mP c s k l j ++ numS (l.getD j (0, 0)).1 ++ wholeS (l.getD j (0, 0)).2 := by
  unfold mP
  rw [take_more h, pairsT_snoc, ofL_app, ofL_app, ofL_bl, ofL_bl, ba_assoc, ba_assoc, ba_assoc]
theorem mP_all (c s k : Int) (l : List Sp) (lo hi old : Int) : mP c s k l l.length ++ ofL (tailT k lo hi old) = ofL (bodyT c s k l lo hi old) := by
  unfold mP mH bodyT
  rw [List.take_of_length_le (Nat.le_refl _), ofL_app, ofL_app]
  congr 2
  apply ba_ext
  simp [ofL, numsT, bl]
theorem okPs_bd {l : List Sp} (h : okPs l = true) {k : Nat} (hk : k < l.length) : 0 ≤ (l.getD k (0, 0)).1 ∧ (l.getD k (0, 0)).1 ≤ 4095 := by
  have := okPs_get h hk
  unfold okP at this
  rw [Bool.and_eq_true] at this
  exact of_decide_eq_true this.1
theorem mP_size {c s k : Int} {l : List Sp} (hc : c ≤ 9223372036854775807) (hs : s ≤ 9223372036854775807) (hk : k ≤ 9223372036854775807) (hl : l.length ≤ 100) (ho : okPs l = true) : ∀ j, j ≤ l.length → (mP c s k l j).size ≤ 36 + 18 * j
  | 0, _ => by
    rw [mP_zero]
    unfold mH
    rw [ba_app_size, ba_app_size, ba_app_size]
    have := numS_size hc
    have := numS_size hs
    have := numS_size hk
    have := numS_size (n := (l.length : Int)) (by omega)
    omega
  | j + 1, h => by
    have ih := mP_size hc hs hk hl ho j (by omega)
    have hb := okPs_bd ho (k := j) (by omega)
    have h1 := numS_size (n := (l.getD j (0, 0)).1) (by omega)
    have h2 := wholeS_size (l.getD j (0, 0)).2
    rw [mP_succ (by omega), ba_app_size, ba_app_size]
    omega

set_option maxRecDepth 100000 in
set_option maxHeartbeats 4000000 in
theorem rmtext_any (c s k : Int) (a : Option Addr) (n cp : Nat) (l : List Sp) (lo hi old : Int) (w : World) (hA : Arg w a n cp l) :
    Calls Try.prog 28 #[.agg #[.int .i64 c, .int .i64 s, .int .i64 k, .slice a n cp, .int .i64 lo, .int .i64 hi, .int .i64 old]] w (Gives w (.string ⟨(textT c s k l lo hi old).toArray⟩)) := by
  have mixed : Try.prog.follows .mixedOrders = true := by kernel_rfl
  obtain ⟨W1, hW1⟩ : ∃ W1, w.alloc (.cells #[.int .i64 c, .int .i64 s, .int .i64 k, .slice a n cp, .int .i64 lo, .int .i64 hi, .int .i64 old] 35) = W1 := ⟨_, rfl⟩
  have b1 : Below w.heap.size w W1 := by rw [← hW1]; exact (Below.refl _ _).alloc (Nat.le_refl _) _
  have K7 := Lib.hid (fun W (h : Below W1.heap.size W1 W) => box7 (w := w) (t := 35) (v0 := .int .i64 c) (v1 := .int .i64 s) (v2 := .int .i64 k) (v3 := .slice a n cp) (v4 := .int .i64 lo) (v5 := .int .i64 hi) (v6 := .int .i64 old) (w' := W) (by rw [hW1]; exact h))
  have HA1 := hA.below b1
  have CT := Lib.hid (fun W (h : Below W1.heap.size W1 W) => rcheck4_any c s k a n cp l lo hi old W (HA1.below h))
  obtain ⟨q0, q1, q2, q3, q4, q5, q6⟩ := K7.out _ (Below.refl _ _)
  cases hc : chkM c s k l lo hi old
  · rw [show textT c s k l lo hi old = [] from if_neg (by rw [hc]; simp)]
    have h1 := Lib.hid hc
    clear hA HA1 hc
    go_enter Try.func28, Try.ntmps28
    go_wp2_with (go_at_call 17; (with_reducible refine (CT.out _ (Below.refl _ _)).mono ?_); rw [h1.out]; rintro e w2 ⟨rfl, b2⟩)
    go_ret
    exact ⟨rfl, below_next b1 b2⟩
  · have hcs := chkM_and hc
    obtain ⟨c0, c1⟩ := of_decide_eq_true hcs.1
    obtain ⟨s0, s1⟩ := of_decide_eq_true hcs.2.1
    have hv := fits_kind hcs.2.2.2
    have hn := hA.1
    have hl8 : l.length ≤ 8 ∧ okPs l = true := by
      rcases hv with h | h
      · rw [h.2.1]; exact ⟨by simp, rfl⟩
      · exact ⟨h.2.2.2, h.2.1⟩
    have hk5 : k ≤ 5 := by rcases hv with h | h <;> omega
    have hO : k = 2 → lo ≤ 4096 ∧ hi ≤ 4096 := fun h => by
      rcases hv with ⟨_, _, e⟩ | ⟨e, _⟩
      · have := (oneB_iff (lo, hi)).1 e
        dsimp only at this
        omega
      · omega
    have hn8 : n ≤ 8 := by omega
    have hcb : c ≤ 9223372036854775807 := by omega
    have hsb : s ≤ 9223372036854775807 := by omega
    have hkb : k ≤ 9223372036854775807 := by omega
    have hnb : (n : Int) ≤ 9223372036854775807 := by omega
    have H0 := Lib.hid (show mP c s k l 0 = numS c ++ numS s ++ numS k ++ numS (n : Int) by rw [mP_zero, hn]; rfl)
    have HE := Lib.hid (show (⟨(textT c s k l lo hi old).toArray⟩ : ByteArray) = mP c s k l n ++ ofL (tailT k lo hi old) by rw [hn, mP_all, show textT c s k l lo hi old = bodyT c s k l lo hi old from if_pos hc]; rfl)
    have HZ := Lib.hid (fun j (h : j ≤ n) => mP_size (c := c) (s := s) (k := k) hcb hsb hkb (by omega) hl8.2 j (by omega))
    have HG := Lib.hid (fun j (h : j < n) => mP_succ (c := c) (s := s) (k := k) (l := l) (j := j) (by omega))
    have HR := Lib.hid (fun j (h : j < n) => okPs_bd hl8.2 (k := j) (by omega))
    have zc := numS_size hcb
    have zs := numS_size hsb
    have zk := numS_size hkb
    have zn := numS_size hnb
    have HA := Lib.hid HA1
    have h1 := Lib.hid hc
    replace hn := Lib.hid hn
    obtain ⟨R, hR⟩ : ∃ R, (⟨(textT c s k l lo hi old).toArray⟩ : ByteArray) = R := ⟨_, rfl⟩
    rw [hR] at HE ⊢
    replace hR := Lib.hid hR
    clear hA HA1 hc hcs hv hl8
    go_enter Try.func28, Try.ntmps28
    go_wp2_with (go_at_call 17; (with_reducible refine (CT.out _ (Below.refl _ _)).mono ?_); rw [h1.out]; rintro e w2 ⟨rfl, b2⟩; obtain ⟨x0, x1, x2, x3, x4, x5, x6⟩ := K7.out _ b2)
    have HEv : Env W1 w2 [] := ⟨b2, by simp⟩
    have F := fun (p : EnvW W1 []) => K7.out _ p.h.low
    have F0 := fun p => (F p).1
    have F1 := fun p => (F p).2.1
    have F2 := fun p => (F p).2.2.1
    have F3 := fun p => (F p).2.2.2.1
    have F4 := fun p => (F p).2.2.2.2.1
    have F5 := fun p => (F p).2.2.2.2.2.1
    have F6 := fun p => (F p).2.2.2.2.2.2
    clear F
    have hne : Nonempty (EnvW W1 []) := ⟨⟨_, HEv⟩⟩
    have NC : Hid (∀ p : EnvW W1 [], Calls Try.prog 65 #[.int .i64 c] p.W fun e w'' => e = .returned (.string (numS c)) ∧ ∃ q : EnvW W1 [], w'' = q.W) := Lib.hid fun p => env_of p (refNum_any c p.W hcb)
    have NS : Hid (∀ p : EnvW W1 [], Calls Try.prog 65 #[.int .i64 s] p.W fun e w'' => e = .returned (.string (numS s)) ∧ ∃ q : EnvW W1 [], w'' = q.W) := Lib.hid fun p => env_of p (refNum_any s p.W hsb)
    have NK : Hid (∀ p : EnvW W1 [], Calls Try.prog 65 #[.int .i64 k] p.W fun e w'' => e = .returned (.string (numS k)) ∧ ∃ q : EnvW W1 [], w'' = q.W) := Lib.hid fun p => env_of p (refNum_any k p.W hkb)
    have NN : Hid (∀ p : EnvW W1 [], Calls Try.prog 65 #[.int .i64 (n : Int)] p.W fun e w'' => e = .returned (.string (numS (n : Int))) ∧ ∃ q : EnvW W1 [], w'' = q.W) := Lib.hid fun p => env_of p (refNum_any (n : Int) p.W hnb)
    replace hW1 := Lib.hid hW1
    refine wp_region_quiet_env HEv mixed (by kernel_rfl) ?_
    clear HEv
    repeat (first | go_big_quiet_step (first | (go_at_call 65; with_reducible exact NC.out _) | (go_at_call 65; with_reducible exact NS.out _) | (go_at_call 65; with_reducible exact NK.out _) | (go_at_call 65; with_reducible exact NN.out _)) | quiet_step (first | (go_at_call 65; with_reducible exact NC.out _) | (go_at_call 65; with_reducible exact NS.out _) | (go_at_call 65; with_reducible exact NK.out _) | (go_at_call 65; with_reducible exact NN.out _)))
    refine wpQuiet_nil ?_
    intro _ hw'
    obtain ⟨⟨W9, hE9⟩, hw''⟩ := hw'
    subst hw''
    go_wp2_with fail
    go_loopw [3, 4] (fun v i wr => ∃ (j : Nat) (t : ByteArray), v = .string t ∧ Hid (t = mP c s k l j) ∧ i = .int .i64 (j : Int) ∧ j ≤ n ∧ Below W1.heap.size W1 wr)
      (fun _ i _ => n - (intOf i).toNat)
    case atStart => exact ⟨0, _, rfl, Lib.hid H0.out.symm, rfl, Nat.zero_le _, hE9.low⟩
    case round =>
      obtain ⟨j, t, rfl, HT, rfl, hj, hbl⟩ := hrel
      have hsz : t.size ≤ 36 + 18 * j := by rw [HT.out]; exact HZ.out j hj
      obtain ⟨y0, y1, y2, y3, y4, y5, y6⟩ := K7.out _ hbl
      have HEv : Env W1 wr [] := ⟨hbl, by simp⟩
      by_cases hlt : j < n
      · have hjz : (j : Int) < (n : Int) := by omega
        obtain ⟨b, off, e, hb, d0, d1⟩ := HA.out.2.2.2.2 j (by rw [← hn.out]; exact hlt)
        subst e
        have hg := HG.out j hlt
        have hbd := HR.out j hlt
        generalize l.getD j (0, 0) = p at d0 d1 hg hbd
        obtain ⟨x, y⟩ := p
        dsimp only at d0 d1 hg hbd
        have hxb : x ≤ 9223372036854775807 := by omega
        have hxs := numS_size hxb
        have hys := wholeS_size y
        rw [← HT.out] at hg
        replace hg := Lib.hid hg
        have G0 : ∀ p : EnvW W1 [], p.W.cell? ⟨b, off + j * 2, none⟩ = some (.int .i64 x) := fun p => (p.h.low.cell (p := ⟨b, off + j * 2, none⟩) hb).trans d0
        have G1 : ∀ p : EnvW W1 [], p.W.cell? ⟨b, off + j * 2 + 1, none⟩ = some (.int .i64 y) := fun p => (p.h.low.cell (p := ⟨b, off + j * 2 + 1, none⟩) hb).trans d1
        have NX : Hid (∀ p : EnvW W1 [], Calls Try.prog 65 #[.int .i64 x] p.W fun e w'' => e = .returned (.string (numS x)) ∧ ∃ q : EnvW W1 [], w'' = q.W) := Lib.hid fun p => env_of p (refNum_any x p.W hxb)
        have NY : Hid (∀ p : EnvW W1 [], Calls Try.prog 66 #[.int .i64 y] p.W fun e w'' => e = .returned (.string (wholeS y)) ∧ ∃ q : EnvW W1 [], w'' = q.W) := Lib.hid fun p => env_of p (refWhole_any y p.W)
        clear hbd d0 d1
        go_wp2_with fail
        refine wp_region_quiet_env HEv mixed (by kernel_rfl) ?_
        clear HEv
        repeat (first | go_big_quiet_step (first | (go_at_call 65; with_reducible exact NX.out _) | (go_at_call 66; with_reducible exact NY.out _)) | quiet_step (first | (go_at_call 65; with_reducible exact NX.out _) | (go_at_call 66; with_reducible exact NY.out _)))
        refine wpQuiet_nil ?_
        intro _ hw'
        obtain ⟨⟨W8, hE8⟩, hw''⟩ := hw'
        subst hw''
        go_wp2
        go_roundw
        case rel => exact ⟨j + 1, _, rfl, Lib.hid hg.out.symm, by go_num, by omega, hE8.low⟩
        case measure => simp [intOf]; omega
      · have hjn : j = n := by omega
        have hjz : ¬ (j : Int) < (n : Int) := by omega
        subst hjn
        have HE' := Lib.hid (show R = t ++ ofL (tailT k lo hi old) by rw [HT.out]; exact HE.out)
        by_cases k2 : k = 2
        · subst k2
          obtain ⟨ol, oh⟩ := hO rfl
          have hlb : lo ≤ 9223372036854775807 := by omega
          have hhb : hi ≤ 9223372036854775807 := by omega
          have z1 := numS_size hlb
          have z2 := numS_size hhb
          have NL : Hid (∀ p : EnvW W1 [], Calls Try.prog 65 #[.int .i64 lo] p.W fun e w'' => e = .returned (.string (numS lo)) ∧ ∃ q : EnvW W1 [], w'' = q.W) := Lib.hid fun p => env_of p (refNum_any lo p.W hlb)
          have NH : Hid (∀ p : EnvW W1 [], Calls Try.prog 65 #[.int .i64 hi] p.W fun e w'' => e = .returned (.string (numS hi)) ∧ ∃ q : EnvW W1 [], w'' = q.W) := Lib.hid fun p => env_of p (refNum_any hi p.W hhb)
          have HF := Lib.hid (show R = t ++ numS lo ++ numS hi by rw [HE'.out, show tailT 2 lo hi old = bl (numS lo) ++ bl (numS hi) from rfl, ofL_app, ofL_bl, ofL_bl, ba_assoc])
          go_wp2_with fail
          refine wp_region_quiet_env HEv mixed (by kernel_rfl) ?_
          clear HEv
          repeat (first | go_big_quiet_step (first | (go_at_call 65; with_reducible exact NL.out _) | (go_at_call 65; with_reducible exact NH.out _)) | quiet_step (first | (go_at_call 65; with_reducible exact NL.out _) | (go_at_call 65; with_reducible exact NH.out _)))
          refine wpQuiet_nil ?_
          intro _ hw'
          obtain ⟨⟨W8, hE8⟩, hw''⟩ := hw'
          subst hw''
          obtain ⟨y0, y1, y2, y3, y4, y5, y6⟩ := K7.out _ hE8.low
          go_wp2
          go_ret
          exact ⟨by rw [HF.out]; rfl, b1.trans (hE8.low.mono b1.size)⟩
        · have k2b : (k == 2) = false := by simpa using k2
          by_cases k4 : k = 4
          · subst k4
            have z2 := wholeS_size old
            have HF := Lib.hid (show R = t ++ wholeS old by rw [HE'.out, show tailT 4 lo hi old = bl (wholeS old) from rfl, ofL_bl])
            go_wp2_with (go_at_call 66; (with_reducible refine (refWhole_any old _).mono ?_); rintro e w8 ⟨rfl, b8⟩)
            go_ret
            exact ⟨by rw [HF.out]; rfl, b1.trans ((below_next hbl b8).mono b1.size)⟩
          · have k4b : (k == 4) = false := by simpa using k4
            have HF := Lib.hid (show R = t by rw [HE'.out, show tailT k lo hi old = [] from by unfold tailT; rw [if_neg k2, if_neg k4], ba_nil])
            go_wp2_with fail
            go_ret
            exact ⟨by rw [HF.out]; rfl, b1.trans (hbl.mono b1.size)⟩
end Go.Proofs.Ytfpgelobddglaaa
