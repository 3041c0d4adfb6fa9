/-
  DELTA: DeltaChains' walk.
-/
import Derived.Test.YtmifjippdlmpiaaDlQ
namespace Go.Proofs.Ytmifjippdlmpiaa
open Go.RowKit Go.Deep Go.Shelf Go.ChangeShapes Go.WideShapes Go.ChangeAt

theorem betw_err (a b : List Pr) : ((betw a b).2 = 0 ∧ tblB a = true ∧ tblB b = true) ∨ (betw a b).2 = 1 := by
  unfold betw
  cases tblB a <;> cases tblB b <;> simp
theorem betw_lenC (a b : List Pr) : (betw a b).1.length ≤ a.length + b.length := betw_len a b
set_option maxRecDepth 100000 in
set_option maxHeartbeats 2000000 in
theorem chains_no (aa : Option Addr) (na ca : Nat) (a : List Pr) (ab : Option Addr) (nb cb : Nat) (b : List Pr) (ac : Option Addr) (nc cc : Nat) (c : List Pr) (w : World) (ha : RArg encP 2 w aa na ca a) (hb : RArg encP 2 w ab nb cb b) (hc : RArg encP 2 w ac nc cc c)
    (h : ¬ (a.length ≤ 60 ∧ b.length ≤ 60 ∧ c.length ≤ 60)) : Calls Try.prog 7 #[.slice aa na ca, .slice ab nb cb, .slice ac nc cc] w (TruePost w) := by
  obtain rfl := ha.1
  obtain rfl := hb.1
  obtain rfl := hc.1
  have xa := ha.2.1
  have xb := hb.2.1
  have xc := hc.2.1
  have hcase : (60 < (a.length : Int)) ∨ (¬ 60 < (a.length : Int) ∧ 60 < (b.length : Int)) ∨ (¬ 60 < (a.length : Int) ∧ ¬ 60 < (b.length : Int) ∧ 60 < (c.length : Int)) := by omega
  clear h ha hb hc
  rcases hcase with h1 | ⟨h1, h2⟩ | ⟨h1, h2, h3⟩
  all_goals
    go_enter Try.func7, Try.ntmps7
    go_wp2_with (go_at_call 12; (with_reducible refine (awake23_any _).mono ?_); rintro e w5 ⟨rfl, b5⟩)
    go_ret
    exact ⟨rfl, b5⟩
set_option maxRecDepth 100000 in
set_option maxHeartbeats 2000000 in
theorem deltaChains_walk (aa : Option Addr) (na ca : Nat) (a : List Pr) (ab : Option Addr) (nb cb : Nat) (b : List Pr) (ac : Option Addr) (nc cc : Nat) (c : List Pr) (w : World) (ha : RArg encP 2 w aa na ca a) (hb : RArg encP 2 w ab nb cb b) (hc : RArg encP 2 w ac nc cc c) :
    Calls Try.prog 7 #[.slice aa na ca, .slice ab nb cb, .slice ac nc cc] w (TruePost w) := by
  by_cases hs : a.length ≤ 60 ∧ b.length ≤ 60 ∧ c.length ≤ 60
  case neg => exact chains_no aa na ca a ab nb cb b ac nc cc c w ha hb hc hs
  obtain rfl := ha.1
  obtain rfl := hb.1
  obtain rfl := hc.1
  obtain ⟨hs1, hs2, hs3⟩ := hs
  have z1 : ¬ 60 < (a.length : Int) := by omega
  have z2 : ¬ 60 < (b.length : Int) := by omega
  have z3 : ¬ 60 < (c.length : Int) := by omega
  have C1 := fun W (h : Below w.heap.size w W) => between_any aa ab a.length b.length ca cb a b W (ha.below h) (hb.below h) (by omega) (by omega)
  have C2 := fun W (h : Below w.heap.size w W) => between_any ab ac b.length c.length cb cc b c W (hb.below h) (hc.below h) (by omega) (by omega)
  have C3 := fun W (h : Below w.heap.size w W) => between_any ac aa c.length a.length cc ca c a W (hc.below h) (ha.below h) (by omega) (by omega)
  have C4 := fun W (h : Below w.heap.size w W) => between_any aa ac a.length c.length ca cc a c W (ha.below h) (hc.below h) (by omega) (by omega)
  by_cases hall : tblB a = true ∧ tblB b = true ∧ tblB c = true
  · obtain ⟨ta, tb, tc⟩ := hall
    have e1 : betw a b = (betwS (meetsPP a b), 0) := by unfold betw; rw [ta, tb]; rfl
    have e2 : betw b c = (betwS (meetsPP b c), 0) := by unfold betw; rw [tb, tc]; rfl
    have e3 : betw c a = (betwS (meetsPP c a), 0) := by unfold betw; rw [tc, ta]; rfl
    have e4 : betw a c = (betwS (meetsPP a c), 0) := by unfold betw; rw [ta, tc]; rfl
    rw [e1] at C1
    rw [e2] at C2
    rw [e3] at C3
    rw [e4] at C4
    have l1 := betw_len a b
    have l2 := betw_len b c
    have l3 := betw_len c a
    have l4 := betw_len a c
    have l5 := betw_len b a
    rw [e1] at l1
    rw [e2] at l2
    rw [e3] at l3
    rw [e4] at l4
    rw [show betw b a = (betwS (meetsPP b a), 0) by unfold betw; rw [tb, ta]; rfl] at l5
    have t1 := thn_betw ta tb tc
    have t2 := thn_betw ta tc ta
    have t3 := thn_betw tb tc ta
    have t4 := thn_betw ta tb ta
    rw [betw_self ta] at t2 t4
    dsimp only at l1 l2 l3 l4 l5
    clear e1 e2 e3 e4 ta tb tc
    generalize betwS (meetsPP a b) = L1 at *
    generalize betwS (meetsPP b c) = L2 at *
    generalize betwS (meetsPP c a) = L3 at *
    generalize betwS (meetsPP a c) = L4 at *
    generalize betwS (meetsPP b a) = L5 at *
    have T1 := Lib.hid (fun W xa xc ya yc (hA : RArg encT 5 W xa L1.length xc L1) (hB : RArg encT 5 W ya L2.length yc L2) => (show Calls Try.prog 25 #[.slice xa L1.length xc, .slice ya L2.length yc] W (BPost W L4 0) by have := then_any xa ya L1.length L2.length xc yc L1 L2 W hA hB (by omega) (by omega); rwa [t1] at this))
    have T2 := Lib.hid (fun W xa xc ya yc (hA : RArg encT 5 W xa L4.length xc L4) (hB : RArg encT 5 W ya L3.length yc L3) => (show Calls Try.prog 25 #[.slice xa L4.length xc, .slice ya L3.length yc] W (BPost W [] 0) by have := then_any xa ya L4.length L3.length xc yc L4 L3 W hA hB (by omega) (by omega); rwa [t2] at this))
    have T3 := Lib.hid (fun W xa xc ya yc (hA : RArg encT 5 W xa L2.length xc L2) (hB : RArg encT 5 W ya L3.length yc L3) => (show Calls Try.prog 25 #[.slice xa L2.length xc, .slice ya L3.length yc] W (BPost W L5 0) by have := then_any xa ya L2.length L3.length xc yc L2 L3 W hA hB (by omega) (by omega); rwa [t3] at this))
    have T4 := Lib.hid (fun W xa xc ya yc (hA : RArg encT 5 W xa L1.length xc L1) (hB : RArg encT 5 W ya L5.length yc L5) => (show Calls Try.prog 25 #[.slice xa L1.length xc, .slice ya L5.length yc] W (BPost W [] 0) by have := then_any xa ya L1.length L5.length xc yc L1 L5 W hA hB (by omega) (by omega); rwa [t4] at this))
    replace C1 := Lib.hid C1
    replace C2 := Lib.hid C2
    replace C3 := Lib.hid C3
    replace C4 := Lib.hid C4
    clear t1 t2 t3 t4 ha hb hc
    go_enter Try.func7, Try.ntmps7
    go_wp2_with fail
    refine (C1.out _ (Below.refl _ _)).mono ?_
    rintro e w1 ⟨v, rfl, hO, b1⟩
    obtain ⟨p1, q1, rfl, h1⟩ := OwnsR.arg encT_len hO
    clear hO
    go_wp2_with fail
    refine (C2.out _ b1).mono ?_
    rintro e w2 ⟨v, rfl, hO, b2⟩
    obtain ⟨p2, q2, rfl, h2⟩ := OwnsR.arg encT_len hO
    have B2 := below_next b1 b2
    clear hO
    go_wp2_with fail
    refine (C3.out _ B2).mono ?_
    rintro e w3 ⟨v, rfl, hO, b3⟩
    obtain ⟨p3, q3, rfl, h3⟩ := OwnsR.arg encT_len hO
    have B3 := below_next B2 b3
    clear hO
    go_wp2_with fail
    refine (C4.out _ B3).mono ?_
    rintro e w4 ⟨v, rfl, hO, b4⟩
    obtain ⟨p4, q4, rfl, h4⟩ := OwnsR.arg encT_len hO
    have B4 := below_next B3 b4
    clear hO
    go_wp2_with fail
    refine (T1.out _ _ _ _ _ (h1.below (below_next (below_next b2 b3) b4)) (h2.below (below_next b3 b4))).mono ?_
    rintro e w5 ⟨v, rfl, hO, b5⟩
    obtain ⟨p5, q5, rfl, h5⟩ := OwnsR.arg encT_len hO
    have B5 := below_next B4 b5
    clear hO
    go_wp2_with fail
    refine (refsT_any _ _ _ L4 _ (by omega) h5).mono ?_
    rintro e w6 ⟨ra, rn, rc, rfl, hT1, b6⟩
    have B6 := below_next B5 b6
    go_wp2_with fail
    refine (refsT_any _ _ _ L4 _ (by omega) (h4.below (below_next b5 b6))).mono ?_
    rintro e w7 ⟨sa, sn, sc, rfl, hT2, b7⟩
    have B7 := below_next B6 b7
    go_wp2_with fail
    refine (sameT_any _ _ _ _ _ _ L4 _ (hT1.below b7) hT2).mono ?_
    rintro e w8 ⟨rfl, b8⟩
    have B8 := below_next B7 b8
    have n58 := below_next b6 (below_next b7 b8)
    go_wp2_with fail
    refine (T2.out _ _ _ _ _ (h5.below n58) (h3.below (below_next b4 (below_next b5 n58)))).mono ?_
    rintro e w9 ⟨v, rfl, hO, b9⟩
    obtain ⟨p9, q9, rfl, _⟩ := OwnsR.arg encT_len hO
    have B9 := below_next B8 b9
    clear hO
    go_wp2_with fail
    have n49 := below_next b4 (below_next b5 (below_next n58 b9))
    refine (T3.out _ _ _ _ _ (h2.below (below_next b3 n49)) (h3.below n49)).mono ?_
    rintro e w10 ⟨v, rfl, hO, b10⟩
    obtain ⟨p10, q10, rfl, h10⟩ := OwnsR.arg encT_len hO
    have B10 := below_next B9 b10
    clear hO
    go_wp2_with fail
    refine (T4.out _ _ _ _ _ (h1.below (below_next b2 (below_next b3 (below_next n49 b10)))) h10).mono ?_
    rintro e w11 ⟨v, rfl, hO, b11⟩
    obtain ⟨p11, q11, rfl, _⟩ := OwnsR.arg encT_len hO
    have B11 := below_next B10 b11
    clear hO
    go_wp2_with fail
    refine (awake23_any _).mono ?_
    rintro e w12 ⟨rfl, b12⟩
    have B12 := below_next B11 b12
    go_wp2_with fail
    go_ret
    exact ⟨by simp, B12⟩
  · have hcase : (betw a b).2 = 1 ∨ ((betw a b).2 = 0 ∧ (betw b c).2 = 1) := by
      rcases betw_err a b with ⟨h1, h2, h3⟩ | h1
      · refine .inr ⟨h1, ?_⟩
        rcases betw_err b c with ⟨_, _, h4⟩ | h4
        · exact absurd ⟨h2, h3, h4⟩ hall
        · exact h4
      · exact .inl h1
    rcases hcase with h1 | ⟨h1, h2⟩
    all_goals
      rw [h1] at C1
      first
        | (rw [h2] at C2; clear h2)
        | generalize (betw b c).2 = r2 at C2
      clear h1 hall C4
      generalize (betw a b).1 = L1 at C1
      generalize (betw b c).1 = L2 at C2
      generalize (betw c a).1 = L3 at C3
      generalize (betw c a).2 = r3 at C3
      replace C1 := Lib.hid C1
      replace C2 := Lib.hid C2
      replace C3 := Lib.hid C3
      clear ha hb hc
      go_enter Try.func7, Try.ntmps7
      go_wp2_with fail
      refine (C1.out _ (Below.refl _ _)).mono ?_
      rintro e w1 ⟨v, rfl, hO, b1⟩
      obtain ⟨p1, q1, rfl, h1⟩ := OwnsR.arg encT_len hO
      clear hO
      go_wp2_with fail
      refine (C2.out _ b1).mono ?_
      rintro e w2 ⟨v, rfl, hO, b2⟩
      obtain ⟨p2, q2, rfl, h2⟩ := OwnsR.arg encT_len hO
      have B2 := below_next b1 b2
      clear hO
      go_wp2_with fail
      refine (C3.out _ B2).mono ?_
      rintro e w3 ⟨v, rfl, hO, b3⟩
      obtain ⟨p3, q3, rfl, h3⟩ := OwnsR.arg encT_len hO
      have B3 := below_next B2 b3
      clear hO
      go_wp2_with fail
      refine (awake23_any _).mono ?_
      rintro e w4 ⟨rfl, b4⟩
      go_wp2_with fail
      go_ret
      exact ⟨rfl, below_next B3 b4⟩
end Go.Proofs.Ytmifjippdlmpiaa
