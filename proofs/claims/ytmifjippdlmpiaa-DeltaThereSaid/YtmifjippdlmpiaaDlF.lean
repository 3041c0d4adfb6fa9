/-
  DELTA: DeltaThere's walk.
-/
import Derived.Test.YtmifjippdlmpiaaDlQ
namespace Go.Proofs.Ytmifjippdlmpiaa
open Go.RowKit Go.Deep Go.Shelf Go.ChangeShapes Go.WideShapes Go.ChangeAt

theorem few_no {m n : Nat} (hs : ¬ (m ≤ 100 ∧ n ≤ 100)) : (decide (m ≤ 100) && decide (n ≤ 100)) = false := by
  rw [Bool.and_eq_false_iff, decide_eq_false_iff_not, decide_eq_false_iff_not]
  by_cases h1 : m ≤ 100
  · exact .inr (fun h2 => hs ⟨h1, h2⟩)
  · exact .inl h1
theorem bws_len (a b : List Pr) : (betwS (meetsPP a b)).length ≤ a.length + b.length := Nat.le_trans (betwS_len _) (meets_len _ _ _ _ a b)
set_option maxRecDepth 100000 in
set_option maxHeartbeats 2000000 in
theorem deltaThere_walk (aa : Option Addr) (na ca : Nat) (a : List Pr) (ab : Option Addr) (nb cb : Nat) (b : List Pr) (w : World) (ha : RArg encP 2 w aa na ca a) (hb : RArg encP 2 w ab nb cb b) :
    Calls Try.prog 6 #[.slice aa na ca, .slice ab nb cb] w (TruePost w) := by
  obtain rfl := ha.1
  obtain rfl := hb.1
  have CF := few_any aa ab a.length b.length ca cb w ha.2.1 hb.2.1
  by_cases hs : a.length ≤ 100 ∧ b.length ≤ 100
  · obtain ⟨hs1, hs2⟩ := hs
    rw [show (decide (a.length ≤ 100) && decide (b.length ≤ 100)) = true by simp [hs1, hs2]] at CF
    have CB := fun W (h : Below w.heap.size w W) => between_any aa ab a.length b.length ca cb a b W (ha.below h) (hb.below h) (by omega) (by omega)
    cases ht : tblB a && tblB b with
    | false =>
      have hbt : betw a b = ([], 1) := by unfold betw; rw [ht]; rfl
      rw [hbt] at CB
      replace CB := Lib.hid CB
      clear ht hbt
      go_enter Try.func6, Try.ntmps6
      go_wp2_with (first
        | (go_at_call 11; (with_reducible refine CF.mono ?_); rintro e w0 ⟨rfl, b0⟩; clear CF)
        | (go_at_call 13; (with_reducible refine (CB.out _ b0).mono ?_); rintro e w1 ⟨v, rfl, hO, b1⟩; obtain ⟨va, vc, rfl, hR⟩ := OwnsR.arg encT_len hO; clear hO; have B1 := below_next b0 b1)
        | (go_at_call 12; (with_reducible refine (awake23_any _).mono ?_); rintro e w5 ⟨rfl, b5⟩; have B5 := below_next B1 b5))
      go_ret
      exact ⟨by simp, B5⟩
    | true =>
      rw [Bool.and_eq_true] at ht
      obtain ⟨ta, tb⟩ := ht
      have hbt : betw a b = (betwS (meetsPP a b), 0) := by unfold betw; rw [ta, tb]; rfl
      have hL := bws_len a b
      have cL := betw_chk ta tb
      have cM := betw_chk tb ta
      have h1 : makP a (betwS (meetsPP a b)) = (b, 0) := by unfold makP; rw [ta, cL, Bool.true_and, if_pos rfl, betw_fits ta tb, if_pos rfl, betw_make ta tb]
      have h2 : backP (betwS (meetsPP a b)) = (betwS (meetsPP b a), 0) := by unfold backP; rw [cL, if_pos rfl, back_betw ta tb]
      have h3 : makP b (betwS (meetsPP b a)) = (a, 0) := by unfold makP; rw [tb, cM, Bool.true_and, if_pos rfl, betw_fits tb ta, if_pos rfl, betw_make tb ta]
      have h4 : thenP (betwS (meetsPP a b)) (betwS (meetsPP b a)) = ([], 0) := by rw [thn_betw ta tb ta, betw_self ta]
      have h5 : backP (betwS (meetsPP b a)) = (betwS (meetsPP a b), 0) := by unfold backP; rw [cM, if_pos rfl, back_betw tb ta]
      have hM := bws_len b a
      rw [hbt] at CB
      generalize betwS (meetsPP a b) = L at *
      generalize betwS (meetsPP b a) = M at *
      have C1 := Lib.hid (fun W xa xc (hA : RArg encP 2 W aa a.length ca a) (hB : RArg encT 5 W xa L.length xc L) => (show Calls Try.prog 18 #[.slice aa a.length ca, .slice xa L.length xc] W (MPost W b 0) by have := make_any aa xa a.length L.length ca xc a L W hA hB (by omega) (by omega); rwa [h1] at this))
      have C2 := Lib.hid (fun W xa xc (hB : RArg encT 5 W xa L.length xc L) => (show Calls Try.prog 30 #[.slice xa L.length xc] W (BkPost W M 0) by have := back_any xa L.length xc L W hB (by omega); rwa [h2] at this))
      have C3 := Lib.hid (fun W xa xc (hA : RArg encP 2 W ab b.length cb b) (hB : RArg encT 5 W xa M.length xc M) => (show Calls Try.prog 18 #[.slice ab b.length cb, .slice xa M.length xc] W (MPost W a 0) by have := make_any ab xa b.length M.length cb xc b M W hA hB (by omega) (by omega); rwa [h3] at this))
      have C4 := Lib.hid (fun W xa xc ya yc (hA : RArg encT 5 W xa L.length xc L) (hB : RArg encT 5 W ya M.length yc M) => (show Calls Try.prog 25 #[.slice xa L.length xc, .slice ya M.length yc] W (BPost W [] 0) by have := then_any xa ya L.length M.length xc yc L M W hA hB (by omega) (by omega); rwa [h4] at this))
      have C5 := Lib.hid (fun W xa xc (hB : RArg encT 5 W xa M.length xc M) => (show Calls Try.prog 30 #[.slice xa M.length xc] W (BkPost W L 0) by have := back_any xa M.length xc M W hB (by omega); rwa [h5] at this))
      replace CB := Lib.hid CB
      have HA := Lib.hid ha
      have HB := Lib.hid hb
      clear h1 h2 h3 h4 h5 hbt ta tb cL cM ha hb
      go_enter Try.func6, Try.ntmps6
      go_wp2_with fail
      refine CF.mono ?_
      rintro e w0 ⟨rfl, b0⟩
      clear CF
      go_wp2_with fail
      refine (CB.out _ b0).mono ?_
      rintro e w1 ⟨v, rfl, hO, b1⟩
      obtain ⟨va, vc, rfl, hR⟩ := OwnsR.arg encT_len hO
      have B1 := below_next b0 b1
      clear hO
      go_wp2_with fail
      refine (C1.out _ _ _ (HA.out.below B1) hR).mono ?_
      rintro e w2 ⟨v, rfl, hO, b2⟩
      obtain ⟨xa, xc, rfl, hC⟩ := OwnsR.arg encP_len hO
      have B2 := below_next B1 b2
      clear hO
      go_wp2_with fail
      refine (C2.out _ _ _ (hR.below b2)).mono ?_
      rintro e w3 ⟨v, rfl, hO, b3⟩
      obtain ⟨ya, yc, rfl, hM3⟩ := OwnsR.arg encT_len hO
      have B3 := below_next B2 b3
      clear hO
      go_wp2_with fail
      refine (C3.out _ _ _ (HB.out.below B3) hM3).mono ?_
      rintro e w4 ⟨v, rfl, hO, b4⟩
      obtain ⟨za, zc, rfl, hD⟩ := OwnsR.arg encP_len hO
      have B4 := below_next B3 b4
      clear hO
      go_wp2_with fail
      refine (C4.out _ _ _ _ _ (hR.below (below_next (below_next b2 b3) b4)) (hM3.below b4)).mono ?_
      rintro e w5 ⟨v, rfl, hO, b5⟩
      obtain ⟨ua, uc, rfl, _⟩ := OwnsR.arg encT_len hO
      have B5 := below_next B4 b5
      clear hO
      go_wp2_with fail
      refine (C5.out _ _ _ (hM3.below (below_next b4 b5))).mono ?_
      rintro e w6 ⟨v, rfl, hO, b6⟩
      obtain ⟨ta, tc, rfl, hN⟩ := OwnsR.arg encT_len hO
      have B6 := below_next B5 b6
      clear hO
      go_wp2_with fail
      refine (awake23_any _).mono ?_
      rintro e w7 ⟨rfl, b7⟩
      have B7 := below_next B6 b7
      go_wp2_with fail
      refine (pairs23_any _ _ _ _ _ _ b b _ (by omega) (by omega) (hC.below (below_next (below_next (below_next (below_next b3 b4) b5) b6) b7)) (HB.out.below B7)).mono ?_
      rintro e w8 ⟨rfl, b8⟩
      have B8 := below_next B7 b8
      rw [decide_eq_true (show b = b from rfl)]
      go_wp2_with fail
      refine (pairs23_any _ _ _ _ _ _ a a _ (by omega) (by omega) (hD.below (below_next (below_next (below_next b5 b6) b7) b8)) (HA.out.below B8)).mono ?_
      rintro e w9 ⟨rfl, b9⟩
      have B9 := below_next B8 b9
      rw [decide_eq_true (show a = a from rfl)]
      go_wp2_with fail
      refine (refsT_any _ _ _ L _ (by omega) (hN.below (below_next (below_next b7 b8) b9))).mono ?_
      rintro e w10 ⟨ra, rn, rc, rfl, hT1, b10⟩
      have B10 := below_next B9 b10
      go_wp2_with fail
      refine (refsT_any _ _ _ L _ (by omega) (hR.below (below_next b2 (below_next b3 (below_next b4 (below_next b5 (below_next b6 (below_next b7 (below_next b8 (below_next b9 b10)))))))))).mono ?_
      rintro e w11 ⟨sa, sn, sc, rfl, hT2, b11⟩
      have B11 := below_next B10 b11
      go_wp2_with fail
      refine (sameT_any _ _ _ _ _ _ L _ (hT1.below b11) hT2).mono ?_
      rintro e w12 ⟨rfl, b12⟩
      have B12 := below_next B11 b12
      go_wp2_with fail
      go_ret
      exact ⟨by simp, B12⟩
  · rw [few_no hs] at CF
    go_enter Try.func6, Try.ntmps6
    go_wp2_with (first
      | (go_at_call 11; (with_reducible refine CF.mono ?_); rintro e w0 ⟨rfl, b0⟩)
      | (go_at_call 12; (with_reducible refine (awake23_any _).mono ?_); rintro e w5 ⟨rfl, b5⟩))
    go_ret
    exact ⟨rfl, below_next b0 b5⟩
end Go.Proofs.Ytmifjippdlmpiaa
