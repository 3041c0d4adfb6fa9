/-
  DELTA: the document's Same of ints, where both are the same; DeltaOnto's walk (written by wip/tools/mkDeC.py).
-/
import Derived.Test.YtmifjippdlmpiaaDeB
import Derived.Deep.RegionHeld3
namespace Go.Proofs.Ytmifjippdlmpiaa
open Go.RowKit Go.Deep Go.Shelf Go.ChangeShapes Go.WideShapes Go.ChangeAt

theorem betw_errO (a b : List Pr) : ((betw a b).2 = 0 ∧ tblB a = true ∧ tblB b = true) ∨ (betw a b).2 = 1 := by
  unfold betw
  cases tblB a <;> cases tblB b <;> simp
theorem betw_lenS (a b : List Pr) : (betwS (meetsPP a b)).length ≤ a.length + b.length := Nat.le_trans (betwS_len _) (meets_len _ _ _ _ a b)
theorem RArg.int {w : World} {a : Option Addr} {n c : Nat} {l : List Int} (h : RArg encI 1 w a n c l) {k : Nat} (hk : k < l.length) :
    ∃ b off, a = some ⟨b, off, none⟩ ∧ b < w.heap.size ∧ w.cell? ⟨b, off + k, none⟩ = some (.int .i64 l[k]!) := by
  obtain ⟨b, off, e, hb, hc⟩ := h.2.2.2.2 k hk
  have := hc 0 _ rfl
  rw [Nat.mul_one, Nat.add_zero] at this
  exact ⟨b, off, e, hb, this⟩
set_option maxRecDepth 100000 in
set_option maxHeartbeats 1000000 in
theorem sameZ_any (a b : Option Addr) (n m c d : Nat) (l : List Int) (w : World) (hA : RArg encI 1 w a n c l) (hB : RArg encI 1 w b m d l) :
    Calls Try.prog 29 #[.slice a n c, .slice b m d] w (Gives w (.bool true)) := by
  have hp := Lib.hid hA
  have hq := Lib.hid hB
  obtain ⟨rfl, zn, hc1, hc2, _⟩ := hA
  obtain ⟨rfl, zm, hd1, hd2, _⟩ := hB
  go_enter Try.func29, Try.ntmps29
  go_wp2_with fail
  go_loopw [5] (fun i wr => ∃ (j : Nat), i = .int .i64 (j : Int) ∧ j ≤ l.length ∧ Below w.heap.size w wr)
    (fun i _ => l.length - (intOf i).toNat)
  case atStart => exact ⟨0, rfl, by omega, Below.refl _ _⟩
  case round =>
    obtain ⟨j, rfl, hj, hbl⟩ := hrel
    by_cases hlt : j < l.length
    · obtain ⟨b1, o1, e1, _, x0⟩ := (hp.out.below hbl).int hlt
      obtain ⟨b2, o2, e2, _, y0⟩ := (hq.out.below hbl).int hlt
      subst e1
      subst e2
      generalize l[j]! = s at x0 y0
      have hltz : (j : Int) < (l.length : Int) := by omega
      go_wp2_with fail
      go_quiet (fail)
      go_wp2
      go_roundw
      case rel => exact ⟨j + 1, by go_num, by omega, below_drewN2 hbl _⟩
      case measure => simp [intOf]; omega
    · have hltz : ¬ (j : Int) < (l.length : Int) := by omega
      go_wp2
      go_ret
      exact ⟨rfl, hbl⟩
set_option maxRecDepth 100000 in
set_option maxHeartbeats 2000000 in
theorem onto_no (aa : Option Addr) (na ca : Nat) (a : List Pr) (ab : Option Addr) (nb cb : Nat) (b : List Pr) (ac : Option Addr) (nc cc : Nat) (c : List Pr) (w : World) (ha : RArg encP 2 w aa na ca a) (hb : RArg encP 2 w ab nb cb b) (hc : RArg encP 2 w ac nc cc c)
    (h : ¬ (a.length ≤ 60 ∧ b.length ≤ 60 ∧ c.length ≤ 60)) : Calls Try.prog 8 #[.slice aa na ca, .slice ab nb cb, .slice ac nc cc] w (TruePost w) := by
  obtain rfl := ha.1
  obtain rfl := hb.1
  obtain rfl := hc.1
  have xa := ha.2.1
  have xb := hb.2.1
  have xc := hc.2.1
  have hcase : (60 < (a.length : Int)) ∨ (¬ 60 < (a.length : Int) ∧ 60 < (b.length : Int)) ∨ (¬ 60 < (a.length : Int) ∧ ¬ 60 < (b.length : Int) ∧ 60 < (c.length : Int)) := by omega
  clear h ha hb hc
  rcases hcase with h1 | ⟨h1, h2⟩ | ⟨h1, h2, h3⟩
  all_goals
    go_enter Try.func8, Try.ntmps8
    go_wp2_with (go_at_call 12; (with_reducible refine (awake23_any _).mono ?_); rintro e w5 ⟨rfl, b5⟩)
    go_ret
    exact ⟨rfl, b5⟩
set_option maxRecDepth 100000 in
set_option maxHeartbeats 4000000 in
theorem deltaOnto_walk (aa : Option Addr) (na ca : Nat) (a : List Pr) (ab : Option Addr) (nb cb : Nat) (b : List Pr) (ac : Option Addr) (nc cc : Nat) (c : List Pr) (w : World) (ha : RArg encP 2 w aa na ca a) (hb : RArg encP 2 w ab nb cb b) (hc : RArg encP 2 w ac nc cc c) :
    Calls Try.prog 8 #[.slice aa na ca, .slice ab nb cb, .slice ac nc cc] w (TruePost w) := by
  by_cases hs : a.length ≤ 60 ∧ b.length ≤ 60 ∧ c.length ≤ 60
  case neg => exact onto_no aa na ca a ab nb cb b ac nc cc c w ha hb hc hs
  obtain rfl := ha.1
  obtain rfl := hb.1
  obtain rfl := hc.1
  obtain ⟨hs1, hs2, hs3⟩ := hs
  have z1 : ¬ 60 < (a.length : Int) := by omega
  have z2 : ¬ 60 < (b.length : Int) := by omega
  have z3 : ¬ 60 < (c.length : Int) := by omega
  have C1 := fun W (h : Below w.heap.size w W) => between_any aa ab a.length b.length ca cb a b W (ha.below h) (hb.below h) (by omega) (by omega)
  have C2 := fun W (h : Below w.heap.size w W) => between_any aa ac a.length c.length ca cc a c W (ha.below h) (hc.below h) (by omega) (by omega)
  by_cases hall : tblB a = true ∧ tblB b = true ∧ tblB c = true
  case neg =>
    have hcase : (betw a b).2 = 1 ∨ ((betw a b).2 = 0 ∧ (betw a c).2 = 1) := by
      rcases betw_errO a b with ⟨h1, h2, h3⟩ | h1
      · refine .inr ⟨h1, ?_⟩
        rcases betw_errO a c with ⟨_, _, h4⟩ | h4
        · exact absurd ⟨h2, h3, h4⟩ hall
        · exact h4
      · exact .inl h1
    rcases hcase with h1 | ⟨h1, h2⟩
    all_goals
      rw [h1] at C1
      first
        | (rw [h2] at C2; clear h2)
        | generalize (betw a c).2 = r2 at C2
      clear h1 hall
      generalize (betw a b).1 = L1 at C1
      generalize (betw a c).1 = L2 at C2
      replace C1 := Lib.hid C1
      replace C2 := Lib.hid C2
      clear ha hb hc
      go_enter Try.func8, Try.ntmps8
      go_wp2_with fail
      refine (C1.out _ (Below.refl _ _)).mono ?_
      rintro e w1 ⟨v, rfl, hO, b1⟩
      obtain ⟨p1, q1, rfl, h1⟩ := OwnsR.arg encT_len hO
      clear hO
      go_wp2_with fail
      refine (C2.out _ b1).mono ?_
      rintro e w2 ⟨v, rfl, hO, b2⟩
      obtain ⟨p2, q2, rfl, h2⟩ := OwnsR.arg encT_len hO
      have B2 := below_next b1 b2
      clear hO
      go_wp2_with fail
      refine (awake23_any _).mono ?_
      rintro e w4 ⟨rfl, b4⟩
      go_wp2_with fail
      go_ret
      exact ⟨rfl, below_next B2 b4⟩
  obtain ⟨ta, tb, tc⟩ := hall
  have e1 : betw a b = (betwS (meetsPP a b), 0) := by unfold betw; rw [ta, tb]; rfl
  have e2 : betw a c = (betwS (meetsPP a c), 0) := by unfold betw; rw [ta, tc]; rfl
  rw [e1] at C1
  rw [e2] at C2
  have l1 := betw_lenS a b
  have l2 := betw_lenS a c
  have c1 := betw_chk ta tb
  have c2 := betw_chk ta tc
  have k1 := onL_chk ta tb tc
  have k2 := onL_chk ta tc tb
  have f1 : makP b (onL a b c) = (makS (meetsPT b (onL a b c)), 0) := by unfold makP; rw [tb, k1, Bool.true_and, if_pos rfl, onL_fits ta tb tc, if_pos rfl]
  have f2 : makP c (onL a c b) = (makS (meetsPT c (onL a c b)), 0) := by unfold makP; rw [tc, k2, Bool.true_and, if_pos rfl, onL_fits ta tc tb, if_pos rfl]
  have g1 : ontP (betwS (meetsPP a b)) (betwS (meetsPP a c)) = (onL a b c, onC a b c, 0) := by unfold ontP; rw [c1, c2]; rfl
  have g2 : ontP (betwS (meetsPP a c)) (betwS (meetsPP a b)) = (onL a c b, onC a b c, 0) := by unfold ontP; rw [c1, c2, clash_sym c2 c1]; rfl
  have hsame := onto_same ta tb tc
  have hget : ∀ t ∈ betwS (meetsPP a c), cellOf (makS (meetsPT b (onL a b c))) t.1 = t.2.2 := fun t ht => onto_get ta tb tc ht
  have m1 : (onL a b c).length ≤ 240 := Nat.le_trans (ontL_len _) (Nat.le_trans (meets_len _ _ _ _ _ _) (by omega))
  have m2 : (onL a c b).length ≤ 240 := Nat.le_trans (ontL_len _) (Nat.le_trans (meets_len _ _ _ _ _ _) (by omega))
  have n1 : (makS (meetsPT b (onL a b c))).length ≤ 1000 := Nat.le_trans (makS_len _) (Nat.le_trans (meets_len _ _ _ _ _ _) (by omega))
  have n2 : (makS (meetsPT c (onL a c b))).length ≤ 1000 := Nat.le_trans (makS_len _) (Nat.le_trans (meets_len _ _ _ _ _ _) (by omega))
  clear e1 e2 ta tb tc c1 c2 k1 k2
  generalize makS (meetsPT b (onL a b c)) = X at *
  generalize makS (meetsPT c (onL a c b)) = Y at *
  generalize onL a b c = U at *
  generalize onL a c b = V at *
  generalize onC a b c = K at *
  generalize betwS (meetsPP a b) = L at *
  generalize betwS (meetsPP a c) = M at *
  have T1 := Lib.hid (fun W xa xc ya yc (hA : RArg encT 5 W xa L.length xc L) (hB : RArg encT 5 W ya M.length yc M) => (show Calls Try.prog 27 #[.slice xa L.length xc, .slice ya M.length yc] W (OPost W U K 0) by have := onto_any xa ya L.length M.length xc yc L M W hA hB (by omega) (by omega); rwa [g1] at this))
  have T2 := Lib.hid (fun W xa xc ya yc (hA : RArg encT 5 W xa M.length xc M) (hB : RArg encT 5 W ya L.length yc L) => (show Calls Try.prog 27 #[.slice xa M.length xc, .slice ya L.length yc] W (OPost W V K 0) by have := onto_any xa ya M.length L.length xc yc M L W hA hB (by omega) (by omega); rwa [g2] at this))
  have M1 := Lib.hid (fun W xa xc (hA : RArg encP 2 W ab b.length cb b) (hB : RArg encT 5 W xa U.length xc U) => (show Calls Try.prog 18 #[.slice ab b.length cb, .slice xa U.length xc] W (MPost W X 0) by have := make_any ab xa b.length U.length cb xc b U W hA hB (by omega) (by omega); rwa [f1] at this))
  have M2 := Lib.hid (fun W xa xc (hA : RArg encP 2 W ac c.length cc c) (hB : RArg encT 5 W xa V.length xc V) => (show Calls Try.prog 18 #[.slice ac c.length cc, .slice xa V.length xc] W (MPost W Y 0) by have := make_any ac xa c.length V.length cc xc c V W hA hB (by omega) (by omega); rwa [f2] at this))
  have HG := Lib.hid (fun j (hj : j < M.length) W ra rn rc (hR : RArg encP 2 W ra rn rc X) => (show Calls Try.prog 32 #[.slice ra rn rc, .int .i64 M[j]!.1] W (Gives W (.agg #[.int .i64 M[j]!.2.2.1, .bool M[j]!.2.2.2])) by
    have h1 := rget_any ra rn rc X M[j]!.1 W hR
    have h2 := hget M[j]! (getElem!_mem hj)
    rw [cellOf_getT] at h2
    have h3 : cellA (getT X M[j]!.1) = .agg #[.int .i64 M[j]!.2.2.1, .bool M[j]!.2.2.2] := by unfold cellA; rw [← h2]
    rwa [h3] at h1))
  replace hsame := Lib.hid hsame
  replace C1 := Lib.hid C1
  replace C2 := Lib.hid C2
  have HB1 := Lib.hid hb
  have HC1 := Lib.hid hc
  clear f1 f2 g1 g2 hget ha hb hc
  go_enter Try.func8, Try.ntmps8
  go_wp2_with fail
  refine (C1.out _ (Below.refl _ _)).mono ?_
  rintro e w1 ⟨v, rfl, hO, b1⟩
  obtain ⟨p1, q1, rfl, hL1⟩ := OwnsR.arg encT_len hO
  clear hO
  go_wp2_with fail
  refine (C2.out _ b1).mono ?_
  rintro e w2 ⟨v, rfl, hO, b2⟩
  obtain ⟨p2, q2, rfl, hM1⟩ := OwnsR.arg encT_len hO
  have B2 := below_next b1 b2
  clear hO
  go_wp2_with fail
  refine (T1.out _ _ _ _ _ (hL1.below b2) hM1).mono ?_
  rintro e w3 ⟨v, u, rfl, hO, hZ, b3⟩
  obtain ⟨p3, q3, rfl, hU⟩ := OwnsR.arg encT_len hO
  obtain ⟨p4, q4, rfl, hK1⟩ := OwnsR.arg encI_len hZ
  have B3 := below_next B2 b3
  clear hO hZ
  go_wp2_with fail
  refine (T2.out _ _ _ _ _ (hM1.below b3) (hL1.below (below_next b2 b3))).mono ?_
  rintro e w4 ⟨v, u, rfl, hO, hZ, b4⟩
  obtain ⟨p5, q5, rfl, hV⟩ := OwnsR.arg encT_len hO
  obtain ⟨p6, q6, rfl, hK2⟩ := OwnsR.arg encI_len hZ
  have B4 := below_next B3 b4
  clear hO hZ
  go_wp2_with fail
  refine (M1.out _ _ _ (HB1.out.below B4) (hU.below b4)).mono ?_
  rintro e w5 ⟨v, rfl, hO, b5⟩
  obtain ⟨p7, q7, rfl, hX⟩ := OwnsR.arg encP_len hO
  have B5 := below_next B4 b5
  clear hO
  go_wp2_with fail
  refine (M2.out _ _ _ (HC1.out.below B5) (hV.below b5)).mono ?_
  rintro e w6 ⟨v, rfl, hO, b6⟩
  obtain ⟨p8, q8, rfl, hY⟩ := OwnsR.arg encP_len hO
  have B6 := below_next B5 b6
  clear hO
  go_wp2_with fail
  refine (sameZ_any _ _ _ _ _ _ K _ (hK1.below (below_next b4 (below_next b5 b6))) (hK2.below (below_next b5 b6))).mono ?_
  rintro e w7 ⟨rfl, b7⟩
  have B7 := below_next B6 b7
  go_wp2_with fail
  have HX := Lib.hid (hX.below (below_next b6 b7))
  have HY := Lib.hid (hY.below b7)
  have HM := Lib.hid (hM1.below (below_next b3 (below_next b4 (below_next b5 (below_next b6 b7)))))
  have hMz := hM1.2.1
  clear hX hY hM1 hL1 hU hV hK1 hK2 b1 b2 b3 b4 b5 b6 b7
  go_loopw [21] (fun i wr => ∃ (j : Nat), i = .int .i64 (j : Int) ∧ j ≤ M.length ∧ Below w7.heap.size w7 wr)
    (fun i _ => M.length - (intOf i).toNat)
  case atStart => exact ⟨0, rfl, by omega, Below.refl _ _⟩
  case round =>
    obtain ⟨j, rfl, hj, hbl⟩ := hrel
    by_cases hlt : j < M.length
    · have hjz : (j : Int) < (M.length : Int) := by omega
      have hj0 : (0 : Int) ≤ (j : Int) := by omega
      obtain ⟨bm, om, em, hbm, d0, d1, d2, d3, d4⟩ := (HM.out.below hbl).tns hlt
      subst em
      have HG1 := Lib.hid (HG.out j hlt)
      have NEQ := fun W => neqCell M[j]!.2.2.1 M[j]!.2.2.1 M[j]!.2.2.2 M[j]!.2.2.2 W
      generalize M[j]! = t at d0 d1 d2 d3 d4 HG1 NEQ
      obtain ⟨tk, ⟨tv, ts⟩, ⟨ti, tt⟩⟩ := t
      dsimp only at d0 d1 d2 d3 d4 NEQ
      simp only [BEq.rfl, Bool.and_self, Bool.not_true] at NEQ
      have KS := Lib.hid (fun W' (h : Below wr.heap.size wr W') => (show W'.cell? ⟨bm, om + j * 5, none⟩ = some (.int .i64 tk) ∧ W'.cell? ⟨bm, om + j * 5 + 3, none⟩ = some (.int .i64 ti) ∧ W'.cell? ⟨bm, om + j * 5 + 4, none⟩ = some (.bool tt) from ⟨(h.cell (p := ⟨bm, om + j * 5, none⟩) hbm).trans d0, (h.cell (p := ⟨bm, om + j * 5 + 3, none⟩) hbm).trans d3, (h.cell (p := ⟨bm, om + j * 5 + 4, none⟩) hbm).trans d4⟩))
      have HX1 := Lib.hid (HX.out.below hbl)
      have HB := Lib.hid (Below.refl wr.heap.size wr)
      go_wp2_with fail
      go_region_held3 (fun W => W.cell? ⟨bm, om + j * 5, none⟩ = some (.int .i64 tk) ∧ W.cell? ⟨bm, om + j * 5 + 3, none⟩ = some (.int .i64 ti) ∧ W.cell? ⟨bm, om + j * 5 + 4, none⟩ = some (.bool tt)) (exact KS.out _ (by repeat (first | with_reducible exact HB.out | with_reducible refine toDr ?_))) ((first
        | (go_at_call 15; (with_reducible refine (refs5_any _ _ _ X _ (by omega) (HX1.out.below (by repeat (first | with_reducible exact HB.out | with_reducible refine toDr ?_)))).mono ?_); rintro e w8 ⟨ra, rn, rc, rfl, hRx, b8⟩; (have HB' := Lib.hid ((show Below wr.heap.size wr wr.drew from toDr HB.out).trans (b8.mono (Nat.le_refl _)))); clear HB; (have HB := HB'); clear HB'; (replace hRx := Lib.hid hRx); clear b8)
        | (go_at_call 32; (with_reducible refine (HG1.out _ _ _ _ hRx.out).mono ?_); rintro e w9 ⟨rfl, b9⟩; (have HB' := Lib.hid (HB.out.trans (b9.mono HB.out.size))); clear HB; (have HB := HB'); clear HB' b9)))
      all_goals
        go_wp2_with fail
        go_roundw
        case rel => exact ⟨j + 1, by go_num, by omega, below_next hbl HB.out⟩
        case measure => simp [intOf]; omega
    · have hjz : ¬ (j : Int) < (M.length : Int) := by omega
      have HF := Lib.hid (below_next B7 hbl)
      go_wp2_with fail
      refine (awake23_any _).mono ?_
      rintro e w10 ⟨rfl, b10⟩
      go_wp2_with fail
      refine (pairs23_any _ _ _ _ _ _ X Y _ (by omega) (by omega) (HX.out.below (below_next hbl b10)) (HY.out.below (below_next hbl b10))).mono ?_
      rintro e w11 ⟨rfl, b11⟩
      rw [hsame.out]
      have hK3 : ((K.length : Int) == 0) = (K.length == 0) := by
        by_cases h : K.length = 0
        · rw [h]; rfl
        · rw [beq_eq_false_iff_ne.2 h, beq_eq_false_iff_ne.2 (by omega)]
      cases hz : (K.length == 0)
      all_goals
        rw [hz] at hK3
        replace hz := Lib.hid hz
        go_wp2_with fail
        go_ret
        exact ⟨by simp, below_next HF.out (below_next b10 b11)⟩
end Go.Proofs.Ytmifjippdlmpiaa
