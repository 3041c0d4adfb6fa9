/-
  DELTA: the document's Fits and Make (written by wip/tools/mkDeE.py).
-/
import Derived.Test.YtmifjippdlmpiaaDeB
import Derived.Test.YtmifjippdlmpiaaDeD
namespace Go.Proofs.Ytmifjippdlmpiaa
open Go.RowKit Go.Deep Go.Shelf

theorem fits_no {a : List Pr} {l : List Tn} {j : Nat} (hj : j < l.length) (h : cellOf a l[j]!.1 ≠ l[j]!.2.1) : fitsB a l = false := by
  cases hta : tblB a with
  | false => unfold fitsB; rw [hta]; rfl
  | true =>
    cases htl : chkB l with
    | false => unfold fitsB; rw [hta, htl]; rfl
    | true =>
      rw [Bool.eq_false_iff]
      intro hf
      have h1 := (fits_iff hta htl).1 hf l[j]!.1 l[j]!.2 (turnAt_mem htl (getElem!_mem hj))
      exact h h1.symm
theorem fits_yes {a : List Pr} {l : List Tn} (h : ∀ j, j < l.length → cellOf a l[j]!.1 = l[j]!.2.1) : fitsB a l = (tblB a && chkB l) := by
  cases hta : tblB a with
  | false => unfold fitsB; rw [hta]; rfl
  | true =>
    cases htl : chkB l with
    | false => unfold fitsB; rw [hta, htl]; rfl
    | true =>
      rw [Bool.and_self]
      refine (fits_iff hta htl).2 (fun k c hc => ?_)
      obtain ⟨j, hj, e⟩ := List.mem_iff_getElem.1 (turnAt_in hc)
      have h1 := h j hj
      rw [getElem!_pos l j hj, e] at h1
      exact h1.symm
set_option maxRecDepth 100000 in
set_option maxHeartbeats 4000000 in
theorem rfits_any (aa ab : Option Addr) (na nb ca cb : Nat) (a : List Pr) (l : List Tn) (w : World) (hA : RArg encP 2 w aa na ca a) (hL : RArg encT 5 w ab nb cb l) :
    Calls Try.prog 23 #[.slice aa na ca, .slice ab nb cb] w (Gives w (.bool (fitsB a l))) := by
  have ha := Lib.hid hA
  have hp := Lib.hid hL
  obtain ⟨rfl, _, _, _, _⟩ := hA
  obtain ⟨rfl, hz, _, _, _⟩ := hL
  obtain ⟨r, hr⟩ : ∃ r, fitsB a l = r := ⟨_, rfl⟩
  rw [hr]
  have HR := Lib.hid hr
  clear hr
  go_enter Try.func23, Try.ntmps23
  go_wp2_with fail
  go_loopw [5] (fun i wr => ∃ (j : Nat), i = .int .i64 (j : Int) ∧ j ≤ l.length ∧ Hid (∀ m, m < j → cellOf a l[m]!.1 = l[m]!.2.1) ∧ Below w.heap.size w wr)
    (fun i _ => l.length - (intOf i).toNat)
  case atStart => exact ⟨0, rfl, by omega, Lib.hid (fun m hm => absurd hm (Nat.not_lt_zero _)), Below.refl _ _⟩
  case round =>
    obtain ⟨j, rfl, hj, HS, hbl⟩ := hrel
    by_cases hlt : j < l.length
    · have hjz : (j : Int) < (l.length : Int) := by omega
      have hj0 : (0 : Int) ≤ (j : Int) := by omega
      obtain ⟨bm, om, em, hbm, d0, d1, d2, d3, d4⟩ := (hp.out.below hbl).tns hlt
      subst em
      have HG1 := Lib.hid (fun W (h : Below wr.heap.size wr W) => (show Calls Try.prog 32 #[.slice aa a.length ca, .int .i64 l[j]!.1] W (Gives W (.agg #[.int .i64 (cellOf a l[j]!.1).1, .bool (cellOf a l[j]!.1).2])) by
        have h1 := rget_any aa a.length ca a l[j]!.1 W ((ha.out.below hbl).below h)
        have h3 : cellA (getT a l[j]!.1) = .agg #[.int .i64 (cellOf a l[j]!.1).1, .bool (cellOf a l[j]!.1).2] := by unfold cellA; rw [cellOf_getT]
        rwa [h3] at h1))
      have NEQ := fun W => neqCell (cellOf a l[j]!.1).1 l[j]!.2.1.1 (cellOf a l[j]!.1).2 l[j]!.2.1.2 W
      rw [cl_beq] at NEQ
      have hN : cellOf a l[j]!.1 = l[j]!.2.1 → ∀ m, m < j + 1 → cellOf a l[m]!.1 = l[m]!.2.1 := fun e m hm => by
        rcases Nat.lt_or_ge m j with h | h
        · exact HS.out m h
        · obtain rfl : m = j := by omega
          exact e
      have hF : cellOf a l[j]!.1 ≠ l[j]!.2.1 → r = false := fun e => by rw [← HR.out]; exact fits_no hlt e
      replace hN := Lib.hid hN
      replace hF := Lib.hid hF
      have hdec : (∃ q : Bool, decide (((cellOf a l[j]!.1).1, (cellOf a l[j]!.1).2) = ((l[j]!.2.1.1, l[j]!.2.1.2) : Cl)) = q) := ⟨_, rfl⟩
      obtain ⟨q, hq⟩ := hdec
      rw [hq] at NEQ
      replace hq := Lib.hid hq
      have hq1 : Hid (q = true → cellOf a l[j]!.1 = l[j]!.2.1) := Lib.hid (fun e => by have := hq.out; rw [e] at this; exact of_decide_eq_true this)
      have hq2 : Hid (q = false → cellOf a l[j]!.1 ≠ l[j]!.2.1) := Lib.hid (fun e => by have := hq.out; rw [e] at this; exact of_decide_eq_false this)
      have KS := Lib.hid (fun W' (h : Below wr.heap.size wr W') => (show W'.cell? ⟨bm, om + j * 5, none⟩ = some (.int .i64 l[j]!.1) ∧ W'.cell? ⟨bm, om + j * 5 + 1, none⟩ = some (.int .i64 l[j]!.2.1.1) ∧ W'.cell? ⟨bm, om + j * 5 + 2, none⟩ = some (.bool l[j]!.2.1.2) from ⟨(h.cell (p := ⟨bm, om + j * 5, none⟩) hbm).trans d0, (h.cell (p := ⟨bm, om + j * 5 + 1, none⟩) hbm).trans d1, (h.cell (p := ⟨bm, om + j * 5 + 2, none⟩) hbm).trans d2⟩))
      clear hq d0 d1 d2 d3 d4
      generalize (cellOf a l[j]!.1).1 = cv at HG1 NEQ
      generalize (cellOf a l[j]!.1).2 = cs at HG1 NEQ
      generalize l[j]!.2.1.1 = tv at NEQ KS
      generalize l[j]!.2.1.2 = ts at NEQ KS
      have hKk : ∃ tk, tk = l[j]!.1 := ⟨_, rfl⟩
      obtain ⟨tk, htk⟩ := hKk
      rw [← htk] at HG1 KS
      replace htk := Lib.hid htk
      have HB := Lib.hid (Below.refl wr.heap.size wr)
      cases q with
      | true =>
        go_wp2_with fail
        go_region_held3 (fun W => W.cell? ⟨bm, om + j * 5, none⟩ = some (.int .i64 tk) ∧ W.cell? ⟨bm, om + j * 5 + 1, none⟩ = some (.int .i64 tv) ∧ W.cell? ⟨bm, om + j * 5 + 2, none⟩ = some (.bool ts)) (exact KS.out _ (by repeat (first | with_reducible exact HB.out | with_reducible refine toDr ?_))) ((go_at_call 32; (with_reducible refine (HG1.out _ (by repeat (first | with_reducible exact HB.out | with_reducible refine toDr ?_))).mono ?_); rintro e w9 ⟨rfl, b9⟩; (have HB' := Lib.hid ((show Below wr.heap.size wr wr.drew from toDr HB.out).trans (b9.mono (Nat.le_refl _)))); clear HB; (have HB := HB'); clear HB' b9))
        all_goals
          go_wp2_with fail
          go_roundw
          case rel => exact ⟨j + 1, by go_num, by omega, Lib.hid (hN.out (hq1.out trivial)), below_next hbl HB.out⟩
          case measure => simp [intOf]; omega
      | false =>
        go_wp2_with fail
        go_region_held3 (fun W => W.cell? ⟨bm, om + j * 5, none⟩ = some (.int .i64 tk) ∧ W.cell? ⟨bm, om + j * 5 + 1, none⟩ = some (.int .i64 tv) ∧ W.cell? ⟨bm, om + j * 5 + 2, none⟩ = some (.bool ts)) (exact KS.out _ (by repeat (first | with_reducible exact HB.out | with_reducible refine toDr ?_))) ((go_at_call 32; (with_reducible refine (HG1.out _ (by repeat (first | with_reducible exact HB.out | with_reducible refine toDr ?_))).mono ?_); rintro e w9 ⟨rfl, b9⟩; (have HB' := Lib.hid ((show Below wr.heap.size wr wr.drew from toDr HB.out).trans (b9.mono (Nat.le_refl _)))); clear HB; (have HB := HB'); clear HB' b9))
        all_goals
          go_wp2_with fail
          go_ret
          exact ⟨ret_bool (hF.out (hq2.out trivial)).symm, below_next hbl HB.out⟩
    · have hjz : ¬ (j : Int) < (l.length : Int) := by omega
      have hfin := Lib.hid (show r = (tblB a && chkB l) by rw [← HR.out]; exact fits_yes (fun m hm => HS.out m (by omega)))
      have CA := rtcheck_any aa a.length ca a wr (ha.out.below hbl)
      have CB := Lib.hid (fun W (h : Below wr.heap.size wr W) => rcheckT_any ab l.length cb l W ((hp.out.below hbl).below h))
      cases hta : tblB a with
      | false =>
        rw [hta] at CA hfin
        go_wp2_with (go_at_call 43; (with_reducible refine CA.mono ?_); rintro e w1 ⟨rfl, b1⟩)
        go_ret
        exact ⟨ret_bool (by rw [hfin.out]; rfl), below_next hbl b1⟩
      | true =>
        rw [hta] at CA hfin
        go_wp2_with (first
          | (go_at_call 43; (with_reducible refine CA.mono ?_); rintro e w1 ⟨rfl, b1⟩)
          | (go_at_call 21; (with_reducible refine (CB.out _ b1).mono ?_); rintro e w2 ⟨rfl, b2⟩))
        go_ret
        exact ⟨ret_bool (by rw [hfin.out]; simp), below_next hbl (below_next b1 b2)⟩
def RPairs (w : World) (l : List Pr) (z : Int) (e : Ending) (w' : World) : Prop := ∃ v, e = .returned (.tuple #[v, .int .i64 z]) ∧ OwnsR encP 2 86 w' w.heap.size v l ∧ Below w.heap.size w w'
/-! What is made, step by step. -/
theorem cellD2 (w : World) (x0 x1 : Value) (t : TypeId) : ∀ j u, [x0, x1][j]? = some u → ((w.alloc (.cells #[x0, x1] t)).drew).cell? ((⟨w.heap.size, 0, none⟩ : Addr).add j) = some u := cells_one_new2 w x0 x1 t
def mkS (a : List Pr) (l : List Tn) : List Pr := (meetsPT a l).filterMap mF
def isP (t : Tn) : List Pr := if t.2.2.2 then [(t.1, t.2.2.1)] else []
theorem mkS_nil : mkS [] [] = [] := by unfold mkS; simp only [meetsPT, meets_nil]; rfl
theorem mkS_a (x : Pr) (a : List Pr) : mkS (x :: a) [] = x :: mkS a [] := by unfold mkS; simp only [meetsPT, meets_a]; rfl
theorem mkS_lt {x : Pr} {y : Tn} (a : List Pr) (l : List Tn) (h : x.1 < y.1) : mkS (x :: a) (y :: l) = x :: mkS a (y :: l) := by unfold mkS; simp only [meetsPT]; rw [meets_lt _ _ _ _ _ _ h]; rfl
theorem mkS_b (y : Tn) (l : List Tn) : mkS [] (y :: l) = isP y ++ mkS [] l := by
  unfold mkS isP; simp only [meetsPT, meets_b, List.filterMap_cons, mF, isX]
  obtain ⟨k, c, v, s⟩ := y
  cases s <;> rfl
theorem mkS_gt {x : Pr} {y : Tn} (a : List Pr) (l : List Tn) (h : y.1 < x.1) : mkS (x :: a) (y :: l) = isP y ++ mkS (x :: a) l := by
  unfold mkS isP; simp only [meetsPT]; rw [meets_gt _ _ _ _ _ _ h]; simp only [List.filterMap_cons, mF, isX]
  obtain ⟨k, c, v, s⟩ := y
  cases s <;> rfl
theorem mkS_eq {x : Pr} {y : Tn} (a : List Pr) (l : List Tn) (h : x.1 = y.1) : mkS (x :: a) (y :: l) = isP y ++ mkS a l := by
  unfold mkS isP; simp only [meetsPT]; rw [meets_eq _ _ _ _ _ _ h]; simp only [List.filterMap_cons, mF, isX]
  obtain ⟨k, c, v, s⟩ := y
  dsimp only at h ⊢
  cases s
  · rfl
  · simp [h]
theorem mkS_len (a : List Pr) (l : List Tn) : (mkS a l).length ≤ a.length + l.length := Nat.le_trans (List.length_filterMap_le _ _) (meets_len _ _ _ _ a l)
theorem makS_mkS (a : List Pr) (l : List Tn) : makS (meetsPT a l) = mkS a l := makS_fm _
set_option maxRecDepth 100000 in
set_option maxHeartbeats 8000000 in
theorem rmake_any (aa ab : Option Addr) (na nb ca cb : Nat) (a : List Pr) (l : List Tn) (w : World) (hA : RArg encP 2 w aa na ca a) (hL : RArg encT 5 w ab nb cb l) (hla : a.length ≤ 4096) (hll : l.length ≤ 4096) :
    Calls Try.prog 19 #[.slice aa na ca, .slice ab nb cb] w (RPairs w (makP a l).1 (makP a l).2) := by
  obtain ⟨i0, hi, hz0, hz1, hz2⟩ := info_parts Try.infoRPair
  have ha := Lib.hid hA
  have hp := Lib.hid hL
  obtain ⟨rfl, hza, hca, _, _⟩ := hA
  obtain ⟨rfl, hzl, hcl, _, _⟩ := hL
  have CA := rtcheck_any aa a.length ca a w ha.out
  have CB := Lib.hid (fun W (h : Below w.heap.size w W) => rcheckT_any ab l.length cb l W (hp.out.below h))
  have CF := Lib.hid (fun W (h : Below w.heap.size w W) => rfits_any aa ab a.length l.length ca cb a l W (ha.out.below h) (hp.out.below h))
  unfold makP
  cases hta : tblB a with
  | false =>
    rw [hta] at CA
    go_enter Try.func19, Try.ntmps19
    go_wp2_with (go_at_call 43; (with_reducible refine CA.mono ?_); rintro e w1 ⟨rfl, b1⟩)
    go_ret2
    exact ⟨_, rfl, OwnsR.nil _ _ _ _ _, b1⟩
  | true =>
    rw [hta] at CA
    cases htl : chkB l with
    | false =>
      rw [htl] at CB
      go_enter Try.func19, Try.ntmps19
      go_wp2_with (first
        | (go_at_call 43; (with_reducible refine CA.mono ?_); rintro e w1 ⟨rfl, b1⟩)
        | (go_at_call 21; (with_reducible refine (CB.out _ b1).mono ?_); rintro e w2 ⟨rfl, b2⟩))
      go_ret2
      exact ⟨_, rfl, OwnsR.nil _ _ _ _ _, below_next b1 b2⟩
    | true =>
      rw [htl] at CB
      cases hft : fitsB a l with
      | false =>
        rw [hft] at CF
        go_enter Try.func19, Try.ntmps19
        go_wp2_with (first
          | (go_at_call 43; (with_reducible refine CA.mono ?_); rintro e w1 ⟨rfl, b1⟩)
          | (go_at_call 21; (with_reducible refine (CB.out _ b1).mono ?_); rintro e w2 ⟨rfl, b2⟩; have B2 := below_next b1 b2)
          | (go_at_call 23; (with_reducible refine (CF.out _ B2).mono ?_); rintro e w3 ⟨rfl, b3⟩))
        go_ret2
        exact ⟨_, rfl, OwnsR.nil _ _ _ _ _, below_next B2 b3⟩
      | true =>
        rw [hft] at CF
        rw [show (if (true && true) = true then (if true = true then (makS (meetsPT a l), 0) else ([], 4)) else ([], 1) : List Pr × Int) = (mkS a l, 0) by rw [makS_mkS]; rfl]
        have hMl := mkS_len a l
        clear hta htl hft
        go_enter Try.func19, Try.ntmps19
        go_wp2_with (first
          | (go_at_call 43; (with_reducible refine CA.mono ?_); rintro e w1 ⟨rfl, b1⟩)
          | (go_at_call 21; (with_reducible refine (CB.out _ b1).mono ?_); rintro e w2 ⟨rfl, b2⟩; have B2 := below_next b1 b2)
          | (go_at_call 23; (with_reducible refine (CF.out _ B2).mono ?_); rintro e w3 ⟨rfl, b3⟩; have B3 := below_next B2 b3))
        clear CA CB CF b1 b2 b3 B2
        go_loopw [6, 7, 8] (fun v i k wr => ∃ (q : Nat) (p : Nat) (ou : List Pr), k = .int .i64 (q : Int) ∧ i = .int .i64 (p : Int) ∧ q ≤ l.length + 1 ∧ p ≤ a.length ∧ Hid (mkS a l = ou ++ mkS (a.drop p) (l.drop q)) ∧ Hid (q = l.length + 1 → p = a.length) ∧ Hid (OwnsR encP 2 86 wr w.heap.size v ou) ∧ Below w.heap.size w wr)
          (fun _ _ k _ => l.length + 1 - (intOf k).toNat)
        case atStart => exact ⟨0, 0, [], rfl, rfl, by omega, by omega, Lib.hid rfl, Lib.hid (fun h => by omega), Lib.hid (OwnsR.nil _ _ _ _ _), B3⟩
        case round =>
          obtain ⟨q, p0, ou0, rfl, rfl, hq, hp0, HM0, HQ, HO0, hbl0⟩ := hrel
          by_cases hql : q ≤ l.length
          case neg =>
            have hq1 : q = l.length + 1 := by omega
            have hpa := HQ.out hq1
            have hfin := Lib.hid (show mkS a l = ou0 by
              have := HM0.out
              rw [hpa, List.drop_length, List.drop_eq_nil_of_le (by omega), mkS_nil, List.append_nil] at this
              exact this)
            have hqz : ¬ (q : Int) ≤ (l.length : Int) := by omega
            have hqn : ¬ q ≤ l.length := by omega
            clear hpa hq1
            go_wp2_with fail
            go_ret2
            exact ⟨_, rfl, by rw [hfin.out]; exact HO0.out, hbl0⟩
          have hqz : (q : Int) ≤ (l.length : Int) := by omega
          obtain ⟨wo, rfl⟩ : ∃ wo, wo = wr := ⟨_, rfl⟩
          go_wp2_with fail
          go_loopw [6, 7] (fun v i wr => ∃ (p : Nat) (ou : List Pr), i = .int .i64 (p : Int) ∧ p ≤ a.length ∧ Hid (mkS a l = ou ++ mkS (a.drop p) (l.drop q)) ∧ Hid (OwnsR encP 2 86 wr w.heap.size v ou) ∧ Below w.heap.size w wr)
            (fun _ i _ => a.length - (intOf i).toNat)
          case atStart => exact ⟨p0, ou0, rfl, hp0, HM0, HO0, hbl0⟩
          case round =>
            obtain ⟨p, ou, rfl, hpl, HM, HO, hbl⟩ := hrel
            clear HM0 HO0 hbl0 HQ
            have hsz := hbl.size
            have hol : ou.length ≤ 8192 := by
              have h1 := congrArg List.length HM.out
              rw [List.length_append] at h1
              omega
            have hq0 : (0 : Int) ≤ (q : Int) := by omega
            have hp00 : (0 : Int) ≤ (p : Int) := by omega
            by_cases hpa : p < a.length
            · skip
              obtain ⟨b1, o1, e1, hb1, x0, x1⟩ := (ha.out.below hbl).prs hpa
              have hda := drop_moreG hpa
              have hpz : (p : Int) < (a.length : Int) := by omega
              subst e1
              generalize a[p]! = s at x0 x1 hda
              by_cases hqa : q < l.length
              · skip
                obtain ⟨b2, o2, e2, hb2, y0, y1, y2, y3, y4⟩ := (hp.out.below hbl).tns hqa
                have hdl := drop_moreG hqa
                have hqz2 : (q : Int) < (l.length : Int) := by omega
                have hqe : ((q : Int) == (l.length : Int)) = false := beq_no (by omega)
                subst e2
                generalize l[q]! = t at y0 y1 y2 y3 y4 hdl
                by_cases hlt : s.1 < t.1
                · have e1 : decide (s.1 < t.1) = true := decide_eq_true hlt
                  have HN := Lib.hid (show mkS a l = (ou ++ [s]) ++ mkS (a.drop (p + 1)) (l.drop q) by rw [HM.out, hda, hdl, mkS_lt _ _ hlt]; simp)
                  replace hda := Lib.hid hda
                  obtain ⟨x, y⟩ := s
                  dsimp only at x0 x1
                  have KD := Lib.hid (fun m => (show Below wr.heap.size wr (wr.drewN m) from below_drewN2 (Below.refl _ _) m))
                  go_wp2_with fail
                  go_quiet (fail)
                  generalize HW1 : wr.drewN _ = W1
                  have bw : Below wr.heap.size wr W1 := by rw [← HW1]; exact below_drewN2 (Below.refl _ _) _
                  replace HW1 := Lib.hid HW1
                  have x0 := (bw.cell (p := ⟨b1, o1 + p * 2, none⟩) hb1).trans x0
                  have x1 := (bw.cell (p := ⟨b1, o1 + p * 2 + 1, none⟩) hb1).trans x1
                  have HWA := Lib.hid (OwnsR.below HO.out bw)
                  have hbw := below_next hbl bw
                  have hszw := hbw.size
                  have hown0 : Hid (W1.ownsRow w.heap.size 86 2 _ ou.length (flatR encP ou)) := Lib.hid HWA.out
                  go_wp2_with (at_builtin; refine wpList_append_own _ rfl _ _ 32 rfl w.heap.size 86 i0 (.agg #[.int .i64 0, .int .i64 0]) 2 16 Try.underlying32 hi hz0 hz1 hz2 rfl (by decide) _ _ _ rfl (World.ownsRow.alloc HWA.out _) ⟨W1.heap.size, 0, none⟩ 1 1 [.int .i64 x, .int .i64 y] rfl rfl ?c1 ?c2 ?c3 ?c4 ?c5 ?_)
                  case c1 => exact cells_one_new2 _ _ _ _
                  case c2 => exact two_one _ _
                  case c3 => unfold maxLen; omega
                  case c4 => omega
                  case c5 => simp; omega
                  intro v' w9 hown hgrow _
                  have hb9 := (hbw.alloc hszw (.cells #[.int .i64 x, .int .i64 y] 86)).grown hgrow (by simp; omega) (fun j hj => (World.ownsRow.lt HWA.out j hj).1)
                  have HO2 := Lib.hid (OwnsR.snoc (enc := encP) (l := ou) (x := ((x, y) : Pr)) rfl hown)
                  clear hown hgrow HO hown0
                  go_wp2
                  go_roundw
                  case rel => exact ⟨p + 1, ou ++ [(x, y)], by go_num, by omega, HN, HO2, hb9⟩
                  case measure => simp [intOf]; omega
                · have e1 : decide (s.1 < t.1) = false := decide_eq_false hlt
                  by_cases heq : s.1 = t.1
                  · have e3 : (s.1 == t.1) = true := beq_yes heq
                    obtain ⟨tk, ⟨tv, ts⟩, ⟨ti, tb⟩⟩ := t
                    dsimp only at y0 y1 y2 y3 y4
                    obtain ⟨sx, sy⟩ := s
                    dsimp only at x0 x1
                    have HN := Lib.hid (show mkS a l = (ou ++ isP (tk, (tv, ts), (ti, tb))) ++ mkS (a.drop (p + 1)) (l.drop (q + 1)) by rw [HM.out, hda, hdl, mkS_eq _ _ heq]; simp)
                    try replace hda := Lib.hid hda
                    try replace hdl := Lib.hid hdl
                    try dsimp only at e1 e3
                    go_wp2_with fail
                    go_quiet (fail)
                    generalize HW1 : wr.drewN _ = W1
                    have bw1 : Below wr.heap.size wr W1 := by rw [← HW1]; exact below_drewN2 (Below.refl _ _) _
                    replace HW1 := Lib.hid HW1
                    have x0 := (bw1.cell (p := ⟨b1, o1 + p * 2, none⟩) hb1).trans x0
                    have x1 := (bw1.cell (p := ⟨b1, o1 + p * 2 + 1, none⟩) hb1).trans x1
                    have y0 := (bw1.cell (p := ⟨b2, o2 + q * 5, none⟩) hb2).trans y0
                    have y1 := (bw1.cell (p := ⟨b2, o2 + q * 5 + 1, none⟩) hb2).trans y1
                    have y2 := (bw1.cell (p := ⟨b2, o2 + q * 5 + 2, none⟩) hb2).trans y2
                    have y3 := (bw1.cell (p := ⟨b2, o2 + q * 5 + 3, none⟩) hb2).trans y3
                    have y4 := (bw1.cell (p := ⟨b2, o2 + q * 5 + 4, none⟩) hb2).trans y4
                    go_wp2_with fail
                    go_quiet (fail)
                    generalize HW2 : W1.drewN _ = W2
                    have bw2 : Below W1.heap.size W1 W2 := by rw [← HW2]; exact below_drewN2 (Below.refl _ _) _
                    replace HW2 := Lib.hid HW2
                    have x0 := (bw2.cell (p := ⟨b1, o1 + p * 2, none⟩) (Nat.lt_of_lt_of_le hb1 bw1.size)).trans x0
                    have x1 := (bw2.cell (p := ⟨b1, o1 + p * 2 + 1, none⟩) (Nat.lt_of_lt_of_le hb1 bw1.size)).trans x1
                    have y0 := (bw2.cell (p := ⟨b2, o2 + q * 5, none⟩) (Nat.lt_of_lt_of_le hb2 bw1.size)).trans y0
                    have y1 := (bw2.cell (p := ⟨b2, o2 + q * 5 + 1, none⟩) (Nat.lt_of_lt_of_le hb2 bw1.size)).trans y1
                    have y2 := (bw2.cell (p := ⟨b2, o2 + q * 5 + 2, none⟩) (Nat.lt_of_lt_of_le hb2 bw1.size)).trans y2
                    have y3 := (bw2.cell (p := ⟨b2, o2 + q * 5 + 3, none⟩) (Nat.lt_of_lt_of_le hb2 bw1.size)).trans y3
                    have y4 := (bw2.cell (p := ⟨b2, o2 + q * 5 + 4, none⟩) (Nat.lt_of_lt_of_le hb2 bw1.size)).trans y4
                    have bw := below_next bw1 bw2
                    have hbw := below_next hbl bw
                    have hszw := hbw.size
                    have HWB := Lib.hid (OwnsR.below HO.out bw)
                    cases tb with
                    | false =>
                      have HN2 := Lib.hid (show mkS a l = ou ++ mkS (a.drop (p + 1)) (l.drop (q + 1)) by have := HN.out; rwa [show isP (tk, (tv, ts), (ti, false)) = [] from rfl, List.append_nil] at this)
                      go_wp2_with fail
                      go_roundw
                      case rel => exact ⟨q + 1, p + 1, ou, by go_num, by first | rfl | go_num, by omega, by omega, HN2, Lib.hid (fun h => by omega), HWB, hbw⟩
                      case measure => simp [intOf]; omega
                    | true =>
                      have HN2 := Lib.hid (show mkS a l = (ou ++ [(tk, ti)]) ++ mkS (a.drop (p + 1)) (l.drop (q + 1)) by have := HN.out; rwa [show isP (tk, (tv, ts), (ti, true)) = [(tk, ti)] from rfl] at this)
                      have hown0 : W2.ownsRow w.heap.size 86 2 _ ou.length (flatR encP ou) := HWB.out
                      have HD := Lib.hid (fun o => (hown0.alloc o).drew)
                      have HG := Lib.hid (fun o w1 (hg : ((W2.alloc o).drew).grownBy w1 _) => (show Below w.heap.size w w1 from by
                        have hlt2 := hown0.lt
                        exact ((hbw.alloc hszw o).drew).grown hg (by simp; omega) (fun g e => (hlt2 g e).1)))
                      have B63 := Lib.hid (show ou.length + 1 ≤ maxLen by unfold maxLen; omega)
                      have BBY := Lib.hid (show (ou.length + 1) * 16 ≤ 140737488355328 by omega)
                      have HBS := Lib.hid (fun o => (show w.heap.size ≤ ((W2.alloc o).drew).heap.size from by simp; omega))
                      have HH := Lib.hid (fun o => (show ((W2.alloc o).drew).heap.size = W2.heap.size + 1 from by simp))
                      clear hown0
                      go_wp2_with fail
                      go_region_law (first | (refine step_append_lies _ rfl (.tmp 96) (.tmp 109) 32 rfl w.heap.size 86 i0 (.agg #[.int .i64 0, .int .i64 0]) 2 16 Try.underlying32 hi hz0 hz1 hz2 rfl (by decide) _ _ _ rfl (HD.out _) ⟨W2.heap.size, 0, none⟩ 1 1 [.int .i64 tk, .int .i64 ti] rfl rfl (cellD2 W2 _ _ _) (two_one _ _) (by decide) B63.out BBY.out (HBS.out _) (W2.heap.size + 1) (HH.out _) ?_; intro g cap w1 hown1 hgrow1 _ _; have g1 := HG.out _ _ hgrow1; replace hown1 := Lib.hid hown1; clear hgrow1))
                      all_goals
                        go_wp2
                        go_roundw
                        case rel => exact ⟨q + 1, p + 1, ou ++ [(tk, ti)], by go_num, by first | rfl | go_num, by omega, by omega, HN2, Lib.hid (fun h => by omega), Lib.hid (OwnsR.snoc (enc := encP) (x := ((tk, ti) : Pr)) rfl hown1.out), g1⟩
                        case measure => simp [intOf]; omega
                  · have e3 : (s.1 == t.1) = false := beq_no heq
                    have hgt : t.1 < s.1 := by omega
                    obtain ⟨tk, ⟨tv, ts⟩, ⟨ti, tb⟩⟩ := t
                    dsimp only at y0 y1 y2 y3 y4
                    obtain ⟨sx, sy⟩ := s
                    dsimp only at x0 x1
                    have HN := Lib.hid (show mkS a l = (ou ++ isP (tk, (tv, ts), (ti, tb))) ++ mkS (a.drop (p)) (l.drop (q + 1)) by rw [HM.out, hda, hdl, mkS_gt _ _ hgt, ← hda]; simp)
                    try replace hda := Lib.hid hda
                    try replace hdl := Lib.hid hdl
                    try dsimp only at e1 e3
                    go_wp2_with fail
                    go_quiet (fail)
                    generalize HW1 : wr.drewN _ = W1
                    have bw1 : Below wr.heap.size wr W1 := by rw [← HW1]; exact below_drewN2 (Below.refl _ _) _
                    replace HW1 := Lib.hid HW1
                    have x0 := (bw1.cell (p := ⟨b1, o1 + p * 2, none⟩) hb1).trans x0
                    have x1 := (bw1.cell (p := ⟨b1, o1 + p * 2 + 1, none⟩) hb1).trans x1
                    have y0 := (bw1.cell (p := ⟨b2, o2 + q * 5, none⟩) hb2).trans y0
                    have y1 := (bw1.cell (p := ⟨b2, o2 + q * 5 + 1, none⟩) hb2).trans y1
                    have y2 := (bw1.cell (p := ⟨b2, o2 + q * 5 + 2, none⟩) hb2).trans y2
                    have y3 := (bw1.cell (p := ⟨b2, o2 + q * 5 + 3, none⟩) hb2).trans y3
                    have y4 := (bw1.cell (p := ⟨b2, o2 + q * 5 + 4, none⟩) hb2).trans y4
                    go_wp2_with fail
                    go_quiet (fail)
                    generalize HW2 : W1.drewN _ = W2
                    have bw2 : Below W1.heap.size W1 W2 := by rw [← HW2]; exact below_drewN2 (Below.refl _ _) _
                    replace HW2 := Lib.hid HW2
                    have x0 := (bw2.cell (p := ⟨b1, o1 + p * 2, none⟩) (Nat.lt_of_lt_of_le hb1 bw1.size)).trans x0
                    have x1 := (bw2.cell (p := ⟨b1, o1 + p * 2 + 1, none⟩) (Nat.lt_of_lt_of_le hb1 bw1.size)).trans x1
                    have y0 := (bw2.cell (p := ⟨b2, o2 + q * 5, none⟩) (Nat.lt_of_lt_of_le hb2 bw1.size)).trans y0
                    have y1 := (bw2.cell (p := ⟨b2, o2 + q * 5 + 1, none⟩) (Nat.lt_of_lt_of_le hb2 bw1.size)).trans y1
                    have y2 := (bw2.cell (p := ⟨b2, o2 + q * 5 + 2, none⟩) (Nat.lt_of_lt_of_le hb2 bw1.size)).trans y2
                    have y3 := (bw2.cell (p := ⟨b2, o2 + q * 5 + 3, none⟩) (Nat.lt_of_lt_of_le hb2 bw1.size)).trans y3
                    have y4 := (bw2.cell (p := ⟨b2, o2 + q * 5 + 4, none⟩) (Nat.lt_of_lt_of_le hb2 bw1.size)).trans y4
                    have bw := below_next bw1 bw2
                    have hbw := below_next hbl bw
                    have hszw := hbw.size
                    have HWB := Lib.hid (OwnsR.below HO.out bw)
                    cases tb with
                    | false =>
                      have HN2 := Lib.hid (show mkS a l = ou ++ mkS (a.drop (p)) (l.drop (q + 1)) by have := HN.out; rwa [show isP (tk, (tv, ts), (ti, false)) = [] from rfl, List.append_nil] at this)
                      go_wp2_with fail
                      go_roundw
                      case rel => exact ⟨q + 1, p, ou, by go_num, by first | rfl | go_num, by omega, by omega, HN2, Lib.hid (fun h => by omega), HWB, hbw⟩
                      case measure => simp [intOf]; omega
                    | true =>
                      have HN2 := Lib.hid (show mkS a l = (ou ++ [(tk, ti)]) ++ mkS (a.drop (p)) (l.drop (q + 1)) by have := HN.out; rwa [show isP (tk, (tv, ts), (ti, true)) = [(tk, ti)] from rfl] at this)
                      have hown0 : W2.ownsRow w.heap.size 86 2 _ ou.length (flatR encP ou) := HWB.out
                      have HD := Lib.hid (fun o => (hown0.alloc o).drew)
                      have HG := Lib.hid (fun o w1 (hg : ((W2.alloc o).drew).grownBy w1 _) => (show Below w.heap.size w w1 from by
                        have hlt2 := hown0.lt
                        exact ((hbw.alloc hszw o).drew).grown hg (by simp; omega) (fun g e => (hlt2 g e).1)))
                      have B63 := Lib.hid (show ou.length + 1 ≤ maxLen by unfold maxLen; omega)
                      have BBY := Lib.hid (show (ou.length + 1) * 16 ≤ 140737488355328 by omega)
                      have HBS := Lib.hid (fun o => (show w.heap.size ≤ ((W2.alloc o).drew).heap.size from by simp; omega))
                      have HH := Lib.hid (fun o => (show ((W2.alloc o).drew).heap.size = W2.heap.size + 1 from by simp))
                      clear hown0
                      go_wp2_with fail
                      go_region_law (first | (refine step_append_lies _ rfl (.tmp 96) (.tmp 109) 32 rfl w.heap.size 86 i0 (.agg #[.int .i64 0, .int .i64 0]) 2 16 Try.underlying32 hi hz0 hz1 hz2 rfl (by decide) _ _ _ rfl (HD.out _) ⟨W2.heap.size, 0, none⟩ 1 1 [.int .i64 tk, .int .i64 ti] rfl rfl (cellD2 W2 _ _ _) (two_one _ _) (by decide) B63.out BBY.out (HBS.out _) (W2.heap.size + 1) (HH.out _) ?_; intro g cap w1 hown1 hgrow1 _ _; have g1 := HG.out _ _ hgrow1; replace hown1 := Lib.hid hown1; clear hgrow1))
                      all_goals
                        go_wp2
                        go_roundw
                        case rel => exact ⟨q + 1, p, ou ++ [(tk, ti)], by go_num, by first | rfl | go_num, by omega, by omega, HN2, Lib.hid (fun h => by omega), Lib.hid (OwnsR.snoc (enc := encP) (x := ((tk, ti) : Pr)) rfl hown1.out), g1⟩
                        case measure => simp [intOf]; omega
              · have hqe : ((q : Int) == (l.length : Int)) = true := beq_yes (by omega)
                have hdl : l.drop q = [] := List.drop_eq_nil_of_le (by omega)
                have HN := Lib.hid (show mkS a l = (ou ++ [s]) ++ mkS (a.drop (p + 1)) (l.drop q) by rw [HM.out, hda, hdl, mkS_a]; simp)
                replace hda := Lib.hid hda
                obtain ⟨x, y⟩ := s
                dsimp only at x0 x1
                have KD := Lib.hid (fun m => (show Below wr.heap.size wr (wr.drewN m) from below_drewN2 (Below.refl _ _) m))
                go_wp2_with fail
                go_quiet (fail)
                generalize HW1 : wr.drewN _ = W1
                have bw : Below wr.heap.size wr W1 := by rw [← HW1]; exact below_drewN2 (Below.refl _ _) _
                replace HW1 := Lib.hid HW1
                have x0 := (bw.cell (p := ⟨b1, o1 + p * 2, none⟩) hb1).trans x0
                have x1 := (bw.cell (p := ⟨b1, o1 + p * 2 + 1, none⟩) hb1).trans x1
                have HWA := Lib.hid (OwnsR.below HO.out bw)
                have hbw := below_next hbl bw
                have hszw := hbw.size
                have hown0 : Hid (W1.ownsRow w.heap.size 86 2 _ ou.length (flatR encP ou)) := Lib.hid HWA.out
                go_wp2_with (at_builtin; refine wpList_append_own _ rfl _ _ 32 rfl w.heap.size 86 i0 (.agg #[.int .i64 0, .int .i64 0]) 2 16 Try.underlying32 hi hz0 hz1 hz2 rfl (by decide) _ _ _ rfl (World.ownsRow.alloc HWA.out _) ⟨W1.heap.size, 0, none⟩ 1 1 [.int .i64 x, .int .i64 y] rfl rfl ?c1 ?c2 ?c3 ?c4 ?c5 ?_)
                case c1 => exact cells_one_new2 _ _ _ _
                case c2 => exact two_one _ _
                case c3 => unfold maxLen; omega
                case c4 => omega
                case c5 => simp; omega
                intro v' w9 hown hgrow _
                have hb9 := (hbw.alloc hszw (.cells #[.int .i64 x, .int .i64 y] 86)).grown hgrow (by simp; omega) (fun j hj => (World.ownsRow.lt HWA.out j hj).1)
                have HO2 := Lib.hid (OwnsR.snoc (enc := encP) (l := ou) (x := ((x, y) : Pr)) rfl hown)
                clear hown hgrow HO hown0
                go_wp2
                go_roundw
                case rel => exact ⟨p + 1, ou ++ [(x, y)], by go_num, by omega, HN, HO2, hb9⟩
                case measure => simp [intOf]; omega
            · have hpz : ¬ (p : Int) < (a.length : Int) := by omega
              have hpn : p = a.length := by omega
              have hda : a.drop p = [] := List.drop_eq_nil_of_le (by omega)
              by_cases hqa : q < l.length
              · skip
                obtain ⟨b2, o2, e2, hb2, y0, y1, y2, y3, y4⟩ := (hp.out.below hbl).tns hqa
                have hdl := drop_moreG hqa
                have hqz2 : (q : Int) < (l.length : Int) := by omega
                have hqe : ((q : Int) == (l.length : Int)) = false := beq_no (by omega)
                subst e2
                generalize l[q]! = t at y0 y1 y2 y3 y4 hdl
                replace hpn := Lib.hid hpn
                obtain ⟨tk, ⟨tv, ts⟩, ⟨ti, tb⟩⟩ := t
                dsimp only at y0 y1 y2 y3 y4
                have HN := Lib.hid (show mkS a l = (ou ++ isP (tk, (tv, ts), (ti, tb))) ++ mkS (a.drop (p)) (l.drop (q + 1)) by rw [HM.out, hda, hdl, mkS_b]; simp)
                try replace hda := Lib.hid hda
                try replace hdl := Lib.hid hdl
                try dsimp only at e1 e3
                go_wp2_with fail
                go_quiet (fail)
                generalize HW1 : wr.drewN _ = W1
                have bw1 : Below wr.heap.size wr W1 := by rw [← HW1]; exact below_drewN2 (Below.refl _ _) _
                replace HW1 := Lib.hid HW1
                have y0 := (bw1.cell (p := ⟨b2, o2 + q * 5, none⟩) hb2).trans y0
                have y1 := (bw1.cell (p := ⟨b2, o2 + q * 5 + 1, none⟩) hb2).trans y1
                have y2 := (bw1.cell (p := ⟨b2, o2 + q * 5 + 2, none⟩) hb2).trans y2
                have y3 := (bw1.cell (p := ⟨b2, o2 + q * 5 + 3, none⟩) hb2).trans y3
                have y4 := (bw1.cell (p := ⟨b2, o2 + q * 5 + 4, none⟩) hb2).trans y4
                go_wp2_with fail
                go_quiet (fail)
                generalize HW2 : W1.drewN _ = W2
                have bw2 : Below W1.heap.size W1 W2 := by rw [← HW2]; exact below_drewN2 (Below.refl _ _) _
                replace HW2 := Lib.hid HW2
                have y0 := (bw2.cell (p := ⟨b2, o2 + q * 5, none⟩) (Nat.lt_of_lt_of_le hb2 bw1.size)).trans y0
                have y1 := (bw2.cell (p := ⟨b2, o2 + q * 5 + 1, none⟩) (Nat.lt_of_lt_of_le hb2 bw1.size)).trans y1
                have y2 := (bw2.cell (p := ⟨b2, o2 + q * 5 + 2, none⟩) (Nat.lt_of_lt_of_le hb2 bw1.size)).trans y2
                have y3 := (bw2.cell (p := ⟨b2, o2 + q * 5 + 3, none⟩) (Nat.lt_of_lt_of_le hb2 bw1.size)).trans y3
                have y4 := (bw2.cell (p := ⟨b2, o2 + q * 5 + 4, none⟩) (Nat.lt_of_lt_of_le hb2 bw1.size)).trans y4
                have bw := below_next bw1 bw2
                have hbw := below_next hbl bw
                have hszw := hbw.size
                have HWB := Lib.hid (OwnsR.below HO.out bw)
                cases tb with
                | false =>
                  have HN2 := Lib.hid (show mkS a l = ou ++ mkS (a.drop (p)) (l.drop (q + 1)) by have := HN.out; rwa [show isP (tk, (tv, ts), (ti, false)) = [] from rfl, List.append_nil] at this)
                  go_wp2_with fail
                  go_roundw
                  case rel => exact ⟨q + 1, p, ou, by go_num, by first | rfl | go_num, by omega, by omega, HN2, Lib.hid (fun h => by omega), HWB, hbw⟩
                  case measure => simp [intOf]; omega
                | true =>
                  have HN2 := Lib.hid (show mkS a l = (ou ++ [(tk, ti)]) ++ mkS (a.drop (p)) (l.drop (q + 1)) by have := HN.out; rwa [show isP (tk, (tv, ts), (ti, true)) = [(tk, ti)] from rfl] at this)
                  have hown0 : W2.ownsRow w.heap.size 86 2 _ ou.length (flatR encP ou) := HWB.out
                  have HD := Lib.hid (fun o => (hown0.alloc o).drew)
                  have HG := Lib.hid (fun o w1 (hg : ((W2.alloc o).drew).grownBy w1 _) => (show Below w.heap.size w w1 from by
                    have hlt2 := hown0.lt
                    exact ((hbw.alloc hszw o).drew).grown hg (by simp; omega) (fun g e => (hlt2 g e).1)))
                  have B63 := Lib.hid (show ou.length + 1 ≤ maxLen by unfold maxLen; omega)
                  have BBY := Lib.hid (show (ou.length + 1) * 16 ≤ 140737488355328 by omega)
                  have HBS := Lib.hid (fun o => (show w.heap.size ≤ ((W2.alloc o).drew).heap.size from by simp; omega))
                  have HH := Lib.hid (fun o => (show ((W2.alloc o).drew).heap.size = W2.heap.size + 1 from by simp))
                  clear hown0
                  go_wp2_with fail
                  go_region_law (first | (refine step_append_lies _ rfl (.tmp 96) (.tmp 109) 32 rfl w.heap.size 86 i0 (.agg #[.int .i64 0, .int .i64 0]) 2 16 Try.underlying32 hi hz0 hz1 hz2 rfl (by decide) _ _ _ rfl (HD.out _) ⟨W2.heap.size, 0, none⟩ 1 1 [.int .i64 tk, .int .i64 ti] rfl rfl (cellD2 W2 _ _ _) (two_one _ _) (by decide) B63.out BBY.out (HBS.out _) (W2.heap.size + 1) (HH.out _) ?_; intro g cap w1 hown1 hgrow1 _ _; have g1 := HG.out _ _ hgrow1; replace hown1 := Lib.hid hown1; clear hgrow1))
                  all_goals
                    go_wp2
                    go_roundw
                    case rel => exact ⟨q + 1, p, ou ++ [(tk, ti)], by go_num, by first | rfl | go_num, by omega, by omega, HN2, Lib.hid (fun h => by omega), Lib.hid (OwnsR.snoc (enc := encP) (x := ((tk, ti) : Pr)) rfl hown1.out), g1⟩
                    case measure => simp [intOf]; omega
              · have hqe : ((q : Int) == (l.length : Int)) = true := beq_yes (by omega)
                have hqz2 : ¬ (q : Int) < (l.length : Int) := by omega
                replace hpn := Lib.hid hpn
                have HN := Lib.hid (show mkS a l = ou ++ mkS (a.drop (p)) (l.drop (q + 1)) by rw [HM.out, List.drop_eq_nil_of_le (show l.length ≤ q by omega), List.drop_eq_nil_of_le (show l.length ≤ q + 1 by omega)])
                try replace hda := Lib.hid hda
                try replace hdl := Lib.hid hdl
                try dsimp only at e1 e3
                go_wp2_with fail
                go_quiet (fail)
                generalize HW1 : wr.drewN _ = W1
                have bw1 : Below wr.heap.size wr W1 := by rw [← HW1]; exact below_drewN2 (Below.refl _ _) _
                replace HW1 := Lib.hid HW1
                go_wp2_with fail
                go_quiet (fail)
                generalize HW2 : W1.drewN _ = W2
                have bw2 : Below W1.heap.size W1 W2 := by rw [← HW2]; exact below_drewN2 (Below.refl _ _) _
                replace HW2 := Lib.hid HW2
                have bw := below_next bw1 bw2
                have hbw := below_next hbl bw
                have hszw := hbw.size
                have HWB := Lib.hid (OwnsR.below HO.out bw)
                go_wp2_with fail
                go_roundw
                case rel => exact ⟨q + 1, p, ou, by go_num, by first | rfl | go_num, by omega, by omega, HN, Lib.hid (fun h => by omega), HWB, hbw⟩
                case measure => simp [intOf]; omega
end Go.Proofs.Ytmifjippdlmpiaa
