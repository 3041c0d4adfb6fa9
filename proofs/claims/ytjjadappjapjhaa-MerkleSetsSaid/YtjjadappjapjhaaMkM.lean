/-
  THE LAW MerkleFinds: its walk.
-/
import Derived.Test.YtjjadappjapjhaaMkL
namespace Go.Proofs.Ytjjadappjapjhaa
open Go.RowKit Go.Deep

theorem Try.infoPair20 : (Try.prog.info? 49).map (fun i => (i.zero, i.size, i.bytes)) = some (some (.agg #[.int .i64 0, .int .i64 0]), 2, 16) := by kernel_rfl
theorem encP_one20 (l : List Pr) : ∀ v ∈ flatR encP l, v.oneCell' = true := by
  intro v hv
  unfold flatR at hv
  obtain ⟨x, _, hx⟩ := List.mem_flatMap.1 hv
  simp [encP] at hx
  rcases hx with rfl | rfl <;> rfl
theorem RIn.flatP {w : World} {B : Nat} {b off : Nat} {l : List Pr} (h : RIn encP 2 w B (some ⟨b, off, none⟩) l) (j : Nat) (u : Value) (hj : (flatR encP l)[j]? = some u) : w.cell? ⟨b, off + j, none⟩ = some u := by
  have hl := flatR_length encP_len l
  have hlt : j < l.length * 2 := by
    rcases Nat.lt_or_ge j (flatR encP l).length with h | h
    · rwa [hl] at h
    · rw [List.getElem?_eq_none h] at hj; cases hj
  have hq : j / 2 < l.length := by omega
  obtain ⟨b', off', e, _, hc⟩ := h (j / 2) hq
  cases e
  have hi : j % 2 < 2 := Nat.mod_lt _ (by omega)
  obtain ⟨v, hv⟩ : ∃ v, (encP l[j / 2]!)[j % 2]? = some v := ⟨_, List.getElem?_eq_getElem (by rw [encP_len]; exact hi)⟩
  have h1 := flatR_get encP_len l (j / 2) (j % 2) v hq hv
  rw [show j / 2 * 2 + j % 2 = j by omega, hj] at h1
  cases h1
  have := hc (j % 2) u hv
  rwa [show off + j / 2 * 2 + j % 2 = off + j by omega] at this
theorem flat_put {l : List Pr} {i : Nat} (hi : i < l.length) (v : Int) : (flatR encP l).set (i * 2 + 1) (.int .i64 v) = flatR encP (putL l i v) := by
  have e1 : l = l.take i ++ l[i]! :: l.drop (i + 1) := by rw [getElem!_pos l i hi, ← List.drop_eq_getElem_cons hi, List.take_append_drop]
  have e2 : putL l i v = l.take i ++ (l[i]!.1, v) :: l.drop (i + 1) := by
    unfold putL
    rw [List.set_eq_take_append_cons_drop, if_pos hi]
  rw [e2]
  conv => lhs; rw [e1]
  have ht : (l.take i).length = i := by rw [List.length_take]; omega
  rw [flatR_append, flatR_append, List.set_append, if_neg (by rw [flatR_length (k := 2) encP_len, ht]; omega), flatR_length (k := 2) encP_len, ht, show i * 2 + 1 - i * 2 = 1 by omega]
  rfl
theorem putL_len (l : List Pr) (i : Nat) (v : Int) : (putL l i v).length = l.length := by simp [putL]
theorem lowX_go (v b : Int) : wrap64 (bits .xor .u64 (IntKind.u64.wrap v) (b % 1024)) = lowX v b := by unfold lowX; exact (IntWalk.i64_left _).symm
theorem spans_nil : spansL [] = [] := rfl
theorem diff_none (p1 p2 : Value) (C : Nat → Option Int) (w : World) (h1 : TrP w p1 C) (h2 : TrP w p2 C) : Calls Try.prog 24 #[p1, p2] w fun e w' => ∃ a c, e = .returned (.slice a 0 c) ∧ Below w.heap.size w w' := by
  refine (diff_any p1 p2 C C w h1 h2).mono fun e w' q => ?_
  obtain ⟨v3, rfl, o3, hb3⟩ := q
  rw [difL_same, spans_nil] at o3
  obtain ⟨a3, c3, rfl, _⟩ : ∃ a c, v3 = .slice a 0 c ∧ RArg encS 2 w' a 0 c [] := OwnsR.arg encS_len o3
  exact ⟨a3, c3, rfl, hb3⟩
theorem tmod_first20 (a : Int) (m : Nat) (hm : 0 < m) (h2 : m ≤ 100000) : ∃ f : Nat, f < m ∧ (wrap64 (a.tmod (m : Int) + (m : Int))).tmod (m : Int) = (f : Int) := by
  have h3 : -(m : Int) < a.tmod m := by have := Int.lt_tmod_of_pos a (b := (m : Int)) (by omega); exact this
  have h4 : a.tmod m < (m : Int) := Int.tmod_lt_of_pos a (by omega)
  have h5 : wrap64 (a.tmod (m : Int) + (m : Int)) = a.tmod (m : Int) + (m : Int) := by unfold wrap64; omega
  rw [h5]
  obtain ⟨x, hx⟩ : ∃ x, a.tmod (m : Int) + (m : Int) = x := ⟨_, rfl⟩
  rw [hx, Int.tmod_eq_emod_of_nonneg (by omega)]
  have h6 := Int.emod_nonneg x (b := (m : Int)) (by omega)
  have h7 := Int.emod_lt_of_pos x (b := (m : Int)) (by omega)
  exact ⟨(x % m).toNat, by omega, by omega⟩
set_option maxRecDepth 100000 in
set_option maxHeartbeats 4000000 in
theorem merkleFinds_walk (a : Option Addr) (n c : Nat) (l : List Pr) (which b : Int) (w : World) (h : RArg encP 2 w a n c l) (_hw : (Lit.int .i64 which).wf = true) (hbw : (Lit.int .u32 b).wf = true) :
    Calls Try.prog 8 #[.slice a n c, .int .i64 which, .int .u32 b] w (TruePost w) := by
  have hz : (n : Int) ≤ 9223372036854775807 := by have := h.1; have := h.2.1; omega
  have FW := Lib.hid (fun W => few20_any a n c W hz)
  cases ht : tblB l
  · have NW := Lib.hid (new_no a n c l w h ht)
    clear ht h
    cases hf : decide (n ≤ 60)
    all_goals
      rw [hf] at FW
      clear hf
      go_enter Try.func8, Try.ntmps8
      go_wp2_with (first | (go_at_call 14; (with_reducible refine NW.out.mono ?_); rintro e w1 ⟨rfl, hb1⟩) | (go_at_call 10; (with_reducible refine (FW.out _).mono ?_); rintro e w2 ⟨rfl, rfl⟩) | (go_at_call 11; (with_reducible refine (awake20_any _).mono ?_); rintro e w9 ⟨rfl, hb9⟩) | fail)
      go_ret
      exact ⟨rfl, below_next hb1 hb9⟩
  · have NW := Lib.hid (new_ok a n c l w h ht)
    cases hf : decide (n ≤ 60)
    · rw [hf] at FW
      clear hf ht h
      go_enter Try.func8, Try.ntmps8
      go_wp2_with (first | (go_at_call 14; (with_reducible refine NW.out.mono ?_); rintro e w1 ⟨b1, rfl, t1, _, hb1⟩) | (go_at_call 10; (with_reducible refine (FW.out _).mono ?_); rintro e w2 ⟨rfl, rfl⟩) | (go_at_call 11; (with_reducible refine (awake20_any _).mono ?_); rintro e w9 ⟨rfl, hb9⟩) | fail)
      go_ret
      exact ⟨rfl, below_next hb1 hb9⟩
    · rw [hf] at FW
      have h60 : n ≤ 60 := of_decide_eq_true hf
      by_cases hn0 : n = 0
      · subst hn0
        clear hf ht h
        go_enter Try.func8, Try.ntmps8
        go_wp2_with (first | (go_at_call 14; (with_reducible refine NW.out.mono ?_); rintro e w1 ⟨b1, rfl, t1, _, hb1⟩) | (go_at_call 10; (with_reducible refine (FW.out _).mono ?_); rintro e w2 ⟨rfl, rfl⟩) | (go_at_call 11; (with_reducible refine (awake20_any _).mono ?_); rintro e w9 ⟨rfl, hb9⟩) | fail)
        go_ret
        exact ⟨rfl, below_next hb1 hb9⟩
      · obtain ⟨i0, hi, hz0, hz1, hz2⟩ := info_parts Try.infoPair20
        have hpos : 0 < n := by omega
        obtain ⟨hb0, hb4⟩ := bounds_u32 hbw
        have hn1 : ((n : Int) == 0) = false := by simp; omega
        obtain ⟨i, hin, hie⟩ := tmod_first20 which n hpos (by omega)
        have hlen : n = l.length := h.1
        have hil : i < l.length := by omega
        obtain ⟨g, off, e, hg, hc⟩ := h.2.2.2.2 i hil
        subst e
        have H := Lib.hid h
        have HT := Lib.hid ht
        have HLEN := Lib.hid hlen
        have HI := Lib.hid hil
        clear hf h ht hlen hil hc hn0
        go_enter Try.func8, Try.ntmps8
        go_wp2_with (first | (go_at_call 14; (with_reducible refine NW.out.mono ?_); rintro e w1 ⟨b1, rfl, t1, _, hb1⟩) | (go_at_call 10; (with_reducible refine (FW.out _).mono ?_); rintro e w2 ⟨rfl, rfl⟩) | (at_builtin; refine wpList_append_own _ rfl _ _ 22 rfl w1.heap.size 49 i0 (.agg #[.int .i64 0, .int .i64 0]) 2 16 Try.underlying22 hi hz0 hz1 hz2 rfl (by decide) _ _ _ rfl (World.ownsRow_made w1 #[] 0 (Nat.le_refl _) (Nat.zero_le _) (by simp)) ⟨g, off, none⟩ n c (flatR encP l) rfl ?c1 ?c2 ?c3 ?c4 ?c5 ?c6 ?_) | fail)
        case c1 => rw [flatR_length encP_len, HLEN.out]
        case c2 => exact fun j u hj => by rw [addr_add]; exact ((H.out.below hb1).below ((Below.refl _ _).alloc (Nat.le_refl _) _)).2.2.2.2.flatP j u hj
        case c3 => exact encP_one20 l
        case c4 => unfold maxLen; omega
        case c5 => omega
        case c6 => simp
        intro v4 w4 hown hg4 _
        have hb14 : Below w1.heap.size w1 w4 := ((Below.refl _ _).alloc (Nat.le_refl _) _).grown hg4 (by simp) (fun k hk => by simp [Value.ownBlock] at hk; omega)
        rcases hown.2 with ⟨_, hn0⟩ | ⟨q, cap, cur, rfl, hq, _⟩
        · omega
        have T4 := Lib.hid (t1.below hb14)
        have HO := Lib.hid hown
        have HB4 := Lib.hid hb14
        have HQ := Lib.hid hq
        have hv1 := flatR_get encP_len l i 1 (.int .i64 l[i]!.2) HI.out rfl
        have hv0 := flatR_get encP_len l i 0 (.int .i64 l[i]!.1) HI.out rfl
        have k1 := (World.ownsRow.cellAt hown (i * 2 + 1) (by omega)).trans hv1
        have k0 := (World.ownsRow.cellAt hown (i * 2) (by omega)).trans hv0
        have f1 := World.ownsRow.frozenAt hown (i * 2 + 1)
        obtain ⟨kk, hkk⟩ : ∃ kk, l[i]!.1 = kk := ⟨_, rfl⟩
        obtain ⟨vv, hvv⟩ : ∃ vv, l[i]!.2 = vv := ⟨_, rfl⟩
        rw [hvv] at k1
        rw [hkk] at k0
        have HKK := Lib.hid hkk
        have HVV := Lib.hid hvv
        have T1 := Lib.hid t1
        clear hown hg4 hq hv1 hv0 hkk hvv t1 hb14 hpos hie
        have hin2 : (i : Int) < (n : Int) := by omega
        have HXX := Lib.hid (lowX_go vv b)
        go_wp2_with fail
        rw [HXX.out]
        obtain ⟨x, hx⟩ : ∃ x, lowX vv b = x := ⟨_, rfl⟩
        rw [hx]
        have hst := World.ownsRow.stored HO.out (i * 2 + 1) (.int .i64 x)
        have hb15 : Below w1.heap.size w1 (w4.setCell ⟨q, i * 2 + 1, none⟩ (.int .i64 x)) := HB4.out.setCell HQ.out _
        obtain ⟨w5, hw5⟩ : ∃ w5, w4.setCell ⟨q, i * 2 + 1, none⟩ (.int .i64 x) = w5 := ⟨_, rfl⟩
        rw [hw5] at hst hb15
        rw [hw5]
        have ho5 : OwnsR encP 2 49 w5 w1.heap.size (.slice (some ⟨q, 0, none⟩) n cap) (putL l i x) := by
          unfold OwnsR
          rw [putL_len, ← HLEN.out, ← flat_put HI.out]
          exact hst.1
        have hr5 : RArg encP 2 w5 (some ⟨q, 0, none⟩) n cap (putL l i x) := by
          obtain ⟨a5, c5, e5, h5⟩ := ho5.arg encP_len
          rw [putL_len, ← HLEN.out] at e5 h5
          cases e5
          exact h5
        have hq5 : q < w5.heap.size := (World.ownsRow.lt hst.1 q rfl).2
        have k15 := (World.ownsRow.cellAt hst.1 (i * 2 + 1) (by omega)).trans (show ((flatR encP l).set (i * 2 + 1) (.int .i64 x))[i * 2 + 1]? = some (.int .i64 x) by rw [List.getElem?_set, if_pos rfl, if_pos (by rw [flatR_length (k := 2) encP_len, ← HLEN.out]; omega)])
        have k05 := (World.ownsRow.cellAt hst.1 (i * 2) (by omega)).trans ((show ((flatR encP l).set (i * 2 + 1) (.int .i64 x))[i * 2]? = (flatR encP l)[i * 2]? by rw [List.getElem?_set, if_neg (by omega)]).trans (flatR_get encP_len l i 0 (.int .i64 l[i]!.1) HI.out rfl))
        rw [HKK.out] at k05
        have KC := Lib.hid (fun W (hb : Below w5.heap.size w5 W) => (show W.cell? ⟨q, i * 2, none⟩ = some (.int .i64 kk) ∧ W.cell? ⟨q, i * 2 + 1, none⟩ = some (.int .i64 x) from ⟨(hb.cell (p := ⟨q, i * 2, none⟩) hq5).trans k05, (hb.cell (p := ⟨q, i * 2 + 1, none⟩) hq5).trans k15⟩))
        have hval := tbl_val HT.out HI.out
        rw [HVV.out] at hval
        have hlow := lowX_high (v := vv) (b := b) (by omega) (by omega)
        rw [hx] at hlow
        have htb := tblF_put l (-1) i x HT.out HI.out
        have HB15 := Lib.hid hb15
        have T5 := Lib.hid (T1.out.below hb15)
        have HR5 := Lib.hid hr5
        have HLOW := Lib.hid hlow
        have HTB := Lib.hid htb
        clear hst hb15 hw5 ho5 hr5 hq5 k15 k05 hval hlow htb k0 k1 f1 HXX T4 hx hz
        cases ht5 : tblB (putL l i x)
        · have hrng : ¬ (-1099511627776 ≤ x ∧ x ≤ 1099511627776) := by
            have := HTB.out
            rw [show tblF (-1) (putL l i x) = false from ht5] at this
            exact of_decide_eq_false this.symm
          have NX := Lib.hid (new_no _ _ _ _ w5 HR5.out ht5)
          clear ht5
          by_cases hx1 : 1099511627776 < x
          · go_wp2_with (first | (go_at_call 14; (with_reducible refine NX.out.mono ?_); rintro e w6 ⟨rfl, hb6⟩) | (go_at_call 11; (with_reducible refine (awake20_any _).mono ?_); rintro e w9 ⟨rfl, hb9⟩; have hb69 := below_next hb6 hb9; obtain ⟨j0, j1⟩ := KC.out _ hb69) | fail)
            go_ret
            exact ⟨rfl, below_next hb1 (HB15.out.trans (hb69.mono HB15.out.size))⟩
          · have hx2 : x < -1099511627776 := by omega
            go_wp2_with (first | (go_at_call 14; (with_reducible refine NX.out.mono ?_); rintro e w6 ⟨rfl, hb6⟩) | (go_at_call 11; (with_reducible refine (awake20_any _).mono ?_); rintro e w9 ⟨rfl, hb9⟩; have hb69 := below_next hb6 hb9; obtain ⟨j0, j1⟩ := KC.out _ hb69) | fail)
            go_ret
            exact ⟨rfl, below_next hb1 (HB15.out.trans (hb69.mono HB15.out.size))⟩
        · have NX := Lib.hid (new_ok _ _ _ _ w5 HR5.out ht5)
          clear ht5
          by_cases hbz : b % 1024 = 0
          · have hxv : x = vv := HLOW.out.2.2 hbz
            have hC : putL l i x = l := by rw [hxv, ← HVV.out]; exact putL_self HI.out
            rw [hC] at NX
            have hbq : (b % 1024 == 0) = true := by simpa using hbz
            obtain ⟨rt, hrt⟩ : ∃ rt, regI (lvN (tabC l) 3 0) = rt := ⟨_, rfl⟩
            have HRT := Lib.hid hrt
            clear hxv hC hbz hrt
            go_wp2_with (go_at_call 14; (with_reducible refine NX.out.mono ?_); rintro e w6 ⟨b2, rfl, t2, _, hb6⟩)
            have T6 := Lib.hid (T5.out.below hb6)
            have T62 := Lib.hid t2
            have DF := Lib.hid (diff_none _ _ _ w6 (.inr ⟨b1, rfl, T6.out⟩) (.inr ⟨b2, rfl, T62.out⟩))
            have RA := Lib.hid (fun W (hb : Below w6.heap.size w6 W) => HRT.out ▸ root20_any b1 _ W (T6.out.below hb))
            have RB := Lib.hid (fun W (hb : Below w6.heap.size w6 W) => HRT.out ▸ root20_any b2 _ W (T62.out.below hb))
            clear t2
            go_wp2_with (first | (go_at_call 24; (with_reducible refine DF.out.mono ?_); rintro e w7 ⟨a7, c7, rfl, hb7⟩) | (go_at_call 11; (with_reducible refine (awake20_any _).mono ?_); rintro e w9 ⟨rfl, hb9⟩; have hb79 := below_next hb7 hb9) | (go_at_call 20; (with_reducible refine (RA.out _ hb79).mono ?_); rintro e w10 ⟨rfl, rfl⟩) | (go_at_call 20; (with_reducible refine (RB.out _ hb79).mono ?_); rintro e w11 ⟨rfl, rfl⟩) | fail)
            go_ret
            exact ⟨rfl, below_next hb1 (HB15.out.trans ((below_next hb6 hb79).mono HB15.out.size))⟩
          · have hxv : x ≠ vv := fun e => hbz (HLOW.out.2.1 e)
            have hbq : (b % 1024 == 0) = false := by simpa using hbz
            have hke := tbl_key HT.out HI.out
            rw [HKK.out] at hke
            obtain ⟨k, rfl⟩ : ∃ k : Nat, kk = (k : Int) := ⟨kk.toNat, by omega⟩
            have hk4 : k < 4096 := by omega
            have hC2 : ∀ j, tabC (putL l i x) j = if j = k then some x else tabC l j := fun j => by
              rw [tabC_put HT.out HI.out, HKK.out]
              by_cases hj : j = k
              · rw [if_pos hj, if_pos (by omega)]
              · rw [if_neg hj, if_neg (by omega)]
            have hd : ∀ j, j ≠ k → tabC l j = tabC (putL l i x) j := fun j hj => by rw [hC2, if_neg hj]
            have hne : numO (tabC l k) ≠ numO (tabC (putL l i x) k) := by
              rw [hC2, if_pos rfl, tabC_at HT.out HI.out HKK.out.symm, HVV.out]
              intro e
              exact hxv (numV_low HLOW.out.1.symm e).symm
            have hdf : spansL (difL (tabC l) (tabC (putL l i x)) 3) = [(k, k + 1)] := by
              rw [difL_one hk4 hd hne 3 (by decide), Nat.sub_self, Nat.pow_zero, Nat.div_one]
              rfl
            have hrt := root_ne hk4 hd hne
            have hrr : (regI (lvN (tabC l) 3 0) != regI (lvN (tabC (putL l i x)) 3 0)) = true := by rw [regI_ne]; exact bne_iff_ne.2 hrt
            obtain ⟨ra, hra⟩ : ∃ ra, regI (lvN (tabC l) 3 0) = ra := ⟨_, rfl⟩
            obtain ⟨rb, hrb⟩ : ∃ rb, regI (lvN (tabC (putL l i x)) 3 0) = rb := ⟨_, rfl⟩
            rw [hra, hrb] at hrr
            have HRA := Lib.hid hra
            have HRB := Lib.hid hrb
            have HDF := Lib.hid hdf
            have hki : (k : Int) < 4096 := by omega
            clear hxv hC2 hd hne hdf hrt hra hrb hke
            go_wp2_with (go_at_call 14; (with_reducible refine NX.out.mono ?_); rintro e w6 ⟨b2, rfl, t2, _, hb6⟩)
            have T6 := Lib.hid (T5.out.below hb6)
            have T62 := Lib.hid t2
            have DF := Lib.hid (diff_one _ _ _ _ k (k + 1) w6 (.inr ⟨b1, rfl, T6.out⟩) (.inr ⟨b2, rfl, T62.out⟩) HDF.out)
            have HB6 := Lib.hid hb6
            clear t2 hb6
            go_upto_region 13 with (first | (go_at_call 24; (with_reducible refine DF.out.mono ?_); rintro e w7 ⟨g7, o7, c7, rfl, hg7, m0, m1, hb7⟩) | fail)
            have hb57 := Lib.hid (below_next HB6.out hb7)
            have HB7 := Lib.hid hb7
            rw [show ((k + 1 : Nat) : Int) = (k : Int) + 1 by omega] at m1
            have RA := Lib.hid (fun W (hb : Below w7.heap.size w7 W) => HRA.out ▸ root20_any b1 _ W (T6.out.below (below_next HB7.out hb)))
            have RB := Lib.hid (fun W (hb : Below w7.heap.size w7 W) => HRB.out ▸ root20_any b2 _ W (T62.out.below (below_next HB7.out hb)))
            have KS := Lib.hid (fun W (hb : Below w7.heap.size w7 W) => (show W.cell? ⟨g7, o7, none⟩ = some (.int .i64 (k : Int)) ∧ W.cell? ⟨g7, o7 + 1, none⟩ = some (.int .i64 ((k : Int) + 1)) ∧ W.cell? ⟨q, i * 2, none⟩ = some (.int .i64 (k : Int)) from ⟨(hb.cell (p := ⟨g7, o7, none⟩) hg7).trans m0, (hb.cell (p := ⟨g7, o7 + 1, none⟩) hg7).trans m1, (KC.out W (below_next hb57.out hb)).1⟩))
            obtain ⟨_, _, j0⟩ := KS.out _ (Below.refl _ _)
            have HBD : Below w7.heap.size w7 w7 := Below.refl _ _
            have hwr : IntKind.i64.wrap ((k : Int) + 1) = (k : Int) + 1 := IntWalk.i64_in _ (by omega)
            have ES := fun (w : World) => (eqSpan (k : Int) ((k : Int) + 1) (k : Int) ((k : Int) + 1) w).trans (show _ = Result.ok (Value.bool true) w by rw [beq_self_eq_true, beq_self_eq_true]; rfl)
            clear hb7
            go_region_held3 (fun W => W.cell? ⟨g7, o7, none⟩ = some (.int .i64 (k : Int)) ∧ W.cell? ⟨g7, o7 + 1, none⟩ = some (.int .i64 ((k : Int) + 1)) ∧ W.cell? ⟨q, i * 2, none⟩ = some (.int .i64 (k : Int))) (exact KS.out _ (by repeat (first | exact HBD | with_reducible refine Below.drew ?_))) ((first
              | (go_at_call 11; (with_reducible refine (awake20_any _).mono ?_); rintro e w9 ⟨rfl, b9⟩; replace HBD := below_next (show Below w7.heap.size w7 _ from by repeat (first | exact HBD | with_reducible refine Below.drew ?_)) b9; clear b9)
              | (go_at_call 20; (with_reducible refine (RA.out _ (by repeat (first | exact HBD | with_reducible refine Below.drew ?_))).mono ?_); rintro e w10 ⟨rfl, rfl⟩)
              | (go_at_call 20; (with_reducible refine (RB.out _ (by repeat (first | exact HBD | with_reducible refine Below.drew ?_))).mono ?_); rintro e w11 ⟨rfl, rfl⟩)
              | fail))
            all_goals
              go_wp2_with fail
              go_ret
              exact ⟨rfl, below_next hb1 (HB15.out.trans ((below_next hb57.out (by repeat (first | exact HBD | with_reducible refine Below.drew ?_))).mono HB15.out.size))⟩
end Go.Proofs.Ytjjadappjapjhaa
