/-
  THE STATEMENT 'splicelaw22.ScanTotals'.
-/
import Derived.Test.YthcideijpmbpnaaScL
import Derived.BigQuiet
import Derived.Deep.QuietTactic
namespace Go.Proofs.Ythcideijpmbpnaa
open Go.RowKit Go.Shelf Go.ChangeShapes Go.WideShapes Go.Deep

theorem takeG_more {l : List Gp} {k : Nat} (h : k < l.length) : l.take (k + 1) = l.take k ++ [l[k]!] := by
  rw [List.take_succ_eq_append_getElem h, getElem!_pos l k h]
set_option maxRecDepth 100000 in
set_option maxHeartbeats 4000000 in
theorem scanTotals_walk (a : Option Addr) (n c : Nat) (l : List Sp) (a3 : Option Addr) (n3 c3 : Nat) (on : List Sp) (wd : Int) (w : World) (hL : Arg w a n c l) (hO : Arg w a3 n3 c3 on) (_hwd : (Lit.int .i64 wd).wf = true) :
    Calls Try.prog 6 #[.slice a n c, .slice a3 n3 c3, .int .i64 wd] w (TruePost w) := by
  have hz1 : (n : Int) ≤ 9223372036854775807 := by have := hL.1; have := hL.2.1; omega
  have hz2 : (n3 : Int) ≤ 9223372036854775807 := by have := hO.1; have := hO.2.1; omega
  obtain ⟨r, hr⟩ : ∃ r, decide (n ≤ 100 ∧ n3 ≤ 100) = r := ⟨_, rfl⟩
  have FW := Lib.hid (fun W => few22_any a n c a3 n3 c3 W hz1 hz2 hr)
  cases r
  · clear hL hO hr
    go_enter Try.func6, Try.ntmps6
    go_wp2_with (first | (go_at_call 10; (with_reducible refine (FW.out _).mono ?_); rintro e wf ⟨rfl, rfl⟩) | (go_at_call 11; (with_reducible refine (awake22_any _).mono ?_); rintro e wa ⟨rfl, hba⟩))
    go_ret
    exact ⟨rfl, hba⟩
  · clear hr
    have GR := Lib.hid (groups_any a n c l a3 n3 c3 on wd w hL hO)
    have TO := Lib.hid (fun W (h : Below w.heap.size w W) => totalS_any a n c l a3 n3 c3 on W (hL.below h) (hO.below h))
    obtain ⟨⟨x0, x1, x2, x3, x4⟩, hx⟩ : ∃ g, totP (clipP l on) = g := ⟨_, rfl⟩
    rw [hx] at TO
    by_cases hgood : tblB l = true ∧ chkB on = true ∧ 1 ≤ wd ∧ wd ≤ 4096
    · have hgr : grpsP l on wd = (grpsF wd (clipP l on).length (clipP l on), 0) := if_pos hgood
      rw [hgr] at GR
      obtain ⟨_, _, hw1, hw2⟩ := hgood
      have hct := clip_tbl l on
      obtain ⟨hsm, hkm⟩ := tbl_small hct
      generalize clipP l on = M at *
      obtain ⟨s1, s2, s3, s4⟩ := grps_sums wd M.length M (Nat.le_refl _)
      have hpw := grps_pw wd hw1 M.length M hkm (tblF_pw M (-1) hct).2
      have hof := grps_of wd M.length M
      generalize grpsF wd M.length M = G at *
      have hG1 : ∀ g ∈ G, 1 ≤ g.2.1 := fun g hg => (hof g hg).2.1
      have hG2 : ∀ g ∈ G, -1099511627776 * g.2.1 ≤ g.2.2.1 ∧ g.2.2.1 ≤ 1099511627776 * g.2.1 := fun g hg => (hof g hg).2.2 hsm
      have HM4 := Lib.hid hsm.1
      have PF := Lib.hid (fun (j : Nat) (hj : j < G.length) => (show (G[j]!.1.tmod wd = 0 ∧ 1 ≤ G[j]!.2.1) ∧ (0 ≤ cntG (G.take j) ∧ cntG (G.take j) + G[j]!.2.1 ≤ 4096) ∧ (-1099511627776 * 4096 ≤ sumG (G.take j) ∧ sumG (G.take j) ≤ 1099511627776 * 4096) ∧ (-1099511627776 * 4096 ≤ G[j]!.2.2.1 ∧ G[j]!.2.2.1 ≤ 1099511627776 * 4096) ∧ (0 < j → G[j - 1]!.1 < G[j]!.1) from by
        have hm : G[j]! ∈ G := by rw [getElem!_pos G j hj]; exact List.getElem_mem hj
        obtain ⟨⟨p, _, e⟩, n1, _⟩ := hof _ hm
        have n2 := hG2 _ hm
        have c1 := cntG_bd (G.take j) fun g hg => hG1 g (List.mem_of_mem_take hg)
        have c2 := cntG_bd (G.drop (j + 1)) fun g hg => hG1 g (List.mem_of_mem_drop hg)
        have u1 := sumG_bd (G.take j) fun g hg => hG2 g (List.mem_of_mem_take hg)
        have e2 : cntG G = cntG (G.take j) + (G[j]!.2.1 + cntG (G.drop (j + 1))) := by
          conv => lhs; rw [← List.take_append_drop j G, cntG_app, List.drop_eq_getElem_cons hj, ← getElem!_pos G j hj]
          rfl
        have h4 := hsm.1
        refine ⟨⟨by rw [e]; exact key_mod _ _, n1⟩, ⟨c1, by omega⟩, ⟨by omega, by omega⟩, ⟨by omega, by omega⟩, fun h0 => ?_⟩
        rw [getElem!_pos G j hj, getElem!_pos G (j - 1) (by omega)]
        exact List.pairwise_iff_getElem.1 hpw (j - 1) j (by omega) hj (by omega)))
      have hGl : (G.length : Int) ≤ 4096 := by
        have : ∀ (K : List Gp), (∀ g ∈ K, 1 ≤ g.2.1) → (K.length : Int) ≤ cntG K := by
          intro K hK
          induction K with
          | nil => simp [cntG]
          | cons g t ih =>
            have i1 := hK g (by simp)
            have i2 := ih fun x hx => hK x (by simp [hx])
            show ((g :: t).length : Int) ≤ g.2.1 + cntG t
            rw [List.length_cons]
            omega
        have := this G hG1
        have h4 := hsm.1
        omega
      have FIN := Lib.hid (show (if M = [] then ((x0, x1, x2, x3, x4) : Gp) = (0, 0, 0, 0, 0) else (x0, x1, x2, x3, x4) = (0, cntG G, sumG G, minG 1099511627777 G, maxG (-1099511627777) G)) by
        split
        · rename_i hM
          rw [← hx, hM]
          rfl
        · rename_i hM
          rw [← hx, s1, s2, s3, s4, ← minV_head M hM, ← maxV_head M hM]
          have hpos := List.length_pos_iff.2 hM
          have hv := hsm.2 _ (getD_memS (k := 0) hpos)
          have m1 := minV_le M (M.getD 0 (0, 0)).2
          have m2 := maxV_ge M (M.getD 0 (0, 0)).2
          rw [show min 1099511627777 (minV (M.getD 0 (0, 0)).2 M) = minV (M.getD 0 (0, 0)).2 M by omega, show max (-1099511627777) (maxV (M.getD 0 (0, 0)).2 M) = maxV (M.getD 0 (0, 0)).2 M by omega]
          unfold totP grpOf
          rw [if_neg hM])
      have HS1 := Lib.hid s1
      clear hL hO hct hsm hkm hpw hof hG1 hG2 hgr hx s1 s2 s3 s4
      have hwne : ¬ wd = 0 := by omega
      have hweq : (wd == 0) = false := by simp; omega
      go_enter Try.func6, Try.ntmps6
      go_wp2_with (first | (go_at_call 10; (with_reducible refine (FW.out _).mono ?_); rintro e wf ⟨rfl, rfl⟩) | (go_at_call 11; (with_reducible refine (awake22_any _).mono ?_); rintro e wa ⟨rfl, hba⟩) | (go_at_call 20; (with_reducible refine GR.out.mono ?_); rintro e wg ⟨vg, rfl, hg, hbg⟩; dsimp only at hg ⊢; obtain ⟨ag, cg, hvg, hrg⟩ := hg.arg encGp_len; subst hvg; have HG := Lib.hid hrg; clear hrg hg) | (go_at_call 25; (with_reducible refine (TO.out _ hbg).mono ?_); rintro e wt ⟨rfl, hbt⟩; dsimp only; obtain ⟨WT, hWT⟩ : ∃ WT, wt.alloc (.cells #[.int .i64 x0, .int .i64 x1, .int .i64 x2, .int .i64 x3, .int .i64 x4] 60) = WT := ⟨_, rfl⟩; have bT : Below wt.heap.size wt WT := (by rw [← hWT]; exact (Below.refl _ _).alloc (Nat.le_refl _) _); have gT : wt.heap.size < WT.heap.size := (by rw [← hWT]; simp); have hrT : WT.heap[wt.heap.size]? = some (.cells #[.int .i64 x0, .int .i64 x1, .int .i64 x2, .int .i64 x3, .int .i64 x4] 60) := (by rw [← hWT]; exact heap_alloc_new _ _); have hb1 := below_next hbg (below_next hbt bT)))
      replace hWT := Lib.hid hWT
      go_loopw [10, 11, 12, 13, 14] (fun cn sm mn mx i wr => ∃ (j : Nat), cn = .int .i64 (cntG (G.take j)) ∧ sm = .int .i64 (sumG (G.take j)) ∧ mn = .int .i64 (minG 1099511627777 (G.take j)) ∧ mx = .int .i64 (maxG (-1099511627777) (G.take j)) ∧ i = .int .i64 (j : Int) ∧ j ≤ G.length ∧ Below WT.heap.size WT wr) (fun _ _ _ _ i _ => G.length - (intOf i).toNat)
      case atStart => exact ⟨0, rfl, rfl, rfl, rfl, rfl, Nat.zero_le _, Below.refl _ _⟩
      case round =>
        obtain ⟨j, rfl, rfl, rfl, rfl, rfl, hj, hbl⟩ := hrel
        by_cases hlt : j < G.length
        · have hjz : (j : Int) < (G.length : Int) := by omega
          obtain ⟨⟨p1, p2⟩, ⟨p3, p4⟩, ⟨p5, p6⟩, ⟨p7, p8⟩, p9⟩ := PF.out j hlt
          obtain ⟨b, off, e, hb, k0, k1, k2, k3, k4⟩ := gp_row (HG.out.below (below_next (below_next hbt bT) hbl)) j hlt
          subst e
          have n1 : cntG (G.take (j + 1)) = cntG (G.take j) + G[j]!.2.1 := by rw [takeG_more hlt, cntG_app]; simp [cntG]
          have n2 : sumG (G.take (j + 1)) = sumG (G.take j) + G[j]!.2.2.1 := by rw [takeG_more hlt, sumG_app]; simp [sumG]
          have n3 : minG 1099511627777 (G.take (j + 1)) = min (minG 1099511627777 (G.take j)) G[j]!.2.2.2.1 := by rw [takeG_more hlt]; unfold minG; rw [List.foldl_append]; rfl
          have n4 : maxG (-1099511627777) (G.take (j + 1)) = max (maxG (-1099511627777) (G.take j)) G[j]!.2.2.2.2 := by rw [takeG_more hlt]; unfold maxG; rw [List.foldl_append]; rfl
          have hprev : 0 < j → ∃ q, wr.cell? ⟨b, off + (j - 1) * 5, none⟩ = some (.int .i64 q) ∧ q < G[j]!.1 := fun h0 => by
            obtain ⟨b', off', e', _, y0, _⟩ := gp_row (HG.out.below (below_next (below_next hbt bT) hbl)) (j - 1) (by omega)
            cases e'
            exact ⟨_, y0, p9 h0⟩
          generalize G[j]! = g at k0 k1 k2 k3 k4 p1 p2 p4 p7 p8 n1 n2 n3 n4 hprev
          clear p9
          obtain ⟨gk, gn, gs, gm, gx⟩ := g
          dsimp only at k0 k1 k2 k3 k4 p1 p2 p4 p7 p8 n1 n2 n3 n4 hprev
          generalize cntG (G.take j) = S1 at p3 p4 n1
          generalize sumG (G.take j) = S2 at p5 p6 n2
          generalize minG 1099511627777 (G.take j) = S3 at n3
          generalize maxG (-1099511627777) (G.take j) = S4 at n4
          have hw5 : IntKind.i64.wrap (S1 + gn) = S1 + gn := IntWalk.i64_in _ (by omega)
          have hw6 : IntKind.i64.wrap (S2 + gs) = S2 + gs := IntWalk.i64_in _ (by omega)
          have N1 := Lib.hid n1
          have N2 := Lib.hid n2
          have N3 := Lib.hid n3
          have N4 := Lib.hid n4
          have hgn : ¬ gn < 1 := by omega
          clear n1 n2 n3 n4 p3 p4 p5 p6 p7 p8 p2
          have hjn : (j : Int) ≤ 4096 := by omega
          by_cases h0 : j = 0
          · subst h0
            clear hprev
            rw [Nat.zero_mul, Nat.add_zero] at k0 k1 k2 k3 k4
            go_wp2_with fail
            go_quiet (fail)
            go_wp2
            go_roundw
            case rel => exact ⟨1, by rw [N1.out], by rw [N2.out], by rw [N3.out], by rw [N4.out], rfl, by omega, below_drewN hbl _⟩
            case measure => simp [intOf]; omega
          · obtain ⟨q, hq, hqg⟩ := hprev (by omega)
            have h0z : (0 : Int) < (j : Int) := by omega
            have h0n : 0 < j := by omega
            have h0d : decide (0 < j) = true := decide_eq_true h0n
            have h0e : decide ((0 : Int) < (j : Int)) = true := decide_eq_true h0z
            obtain ⟨i, hi⟩ : ∃ i, j - 1 = i := ⟨_, rfl⟩
            rw [hi] at hq
            have hwi : IntKind.i64.wrap ((j : Int) - 1) = (i : Int) := by rw [IntWalk.i64_in _ (by omega)]; omega
            have hiz : (i : Int) < (G.length : Int) := by omega
            have hi0 : (0 : Int) ≤ (i : Int) := by omega
            have hqn : ¬ gk ≤ q := by omega
            have hqd : decide (gk ≤ q) = false := decide_eq_false hqn
            have HI := Lib.hid hi
            clear hi
            go_wp2_with fail
            go_quiet (fail)
            go_wp2
            go_roundw
            case rel => exact ⟨j + 1, by rw [N1.out], by rw [N2.out], by rw [N3.out], by rw [N4.out], by go_num, by omega, below_drewN hbl _⟩
            case measure => simp [intOf]; omega
        · have hjz : ¬ (j : Int) < (G.length : Int) := by omega
          have hjt : G.take j = G := List.take_of_length_le (by omega)
          rw [hjt]
          have hF := FIN.out
          have hs1 := HS1.out
          have hrW := (hbl.block _ gT).trans hrT
          obtain ⟨z0, z1, z2, z3, z4⟩ := cell5 hrW
          have Z := Lib.hid (fun W (h : Below wr.heap.size wr W) => (h.block _ (heap_ltS hrW)).trans hrW)
          have hbW := below_next hb1 hbl
          by_cases hM : M = []
          · rw [if_pos hM] at hF
            rw [hM] at hs1
            have hs1' : cntG G = 0 := hs1
            rw [hs1']
            injection hF with e0 hF
            injection hF with e1 hF
            injection hF with e2 hF
            injection hF with e3 e4
            subst e0 e1 e2 e3 e4
            have EQ := fun w => eqGp (0, 0, 0, 0, 0) (0, 0, 0, 0, 0) w
            dsimp only at EQ
            rw [show decide (((0, 0, 0, 0, 0) : Gp) = (0, 0, 0, 0, 0)) = true from rfl] at EQ
            clear hs1 hs1' hjt z0 z1 z2 z3 z4
            go_wp2_with (go_at_call 11; (with_reducible refine (awake22_any _).mono ?_); rintro e wa ⟨rfl, hba⟩; obtain ⟨z0, z1, z2, z3, z4⟩ := cell5 (Z.out _ hba))
            go_ret
            exact ⟨rfl, below_next hbW hba⟩
          · rw [if_neg hM] at hF
            have hcn : ¬ cntG G = 0 := by rw [hs1]; have := List.length_pos_iff.2 hM; omega
            have hcb : (cntG G == 0) = false := by simpa using hcn
            generalize cntG G = S1 at hF hcn hcb
            generalize sumG G = S2 at hF
            generalize minG 1099511627777 G = S3 at hF
            generalize maxG (-1099511627777) G = S4 at hF
            injection hF with e0 hF
            injection hF with e1 hF
            injection hF with e2 hF
            injection hF with e3 e4
            subst e0 e1 e2 e3 e4
            have EQ := fun w => eqGp (0, x1, x2, x3, x4) (0, x1, x2, x3, x4) w
            dsimp only at EQ
            rw [decide_eq_true (show ((0, x1, x2, x3, x4) : Gp) = (0, x1, x2, x3, x4) from rfl)] at EQ
            clear hs1 hjt z0 z1 z2 z3 z4
            go_wp2_with (go_at_call 11; (with_reducible refine (awake22_any _).mono ?_); rintro e wa ⟨rfl, hba⟩; obtain ⟨z0, z1, z2, z3, z4⟩ := cell5 (Z.out _ hba))
            go_ret
            exact ⟨rfl, below_next hbW hba⟩
    · have hgr : grpsP l on wd = ([], 1) := if_neg hgood
      rw [hgr] at GR
      clear hgood hgr hL hO hx
      go_enter Try.func6, Try.ntmps6
      go_wp2_with (first | (go_at_call 10; (with_reducible refine (FW.out _).mono ?_); rintro e wf ⟨rfl, rfl⟩) | (go_at_call 11; (with_reducible refine (awake22_any _).mono ?_); rintro e wa ⟨rfl, hba⟩) | (go_at_call 20; (with_reducible refine GR.out.mono ?_); rintro e wg ⟨vg, rfl, hg, hbg⟩; dsimp only at hg ⊢; obtain ⟨ag, cg, hvg, hrg⟩ := hg.arg encGp_len; subst hvg; have HG := Lib.hid hrg; clear hrg hg) | (go_at_call 25; (with_reducible refine (TO.out _ hbg).mono ?_); rintro e wt ⟨rfl, hbt⟩; dsimp only; obtain ⟨WT, hWT⟩ : ∃ WT, wt.alloc (.cells #[.int .i64 x0, .int .i64 x1, .int .i64 x2, .int .i64 x3, .int .i64 x4] 60) = WT := ⟨_, rfl⟩; have bT : Below wt.heap.size wt WT := (by rw [← hWT]; exact (Below.refl _ _).alloc (Nat.le_refl _) _); have gT : wt.heap.size < WT.heap.size := (by rw [← hWT]; simp); have hrT : WT.heap[wt.heap.size]? = some (.cells #[.int .i64 x0, .int .i64 x1, .int .i64 x2, .int .i64 x3, .int .i64 x4] 60) := (by rw [← hWT]; exact heap_alloc_new _ _); have hb1 := below_next hbg (below_next hbt bT)))
      go_ret
      exact ⟨rfl, below_next hb1 hba⟩
end Go.Proofs.Ythcideijpmbpnaa
