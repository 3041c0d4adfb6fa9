/-
  THE LAW BalanceRuns: its walk.
-/
import Derived.Test.YtihpojllalnmcaaBaV
import Derived.Test.YtihpojllalnmcaaBaT
namespace Go.Proofs.Ytihpojllalnmcaa
open Go.RowKit Go.Shelf

structure EnvC (w0 W : World) (L : List (Option Addr × Nat × Nat × List Sd)) : Prop where
  low : Below w0.heap.size w0 W
  is : ∀ x ∈ L, RArg encS 4 W x.1 x.2.1 x.2.2.1 x.2.2.2
theorem EnvC.start (w : World) : EnvC w w [] := ⟨Below.refl _ _, by simp⟩
theorem EnvC.step {w0 W W' : World} {L : List (Option Addr × Nat × Nat × List Sd)} (h : EnvC w0 W L) (hb : Below W.heap.size W W') : EnvC w0 W' L := ⟨below_next h.low hb, fun x hx => (h.is x hx).below hb⟩
theorem EnvC.add {w0 W : World} {L : List (Option Addr × Nat × Nat × List Sd)} (h : EnvC w0 W L) {a : Option Addr} {n c : Nat} {l : List Sd} (hp : RArg encS 4 W a n c l) : EnvC w0 W ((a, n, c, l) :: L) := ⟨h.low, fun x hx => by
  rcases List.mem_cons.1 hx with rfl | hx
  · exact hp
  · exact h.is x hx⟩
theorem EnvC.get {w0 W : World} {L : List (Option Addr × Nat × Nat × List Sd)} (h : EnvC w0 W L) {a : Option Addr} {n c : Nat} {l : List Sd} (hm : (a, n, c, l) ∈ L) : RArg encS 4 W a n c l := h.is _ hm
set_option maxRecDepth 100000 in
set_option maxHeartbeats 8000000 in
theorem balanceRuns_walk (ep nx : Int) (a : Option Addr) (n c : Nat) (sd : List Sd) (a2 : Option Addr) (n2 cp2 : Nat) (l : List Sp) (p1 p2 p3 z most : Int) (w : World) (hh : RArg encS 4 w a n c sd ∧ Arg w a2 n2 cp2 l) (_hm : (Lit.int .i64 most).wf = true) :
    Calls Try.prog 4 #[.agg #[.int .i64 ep, .int .i64 nx, .slice a n c, .slice a2 n2 cp2, .int .i64 p1, .int .i64 p2, .int .i64 p3, .int .i64 z], .int .i64 most] w (TruePost w) := by
  obtain ⟨h, hL⟩ := hh
  have hnz : (n : Int) ≤ 9223372036854775807 := by have := h.1; have := h.2.1; omega
  have hnz2 : (n2 : Int) ≤ 9223372036854775807 := by have := hL.1; have := hL.2.1; omega
  obtain ⟨W1, hW1⟩ : ∃ W1, w.alloc (.cells #[.int .i64 ep, .int .i64 nx, .slice a n c, .slice a2 n2 cp2, .int .i64 p1, .int .i64 p2, .int .i64 p3, .int .i64 z] 29) = W1 := ⟨_, rfl⟩
  have bw : Below w.heap.size w W1 := by rw [← hW1]; exact (Below.refl _ _).alloc (Nat.le_refl _) _
  have g1 : w.heap.size < W1.heap.size := by rw [← hW1]; simp
  have r1 : W1.heap[w.heap.size]? = some (.cells #[.int .i64 ep, .int .i64 nx, .slice a n c, .slice a2 n2 cp2, .int .i64 p1, .int .i64 p2, .int .i64 p3, .int .i64 z] 29) := by rw [← hW1]; exact heap_alloc_new _ _
  have KX := Lib.hid (fun W (hb : Below W1.heap.size W1 W) => cells8C ((hb.block _ g1).trans r1))
  have HP := Lib.hid (h.below bw)
  have HL := Lib.hid (hL.below bw)
  obtain ⟨q0, q1, q2, q3, q4, q5, q6, q7⟩ := KX.out _ (Below.refl _ _)
  obtain ⟨fw, hfw⟩ : ∃ r, (decide (n ≤ 60) && decide (n2 ≤ 60)) = r := ⟨_, rfl⟩
  have FW := Lib.hid (few25_any ep nx a n c a2 n2 cp2 p1 p2 p3 z W1 hnz hnz2 hfw)
  have hfw2 := hfw
  clear r1
  cases fw
  · clear hfw hfw2 h hL
    go_enter Try.func4, Try.ntmps4
    go_wp2_with (first | (go_at_call 6; (with_reducible refine FW.out.mono ?_); rintro e w2 ⟨rfl, hb2⟩) | (go_at_call 7; (with_reducible refine (awake25_any _).mono ?_); rintro e w3 ⟨rfl, hb3⟩) | fail)
    go_ret
    exact ⟨rfl, below_next bw (below_next hb2 hb3)⟩
  · rw [Bool.and_eq_true, decide_eq_true_iff, decide_eq_true_iff] at hfw2
    have h60 : sd.length ≤ 60 := by have := h.1; omega
    by_cases hm : 30 < most
    · clear hfw hfw2 h hL
      go_enter Try.func4, Try.ntmps4
      go_wp2_with (first | (go_at_call 6; (with_reducible refine FW.out.mono ?_); rintro e w2 ⟨rfl, hb2⟩) | (go_at_call 7; (with_reducible refine (awake25_any _).mono ?_); rintro e w3 ⟨rfl, hb3⟩) | fail)
      go_ret
      exact ⟨rfl, below_next bw (below_next hb2 hb3)⟩
    · obtain ⟨R, hR⟩ : ∃ R, runC l (p1, p2, p3) z most.toNat (ep, nx, sd) = R := ⟨_, rfl⟩
      have RN := Lib.hid (fun W hA hB => hR ▸ run25_out ep nx a n c sd a2 n2 cp2 l p1 p2 p3 z most W hA hB (by omega) h60)
      have HR := Lib.hid hR
      have H60 := Lib.hid h60
      clear hfw hfw2 h hL hR h60
      go_enter Try.func4, Try.ntmps4
      go_wp2_with (first | (go_at_call 6; (with_reducible refine FW.out.mono ?_); rintro e w2 ⟨rfl, hb2⟩; obtain ⟨q0, q1, q2, q3, q4, q5, q6, q7⟩ := KX.out _ hb2) | (go_at_call 13; (with_reducible refine (RN.out _ (HP.out.below hb2) (HL.out.below hb2)).mono ?_); rintro e w3 ⟨D, xs, er, aD, nD, cD, va, vc, rfl, hD, hV, hb3, hout⟩; have hb13 := below_next hb2 hb3; obtain ⟨q0, q1, q2, q3, q4, q5, q6, q7⟩ := KX.out _ (hb13.alloc hb13.size (.cells #[.int .i64 D.1, .int .i64 D.2.1, .slice aD nD cD] 24))) | fail)
      have b13 := below_next hb2 hb3
      obtain ⟨WL, hWL⟩ : ∃ WL, w3.alloc (.cells #[.int .i64 D.1, .int .i64 D.2.1, .slice aD nD cD] 24) = WL := ⟨_, rfl⟩
      have bL : Below w3.heap.size w3 WL := by rw [← hWL]; exact (Below.refl _ _).alloc (Nat.le_refl _) _
      have gL : w3.heap.size < WL.heap.size := by rw [← hWL]; simp
      have eL : w3.heap.size + 1 = WL.heap.size := by rw [← hWL]; simp
      have rL : WL.heap[w3.heap.size]? = some (.cells #[.int .i64 D.1, .int .i64 D.2.1, .slice aD nD cD] 24) := by rw [← hWL]; exact heap_alloc_new _ _
      rw [hWL, eL]
      obtain ⟨WC, hWC⟩ : ∃ WC, WL.alloc (.cells #[.int .i64 ep, .int .i64 nx, .slice a n c] 24) = WC := ⟨_, rfl⟩
      have bC : Below WL.heap.size WL WC := by rw [← hWC]; exact (Below.refl _ _).alloc (Nat.le_refl _) _
      have gC : WL.heap.size < WC.heap.size := by rw [← hWC]; simp
      have rC : WC.heap[WL.heap.size]? = some (.cells #[.int .i64 ep, .int .i64 nx, .slice a n c] 24) := by rw [← hWC]; exact heap_alloc_new _ _
      rw [hWC]
      have b3C := below_next bL bC
      have b1C := below_next b13 b3C
      have rLC := (bC.block _ gL).trans rL
      have hw1L : W1.heap.size ≤ w3.heap.size := b13.size
      have KXC := Lib.hid (fun W (hg : WC.grownBy W (some WL.heap.size)) => cells8C ((hg.block _ (by omega) (fun e => by injection e with e; omega)).trans ((b1C.block _ g1).trans (by rw [← hW1]; exact heap_alloc_new _ _))))
      have HLC := Lib.hid (fun W (hg : WC.grownBy W (some WL.heap.size)) => (HL.out.below b1C).grownN hg (fun q p hp e => by have := HL.out.lt q p hp; injection e with e; omega))
      have HDC := Lib.hid (fun W (hg : WC.grownBy W (some WL.heap.size)) => (hD.below b3C).grownM hg (fun q p hp e => by have := hD.spotW q p hp; injection e with e; omega))
      have HVC := Lib.hid (fun W (hg : WC.grownBy W (some WL.heap.size)) => (hV.below b3C).grownM hg (fun q p hp e => by have := hV.spotW q p hp; injection e with e; omega))
      have KLC := Lib.hid (fun W (hg : WC.grownBy W (some WL.heap.size)) => (cells3B ((hg.block _ (by omega) (fun e => by injection e with e; omega)).trans rLC)).1)
      have HBC := Lib.hid (fun W (hg : WC.grownBy W (some WL.heap.size)) => (show Below w.heap.size w W from (below_next bw b1C).grown hg (below_next bw b1C).size (fun q hq => by injection hq with hq; omega)))
      have HPC := Lib.hid (HP.out.below b1C)
      have HOUT := Lib.hid hout
      have HRC := Lib.hid rC
      have GLC := Lib.hid gC
      obtain ⟨K, hK⟩ : ∃ K, most.toNat = K := ⟨_, rfl⟩
      have HK := Lib.hid hK
      have HR2 := Lib.hid (show runC l (p1, p2, p3) z K (ep, nx, sd) = R from hK ▸ HR.out)
      clear hD hV hb3 hb13 hout rL rLC rC hWL hWC eL hK b13 bL bC b3C b1C hb2 q0 q1 q2 q3 q4 q5 q6 q7 hnz hnz2
      go_loopw [9] (fun i wr => ∃ (j : Nat) (C : Ct) (ds : List Gd) (k : Nat) (aC : Option Addr) (nC cC : Nat), i = .int .i64 (j : Int) ∧ ds.length = j ∧ j + k = K ∧ Hid (preR ds (runC l (p1, p2, p3) z k C) = R) ∧ Hid (wr.heap[WL.heap.size]? = some (.cells #[.int .i64 C.1, .int .i64 C.2.1, .slice aC nC cC] 24 (0, 0))) ∧ Hid (RArg encS 4 wr aC nC cC C.2.2) ∧ WC.grownBy wr (some WL.heap.size))
        (fun i _ => K - (intOf i).toNat)
      case atStart => exact ⟨0, (ep, nx, sd), [], K, a, n, c, rfl, rfl, by omega, Lib.hid ((preR_nil _).trans HR2.out), HRC, HPC, below_grown (Below.refl _ _)⟩
      case round =>
        obtain ⟨j, C, ds, k, aC, nC, cC, rfl, hj, hk, HRR, HX, HA, hg⟩ := hrel
        obtain ⟨S, hS⟩ : ∃ S, stepRun l (p1, p2, p3) z C = S := ⟨_, rfl⟩
        have hsu := suggest_any C.1 C.2.1 aC nC cC C.2.2 a2 n2 cp2 l p1 p2 p3 z wr HA.out (HLC.out wr hg)
        rw [show sugC C.1 C.2.1 C.2.2 l (p1, p2, p3) z = S from hS] at hsu
        have HSU := Lib.hid hsu
        have HST := Lib.hid hS
        clear hsu hS
        obtain ⟨⟨kk, id, at_⟩, sm, f⟩ := S
        obtain ⟨x0, x1, x2⟩ := (cells3B HX.out).1
        obtain ⟨q0, q1, q2, q3, q4, q5, q6, q7⟩ := KXC.out wr hg
        go_upto_region 8 with (first | (go_at_call 8; (with_reducible refine HSU.out.mono ?_); rintro e w4 ⟨rfl, hb4⟩) | fail)
        obtain ⟨W5, hW5⟩ : ∃ W5, w4.alloc (.cells #[.int .i64 kk, .int .i64 id, .int .i64 at_] 33) = W5 := ⟨_, rfl⟩
        have b5 : Below w4.heap.size w4 W5 := by rw [← hW5]; exact (Below.refl _ _).alloc (Nat.le_refl _) _
        have g5 : w4.heap.size < W5.heap.size := by rw [← hW5]; simp
        have r5 : W5.heap[w4.heap.size]? = some (.cells #[.int .i64 kk, .int .i64 id, .int .i64 at_] 33) := by rw [← hW5]; exact heap_alloc_new _ _
        have b05 := below_next hb4 b5
        have gXr : WL.heap.size < wr.heap.size := Nat.lt_of_lt_of_le GLC.out hg.size
        have HX5 := Lib.hid ((b05.block _ gXr).trans HX.out)
        have HX4 := Lib.hid (Nat.lt_of_lt_of_le gXr hb4.size)
        have HA5 := Lib.hid (HA.out.below b05)
        have hg5 := grown_trans hg (below_grown (row := some WL.heap.size) b05)
        have HG5 := Lib.hid (fun W (hb : Below W5.heap.size W5 W) => grown_trans hg5 (below_grown (row := some WL.heap.size) hb))
        have HR5 := Lib.hid r5
        have HG5s := Lib.hid g5
        rw [hW5]
        clear x0 x1 x2 q0 q1 q2 q3 q4 q5 q6 q7 hW5 HA HX b5 b05 hg hg5 hb4 r5 g5
        obtain ⟨c0, c1, c2⟩ := (cells3B HR5.out).1
        by_cases he : f = 0
        · have hst := HST.out
          subst he
          have h20 : (stepRun l (p1, p2, p3) z C).2.2 = 0 := by rw [hst]
          by_cases hr : sm = false ∨ k = 0
          · obtain ⟨o1, o2, o3⟩ := out_rest (l := l) (p := (p1, p2, p3)) (z := z) HOUT.out HRR.out h20 (by rw [hst]; exact hr)
            have zl : C.2.2.length ≤ 100000 := Nat.le_trans (sug_len h20) (by decide)
            subst o1 o2 o3
            subst hj
            have hlt : k = 0 → most ≤ (xs.length : Int) := fun hk0 => by have hK := HK.out; omega
            have HXX := Lib.hid HX5.out
            have KK := Lib.hid (fun W (hb : Below W5.heap.size W5 W) => And.intro (KLC.out _ (HG5.out _ hb)) (cells3B ((hb.block _ (Nat.lt_trans HX4.out HG5s.out)).trans HXX.out)).1)
            have HS := Lib.hid (((EnvC.start W5).add (HDC.out _ (HG5.out _ (Below.refl _ _)))).add HA5.out)
            have hsm : sm = false ∨ (sm = true ∧ most ≤ (xs.length : Int)) := by
              cases sm
              · exact .inl rfl
              · exact .inr ⟨rfl, hlt (by simpa using hr)⟩
            clear hst h20 hr hlt HOUT HRR
            rcases hsm with rfl | ⟨rfl, hge⟩
            all_goals
              go_upto_region 11 with fail
              obtain ⟨⟨l0, l1, l2⟩, x0, x1, x2⟩ := KK.out _ (Below.refl _ _)
              go_region_held3 (fun W => (W.cell? ⟨w3.heap.size, 0, none⟩ = some (.int .i64 D.1) ∧ W.cell? ⟨w3.heap.size, 1, none⟩ = some (.int .i64 D.2.1) ∧ W.cell? ⟨w3.heap.size, 2, none⟩ = some (.slice aD nD cD)) ∧ (W.cell? ⟨WL.heap.size, 0, none⟩ = some (.int .i64 D.1) ∧ W.cell? ⟨WL.heap.size, 1, none⟩ = some (.int .i64 D.2.1) ∧ W.cell? ⟨WL.heap.size, 2, none⟩ = some (.slice aC nC cC))) (exact KK.out _ (HS.out.step (by repeat (first | with_reducible exact Below.refl _ _ | with_reducible refine toDK ?_ | with_reducible refine Below.alloc ?_ (by first | exact Nat.le_refl _ | omega | (simp; omega)) _ | with_reducible refine Below.setCell ?_ (by first | with_reducible exact Nat.le_refl _ | (dsimp only; omega)) _))).low) ((first
              | (go_at_call 7; (with_reducible refine (awake25_any _).mono ?_); rintro e w9 ⟨rfl, b9⟩; replace HS := Lib.hid ((HS.out.step (by repeat (first | with_reducible exact Below.refl _ _ | with_reducible refine toDK ?_ | with_reducible refine Below.alloc ?_ (by first | exact Nat.le_refl _ | omega | (simp; omega)) _ | with_reducible refine Below.setCell ?_ (by first | with_reducible exact Nat.le_refl _ | (dsimp only; omega)) _))).step b9); clear b9)
              | (go_at_call 10; (with_reducible refine (ref8_any D.1 D.2.1 aD nD cD D.2.2 _ ((HS.out.step (by repeat (first | with_reducible exact Below.refl _ _ | with_reducible refine toDK ?_ | with_reducible refine Below.alloc ?_ (by first | exact Nat.le_refl _ | omega | (simp; omega)) _ | with_reducible refine Below.setCell ?_ (by first | with_reducible exact Nat.le_refl _ | (dsimp only; omega)) _))).get (by repeat (first | exact List.mem_cons_self | apply List.mem_cons_of_mem))) zl).mono ?_); rintro e w7 ⟨a7, n7, c7, rfl, h7, _, b7⟩; replace HS := Lib.hid (((HS.out.step (by repeat (first | with_reducible exact Below.refl _ _ | with_reducible refine toDK ?_ | with_reducible refine Below.alloc ?_ (by first | exact Nat.le_refl _ | omega | (simp; omega)) _ | with_reducible refine Below.setCell ?_ (by first | with_reducible exact Nat.le_refl _ | (dsimp only; omega)) _))).step b7).add h7); clear b7 h7)
              | (go_at_call 10; (with_reducible refine (ref8_any D.1 D.2.1 aC nC cC D.2.2 _ ((HS.out.step (by repeat (first | with_reducible exact Below.refl _ _ | with_reducible refine toDK ?_ | with_reducible refine Below.alloc ?_ (by first | exact Nat.le_refl _ | omega | (simp; omega)) _ | with_reducible refine Below.setCell ?_ (by first | with_reducible exact Nat.le_refl _ | (dsimp only; omega)) _))).get (by repeat (first | exact List.mem_cons_self | apply List.mem_cons_of_mem))) zl).mono ?_); rintro e w8 ⟨a8, n8, c8, rfl, h8, _, b8⟩; replace HS := Lib.hid (((HS.out.step (by repeat (first | with_reducible exact Below.refl _ _ | with_reducible refine toDK ?_ | with_reducible refine Below.alloc ?_ (by first | exact Nat.le_refl _ | omega | (simp; omega)) _ | with_reducible refine Below.setCell ?_ (by first | with_reducible exact Nat.le_refl _ | (dsimp only; omega)) _))).step b8).add h8); clear b8 h8)
              | (go_at_call 14; (with_reducible refine (same8_any D.1 D.2.1 a7 a8 n7 n8 c7 c8 D.2.2 _ ((HS.out.step (by repeat (first | with_reducible exact Below.refl _ _ | with_reducible refine toDK ?_ | with_reducible refine Below.alloc ?_ (by first | exact Nat.le_refl _ | omega | (simp; omega)) _ | with_reducible refine Below.setCell ?_ (by first | with_reducible exact Nat.le_refl _ | (dsimp only; omega)) _))).get (by repeat (first | exact List.mem_cons_self | apply List.mem_cons_of_mem))) ((HS.out.step (by repeat (first | with_reducible exact Below.refl _ _ | with_reducible refine toDK ?_ | with_reducible refine Below.alloc ?_ (by first | exact Nat.le_refl _ | omega | (simp; omega)) _ | with_reducible refine Below.setCell ?_ (by first | with_reducible exact Nat.le_refl _ | (dsimp only; omega)) _))).get (by repeat (first | exact List.mem_cons_self | apply List.mem_cons_of_mem)))).mono ?_); rintro e w10 ⟨rfl, b10⟩; replace HS := Lib.hid ((HS.out.step (by repeat (first | with_reducible exact Below.refl _ _ | with_reducible refine toDK ?_ | with_reducible refine Below.alloc ?_ (by first | exact Nat.le_refl _ | omega | (simp; omega)) _ | with_reducible refine Below.setCell ?_ (by first | with_reducible exact Nat.le_refl _ | (dsimp only; omega)) _))).step b10); clear b10)
              | fail))
            all_goals
              go_wp2_with fail
              go_ret
              exact ⟨rfl, HBC.out _ (HG5.out _ (HS.out.step (by repeat (first | with_reducible exact Below.refl _ _ | with_reducible refine toDK ?_ | with_reducible refine Below.alloc ?_ (by first | exact Nat.le_refl _ | omega | (simp; omega)) _ | with_reducible refine Below.setCell ?_ (by first | with_reducible exact Nat.le_refl _ | (dsimp only; omega)) _))).low)⟩
          · have hsm : sm = true := by cases sm <;> simp_all
            subst hsm
            have hk0 : k ≠ 0 := fun q => hr (.inr q)
            have hlt : ¬ most ≤ (ds.length : Int) := by have hK := HK.out; omega
            obtain ⟨k', rfl⟩ : ∃ k', k = k' + 1 := ⟨k - 1, by omega⟩
            obtain ⟨o1, o2⟩ := out_more (l := l) (p := (p1, p2, p3)) (z := z) HOUT.out HRR.out h20 (by rw [hst])
            rw [hst] at o1 o2
            have hcan := sug_can (show sugC C.1 C.2.1 C.2.2 l (p1, p2, p3) z = ((kk, id, at_), true, 0) from hst)
            dsimp only at hcan o1 o2
            subst hj
            obtain ⟨M, hM⟩ : ∃ M, appC C.1 C.2.1 C.2.2 kk id at_ = M := ⟨_, rfl⟩
            rw [show nextC C (kk, id, at_) = (M.ep, M.nx, M.l) from by rw [← hM]; rfl] at o2
            rw [hM] at hcan
            have hme : (M.e != 0) = false := by simpa using hcan
            have AP := Lib.hid (fun W (hb : Below W5.heap.size W5 W) => hM ▸ capply_any C.1 C.2.1 aC nC cC C.2.2 kk id at_ W (HA5.out.below hb))
            have HRN := Lib.hid o2
            have HO1 := Lib.hid o1
            have HK1 := Lib.hid hk
            have HXX := Lib.hid HX5.out
            have KB := Lib.hid (fun W (hb : Below W5.heap.size W5 W) => And.intro (cells3B ((hb.block _ (Nat.lt_trans HX4.out HG5s.out)).trans HXX.out)).1 (cells3B ((hb.block _ HG5s.out).trans HR5.out)).1)
            have NE := fun w => neChg kk id at_ w
            clear hst h20 hr HOUT HRR o1 o2 hM hcan hk0
            go_upto_region 12 with fail
            go_cut [114] from 99 to 114 (fun b wx => b = .bool false ∧ Below W5.heap.size W5 wx)
            case first =>
              have HBD : Below W5.heap.size W5 W5 := Below.refl _ _
              by_cases her : er = 0
              · obtain ⟨hlx, hxe⟩ := HO1.out her
                subst her
                obtain ⟨b, off, e, hb, h0, h1, h2⟩ := (HVC.out _ (HG5.out _ (Below.refl _ _))).2.2.2.2.chg ds.length hlx
                subst e
                rw [hxe] at h0 h1 h2
                dsimp only at h0 h1 h2
                have hlz : ¬ (xs.length : Int) ≤ (ds.length : Int) := by omega
                have KZ := Lib.hid (fun W (hq : Below W5.heap.size W5 W) => (show (W.cell? ⟨w4.heap.size, 0, none⟩ = some (.int .i64 kk) ∧ W.cell? ⟨w4.heap.size, 1, none⟩ = some (.int .i64 id) ∧ W.cell? ⟨w4.heap.size, 2, none⟩ = some (.int .i64 at_)) ∧ W.cell? ⟨b, off + ds.length * 3, none⟩ = some (.int .i64 kk) ∧ W.cell? ⟨b, off + ds.length * 3 + 1, none⟩ = some (.int .i64 id) ∧ W.cell? ⟨b, off + ds.length * 3 + 2, none⟩ = some (.int .i64 at_) from
                  ⟨(KB.out W hq).2, (hq.cell (p := ⟨b, off + ds.length * 3, none⟩) hb).trans h0, (hq.cell (p := ⟨b, off + ds.length * 3 + 1, none⟩) hb).trans h1, (hq.cell (p := ⟨b, off + ds.length * 3 + 2, none⟩) hb).trans h2⟩))
                clear hxe c0 c1 c2
                obtain ⟨⟨c0, c1, c2⟩, _⟩ := KZ.out _ (Below.refl _ _)
                go_region_held3 (fun W => (W.cell? ⟨w4.heap.size, 0, none⟩ = some (.int .i64 kk) ∧ W.cell? ⟨w4.heap.size, 1, none⟩ = some (.int .i64 id) ∧ W.cell? ⟨w4.heap.size, 2, none⟩ = some (.int .i64 at_)) ∧ W.cell? ⟨b, off + ds.length * 3, none⟩ = some (.int .i64 kk) ∧ W.cell? ⟨b, off + ds.length * 3 + 1, none⟩ = some (.int .i64 id) ∧ W.cell? ⟨b, off + ds.length * 3 + 2, none⟩ = some (.int .i64 at_)) (exact KZ.out _ (by repeat (first | exact HBD | refine Below.drew ?_))) (fail)
                all_goals
                  go_wp2_with fail
                  go_meet
                  exact ⟨rfl, (by repeat (first | exact HBD | refine Below.drew ?_))⟩
              · have he1 : (er == 0) = false := by simpa using her
                go_quiet (fail)
                all_goals
                  go_wp2_with fail
                  go_meet
                  exact ⟨rfl, (by repeat (first | exact HBD | refine Below.drew ?_ | refine below_drewN ?_ _))⟩
            case rest =>
              obtain ⟨rfl, bc⟩ := hcut
              clear c0 c1 c2 HO1
              obtain ⟨⟨x0, x1, x2⟩, c0, c1, c2⟩ := KB.out _ bc
              have hXc : WL.heap.size < wc.heap.size := Nat.lt_of_lt_of_le (Nat.lt_trans HX4.out HG5s.out) bc.size
              have hxc := (bc.block _ (Nat.lt_trans HX4.out HG5s.out)).trans HXX.out
              have HXC := Lib.hid hxc
              have HXL := Lib.hid hXc
              clear hxc hXc
              go_upto_region 15 with (first | (go_at_call 15; (with_reducible refine (AP.out _ bc).mono ?_); rintro e w6 ⟨ad, nd, cd, ao, no, co, ax, nax, cax, rfl, hL', _, _, hb6, _, _, _, hT'⟩) | fail)
              have hx6 := (hb6.block _ HXL.out).trans HXC.out
              obtain ⟨W7, hW7⟩ : ∃ W7, w6.alloc (.cells #[.int .i64 M.ep, .int .i64 M.nx, .slice ad nd cd] 24) = W7 := ⟨_, rfl⟩
              have b7 : Below w6.heap.size w6 W7 := by rw [← hW7]; exact (Below.refl _ _).alloc (Nat.le_refl _) _
              have g7 : w6.heap.size < W7.heap.size := by rw [← hW7]; simp
              have r7 : W7.heap[w6.heap.size]? = some (.cells #[.int .i64 M.ep, .int .i64 M.nx, .slice ad nd cd] 24) := by rw [← hW7]; exact heap_alloc_new _ _
              have hx7 := (b7.block _ (Nat.lt_of_lt_of_le HXL.out hb6.size)).trans hx6
              have hs8 := set3B (x' := .int .i64 M.ep) (y' := .int .i64 M.nx) (z' := .slice ad nd cd) hx7
              have hg8 := grow3B W7 WL.heap.size (.int .i64 M.ep) (.int .i64 M.nx) (.slice ad nd cd)
              have hof := TRow.off (hT'.below b7) hx7 (by decide)
              have HA7 := Lib.hid (hL'.below b7)
              have HG7 := Lib.hid (HG5.out _ (below_next bc (below_next hb6 b7)))
              obtain ⟨z0, z1, z2⟩ := (cells3B r7).1
              obtain ⟨⟨y0, y1, y2⟩, fz⟩ := cells3B hx7
              have f0 := fz 0
              have f1 := fz 1
              have f2 := fz 2
              rw [hW7]
              have HS8 := Lib.hid hs8
              have HG8 := Lib.hid hg8
              have HOF := Lib.hid hof
              clear hx6 b7 r7 hx7 hs8 hg8 hof hT' hL' hb6 hW7 fz x0 x1 x2 c0 c1 c2 bc
              go_wp2_with fail
              obtain ⟨W8, hW8⟩ : ∃ W8, ((W7.setCell ⟨WL.heap.size, 0, none⟩ (.int .i64 M.ep)).setCell ⟨WL.heap.size, 1, none⟩ (.int .i64 M.nx)).setCell ⟨WL.heap.size, 2, none⟩ (.slice ad nd cd) = W8 := ⟨_, rfl⟩
              have hon : Only WL.heap.size W7 W8 := by rw [← hW8]; exact (Only.set (Only.set (Only.set (Only.refl _ _) 0 _) 1 _) 2 _)
              have hs9 := HS8.out
              have hg9 := HG8.out
              rw [hW8] at hs9 hg9
              rw [hW8]
              have HA8 := Lib.hid (HA7.out.only hon HOF.out)
              have HX8 := Lib.hid hs9
              have HG9 := Lib.hid (grown_trans HG7.out hg9)
              have hk := HK1.out
              go_roundw
              case rel => exact ⟨ds.length + 1, (M.ep, M.nx, M.l), ds ++ [(kk, id, at_)], k', ad, nd, cd, by go_num, by simp, by omega, HRN, HX8, HA8, HG9.out⟩
              case measure => simp [intOf]; omega
        · have he2 : (f != 0) = true := by simpa using he
          obtain ⟨o1, o2, o3⟩ := out_err (l := l) (p := (p1, p2, p3)) (z := z) HOUT.out HRR.out (show (stepRun l (p1, p2, p3) z C).2.2 ≠ 0 by rw [HST.out]; exact he)
          rw [HST.out] at o1
          have hn0 : nD = 0 := by have := (HDC.out _ (HG5.out _ (Below.refl _ _))).1; rw [o3] at this; exact this
          obtain ⟨D0, D1, D2⟩ := D
          dsimp only at o1 o3
          subst o1 o2 hn0
          clear o3
          go_wp2_with (first | (go_at_call 7; (with_reducible refine (awake25_any _).mono ?_); rintro e w9 ⟨rfl, hb9⟩; obtain ⟨l0, l1, l2⟩ := KLC.out _ (HG5.out _ hb9)) | fail)
          go_ret
          exact ⟨rfl, HBC.out _ (HG5.out _ hb9)⟩
end Go.Proofs.Ytihpojllalnmcaa
