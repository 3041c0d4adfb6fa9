/-
  THE STATEMENT 'splicelaw08.ChartNumbers'.
-/
import Derived.Test.YtaopdandkpfdnaaChK
import Derived.Test.YtaopdandkpfdnaaChW
import Derived.Deep.DeepCutAuto
namespace Go.Proofs.Ytaopdandkpfdnaa
open Go.RowKit Go.Shelf Go.ChangeShapes Go.WideShapes Go.Deep

theorem box4N {w W : World} {t : TypeId} {x y z u : Value} (hb : Below (w.alloc (.cells #[x, y, z, u] t)).heap.size (w.alloc (.cells #[x, y, z, u] t)) W) :
    W.cell? ⟨w.heap.size, 0, none⟩ = some x ∧ W.cell? ⟨w.heap.size, 1, none⟩ = some y ∧ W.cell? ⟨w.heap.size, 2, none⟩ = some z ∧ W.cell? ⟨w.heap.size, 3, none⟩ = some u := by
  have hs : w.heap.size < (w.alloc (.cells #[x, y, z, u] t)).heap.size := by simp
  have c := fun i => hb.cell (p := ⟨w.heap.size, i, none⟩) hs
  exact ⟨(c 0).trans (cell_of_row _ _ 0 _ _ _ (heap_alloc_new _ _)), (c 1).trans (cell_of_row _ _ 1 _ _ _ (heap_alloc_new _ _)), (c 2).trans (cell_of_row _ _ 2 _ _ _ (heap_alloc_new _ _)), (c 3).trans (cell_of_row _ _ 3 _ _ _ (heap_alloc_new _ _))⟩

set_option maxRecDepth 100000 in
set_option maxHeartbeats 8000000 in
theorem chartNumbers_walk (nodes shards : Int) (a : Option Addr) (n c : Nat) (G : List Gd) (k0 : Int) (w : World) (_hnodes : (Lit.int .i64 nodes).wf = true) (_hshards : (Lit.int .i64 shards).wf = true) (h : RArg encG 3 w a n c G) :
    Calls Try.prog 9 #[.int .i64 nodes, .int .i64 shards, .agg #[.slice a n c, .int .i64 k0]] w (TruePost w) := by
  obtain ⟨W1, hW1⟩ : ∃ W1, w.alloc (.cells #[.slice a n c, .int .i64 k0] 72) = W1 := ⟨_, rfl⟩
  have bw : Below w.heap.size w W1 := by rw [← hW1]; exact (Below.refl _ _).alloc (Nat.le_refl _) _
  have K := Lib.hid (fun W (h : Below W1.heap.size W1 W) => box2W (w := w) (t := 72) (x := .slice a n c) (y := .int .i64 k0) (W := W) (by rw [hW1]; exact h))
  obtain ⟨q0, q1⟩ := K.out _ (Below.refl _ _)
  have WK := Lib.hid (show Calls Try.prog 37 #[.int .i64 nodes, .int .i64 shards, .slice a n c, .int .i64 40] W1 (WalkPost (walkL nodes shards (G.take 40)) W1) from walk_any nodes shards a n c G 40 (by decide) W1 (h.below bw))
  obtain ⟨P, hP⟩ : ∃ P, walkL nodes shards (G.take 40) = P := ⟨_, rfl⟩
  have PC := Lib.hid (fun j d => hP ▸ walk_chk nodes shards (G.take 40) j d)
  have PR := Lib.hid (fun z id (hz : P.getLast? = some z) (h1 : 1 ≤ id) (h2 : id < z.nx) => hP ▸ walk_run nodes shards (G.take 40) z id (by rw [hP]; exact hz) h1 h2)
  have PL := Lib.hid (show P.length ≤ 41 by
    rw [← hP]
    show (startC nodes shards :: pastL (startC nodes shards) (G.take 40)).length ≤ 41
    have := pastL_len (G.take 40) (startC nodes shards)
    rw [List.length_take] at this
    rw [List.length_cons]
    omega)
  have PP := Lib.hid (show 0 < P.length by
    rw [← hP]
    show 0 < (startC nodes shards :: pastL (startC nodes shards) (G.take 40)).length
    simp)
  rw [hP] at WK
  clear hP h
  go_enter Try.func9, Try.ntmps9
  go_upto_region 2 with (go_at_call 37; (with_reducible refine WK.out.mono ?_); rintro e w3 ⟨cs, z, av, nv, cv, rfl, hcd, hlast, hR, hrows, _, b3⟩; obtain ⟨W4, hW4⟩ : ∃ W4, w3.alloc (.cells #[.int .i64 z.ep, .int .i64 z.nx, .slice z.a z.n z.c] 24) = W4 := ⟨_, rfl⟩; have b4 : Below w3.heap.size w3 W4 := (by rw [← hW4]; exact (Below.refl _ _).alloc (Nat.le_refl _) _))
  obtain rfl : nv = cs.length := hR.1
  have hPl : P.length = cs.length := by rw [← hcd, List.length_map]
  have hn41 : cs.length ≤ 41 := by have := PL.out; omega
  have hn0 : 0 < cs.length := by have := PP.out; omega
  have hnc : cs.length ≤ cv := by have := hR.2.2.1; omega
  obtain ⟨m, hm⟩ : ∃ m, cs.length = m + 1 := ⟨cs.length - 1, by omega⟩
  have hwm : IntKind.i64.wrap ((cs.length : Int) - 1) = (m : Int) := by rw [IntWalk.i64_in _ (by omega)]; omega
  have hmz : (m : Int) < (cs.length : Int) := by omega
  have hm0 : (0 : Int) ≤ (m : Int) := by omega
  obtain ⟨b, off, e, hb, h0, h1, h2⟩ := (hR.below b4).2.2.2.2.chart m (by omega)
  subst e
  have hxm : cs[m]!.nx = z.nx := by
    have e1 : P.getLast? = P[m]? := by rw [List.getLast?_eq_getElem?, hPl, hm]; rfl
    rw [e1, ← hcd, List.getElem?_map, List.getElem?_eq_getElem (by omega)] at hlast
    rw [getElem!_pos cs m (by omega)]
    have : (cs[m]'(by omega)).cd = z.cd := by simpa using hlast
    exact congrArg Cd.nx this
  rw [hxm] at h1
  generalize cs[m]!.ep = ep at h0
  generalize cs[m]!.a = xa at h2
  generalize cs[m]!.n = xn at h2
  generalize cs[m]!.c = xc at h2
  obtain ⟨W5, hW5⟩ : ∃ W5, W4.alloc (.cells #[.int .i64 ep, .int .i64 z.nx, .slice xa xn xc] 24) = W5 := ⟨_, rfl⟩
  have b5 : Below W4.heap.size W4 W5 := by rw [← hW5]; exact (Below.refl _ _).alloc (Nat.le_refl _) _
  have LX := Lib.hid (fun W (h : Below W5.heap.size W5 W) => box3D (w := W4) (t := 24) (x := .int .i64 ep) (y := .int .i64 z.nx) (z := .slice xa xn xc) (w' := W) (by rw [hW5]; exact h))
  have HC := Lib.hid hcd
  have HL := Lib.hid hlast
  have HRR := Lib.hid ((hR.below b4).below b5)
  have HRS := Lib.hid ((hrows.below b4).below b5)
  have hm' := Lib.hid hm
  clear hcd hR hrows q0 q1 hlast hxm hm
  replace hW1 := Lib.hid hW1
  replace hW4 := Lib.hid hW4
  go_wp2_with fail
  replace hW5 := Lib.hid hW5
  have bT := Lib.hid (below_next bw (below_next b3 (below_next b4 b5)))
  have h100 : ∀ (id : Int), 1 ≤ id → id < z.nx → ∃ f g s, f < g ∧ f < cs.length ∧ RunOf id P f g s := fun id i1 i2 => by
    obtain ⟨f, g, s, x1, x2, x3⟩ := PR.out z.cd id HL.out i1 i2
    exact ⟨f, g, s, x1, by omega, x3⟩
  have H100 := Lib.hid h100
  clear h100 h0 h1 h2
  go_loopw [10, 11, 12, 13, 14, 15, 16] (fun i _ _ _ _ _ _ wr => ∃ (q : Nat), i = .int .i64 (q : Int) ∧ 1 ≤ q ∧ q ≤ 100 ∧ Below W5.heap.size W5 wr) (fun i _ _ _ _ _ _ _ => 100 - (intOf i).toNat)
  case atStart => exact ⟨1, rfl, by omega, by omega, Below.refl _ _⟩
  case round =>
    obtain ⟨wo, rfl⟩ : ∃ wo, wo = wr := ⟨_, rfl⟩
    obtain ⟨q, rfl, hq1, hq2, hbl⟩ := hrel
    obtain ⟨x0, x1, x2⟩ := LX.out _ hbl
    by_cases hid : (q : Int) < z.nx ∧ q < 100
    · obtain ⟨hidn, hid100⟩ := hid
      have hidz : (q : Int) < 100 := by omega
      obtain ⟨f, g, s, hfg, hfl, hrun⟩ := H100.out (q : Int) (by omega) hidn
      obtain ⟨_, hrun⟩ := hrun
      obtain ⟨s0, s1, s2, s3⟩ := s
      have HRUN := Lib.hid hrun
      clear hrun
      obtain ⟨V, hV⟩ : ∃ V, wo.alloc (.cells #[.int .i64 0, .int .i64 0, .int .i64 0, .int .i64 0] 42) = V := ⟨_, rfl⟩
      have bV : Below wo.heap.size wo V := by rw [← hV]; exact (Below.refl _ _).alloc (Nat.le_refl _) _
      have gV : wo.heap.size < V.heap.size := by rw [← hV]; simp
      have hVb : V.heap[wo.heap.size]? = some (.cells #[.int .i64 0, .int .i64 0, .int .i64 0, .int .i64 0] 42 (0, 0)) := by rw [← hV]; exact heap_alloc_new _ _
      have HVb := Lib.hid hVb
      clear hVb
      have hbl' := Lib.hid hbl
      have hnxz : z.nx ≤ 9223372036854775807 ∨ True := .inr trivial
      clear hnxz
      go_wp2_with fail
      replace hV := Lib.hid hV
      go_loopw [11, 12, 14, 15, 16] (fun sn gn i _ _ W => ∃ (j : Nat) (u : Sd), sn = .bool (decide (f < j)) ∧ gn = .bool (decide (g < j)) ∧ i = .int .i64 (j : Int) ∧ j ≤ cs.length ∧ W.heap[wo.heap.size]? = some (.cells #[.int .i64 u.1, .int .i64 u.2.1, .int .i64 u.2.2.1, .int .i64 u.2.2.2] 42 (0, 0)) ∧ (f < j → u = (s0, s1, s2, s3)) ∧ V.heap.size ≤ W.heap.size ∧ Below wo.heap.size wo W) (fun _ _ i _ _ _ => cs.length - (intOf i).toNat)
      case atStart => exact ⟨0, (0, 0, 0, 0), by simp, by simp, rfl, Nat.zero_le _, HVb.out, fun h => absurd h (Nat.not_lt_zero _), Nat.le_refl _, bV⟩
      case round =>
        obtain ⟨j, u, rfl, rfl, rfl, hj, hB, hu, hsz, hbW⟩ := hrel
        have hb5W := below_next hbl'.out hbW
        have gW : wo.heap.size < wr.heap.size := Nat.lt_of_lt_of_le gV hsz
        by_cases hlt : j < cs.length
        · have hjz : (j : Int) < (cs.length : Int) := by omega
          have hj41 : (j : Int) < 41 := by omega
          obtain ⟨b9, o9, e9, hb9, c0, c1, c2⟩ := (HRR.out.below hb5W).2.2.2.2.chart j hlt
          cases e9
          have hrow := HRS.out.below hb5W cs[j]! (by rw [getElem!_pos cs j hlt]; exact List.getElem_mem _)
          have hPj : P[j]? = some cs[j]!.cd := by rw [← HC.out, List.getElem?_map, List.getElem?_eq_getElem hlt, getElem!_pos cs j hlt]; rfl
          obtain ⟨ck, _⟩ := PC.out j _ hPj
          have hfnd := HRUN.out j _ hPj
          clear hPj
          generalize cs[j]! = x at c0 c1 c2 hrow ck hfnd
          obtain ⟨ep', nx', xa', xn', xc', l'⟩ := x
          dsimp only [Cr.cd] at c0 c1 c2 hrow ck hfnd
          have HROW := Lib.hid hrow
          obtain ⟨u0, u1, u2, u3⟩ := u
          have HB := Lib.hid hB
          have HU := Lib.hid hu
          clear hrow hB hu
          by_cases hin : f ≤ j ∧ j < g
          · rw [if_pos hin] at hfnd
            have FN := Lib.hid (fun W (hh : RArg encS 4 W xa' xn' xc' l') => (show Calls Try.prog 20 #[.agg #[.int .i64 ep', .int .i64 nx', .slice xa' xn' xc'], .int .i64 (q : Int)] W (SdPost ((s0, s1, s2, s3), true) W) from by
              have := find_any ep' nx' (q : Int) xa' xn' xc' l' W hh
              rwa [show srchC (fun x => x.1 == (q : Int)) ep' nx' l' = ((s0, s1, s2, s3), true) from srchC_find ck hfnd] at this))
            have d2 : decide (g < j) = false := decide_eq_false (by omega)
            have hfj1 : f < j + 1 := by omega
            have hgj1 : ¬ g < j + 1 := by omega
            clear ck hfnd
            rw [d2]
            by_cases hfj : f < j
            · have d1 : decide (f < j) = true := decide_eq_true hfj
              rw [d1]
              have hus := HU.out hfj
              injection hus with e0 hus
              injection hus with e1 hus
              injection hus with e2 e3
              subst e0 e1 e2 e3
              have EQI := fun w => eqSdIn (u0, u1, u2, u3) (u0, u1, u2, u3) w
              dsimp only at EQI
              rw [(eqSB_iff (u0, u1, u2, u3) (u0, u1, u2, u3)).2 rfl] at EQI
              clear d1 d2 hin
              go_wp2_with (go_at_call 20; (with_reducible refine (FN.out _ HROW.out).mono ?_); rintro e wf ⟨rfl, hbf⟩; obtain ⟨WF, hWF⟩ : ∃ WF, wf.alloc (.cells #[.int .i64 u0, .int .i64 u1, .int .i64 u2, .int .i64 u3] 42) = WF := ⟨_, rfl⟩; have bF : Below wf.heap.size wf WF := (by rw [← hWF]; exact (Below.refl _ _).alloc (Nat.le_refl _) _); have gF : wf.heap.size < WF.heap.size := (by rw [← hWF]; simp); obtain ⟨y0, y1, y2, y3⟩ := box4N (w := wf) (t := 42) (x := .int .i64 u0) (y := .int .i64 u1) (z := .int .i64 u2) (u := .int .i64 u3) (W := WF) (by rw [hWF]; exact Below.refl _ _); have bWF := below_next hbf bF; have HBW := (bWF.block _ gW).trans HB.out; have v0 : WF.cell? ⟨wo.heap.size, 0, none⟩ = some (.int .i64 u0) := cell_of_row _ _ 0 _ _ _ HBW; have v1 : WF.cell? ⟨wo.heap.size, 1, none⟩ = some (.int .i64 u1) := cell_of_row _ _ 1 _ _ _ HBW; have v2 : WF.cell? ⟨wo.heap.size, 2, none⟩ = some (.int .i64 u2) := cell_of_row _ _ 2 _ _ _ HBW; have v3 : WF.cell? ⟨wo.heap.size, 3, none⟩ = some (.int .i64 u3) := cell_of_row _ _ 3 _ _ _ HBW; have f0 := frozen_of_row _ _ 0 _ _ HBW; have f1 := frozen_of_row _ _ 1 _ _ HBW; have f2 := frozen_of_row _ _ 2 _ _ HBW; have f3 := frozen_of_row _ _ 3 _ _ HBW; have HBWh := Lib.hid HBW; clear HBW)
              go_roundw
              case rel => exact ⟨j + 1, (u0, u1, u2, u3), by rw [decide_eq_true hfj1], by rw [decide_eq_false hgj1], by go_num, by omega, heap_setCell_same _ _ 3 _ _ _ (heap_setCell_same _ _ 2 _ _ _ (heap_setCell_same _ _ 1 _ _ _ (heap_setCell_same _ _ 0 _ _ _ HBWh.out))), fun _ => rfl, by have := bWF.size; simp; omega, ((((below_next hbW bWF).setCell (p := ⟨wo.heap.size, 0, none⟩) (Nat.le_refl _) _).setCell (p := ⟨wo.heap.size, 1, none⟩) (Nat.le_refl _) _).setCell (p := ⟨wo.heap.size, 2, none⟩) (Nat.le_refl _) _).setCell (p := ⟨wo.heap.size, 3, none⟩) (Nat.le_refl _) _⟩
              case measure => simp [intOf]; omega
            · have d1 : decide (f < j) = false := decide_eq_false hfj
              rw [d1]
              clear d1 d2 hin
              go_wp2_with (go_at_call 20; (with_reducible refine (FN.out _ HROW.out).mono ?_); rintro e wf ⟨rfl, hbf⟩; obtain ⟨WF, hWF⟩ : ∃ WF, wf.alloc (.cells #[.int .i64 s0, .int .i64 s1, .int .i64 s2, .int .i64 s3] 42) = WF := ⟨_, rfl⟩; have bF : Below wf.heap.size wf WF := (by rw [← hWF]; exact (Below.refl _ _).alloc (Nat.le_refl _) _); have gF : wf.heap.size < WF.heap.size := (by rw [← hWF]; simp); obtain ⟨y0, y1, y2, y3⟩ := box4N (w := wf) (t := 42) (x := .int .i64 s0) (y := .int .i64 s1) (z := .int .i64 s2) (u := .int .i64 s3) (W := WF) (by rw [hWF]; exact Below.refl _ _); have bWF := below_next hbf bF; have HBW := (bWF.block _ gW).trans HB.out; have v0 : WF.cell? ⟨wo.heap.size, 0, none⟩ = some (.int .i64 u0) := cell_of_row _ _ 0 _ _ _ HBW; have v1 : WF.cell? ⟨wo.heap.size, 1, none⟩ = some (.int .i64 u1) := cell_of_row _ _ 1 _ _ _ HBW; have v2 : WF.cell? ⟨wo.heap.size, 2, none⟩ = some (.int .i64 u2) := cell_of_row _ _ 2 _ _ _ HBW; have v3 : WF.cell? ⟨wo.heap.size, 3, none⟩ = some (.int .i64 u3) := cell_of_row _ _ 3 _ _ _ HBW; have f0 := frozen_of_row _ _ 0 _ _ HBW; have f1 := frozen_of_row _ _ 1 _ _ HBW; have f2 := frozen_of_row _ _ 2 _ _ HBW; have f3 := frozen_of_row _ _ 3 _ _ HBW; have HBWh := Lib.hid HBW; clear HBW)
              go_roundw
              case rel => exact ⟨j + 1, (s0, s1, s2, s3), by rw [decide_eq_true hfj1], by rw [decide_eq_false hgj1], by go_num, by omega, heap_setCell_same _ _ 3 _ _ _ (heap_setCell_same _ _ 2 _ _ _ (heap_setCell_same _ _ 1 _ _ _ (heap_setCell_same _ _ 0 _ _ _ HBWh.out))), fun _ => rfl, by have := bWF.size; simp; omega, ((((below_next hbW bWF).setCell (p := ⟨wo.heap.size, 0, none⟩) (Nat.le_refl _) _).setCell (p := ⟨wo.heap.size, 1, none⟩) (Nat.le_refl _) _).setCell (p := ⟨wo.heap.size, 2, none⟩) (Nat.le_refl _) _).setCell (p := ⟨wo.heap.size, 3, none⟩) (Nat.le_refl _) _⟩
              case measure => simp [intOf]; omega
          · rw [if_neg hin] at hfnd
            have FN := Lib.hid (fun W (hh : RArg encS 4 W xa' xn' xc' l') => (show Calls Try.prog 20 #[.agg #[.int .i64 ep', .int .i64 nx', .slice xa' xn' xc'], .int .i64 (q : Int)] W (SdPost ((0, 0, 0, 0), false) W) from by
              have := find_any ep' nx' (q : Int) xa' xn' xc' l' W hh
              rwa [show srchC (fun x => x.1 == (q : Int)) ep' nx' l' = ((0, 0, 0, 0), false) from srchC_none hfnd] at this))
            clear ck hfnd
            by_cases hjf : j < f
            · have d1 : decide (f < j) = false := decide_eq_false (by omega)
              have d2 : decide (g < j) = false := decide_eq_false (by omega)
              have hfj1 : ¬ f < j + 1 := by omega
              have hgj1 : ¬ g < j + 1 := by omega
              rw [d1, d2]
              clear d1 d2 hin
              go_wp2_with (go_at_call 20; (with_reducible refine (FN.out _ HROW.out).mono ?_); rintro e wf ⟨rfl, hbf⟩; have hbA := (fun o => below_next hbf ((Below.refl wf.heap.size wf).alloc (Nat.le_refl _) o)))
              go_roundw
              case rel => exact ⟨j + 1, (u0, u1, u2, u3), by rw [decide_eq_false hfj1], by rw [decide_eq_false hgj1], by go_num, by omega, ((hbA _).block _ gW).trans HB.out, fun h => absurd h hfj1, Nat.le_trans hsz (hbA _).size, below_next hbW (hbA _)⟩
              case measure => simp [intOf]; omega
            · have d1 : decide (f < j) = true := decide_eq_true (by omega)
              have hfj : f < j := by omega
              have hfj1 : f < j + 1 := by omega
              have hgj1 : g < j + 1 := by omega
              rw [d1]
              clear d1 hin
              obtain ⟨gb, hgb⟩ : ∃ gb, decide (g < j) = gb := ⟨_, rfl⟩
              rw [hgb]
              clear hgb
              cases gb
              all_goals
                go_wp2_with (go_at_call 20; (with_reducible refine (FN.out _ HROW.out).mono ?_); rintro e wf ⟨rfl, hbf⟩; have hbA := (fun o => below_next hbf ((Below.refl wf.heap.size wf).alloc (Nat.le_refl _) o)))
                go_roundw
                case rel => exact ⟨j + 1, (u0, u1, u2, u3), by rw [decide_eq_true hfj1], by rw [decide_eq_true hgj1], by go_num, by omega, ((hbA _).block _ gW).trans HB.out, fun _ => HU.out hfj, Nat.le_trans hsz (hbA _).size, below_next hbW (hbA _)⟩
                case measure => simp [intOf]; omega
        · have hjz : ¬ (j : Int) < (cs.length : Int) := by omega
          have d1 : decide (f < j) = true := decide_eq_true (by omega)
          rw [d1]
          clear d1
          go_wp2_with fail
          go_roundw
          case rel => exact ⟨q + 1, by go_num, by omega, by omega, hb5W⟩
          case measure => simp [intOf]; omega
    · have hidn : ¬ (q : Int) < z.nx ∨ ((q : Int) < z.nx ∧ ¬ (q : Int) < 100) := by omega
      rcases hidn with hidn | ⟨hidn, hidz⟩
      all_goals
        go_wp2_with (go_at_call 14; (with_reducible refine (awake8_any _).mono ?_); rintro e w9 ⟨rfl, hb9⟩)
        go_ret
        exact ⟨rfl, below_next bT.out (below_next hbl hb9)⟩
end Go.Proofs.Ytaopdandkpfdnaa
