/-
  CONTRACT: balance.Nodes.
-/
import Derived.Test.YtihpojllalnmcaaBaE
import Derived.StillTailTactics
namespace Go.Proofs.Ytihpojllalnmcaa
open Go.RowKit Go.Shelf

theorem nodes_bad {ep nx nodes : Int} {sd : List Sd} {l : List Sp} (h : mayB ep nx sd l nodes = false) : nodesC ep nx sd l nodes = ([], 1) := by unfold nodesC; rw [h]; rfl
theorem node_range {ep nx : Int} {sd : List Sd} (h : chkC ep nx sd = true) {k : Nat} (hk : k < sd.length) : 0 ≤ sd[k]!.2.2.2 ∧ sd[k]!.2.2.2 ≤ 4 := by
  have := List.all_eq_true.1 (chkC_parts h).2.2.2.2.2 _ (mem_bang hk)
  unfold okS at this
  rw [Bool.and_eq_true] at this
  exact (btwC_iff _ _ _).1 this.2
theorem its_bd {l : List Sp} {sd : List Sd} (hl : loadB l = true) : ∀ x ∈ itsB l sd, 0 ≤ x.2 ∧ x.2 ≤ 4503599627370496 := fun x hx => by rw [(itsB_mem hx).2]; exact sumK_bd hl _ _
theorem cell_int1 {W : World} {z : Int} {t : TypeId} : (W.alloc (.cells #[.int .i64 z] t)).cell? ⟨W.heap.size, 0, none⟩ = some (.int .i64 z) := cell_of_row _ _ 0 _ _ _ (heap_alloc_new _ _)
set_option maxRecDepth 100000 in
set_option maxHeartbeats 4000000 in
theorem nodes_any (ep nx : Int) (a : Option Addr) (n c : Nat) (sd : List Sd) (a2 : Option Addr) (n2 cp2 : Nat) (l : List Sp) (nodes : Int) (w : World) (h : RArg encS 4 w a n c sd) (hL : Arg w a2 n2 cp2 l) :
    Calls Try.prog 18 #[.agg #[.int .i64 ep, .int .i64 nx, .slice a n c], .slice a2 n2 cp2, .int .i64 nodes] w (IntsErr (nodesC ep nx sd l nodes) w) := by
  obtain ⟨i0, hi0, hz0, hz1, hz2⟩ := info_parts Try.infoInt
  obtain ⟨R, hR⟩ : ∃ R, nodesC ep nx sd l nodes = R := ⟨_, rfl⟩
  rw [hR]
  obtain ⟨W0, hW0⟩ : ∃ W0, w.alloc (.cells #[.int .i64 ep, .int .i64 nx, .slice a n c] 24) = W0 := ⟨_, rfl⟩
  have bw0 : Below w.heap.size w W0 := by rw [← hW0]; exact (Below.refl _ _).alloc (Nat.le_refl _) _
  have g0 : W0.heap.size = w.heap.size + 1 := by rw [← hW0]; simp
  obtain ⟨W1, hW1⟩ : ∃ W1, W0.alloc (.cells #[.int .i64 nodes] 3) = W1 := ⟨_, rfl⟩
  have b01 : Below W0.heap.size W0 W1 := by rw [← hW1]; exact (Below.refl _ _).alloc (Nat.le_refl _) _
  have bw := below_next bw0 b01
  have g1 : W0.heap.size < W1.heap.size := by rw [← hW1]; simp
  have KX := Lib.hid (fun W (hh : Below W1.heap.size W1 W) => (show (W.cell? ⟨w.heap.size, 0, none⟩ = some (.int .i64 ep) ∧ W.cell? ⟨w.heap.size, 1, none⟩ = some (.int .i64 nx) ∧ W.cell? ⟨w.heap.size, 2, none⟩ = some (.slice a n c)) ∧ W.cell? ⟨W0.heap.size, 0, none⟩ = some (.int .i64 nodes) from
    ⟨box3D (w := w) (t := 24) (x := .int .i64 ep) (y := .int .i64 nx) (z := .slice a n c) (w' := W) (by rw [hW0]; exact below_next b01 hh),
     (hh.cell (p := ⟨W0.heap.size, 0, none⟩) g1).trans (by rw [← hW1]; exact cell_int1)⟩))
  have HP := Lib.hid (h.below bw)
  have HL := Lib.hid (hL.below bw)
  obtain ⟨⟨q0, q1, q2⟩, q3⟩ := KX.out _ (Below.refl _ _)
  have SH := Lib.hid (fun W hh hl => shards_any ep nx a n c sd a2 n2 cp2 l W hh hl)
  obtain ⟨x0, h0⟩ : ∃ x, (chkC ep nx sd && loadB l) = x := ⟨_, rfl⟩
  obtain ⟨S, hS⟩ : ∃ S, shardsC ep nx sd l = S := ⟨_, rfl⟩
  rw [hS] at SH
  have hsz : W0.heap.size ≤ W1.heap.size := Nat.le_of_lt g1
  have G0 := Lib.hid g0
  replace g1 := Lib.hid g1
  cases x0
  · have HR := Lib.hid (show R = ([], 1) by rw [← hR]; exact nodes_bad (by unfold mayB; rw [h0]; rfl))
    have HS2 := Lib.hid (show S.2 = 1 by rw [← hS]; unfold shardsC; rw [h0]; rfl)
    clear h0 hS hR h hL g0
    go_enter Try.func18, Try.ntmps18
    go_wp2_with (first | (go_at_call 41; (with_reducible refine (SH.out _ HP.out HL.out).mono ?_); rw [show IntsErr S W1 = fun e w' => ∃ v, e = .returned (.tuple #[v, .int .i64 1]) ∧ OwnsI w' W1.heap.size v S.1 ∧ Below W1.heap.size W1 w' from by funext e w'; unfold IntsErr; rw [HS2.out]]; rintro e w2 ⟨v, rfl, hv, hb⟩))
    go_ret2
    exact ie_bad HR.out (below_next bw hb)
  · have hc := (Bool.and_eq_true _ _ ▸ h0 : chkC ep nx sd = true ∧ loadB l = true)
    have HS2 := Lib.hid (show S = ((itsB l sd).map fun x => x.2, 0) by rw [← hS]; unfold shardsC; rw [h0]; rfl)
    have HS3 := Lib.hid (show S.2 = 0 by rw [HS2.out])
    have hn24 := (chkC_parts hc.1).2.2.1
    have hn := h.1
    have h24 : n ≤ 24 := by omega
    have hnz : (n : Int) ≤ 9223372036854775807 := by omega
    have HM := Lib.hid (show mayB ep nx sd l nodes = ((decide (1 ≤ nodes) && decide (nodes ≤ 5)) && sd.all (fun s => decide (s.2.2.2 < nodes))) by unfold mayB; rw [h0, Bool.true_and])
    have hany : (sd.any fun s => decide (nodes ≤ s.2.2.2)) = !(sd.all fun s => decide (s.2.2.2 < nodes)) := by
      rw [List.not_all_eq_any_not]
      congr 1
      funext s
      by_cases q : nodes ≤ s.2.2.2
      · rw [decide_eq_true q, decide_eq_false (by omega)]; rfl
      · rw [decide_eq_false q, decide_eq_true (by omega)]; rfl
    obtain ⟨x3, h3⟩ : ∃ x, (sd.all fun s => decide (s.2.2.2 < nodes)) = x := ⟨_, rfl⟩
    rw [h3] at hany HM
    have CF := Lib.hid (fun W (hb : Below W1.heap.size W1 W) => (show Calls Try.prog 42 #[.slice a n c, .func (.func 43) #[] #[.pointer (some ⟨W0.heap.size, 0, none⟩)]] W (Gives W (.bool (!x3))) by
      have := containsShard_any (fun x => decide (nodes ≤ x.2.2.2)) 43 #[.pointer (some ⟨W0.heap.size, 0, none⟩)] (enters_of Try.func43 (by kernel_rfl) rfl) a n c sd W (nodes1 nodes W0.heap.size W (Nat.lt_of_lt_of_le g1.out hb.size) (KX.out _ hb).2) h.1 h.2.1 (HP.out.below hb).2.2.2.2
      rw [hany] at this
      exact this))
    have HC := Lib.hid hc
    have HND := Lib.hid (fun k (hk : k < sd.length) => node_range hc.1 hk)
    have hnl := Lib.hid hn
    have HALL := Lib.hid h3
    clear h0 hS h hL hn24 hc hany h3 hn g0
    by_cases n1 : nodes < 1
    · have HR := Lib.hid (show R = ([], 1) by rw [← hR]; exact nodes_bad (by rw [HM.out, decide_eq_false (by omega)]; rfl))
      clear hR
      go_enter Try.func18, Try.ntmps18
      go_wp2_with (first | (go_at_call 41; (with_reducible refine (SH.out _ HP.out HL.out).mono ?_); rw [show IntsErr S W1 = fun e w' => ∃ v, e = .returned (.tuple #[v, .int .i64 0]) ∧ OwnsI w' W1.heap.size v S.1 ∧ Below W1.heap.size W1 w' from by funext e w'; unfold IntsErr; rw [HS3.out]]; rintro e w2 ⟨v, rfl, hv, hb⟩; obtain ⟨⟨q0, q1, q2⟩, q3⟩ := KX.out _ hb))
      go_ret2
      exact ie_bad HR.out (below_next bw hb)
    · by_cases n5 : 5 < nodes
      · have HR := Lib.hid (show R = ([], 1) by rw [← hR]; exact nodes_bad (by rw [HM.out, decide_eq_false (show ¬ nodes ≤ 5 by omega), Bool.and_false]; rfl))
        clear hR
        go_enter Try.func18, Try.ntmps18
        go_wp2_with (first | (go_at_call 41; (with_reducible refine (SH.out _ HP.out HL.out).mono ?_); rw [show IntsErr S W1 = fun e w' => ∃ v, e = .returned (.tuple #[v, .int .i64 0]) ∧ OwnsI w' W1.heap.size v S.1 ∧ Below W1.heap.size W1 w' from by funext e w'; unfold IntsErr; rw [HS3.out]]; rintro e w2 ⟨v, rfl, hv, hb⟩; obtain ⟨⟨q0, q1, q2⟩, q3⟩ := KX.out _ hb))
        go_ret2
        exact ie_bad HR.out (below_next bw hb)
      · cases x3
        · have HR := Lib.hid (show R = ([], 1) by rw [← hR]; exact nodes_bad (by rw [HM.out, Bool.and_false]))
          clear hR
          go_enter Try.func18, Try.ntmps18
          go_wp2_with (first | (go_at_call 41; (with_reducible refine (SH.out _ HP.out HL.out).mono ?_); rw [show IntsErr S W1 = fun e w' => ∃ v, e = .returned (.tuple #[v, .int .i64 0]) ∧ OwnsI w' W1.heap.size v S.1 ∧ Below W1.heap.size W1 w' from by funext e w'; unfold IntsErr; rw [HS3.out]]; rintro e w2 ⟨v, rfl, hv, hb⟩; obtain ⟨⟨q0, q1, q2⟩, q3⟩ := KX.out _ hb) | (go_at_call 42; (with_reducible refine (CF.out _ hb).mono ?_); rintro e w3 ⟨rfl, hb3⟩))
          go_ret2
          exact ie_bad HR.out (below_next bw (below_next hb hb3))
        · obtain ⟨m, hm⟩ : ∃ m : Nat, nodes = (m : Int) := ⟨nodes.toNat, by omega⟩
          subst hm
          have m1 : 1 ≤ m := by omega
          have m5 : m ≤ 5 := by omega
          have HR := Lib.hid (show R = (nodesB (itsB l sd) m, 0) by rw [← hR]; unfold nodesC; rw [HM.out, decide_eq_true (by omega), decide_eq_true (by omega)]; rfl)
          clear hR
          go_enter Try.func18, Try.ntmps18
          go_wp2_with (first | (go_at_call 41; (with_reducible refine (SH.out _ HP.out HL.out).mono ?_); rw [show IntsErr S W1 = fun e w' => ∃ v, e = .returned (.tuple #[v, .int .i64 0]) ∧ OwnsI w' W1.heap.size v S.1 ∧ Below W1.heap.size W1 w' from by funext e w'; unfold IntsErr; rw [HS3.out]]; rintro e w2 ⟨v, rfl, hv, hb⟩; obtain ⟨⟨q0, q1, q2⟩, q3⟩ := KX.out _ hb) | (go_at_call 42; (with_reducible refine (CF.out _ hb).mono ?_); rintro e w3 ⟨rfl, hb3⟩; have hb03 := below_next hb hb3; obtain ⟨⟨q0, q1, q2⟩, q3⟩ := KX.out _ hb03) | (at_make; refine wpList_make_full _ rfl (.tmp 34) (.tmp 34) 56 rfl w3.heap.size 3 i0 (.int .i64 0) 1 Try.underlying56 hi0 hz0 hz1 .i64 .i64 m m m rfl rfl rfl rfl (by rw [hz2]; omega) (by unfold maxLen; omega) (Nat.le_refl _) ?_))
          intro w4 hrow hg4
          have b34 : Below w3.heap.size w3 w4 := (Below.refl _ _).grown hg4 (Nat.le_refl _) (fun _ h => by cases h)
          have HR4 := Lib.hid (shards_own (xs := nodesB [] m) (by rw [nodes_zero, ← made1]; exact hrow) (by rw [nodes_zero]; simp))
          have G4 := hrow.lt w3.heap.size rfl
          have hb04 := below_next hb03 b34
          have hv3 := hv.below hb3
          obtain ⟨aL, cL, rfl, hAL⟩ := hv.rarg
          have hNL : ∀ p, aL = some p → p.block < w3.heap.size := fun p hp => by subst hp; exact (World.ownsRow.lt hv3 p.block rfl).2
          have hAL4 := Lib.hid ((hAL.below hb3).below b34)
          replace hNL := Lib.hid hNL
          have hS1 : S.1.length = n := by rw [HS2.out, List.length_map, itsB_len, hnl.out]
          have HS1 := Lib.hid hS1
          obtain ⟨⟨q0, q1, q2⟩, q3⟩ := KX.out _ hb04
          clear hrow hg4 hv hv3 hAL hS1
          rw [HS1.out] at hAL4
          have e13 : W1.heap.size ≤ w3.heap.size := hb03.size
          replace hW1 := Lib.hid hW1
          replace hW0 := Lib.hid hW0
          go_wp2_with fail
          go_loopw [39] (fun i wr => ∃ (k : Nat), i = .int .i64 (k : Int) ∧ k ≤ n ∧ Hid (OwnsI wr w3.heap.size (.slice (some ⟨w3.heap.size, 0, none⟩) m m) (nodesB ((itsB l sd).take k) m)) ∧ Hid (w4.grownBy wr (some w3.heap.size)))
            (fun i _ => n - (intOf i).toNat)
          case atStart => exact ⟨0, rfl, Nat.zero_le _, HR4, Lib.hid (World.grownBy.refl _ _)⟩
          case round =>
            obtain ⟨k, rfl, hk, HO, HG⟩ := hrel
            by_cases hlt : k < n
            · have hkz : (k : Int) < (n : Int) := by omega
              have hkl : k < sd.length := by rw [← hnl.out]; exact hlt
              have hgw := HG.out.size
              have hg3 : w3.heap.size < wr.heap.size := by omega
              have hblr : Below W1.heap.size W1 wr := hb04.grown HG.out (by have := hb04.size; omega) (fun q hq => by injection hq with hq; omega)
              obtain ⟨bb, off, e, hb9, d0, d1, d2, d3⟩ := (HP.out.below hblr).2.2.2.2.shard k hkl
              have hAL5 := hAL4.out.grownG HG.out (fun p hp e => by have := hNL.out p hp; injection e with e; omega)
              obtain ⟨bl, offl, el, hbl9, dl⟩ := hAL5.2.2.2.2.int k (by rw [HS1.out]; exact hlt)
              have hmore : (itsB l sd).take (k + 1) = (itsB l sd).take k ++ [(itsB l sd)[k]!] := take_moreG (by rw [itsB_len]; exact hkl)
              have hSk : S.1[k]! = (itsB l sd)[k]!.2 := by
                rw [HS2.out]
                dsimp only
                rw [getElem!_pos _ k (by rw [List.length_map, itsB_len]; exact hkl), getElem!_pos _ k (by rw [itsB_len]; exact hkl), List.getElem_map]
              have hbd := its_bd (sd := sd) HC.out.2 _ (mem_bang (l := itsB l sd) (by rw [itsB_len]; exact hkl))
              have hik := itsB_get (l := l) hkl
              have hnd := HND.out k hkl
              have hall := of_decide_eq_true (List.all_eq_true.1 HALL.out _ (mem_bang hkl))
              obtain ⟨⟨i, lo, hi, nd⟩, hs⟩ : ∃ s, sd[k]! = s := ⟨_, rfl⟩
              rw [hs] at d0 d1 d2 d3 hnd hall hik
              obtain ⟨x, hx⟩ : ∃ x, (itsB l sd)[k]! = x := ⟨_, rfl⟩
              rw [hx] at hmore hSk hbd hik
              obtain ⟨xs, v⟩ := x
              dsimp only at d0 d1 d2 d3 hnd hall hSk hbd
              rw [hSk] at dl
              have hxs : xs.2.2.2 = nd := by have := congrArg (fun y : It => y.1.2.2.2) hik; exact this
              obtain ⟨r, hr⟩ : ∃ r : Nat, nd = (r : Int) := ⟨nd.toNat, by omega⟩
              subst hr
              have hrm : r < m := by omega
              have hset := nodes_set (X := (itsB l sd).take k) hrm (x := (xs, v)) hxs
              rw [← hmore] at hset
              dsimp only at hset
              have hTb := nodeS_bd (M := 4503599627370496) (r : Int) ((itsB l sd).take k) (fun x hx => its_bd HC.out.2 x (List.mem_of_mem_take hx)) (by omega)
              have hTk : ((itsB l sd).take k).length ≤ 24 := by rw [List.length_take]; omega
              rw [← nodesB_get (its := (itsB l sd).take k) hrm] at hTb
              obtain ⟨T, hT⟩ : ∃ T, (nodesB ((itsB l sd).take k) m)[r]! = T := ⟨_, rfl⟩
              rw [hT] at hset hTb
              have hT2 : T ≤ 108086391056891904 := by omega
              have hw : IntKind.i64.wrap (T + v) = T + v := IntWalk.i64_in _ (by omega)
              obtain ⟨W5, hW5⟩ : ∃ W5, wr.alloc (.cells #[.int .i64 i, .int .i64 lo, .int .i64 hi, .int .i64 (r : Int)] 61) = W5 := ⟨_, rfl⟩
              have b5 : Below wr.heap.size wr W5 := by rw [← hW5]; exact (Below.refl _ _).alloc (Nat.le_refl _) _
              have y3 : W5.cell? ⟨wr.heap.size, 3, none⟩ = some (.int .i64 (r : Int)) := by rw [← hW5]; exact cell_of_row _ _ 3 _ _ _ (heap_alloc_new _ _)
              have dl5 := (b5.cell (p := ⟨bl, offl + k, none⟩) hbl9).trans dl
              have HRO := Lib.hid (show W5.ownsRow w3.heap.size 3 1 (.slice (some ⟨w3.heap.size, 0, none⟩) m m) m ((nodesB ((itsB l sd).take k) m).map (Value.int .i64)) by have := HO.out.below b5; unfold OwnsI at this; rwa [nodesB_len] at this)
              have t0 : W5.cell? ⟨w3.heap.size, r, none⟩ = some (.int .i64 T) := by
                have := World.ownsRow.cellAt HRO.out r (by omega)
                rw [this, List.getElem?_map, List.getElem?_eq_getElem (by rw [nodesB_len]; exact hrm), ← getElem!_pos, hT]
                rfl
              have HSET := Lib.hid (show OwnsI (W5.setCell ⟨w3.heap.size, r, none⟩ (.int .i64 (T + v))) w3.heap.size (.slice (some ⟨w3.heap.size, 0, none⟩) m m) (nodesB ((itsB l sd).take (k + 1)) m) by
                refine shards_own ?_ (nodesB_len _ _)
                rw [← hset, ← set_ints]
                exact (World.ownsRow.stored HRO.out r _).1)
              have e0 := World.ownsRow.frozenAt HRO.out r
              have HSD := Lib.hid (show OwnsI (W5.drew.setCell ⟨w3.heap.size, r, none⟩ (.int .i64 (T + v))) w3.heap.size (.slice (some ⟨w3.heap.size, 0, none⟩) m m) (nodesB ((itsB l sd).take (k + 1)) m) from HSET.out)
              have HG5 := Lib.hid (show w4.grownBy W5.drew (some w3.heap.size) by
                have h1 : w4.grownBy W5 (some w3.heap.size) := by rw [← hW5]; exact grown_trans HG.out (World.grownBy_alloc _ _ _)
                exact ⟨h1.os, h1.tape, h1.output, h1.size, h1.block⟩)
              have hrz : (0 : Int) ≤ (r : Int) := by omega
              have hkS : (k : Int) < (S.fst.length : Int) := by rw [HS1.out]; exact hkz
              have hrz2 : (r : Int) < (m : Int) := by omega
              have hn2 : n = S.1.length := HS1.out.symm
              replace hn2 := Lib.hid hn2
              subst e
              subst el
              clear hAL5 hmore hSk hbd hik hs hx hxs hset hTb hTk hT hT2 b5 hnd hall
              go_wp2_with fail
              go_still_tail 11, (by kernel_rfl)
              change wpList _ _ _ _ _ W5.drew
              go_wp2_with fail
              go_roundw
              case rel => exact ⟨k + 1, by go_num, by omega, HSD, Lib.hid (grown_trans HG5.out (grown_setCell _ ⟨w3.heap.size, r, none⟩ _))⟩
              case measure => simp [intOf]; omega
            · have hkz : ¬ (k : Int) < (n : Int) := by omega
              have HF := Lib.hid (show OwnsI wr w3.heap.size (.slice (some ⟨w3.heap.size, 0, none⟩) m m) R.1 by
                have := HO.out
                rw [List.take_of_length_le (by rw [itsB_len, ← hnl.out]; omega)] at this
                rw [HR.out]
                exact this)
              have HR2 := Lib.hid (show R.2 = 0 by rw [HR.out])
              have hblf : Below W1.heap.size W1 wr := hb04.grown HG.out (by have := hb04.size; omega) (fun q hq => by injection hq with hq; omega)
              go_wp2_with fail
              go_ret2
              unfold IntsErr
              rw [HR2.out]
              exact ⟨_, rfl, ⟨HF.out.1, HF.out.2.imp id (fun ⟨g, cap, cur, e1, e2, e3⟩ => ⟨g, cap, cur, e1, Nat.le_trans (by have := G0.out; omega) e2, e3⟩)⟩, below_next bw hblf⟩
end Go.Proofs.Ytihpojllalnmcaa
