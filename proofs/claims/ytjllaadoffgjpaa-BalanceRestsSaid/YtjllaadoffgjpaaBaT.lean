/-
  THE LAW BalanceRests: its walk.
-/
import Derived.Test.YtjllaadoffgjpaaBaS
import Derived.Test.YtjllaadoffgjpaaBaM
import Derived.BigQuiet
namespace Go.Proofs.Ytjllaadoffgjpaa
open Go.RowKit Go.Shelf

theorem cells8C {W : World} {b : Nat} {x y z u v s t r : Value} {T : TypeId} (h : W.heap[b]? = some (.cells #[x, y, z, u, v, s, t, r] T)) :
    W.cell? ⟨b, 0, none⟩ = some x ∧ W.cell? ⟨b, 1, none⟩ = some y ∧ W.cell? ⟨b, 2, none⟩ = some z ∧ W.cell? ⟨b, 3, none⟩ = some u ∧ W.cell? ⟨b, 4, none⟩ = some v ∧ W.cell? ⟨b, 5, none⟩ = some s ∧ W.cell? ⟨b, 6, none⟩ = some t ∧ W.cell? ⟨b, 7, none⟩ = some r :=
  ⟨cell_of_row _ _ 0 _ _ _ h, cell_of_row _ _ 1 _ _ _ h, cell_of_row _ _ 2 _ _ _ h, cell_of_row _ _ 3 _ _ _ h, cell_of_row _ _ 4 _ _ _ h, cell_of_row _ _ 5 _ _ _ h, cell_of_row _ _ 6 _ _ _ h, cell_of_row _ _ 7 _ _ _ h⟩
theorem wB_more {l : List Sp} {lo hi : Int} {j : Nat} (h : j < l.length) : ((l.take (j + 1)).filter (wB lo hi)).length = ((l.take j).filter (wB lo hi)).length + (if wB lo hi (l.getD j (0, 0)) = true then 1 else 0) := by
  rw [take_more h, List.filter_append, List.length_append, List.filter_cons]
  split <;> simp
theorem cell_lt {W : World} {b i : Nat} {v : Value} (h : W.cell? ⟨b, i, none⟩ = some v) : b < W.heap.size := by
  rcases Nat.lt_or_ge b W.heap.size with q | q
  · exact q
  · exfalso
    simp [World.cell?, Array.getElem?_eq_none q] at h
set_option maxRecDepth 100000 in
set_option maxHeartbeats 8000000 in
theorem balanceRests_walk (ep nx : Int) (a : Option Addr) (n c : Nat) (sd : List Sd) (a2 : Option Addr) (n2 cp2 : Nat) (l : List Sp) (p1 p2 p3 z : Int) (w : World) (hh : RArg encS 4 w a n c sd ∧ Arg w a2 n2 cp2 l) :
    Calls Try.prog 7 #[.agg #[.int .i64 ep, .int .i64 nx, .slice a n c, .slice a2 n2 cp2, .int .i64 p1, .int .i64 p2, .int .i64 p3, .int .i64 z]] w (TruePost w) := by
  obtain ⟨h, hL⟩ := hh
  have hnz : (n : Int) ≤ 9223372036854775807 := by have := h.1; have := h.2.1; omega
  have hnz2 : (n2 : Int) ≤ 9223372036854775807 := by have := hL.1; have := hL.2.1; omega
  obtain ⟨W1, hW1⟩ : ∃ W1, w.alloc (.cells #[.int .i64 ep, .int .i64 nx, .slice a n c, .slice a2 n2 cp2, .int .i64 p1, .int .i64 p2, .int .i64 p3, .int .i64 z] 29) = W1 := ⟨_, rfl⟩
  have bw : Below w.heap.size w W1 := by rw [← hW1]; exact (Below.refl _ _).alloc (Nat.le_refl _) _
  have g1 : w.heap.size < W1.heap.size := by rw [← hW1]; simp
  have r1 : W1.heap[w.heap.size]? = some (.cells #[.int .i64 ep, .int .i64 nx, .slice a n c, .slice a2 n2 cp2, .int .i64 p1, .int .i64 p2, .int .i64 p3, .int .i64 z] 29) := by rw [← hW1]; exact heap_alloc_new _ _
  have KX := Lib.hid (fun W (hb : Below W1.heap.size W1 W) => cells8C ((hb.block _ g1).trans r1))
  have HP := Lib.hid (h.below bw)
  have HL := Lib.hid (hL.below bw)
  obtain ⟨q0, q1, q2, q3, q4, q5, q6, q7⟩ := KX.out _ (Below.refl _ _)
  obtain ⟨fw, hfw⟩ : ∃ r, (decide (n ≤ 60) && decide (n2 ≤ 60)) = r := ⟨_, rfl⟩
  have FW := Lib.hid (few25_any ep nx a n c a2 n2 cp2 p1 p2 p3 z W1 hnz hnz2 hfw)
  have hfw2 := hfw
  clear r1
  cases fw
  · clear hfw hfw2 h hL
    go_enter Try.func7, Try.ntmps7
    go_wp2_with (first | (go_at_call 8; (with_reducible refine FW.out.mono ?_); rintro e w2 ⟨rfl, hb2⟩) | (go_at_call 9; (with_reducible refine (awake25_any _).mono ?_); rintro e w3 ⟨rfl, hb3⟩) | fail)
    go_ret
    exact ⟨rfl, below_next bw (below_next hb2 hb3)⟩
  · rw [Bool.and_eq_true, decide_eq_true_iff, decide_eq_true_iff] at hfw2
    have h60 : n2 ≤ 60 := hfw2.2
    have hnl := Lib.hid h.1
    have hll := Lib.hid hL.1
    obtain ⟨⟨⟨gk, gi, ga⟩, sm, er⟩, hS⟩ : ∃ S, sugC ep nx sd l (p1, p2, p3) z = S := ⟨_, rfl⟩
    have SG := Lib.hid (fun W hA hB => (show Calls Try.prog 23 #[.agg #[.int .i64 ep, .int .i64 nx, .slice a n c], .slice a2 n2 cp2, .agg #[.int .i64 p1, .int .i64 p2, .int .i64 p3], .int .i64 z] W fun e w' => e = .returned (.tuple #[.agg #[.int .i64 gk, .int .i64 gi, .int .i64 ga], .bool sm, .int .i64 er]) ∧ Below W.heap.size W w' by
      have := suggest_any ep nx a n c sd a2 n2 cp2 l p1 p2 p3 z W hA hB
      rw [hS] at this
      exact this))
    clear hfw hfw2 h hL
    by_cases hgo : ¬ (er = 0 ∧ sm = false)
    · have hor : (er != 0) = true ∨ (er != 0) = false ∧ sm = true := by
        by_cases q : er = 0
        · right
          refine ⟨by simpa using q, ?_⟩
          cases sm
          · exact absurd ⟨q, rfl⟩ hgo
          · rfl
        · left; simpa using q
      clear hS hgo
      rcases hor with e1 | ⟨e1, rfl⟩
      all_goals
        go_enter Try.func7, Try.ntmps7
        go_wp2_with (first | (go_at_call 8; (with_reducible refine FW.out.mono ?_); rintro e w2 ⟨rfl, hb2⟩; obtain ⟨q0, q1, q2, q3, q4, q5, q6, q7⟩ := KX.out _ hb2) | (go_at_call 23; (with_reducible refine (SG.out _ (HP.out.below hb2) (HL.out.below hb2)).mono ?_); rintro e w3 ⟨rfl, hb3⟩; have hb13 := below_next hb2 hb3; have hb14 := hb13.alloc hb13.size (.cells #[.int .i64 gk, .int .i64 gi, .int .i64 ga] 54)) | (go_at_call 9; (with_reducible refine (awake25_any _).mono ?_); rintro e w5 ⟨rfl, hb5⟩; have hb15 := below_next hb14 hb5) | fail)
        go_ret
        exact ⟨rfl, below_next bw hb15⟩
    · obtain ⟨rfl, rfl⟩ : er = 0 ∧ sm = false := by
        rcases Classical.em (er = 0 ∧ sm = false) with q | q
        · exact q
        · exact absurd q hgo
      obtain ⟨hm, hR⟩ := rest_of hS
      have hmm := hm
      unfold mayB at hmm
      rw [Bool.and_eq_true, Bool.and_eq_true, Bool.and_eq_true, Bool.and_eq_true, decide_eq_true_iff, decide_eq_true_iff] at hmm
      obtain ⟨⟨⟨hc, hl⟩, hz1, hz5⟩, hall⟩ := hmm
      obtain ⟨m, hz⟩ : ∃ m : Nat, z = (m : Int) := ⟨z.toNat, by omega⟩
      rw [show z.toNat = m by rw [hz, Int.toNat_natCast]] at hR
      have hsd := (chkC_parts hc).2.2.1
      obtain ⟨L, hLd⟩ : ∃ L, (itsB l sd).map (fun x => x.2) = L := ⟨_, rfl⟩
      obtain ⟨N, hNd⟩ : ∃ N, nodesB (itsB l sd) m = N := ⟨_, rfl⟩
      rw [hLd, hNd] at hR
      have LENL := Lib.hid (show L.length = n by rw [← hLd, List.length_map, itsB_len, hnl.out])
      have LENN := Lib.hid (show N.length = m by rw [← hNd, nodesB_len])
      have LB := Lib.hid (show ∀ i, i < sd.length → 0 ≤ L[i]! ∧ L[i]! ≤ 4503599627370496 by
        intro i hi
        rw [← hLd, loads_get hi]
        exact sumK_bd hl _ _)
      have NB := Lib.hid (show ∀ x ∈ N, 0 ≤ x ∧ x ≤ 1000000000000000000 by rw [← hNd]; exact nodesB_bd hl hsd.2 m)
      have SH0 := Lib.hid (fun W hA hB => (shards_any ep nx a n c sd a2 n2 cp2 l W hA hB).mono fun e w' (q : IntsErr (shardsC ep nx sd l) W e w') => (show ∃ v, e = .returned (.tuple #[v, .int .i64 0]) ∧ OwnsI w' W.heap.size v L ∧ Below W.heap.size W w' by unfold shardsC at q; rw [hc, hl] at q; rw [← hLd]; exact q))
      have ND0 := Lib.hid (fun W hA hB => (nodes_any ep nx a n c sd a2 n2 cp2 l z W hA hB).mono fun e w' (q : IntsErr (nodesC ep nx sd l z) W e w') => (show ∃ v, e = .returned (.tuple #[v, .int .i64 0]) ∧ OwnsI w' W.heap.size v N ∧ Below W.heap.size W w' by unfold nodesC at q; rw [hm, hz, Int.toNat_natCast] at q; rw [← hNd]; exact q))
      subst hz
      have HR := Lib.hid hR
      have h24 : n ≤ 24 := by rw [hnl.out]; exact hsd.2
      have hm1 : 1 ≤ m := by omega
      have hmz : (m : Int) ≤ 9223372036854775807 := by omega
      have hm1z : ¬ (m : Int) < 1 := by omega
      clear hS hgo hm hR hc hl hz1 hz5 hall hsd hLd hNd
      go_enter Try.func7, Try.ntmps7
      go_wp2_with (first | (go_at_call 8; (with_reducible refine FW.out.mono ?_); rintro e w2 ⟨rfl, hb2⟩; obtain ⟨q0, q1, q2, q3, q4, q5, q6, q7⟩ := KX.out _ hb2) | (go_at_call 23; (with_reducible refine (SG.out _ (HP.out.below hb2) (HL.out.below hb2)).mono ?_); rintro e w3 ⟨rfl, hb3⟩; have hb13 := below_next hb2 hb3; have hb14 := Lib.hid (hb13.alloc hb13.size (.cells #[.int .i64 gk, .int .i64 gi, .int .i64 ga] 54)); obtain ⟨q0, q1, q2, q3, q4, q5, q6, q7⟩ := KX.out _ hb14.out) | (go_at_call 12; (with_reducible refine (SH0.out _ (HP.out.below hb14.out) (HL.out.below hb14.out)).mono ?_); rintro e w5 ⟨v5, rfl, hv5, hb5⟩; obtain ⟨aL, cL, rfl, hAL⟩ := hv5.rargN LENL.out; replace hAL := Lib.hid hAL; clear hv5; have hb15 := Lib.hid (below_next hb14.out hb5); obtain ⟨q0, q1, q2, q3, q4, q5, q6, q7⟩ := KX.out _ hb15.out) | (go_at_call 13; (with_reducible refine (ND0.out _ (HP.out.below hb15.out) (HL.out.below hb15.out)).mono ?_); rintro e w7 ⟨v7, rfl, hv7, hb7⟩; obtain ⟨aN, cN, rfl, hAN⟩ := hv7.rargN LENN.out; replace hAN := Lib.hid hAN; replace hAL := Lib.hid (hAL.out.below hb7); clear hv7; have hb17 := Lib.hid (below_next hb15.out hb7); obtain ⟨q0, q1, q2, q3, q4, q5, q6, q7⟩ := KX.out _ hb17.out) | fail)
      have BW := Lib.hid (below_next bw hb17.out)
      have KY := Lib.hid (fun W (hb : Below w7.heap.size w7 W) => KX.out _ (below_next hb17.out hb))
      have HPY := Lib.hid (fun W (hb : Below w7.heap.size w7 W) => HP.out.below (below_next hb17.out hb))
      have HLY := Lib.hid (fun W (hb : Below w7.heap.size w7 W) => HL.out.below (below_next hb17.out hb))
      have HALY := Lib.hid (fun W (hb : Below w7.heap.size w7 W) i (hi : i < n) => (hAL.out.below hb).2.2.2.2.int i (by rw [LENL.out]; exact hi))
      have HANY := Lib.hid (fun W (hb : Below w7.heap.size w7 W) i (hi : i < m) => (hAN.out.below hb).2.2.2.2.int i (by rw [LENN.out]; exact hi))
      replace hW1 := Lib.hid hW1
      clear g1 bw
      go_loopw [10] (fun i wr => ∃ (k : Nat), i = .int .i64 (k : Int) ∧ k ≤ n ∧ Below w7.heap.size w7 wr)
        (fun i _ => n - (intOf i).toNat)
      case atStart => exact ⟨0, rfl, Nat.zero_le _, Below.refl _ _⟩
      case round =>
        obtain ⟨k, rfl, hk, hbl⟩ := hrel
        obtain ⟨wo, hwo⟩ : ∃ wo, wo = wr := ⟨_, rfl⟩
        subst hwo
        obtain ⟨q0, q1, q2, q3, q4, q5, q6, q7⟩ := KY.out _ hbl
        by_cases hlt : k < n
        · have hkl : k < sd.length := by rw [← hnl.out]; exact hlt
          have hkz : (k : Int) < (n : Int) := by omega
          have hk0 : (0 : Int) ≤ (k : Int) := by omega
          have SHC := Lib.hid (fun W (hb : Below w7.heap.size w7 W) => (HPY.out W hb).2.2.2.2.shard k hkl)
          obtain ⟨b, off, e, hx⟩ := SHC.out _ hbl
          clear hx
          subst e
          have HRA := Lib.hid (HR.out.a k hkl)
          obtain ⟨⟨i0, lo, hi, nd⟩, hs⟩ : ∃ s, sd[k]! = s := ⟨_, rfl⟩
          rw [hs] at SHC HRA
          dsimp only at SHC HRA
          have SC := Lib.hid (fun W (hb : Below w7.heap.size w7 W) => (show W.cell? ⟨b, off + k * 4, none⟩ = some (.int .i64 i0) ∧ W.cell? ⟨b, off + k * 4 + 1, none⟩ = some (.int .i64 lo) ∧ W.cell? ⟨b, off + k * 4 + 2, none⟩ = some (.int .i64 hi) ∧ W.cell? ⟨b, off + k * 4 + 3, none⟩ = some (.int .i64 nd) by
            obtain ⟨_, _, e, _, x0, x1, x2, x3⟩ := SHC.out W hb
            cases e
            exact ⟨x0, x1, x2, x3⟩))
          replace hs := Lib.hid hs
          go_wp2_with fail
          go_loopw [11, 12] (fun we jj wj => ∃ (j q : Nat), jj = .int .i64 (j : Int) ∧ we = .int .i64 (q : Int) ∧ j ≤ n2 ∧ Hid (q = ((l.take j).filter (wB lo hi)).length) ∧ Below w7.heap.size w7 wj)
            (fun _ jj _ => n2 - (intOf jj).toNat)
          case atStart => exact ⟨0, 0, rfl, rfl, Nat.zero_le _, Lib.hid rfl, hbl⟩
          case round =>
            obtain ⟨j, q, rfl, rfl, hj, HQ, hbj⟩ := hrel
            obtain ⟨q0, q1, q2, q3, q4, q5, q6, q7⟩ := KY.out _ hbj
            obtain ⟨s0, s1, s2, s3⟩ := SC.out _ hbj
            by_cases hjt : j < n2
            · have hjl : j < l.length := by rw [← hll.out]; exact hjt
              have hjz : (j : Int) < (n2 : Int) := by omega
              have hj0 : (0 : Int) ≤ (j : Int) := by omega
              obtain ⟨b2, off2, e2, hb2l, c0, c1⟩ := (HLY.out _ hbj).2.2.2.2 j hjl
              subst e2
              have hmore := wB_more (lo := lo) (hi := hi) hjl
              rw [← HQ.out] at hmore
              have hq60 : q ≤ 60 := by
                have h1 : ((l.take j).filter (wB lo hi)).length ≤ (l.take j).length := List.length_filter_le _ _
                rw [List.length_take, ← HQ.out] at h1
                omega
              obtain ⟨⟨x, y⟩, hp⟩ : ∃ p, l.getD j (0, 0) = p := ⟨_, rfl⟩
              rw [hp] at c0 c1 hmore
              dsimp only at c0 c1
              rw [show wB lo hi (x, y) = ((decide (lo ≤ x) && decide (x < hi)) && decide (0 < y)) from rfl] at hmore
              obtain ⟨W5, hW5⟩ : ∃ W5, wr.alloc (.cells #[.int .i64 lo, .int .i64 hi] 70) = W5 := ⟨_, rfl⟩
              have b5 : Below wr.heap.size wr W5 := by rw [← hW5]; exact (Below.refl _ _).alloc (Nat.le_refl _) _
              have y0 : W5.cell? ⟨wr.heap.size, 0, none⟩ = some (.int .i64 lo) := by rw [← hW5]; exact cell_of_row _ _ 0 _ _ _ (heap_alloc_new _ _)
              have y1 : W5.cell? ⟨wr.heap.size, 1, none⟩ = some (.int .i64 hi) := by rw [← hW5]; exact cell_of_row _ _ 1 _ _ _ (heap_alloc_new _ _)
              have c0' := (b5.cell (p := ⟨b2, off2 + j * 2, none⟩) hb2l).trans c0
              have c1' := (b5.cell (p := ⟨b2, off2 + j * 2 + 1, none⟩) hb2l).trans c1
              have hb5 := below_next hbj b5
              have k3 := (KY.out _ hb5).2.2.2.1
              clear hp b5
              by_cases f1 : lo ≤ x
              · have e1 : decide (lo ≤ x) = true := decide_eq_true f1
                by_cases f2 : x < hi
                · have e2 : decide (x < hi) = true := decide_eq_true f2
                  by_cases f3 : 0 < y
                  · have e3 : decide (0 < y) = true := decide_eq_true f3
                    rw [e1, e2, e3] at hmore
                    simp only [Bool.and_self, if_true] at hmore
                    have HM := Lib.hid hmore
                    clear hmore
                    go_wp2_with fail
                    go_quiet (fail)
                    go_wp2_with fail
                    go_roundw
                    case rel => exact ⟨j + 1, q + 1, by go_num, by go_num, by omega, Lib.hid HM.out.symm, below_drewN hb5 _⟩
                    case measure => simp [intOf]; omega
                  · have e3 : decide (0 < y) = false := decide_eq_false f3
                    rw [e1, e2, e3] at hmore
                    simp only [Bool.and_false, Bool.false_eq_true, if_false, Nat.add_zero] at hmore
                    have HM := Lib.hid hmore
                    clear hmore
                    go_wp2_with fail
                    go_quiet (fail)
                    go_wp2_with fail
                    go_roundw
                    case rel => exact ⟨j + 1, q, by go_num, rfl, by omega, Lib.hid HM.out.symm, below_drewN hb5 _⟩
                    case measure => simp [intOf]; omega
                · have e2 : decide (x < hi) = false := decide_eq_false f2
                  rw [e1, e2] at hmore
                  simp only [Bool.and_false, Bool.false_and, Bool.false_eq_true, if_false, Nat.add_zero] at hmore
                  have HM := Lib.hid hmore
                  clear hmore
                  go_wp2_with fail
                  go_quiet (fail)
                  go_wp2_with fail
                  go_roundw
                  case rel => exact ⟨j + 1, q, by go_num, rfl, by omega, Lib.hid HM.out.symm, below_drewN hb5 _⟩
                  case measure => simp [intOf]; omega
              · have e1 : decide (lo ≤ x) = false := decide_eq_false f1
                rw [e1] at hmore
                simp only [Bool.false_and, Bool.false_eq_true, if_false, Nat.add_zero] at hmore
                have HM := Lib.hid hmore
                clear hmore
                go_wp2_with fail
                go_quiet (fail)
                go_wp2_with fail
                go_roundw
                case rel => exact ⟨j + 1, q, by go_num, rfl, by omega, Lib.hid HM.out.symm, below_drewN hb5 _⟩
                case measure => simp [intOf]; omega
            · have hjz : ¬ (j : Int) < (n2 : Int) := by omega
              have hq := HQ.out
              rw [List.take_of_length_le (by rw [← hll.out]; omega)] at hq
              obtain ⟨bL, oL, eL, hx⟩ := HALY.out _ hbj k hlt
              clear hx
              subst eL
              have LC := Lib.hid (fun W (hb : Below w7.heap.size w7 W) i (hi : i < n) => (show W.cell? ⟨bL, oL + i, none⟩ = some (.int .i64 L[i]!) by
                obtain ⟨_, _, e, _, x0⟩ := HALY.out W hb i hi
                cases e
                exact x0))
              have lk := LC.out _ hbj k hlt
              have hA3 : ¬ (p1 < L[k]! ∧ 1 < q ∧ n < 24) := fun ⟨u1, u2, u3⟩ => by
                have := HRA.out u1 (by rw [← hq]; exact u2)
                rw [← hnl.out] at this
                omega
              obtain ⟨Lk, hLk⟩ : ∃ Lk, L[k]! = Lk := ⟨_, rfl⟩
              have HLk := Lib.hid hLk
              rw [hLk] at lk hA3
              have HBD : Below w7.heap.size w7 wr := hbj
              clear hq hLk
              go_upto_region 20 with fail
              go_cut [146] from 130 to 146 (fun bb wx => bb = .bool false ∧ Below w7.heap.size w7 wx)
              case first =>
                by_cases f1 : p1 < Lk
                · have e1 : decide (p1 < Lk) = true := decide_eq_true f1
                  by_cases f2 : 1 < q
                  · have f3 : ¬ n < 24 := fun u => hA3 ⟨f1, f2, u⟩
                    have e2 : decide (1 < (q : Int)) = true := decide_eq_true (by omega)
                    have e3 : decide ((n : Int) < 24) = false := decide_eq_false (by omega)
                    have g2 : (1 : Int) < (q : Int) := by omega
                    have g3 : ¬ (n : Int) < 24 := by omega
                    clear hA3
                    go_quiet (fail)
                    go_wp2_with fail
                    go_meet
                    exact ⟨by first | rfl | simp, below_drewN HBD _⟩
                  · have e2 : decide (1 < (q : Int)) = false := decide_eq_false (by omega)
                    have g2 : ¬ (1 : Int) < (q : Int) := by omega
                    clear hA3
                    go_quiet (fail)
                    go_wp2_with fail
                    go_meet
                    exact ⟨by first | rfl | simp, below_drewN HBD _⟩
                · have e1 : decide (p1 < Lk) = false := decide_eq_false f1
                  clear hA3
                  go_quiet (fail)
                  go_wp2_with fail
                  go_meet
                  exact ⟨by first | rfl | simp, below_drewN HBD _⟩
              case rest =>
                obtain ⟨rfl, hbc⟩ := hcut
                obtain ⟨q0, q1, q2, q3, q4, q5, q6, q7⟩ := KY.out _ hbc
                obtain ⟨s0, s1, s2, s3⟩ := SC.out _ hbc
                have lk := LC.out _ hbc k hlt
                rw [HLk.out] at lk
                have HBC := Lib.hid hbc
                go_upto_region 22 with fail
                go_cut [182] from 147 to 182 (fun bb wx => bb = .bool false ∧ Below w7.heap.size w7 wx)
                case first =>
                  by_cases f0 : k = 0
                  · have e0 : decide (0 < (k : Int)) = false := decide_eq_false (by omega)
                    have g0 : ¬ 0 < k := by omega
                    have g0z : ¬ (0 : Int) < (k : Int) := by omega
                    replace f0 := Lib.hid f0
                    go_quiet (fail)
                    go_wp2_with fail
                    go_meet
                    exact ⟨by first | rfl | simp, below_drewN HBC.out _⟩
                  · have e0 : decide (0 < (k : Int)) = true := decide_eq_true (by omega)
                    have g0 : 0 < k := by omega
                    have g0z : (0 : Int) < (k : Int) := by omega
                    obtain ⟨k', hk'⟩ : ∃ k', k - 1 = k' := ⟨_, rfl⟩
                    have hk'n : k' < n := by omega
                    have hw1 : IntKind.i64.wrap ((k : Int) - 1) = (k' : Int) := by rw [show (k : Int) - 1 = (k' : Int) by omega]; exact IntWalk.i64_in _ (by omega)
                    have hk'z : (k' : Int) < (n : Int) := by omega
                    have hk'0 : (0 : Int) ≤ (k' : Int) := by omega
                    have hk'l : k' < sd.length := by rw [← hnl.out]; exact hk'n
                    obtain ⟨_, _, e', _, u0, u1, u2, u3⟩ := (HPY.out _ hbc).2.2.2.2.shard k' hk'l
                    cases e'
                    have lk' := LC.out _ hbc k' hk'n
                    have hB := HR.out.b k g0 hkl
                    rw [hk', hs.out, HLk.out] at hB
                    dsimp only at hB
                    have hb1 := LB.out k' hk'l
                    have hb2 := LB.out k hkl
                    rw [HLk.out] at hb2
                    obtain ⟨⟨j0, lo', hi', nd'⟩, hs'⟩ : ∃ s, sd[k']! = s := ⟨_, rfl⟩
                    obtain ⟨Lp, hLp⟩ : ∃ Lp, L[k']! = Lp := ⟨_, rfl⟩
                    rw [hs'] at u0 u1 u2 u3 hB
                    rw [hLp] at lk' hB hb1
                    dsimp only at u0 u1 u2 u3 hB
                    have hw2 : IntKind.i64.wrap (Lp + Lk) = Lp + Lk := IntWalk.i64_in _ (by omega)
                    replace hk' := Lib.hid hk'
                    clear hs' hLp
                    by_cases f1 : nd' = nd
                    · have e1 : (nd' == nd) = true := by simpa using f1
                      have g3 : ¬ Lp + Lk ≤ p2 := by have := hB f1; omega
                      have e3 : decide (Lp + Lk ≤ p2) = false := decide_eq_false g3
                      clear hB f1
                      go_quiet (fail)
                      go_wp2_with fail
                      go_meet
                      exact ⟨by first | rfl | simp, below_drewN HBC.out _⟩
                    · have e1 : (nd' == nd) = false := by simpa using f1
                      clear hB f1
                      go_quiet (fail)
                      go_wp2_with fail
                      go_meet
                      exact ⟨by first | rfl | simp, below_drewN HBC.out _⟩
                case rest =>
                  obtain ⟨rfl, hbd⟩ := hcut
                  go_wp2_with fail
                  go_roundw
                  case rel => exact ⟨k + 1, by go_num, by omega, hbd⟩
                  case measure => simp [intOf]; omega
        · have hkz : ¬ (k : Int) < (n : Int) := by omega
          obtain ⟨bN, oN, eN, hx⟩ := HANY.out _ hbl 0 hm1
          clear hx
          subst eN
          have NC := Lib.hid (fun W (hb : Below w7.heap.size w7 W) i (hi : i < m) => (show W.cell? ⟨bN, oN + i, none⟩ = some (.int .i64 N[i]!) by
            obtain ⟨_, _, e, _, x0⟩ := HANY.out W hb i hi
            cases e
            exact x0))
          go_wp2_with fail
          go_loopw [14, 15, 16] (fun fr tt i wr => ∃ (k f t : Nat), i = .int .i64 (k : Int) ∧ fr = .int .i64 (f : Int) ∧ tt = .int .i64 (t : Int) ∧ k ≤ m ∧ f < m ∧ t < m ∧ Hid (f = (List.range k).foldl (stepI fun q : Nat => N[q]!) 0 ∧ t = (List.range k).foldl (stepI fun q : Nat => -N[q]!) 0) ∧ Below w7.heap.size w7 wr)
            (fun _ _ i _ => m - (intOf i).toNat)
          case atStart => exact ⟨0, 0, 0, rfl, rfl, rfl, Nat.zero_le _, hm1, hm1, Lib.hid ⟨rfl, rfl⟩, hbl⟩
          case round =>
            obtain ⟨k, f, t, rfl, rfl, rfl, hk, hf, ht, HF, hbk⟩ := hrel
            by_cases hlt2 : k < m
            · have hkz2 : (k : Int) < (m : Int) := by omega
              have hk0 : (0 : Int) ≤ (k : Int) := by omega
              have hf0 : (0 : Int) ≤ (f : Int) := by omega
              have ht0 : (0 : Int) ≤ (t : Int) := by omega
              have hfz : (f : Int) < (m : Int) := by omega
              have htz : (t : Int) < (m : Int) := by omega
              have nk := NC.out _ hbk k hlt2
              have nf := NC.out _ hbk f hf
              have nt := NC.out _ hbk t ht
              obtain ⟨zk, hzk⟩ : ∃ z, N[k]! = z := ⟨_, rfl⟩
              obtain ⟨zf, hzf⟩ : ∃ z, N[f]! = z := ⟨_, rfl⟩
              obtain ⟨zt, hzt⟩ : ∃ z, N[t]! = z := ⟨_, rfl⟩
              have m1 : (List.range (k + 1)).foldl (stepI fun q : Nat => N[q]!) 0 = if zf < zk then k else f := by
                rw [fold_more, ← HF.out.1]
                show (if N[f]! < N[k]! then k else f) = _
                rw [hzf, hzk]
              have m2 : (List.range (k + 1)).foldl (stepI fun q : Nat => -N[q]!) 0 = if -zt < -zk then k else t := by
                rw [fold_more, ← HF.out.2]
                show (if -N[t]! < -N[k]! then k else t) = _
                rw [hzt, hzk]
              rw [hzk] at nk
              rw [hzf] at nf
              rw [hzt] at nt
              clear hzk hzf hzt
              by_cases g1 : zf < zk
              · rw [if_pos g1] at m1
                by_cases g2 : zk < zt
                · rw [if_pos (by omega)] at m2
                  have HN := Lib.hid (And.intro m1.symm m2.symm)
                  clear m1 m2
                  go_wp2_with fail
                  go_quiet (fail)
                  go_wp2_with fail
                  go_quiet (fail)
                  go_wp2_with fail
                  go_roundw
                  case rel => exact ⟨k + 1, k, k, by go_num, rfl, rfl, by omega, by omega, by omega, HN, below_drewN hbk _⟩
                  case measure => simp [intOf]; omega
                · rw [if_neg (by omega)] at m2
                  have HN := Lib.hid (And.intro m1.symm m2.symm)
                  clear m1 m2
                  go_wp2_with fail
                  go_quiet (fail)
                  go_wp2_with fail
                  go_quiet (fail)
                  go_wp2_with fail
                  go_roundw
                  case rel => exact ⟨k + 1, k, t, by go_num, rfl, rfl, by omega, by omega, by omega, HN, below_drewN hbk _⟩
                  case measure => simp [intOf]; omega
              · rw [if_neg g1] at m1
                by_cases g2 : zk < zt
                · rw [if_pos (by omega)] at m2
                  have HN := Lib.hid (And.intro m1.symm m2.symm)
                  clear m1 m2
                  go_wp2_with fail
                  go_quiet (fail)
                  go_wp2_with fail
                  go_quiet (fail)
                  go_wp2_with fail
                  go_roundw
                  case rel => exact ⟨k + 1, f, k, by go_num, rfl, rfl, by omega, by omega, by omega, HN, below_drewN hbk _⟩
                  case measure => simp [intOf]; omega
                · rw [if_neg (by omega)] at m2
                  have HN := Lib.hid (And.intro m1.symm m2.symm)
                  clear m1 m2
                  go_wp2_with fail
                  go_quiet (fail)
                  go_wp2_with fail
                  go_quiet (fail)
                  go_wp2_with fail
                  go_roundw
                  case rel => exact ⟨k + 1, f, t, by go_num, rfl, rfl, by omega, by omega, by omega, HN, below_drewN hbk _⟩
                  case measure => simp [intOf]; omega
            · have hkz2 : ¬ (k : Int) < (m : Int) := by omega
              have hkm : k = m := by omega
              have hF2 := HF.out
              rw [hkm] at hF2
              have eT : topI N = f := by rw [top_fold, LENN.out]; exact hF2.1.symm
              have eO : lowI N = t := by rw [low_fold, LENN.out]; exact hF2.2.symm
              have hC := HR.out.c
              rw [eT, eO] at hC
              have nf := NC.out _ hbk f hf
              have nt := NC.out _ hbk t ht
              have bf := NB.out _ (mem_bang (l := N) (by rw [LENN.out]; exact hf))
              have bt := NB.out _ (mem_bang (l := N) (by rw [LENN.out]; exact ht))
              obtain ⟨zf, hzf⟩ : ∃ z, N[f]! = z := ⟨_, rfl⟩
              obtain ⟨zt, hzt⟩ : ∃ z, N[t]! = z := ⟨_, rfl⟩
              rw [hzf] at nf hC bf
              rw [hzt] at nt hC bt
              have HC := Lib.hid hC
              have hf0 : (0 : Int) ≤ (f : Int) := by omega
              have ht0 : (0 : Int) ≤ (t : Int) := by omega
              have hfz : (f : Int) < (m : Int) := by omega
              have htz : (t : Int) < (m : Int) := by omega
              have hw3 : IntKind.i64.wrap (zf - zt) = zf - zt := IntWalk.i64_in _ (by omega)
              clear hzf hzt hC eT eO hF2 hkm bf bt
              go_upto_region 32 with fail
              go_quiet (fail)
              obtain ⟨D, hD⟩ : ∃ D, zf - zt = D := ⟨_, rfl⟩
              rw [hD] at HC
              have hbq : Below w7.heap.size w7 (wr.drewN nq) := below_drewN hbk _
              generalize wr.drewN nq = wq at hbq
              try rw [hD]
              replace hD := Lib.hid hD
              go_wp2_with fail
              go_loopw [18] (fun i wr => ∃ (k : Nat), i = .int .i64 (k : Int) ∧ k ≤ n ∧ Below w7.heap.size w7 wr)
                (fun i _ => n - (intOf i).toNat)
              case atStart => exact ⟨0, rfl, Nat.zero_le _, hbq⟩
              case round =>
                obtain ⟨k, rfl, hk, hbk⟩ := hrel
                obtain ⟨q0, q1, q2, q3, q4, q5, q6, q7⟩ := KY.out _ hbk
                by_cases hlt : k < n
                · have hkl : k < sd.length := by rw [← hnl.out]; exact hlt
                  have hkz : (k : Int) < (n : Int) := by omega
                  have hk0 : (0 : Int) ≤ (k : Int) := by omega
                  obtain ⟨b, off, e, _, u0, u1, u2, u3⟩ := (HPY.out _ hbk).2.2.2.2.shard k hkl
                  obtain ⟨bL, oL, eL, _, lk⟩ := HALY.out _ hbk k hlt
                  have hC := fun u => HC.out u k hkl
                  obtain ⟨⟨i0, lo, hi, nd⟩, hs⟩ : ∃ s, sd[k]! = s := ⟨_, rfl⟩
                  obtain ⟨Lk, hLk⟩ : ∃ Lk, L[k]! = Lk := ⟨_, rfl⟩
                  rw [hs] at u0 u1 u2 u3 hC
                  rw [hLk] at lk hC
                  dsimp only at u0 u1 u2 u3 hC
                  subst e
                  subst eL
                  clear hs hLk
                  by_cases f1 : p3 < D
                  · have e1 : decide (p3 < D) = true := decide_eq_true f1
                    by_cases f2 : nd = (f : Int)
                    · have e2 : (nd == (f : Int)) = true := by simpa using f2
                      by_cases f3 : 0 < Lk
                      · have e3 : decide (0 < Lk) = true := decide_eq_true f3
                        have f4 : ¬ Lk < D := by have := hC f1 f2 f3; omega
                        have e4 : decide (Lk < D) = false := decide_eq_false f4
                        clear hC f2
                        go_wp2_with fail
                        try (go_quiet (fail))
                        try (go_wp2_with fail)
                        go_roundw
                        case rel => exact ⟨k + 1, by go_num, by omega, by first | exact hbk | exact below_drewN hbk _⟩
                        case measure => simp [intOf]; omega
                      · have e3 : decide (0 < Lk) = false := decide_eq_false f3
                        clear hC f2
                        go_wp2_with fail
                        try (go_quiet (fail))
                        try (go_wp2_with fail)
                        go_roundw
                        case rel => exact ⟨k + 1, by go_num, by omega, by first | exact hbk | exact below_drewN hbk _⟩
                        case measure => simp [intOf]; omega
                    · have e2 : (nd == (f : Int)) = false := by simpa using f2
                      clear hC f2
                      go_wp2_with fail
                      try (go_quiet (fail))
                      try (go_wp2_with fail)
                      go_roundw
                      case rel => exact ⟨k + 1, by go_num, by omega, by first | exact hbk | exact below_drewN hbk _⟩
                      case measure => simp [intOf]; omega
                  · have e1 : decide (p3 < D) = false := decide_eq_false f1
                    clear hC
                    go_wp2_with fail
                    try (go_quiet (fail))
                    try (go_wp2_with fail)
                    go_roundw
                    case rel => exact ⟨k + 1, by go_num, by omega, by first | exact hbk | exact below_drewN hbk _⟩
                    case measure => simp [intOf]; omega
                · have hkz : ¬ (k : Int) < (n : Int) := by omega
                  go_wp2_with (go_at_call 9; (with_reducible refine (awake25_any _).mono ?_); rintro e w9 ⟨rfl, hb9⟩; have hb79 := below_next hbk hb9)
                  go_ret
                  exact ⟨rfl, below_next BW.out hb79⟩
end Go.Proofs.Ytjllaadoffgjpaa
