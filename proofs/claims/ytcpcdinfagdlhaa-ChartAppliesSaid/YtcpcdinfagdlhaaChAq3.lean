/-
  CONTRACT of the document's Apply, of charts: what can be made.
-/
import Derived.Test.YtcpcdinfagdlhaaChAp
namespace Go.Proofs.Ytcpcdinfagdlhaa
open Go.RowKit Go.Shelf Go.ChangeShapes Go.WideShapes Go.Deep

set_option maxRecDepth 100000 in
set_option maxHeartbeats 8000000 in
theorem apply8_good3 (ep nx : Int) (a : Option Addr) (n c : Nat) (l : List Sd) (id x : Int) (w : World) (h : RArg encS 4 w a n c l) (hc : chkC ep nx l = true) (hx : 0 ≤ x ∧ x ≤ 4) (i : Nat) (hil : i < l.length) (hi : idxC (fun x => x.1 == id) l = (i : Int)) (i0 lo hi' nd : Int) (hs : l[i]! = (i0, lo, hi', nd))  {R : Made}
    (hR : R = if chkC (ep + 1) (nx + 1) (l.take i ++ ([(nx, lo, hi', x)] ++ l.drop (i + 1))) = true then ⟨ep + 1, nx + 1, l.take i ++ ([(nx, lo, hi', x)] ++ l.drop (i + 1)), [(i0, lo, hi', nd)], [(nx, lo, hi', x)], 0⟩ else badM 2) :
    Calls Try.prog 26 #[.agg #[.int .i64 ep, .int .i64 nx, .slice a n c], .int .i64 3, .int .i64 id, .int .i64 x] w (RMadePost R w) := by
  obtain ⟨i9, hi9, hz0, hz1, hz2⟩ := info_parts Try.infoRSd
  have hn := Lib.hid h.1
  have hz : (n : Int) ≤ 24 := by have := (chkC_parts hc).2.2.1.2; have := hn.out; omega
  have hil' : i < n := by have := hn.out; omega
  have hnx := (chkC_parts hc).2.1
  have hep := (chkC_parts hc).1
  have HP := Lib.hid (fun W (hb : Below w.heap.size w W) => (h.below hb).2.2.2.2)
  obtain ⟨W1, hW1⟩ : ∃ W1, w.alloc (.cells #[.int .i64 ep, .int .i64 nx, .slice a n c] 30) = W1 := ⟨_, rfl⟩
  obtain ⟨W2, hW2⟩ : ∃ W2, W1.alloc (.cells #[.int .i64 0, .int .i64 0, .slice none 0 0, .slice none 0 0, .slice none 0 0, .int .i64 0] 54) = W2 := ⟨_, rfl⟩
  have m1 : W1.heap.size = w.heap.size + 1 := by rw [← hW1]; simp
  have m2 : W2.heap.size = W1.heap.size + 1 := by rw [← hW2]; simp
  have b1 : Below w.heap.size w W1 := by rw [← hW1]; exact (Below.refl _ _).alloc (Nat.le_refl _) _
  have b2 : Below w.heap.size w W2 := by rw [← hW2]; exact b1.alloc b1.size _
  have hr1 : W2.heap[w.heap.size]? = some (.cells #[.int .i64 ep, .int .i64 nx, .slice a n c] 30) := by rw [← hW2]; exact ((World.grownBy_alloc W1 _ none).block _ (by omega) (by simp)).trans (by rw [← hW1]; exact heap_alloc_new _ _)
  have hr2 : W2.heap[W1.heap.size]? = some (.cells #[.int .i64 0, .int .i64 0, .slice none 0 0, .slice none 0 0, .slice none 0 0, .int .i64 0] 54) := by rw [← hW2]; exact heap_alloc_new _ _
  have K3 := Lib.hid (fun W (h : Below W2.heap.size W2 W) => c3K ((h.block _ (by omega)).trans hr1))
  have K6 := Lib.hid (fun W (h : Below W2.heap.size W2 W) => c6K ((h.block _ (by omega)).trans hr2))
  have CC := Lib.hid (fun W (hb : Below W2.heap.size W2 W) => rcheck8_any ep nx a n c l W ((h.below b2).below hb))
  have CF := Lib.hid (fun W (hb : Below W2.heap.size W2 W) => rfind8_any ep nx id a n c l W ((h.below b2).below hb))
  obtain ⟨q0, q1, q2⟩ := K3.out _ (Below.refl _ _)
  obtain ⟨⟨z0, z1, z2, z3, z4, z5⟩, ⟨y0, y1, y2, y3, y4, y5⟩⟩ := K6.out _ (Below.refl _ _)
  replace m1 := Lib.hid m1
  replace m2 := Lib.hid m2
  have lw := b1.size
  rw [hc] at CC
  rw [show plcC (fun x => x.1 == id) ep nx l = (i : Int) by unfold plcC; rw [if_pos hc]; exact hi] at CF
  have e1 : decide ((i : Int) < 0) = false := decide_eq_false (by omega)
  have e4 : (i : Int) < (n : Int) := by omega
  have e5 : (0 : Int) ≤ (i : Int) := by omega
  have e6 : ¬ (i : Int) < 0 := by omega
  have HALL := Lib.hid (bld_all (l := l) (F := [(nx, lo, hi', x)]) (i := i) (r := 1) (by omega) (by omega))
  have HR := Lib.hid hR
  have e7 : IntKind.i64.wrap (ep + 1) = ep + 1 := IntWalk.i64_in _ (by omega)
  have e8 : IntKind.i64.wrap (nx + 1) = nx + 1 := IntWalk.i64_in _ (by omega)
  have e9 : IntKind.i64.wrap (nx + 2) = nx + 2 := IntWalk.i64_in _ (by omega)
  have e10 : IntKind.i64.wrap ((i : Int) + 1) = (i : Int) + 1 := IntWalk.i64_in _ (by omega)
  have e11 : IntKind.i64.wrap ((i : Int) + 2) = (i : Int) + 2 := IntWalk.i64_in _ (by omega)
  have d1 : decide (x < 0) = false := decide_eq_false (by omega)
  have d2 : decide (4 < x) = false := decide_eq_false (by omega)
  clear h hr1 hr2 hc hi hR
  go_enter Try.func26, Try.ntmps26
  go_wp2_with (first
    | (go_at_call 20; (with_reducible refine (CC.out _ (Below.refl _ _)).mono ?_); rintro e w3 ⟨rfl, b3⟩; have B3 := b3; obtain ⟨q0, q1, q2⟩ := K3.out _ B3; obtain ⟨⟨z0, z1, z2, z3, z4, z5⟩, ⟨y0, y1, y2, y3, y4, y5⟩⟩ := K6.out _ B3)
    | (go_at_call 18; (with_reducible refine (CF.out _ B3).mono ?_); rintro e w4 ⟨rfl, b4⟩; have B4 := below_next B3 b4; obtain ⟨q0, q1, q2⟩ := K3.out _ B4; obtain ⟨⟨z0, z1, z2, z3, z4, z5⟩, ⟨y0, y1, y2, y3, y4, y5⟩⟩ := K6.out _ B4; obtain ⟨bL, oL, eL, hbL, c0, c1, c2, c3⟩ := (HP.out _ (below_next b2 B4)).shard i hil; rw [hs] at c0 c1 c2 c3; dsimp only at c0 c1 c2 c3; subst eL; obtain ⟨W5, hW5⟩ : ∃ W5, w4.alloc (.cells #[.int .i64 i0, .int .i64 lo, .int .i64 hi', .int .i64 nd] 113) = W5 := ⟨_, rfl⟩; have b5 : Below w4.heap.size w4 W5 := (by rw [← hW5]; exact (Below.refl _ _).alloc (Nat.le_refl _) _); have B5 := below_next B4 b5; have hS5 : W5.heap[w4.heap.size]? = some (.cells #[.int .i64 i0, .int .i64 lo, .int .i64 hi', .int .i64 nd] 113) := (by rw [← hW5]; exact heap_alloc_new _ _); obtain ⟨W6, hW6⟩ : ∃ W6, W5.alloc (.cells #[.int .i64 i0, .int .i64 lo, .int .i64 hi', .int .i64 nd] 113) = W6 := ⟨_, rfl⟩; have b6 : Below W5.heap.size W5 W6 := (by rw [← hW6]; exact (Below.refl _ _).alloc (Nat.le_refl _) _); have B6 := below_next B5 b6; obtain ⟨W7, hW7⟩ : ∃ W7, W6.alloc (.cells #[.int .i64 nx, .int .i64 lo, .int .i64 hi', .int .i64 x] 113) = W7 := ⟨_, rfl⟩; have b7 : Below W6.heap.size W6 W7 := (by rw [← hW7]; exact (Below.refl _ _).alloc (Nat.le_refl _) _); have B7 := below_next B6 b7; have g5 : w4.heap.size < W5.heap.size := (Array.getElem?_eq_some_iff.1 hS5).1; have KS := Lib.hid (fun W (hq : Below W5.heap.size W5 W) => cell4H ((hq.block _ g5).trans hS5)); obtain ⟨s0, s1, s2, s3⟩ := KS.out _ (Below.refl _ _); obtain ⟨t0, t1, t2, t3⟩ := KS.out _ b6; obtain ⟨u0, u1, u2, u3⟩ := KS.out _ (below_next b6 b7); obtain ⟨p0, p1, p2⟩ := K3.out _ B5; obtain ⟨q0, q1, q2⟩ := K3.out _ B6; obtain ⟨r0, r1, r2⟩ := K3.out _ B7; obtain ⟨⟨z0, z1, z2, z3, z4, z5⟩, ⟨y0, y1, y2, y3, y4, y5⟩⟩ := K6.out _ B7; replace hS5 := Lib.hid hS5; have BP := B7; have HFR := Lib.hid (show RArg encS 4 W7 (some ⟨W6.heap.size, 0, none⟩) 1 1 [(nx, lo, hi', x)] by rw [← hW7]; exact shard_new W6 _ _ _ _ _); have hfb : W6.heap.size < W7.heap.size := (by rw [← hW7]; simp); have HOL := Lib.hid (show RArg encS 4 W7 (some ⟨W5.heap.size, 0, none⟩) 1 1 [(i0, lo, hi', nd)] from RArg.below (by rw [← hW6]; exact shard_new W5 _ _ _ _ _) b7); have hob : W5.heap.size < W7.heap.size := (by have := b6.size; have := b7.size; have : W5.heap.size < W6.heap.size := (by rw [← hW6]; simp); omega)))
  have hz1' : W6.heap.size ≠ W1.heap.size := by have := m2.out; have := B7.size; have := B5.size; have := B6.size; omega
  have hz2' : W5.heap.size ≠ W1.heap.size := by have := m2.out; have := B7.size; have := B5.size; have := B6.size; omega
  obtain ⟨AF, hAF⟩ : ∃ b, W6.heap.size = b := ⟨_, rfl⟩
  obtain ⟨AO, hAO⟩ : ∃ b, W5.heap.size = b := ⟨_, rfl⟩
  rw [hAF] at HFR hfb hz1' ⊢
  rw [hAO] at HOL hob hz2' ⊢
  obtain ⟨O, hO⟩ : ∃ O, W7.heap.size = O := ⟨_, rfl⟩
  obtain ⟨nf, hnf⟩ : ∃ nf, nx + 1 = nf := ⟨_, rfl⟩
  rw [hnf] at HR ⊢
  generalize hWO : W7.alloc (.cells #[.int .i64 (ep + 1), .int .i64 nf, .slice none 0 0] 30) = WO
  rw [hO]
  have hbO : WO.heap[O]? = some (.cells #[.int .i64 (ep + 1), .int .i64 nf, .slice none 0 0] 30) := by rw [← hWO, ← hO]; exact heap_alloc_new _ _
  have bO : Below O W7 WO := by rw [← hO, ← hWO]; exact (Below.refl _ _).alloc (Nat.le_refl _) _
  obtain ⟨BB, hBB⟩ : ∃ B, WO.heap.size = B := ⟨_, rfl⟩
  have gO : O < BB := by rw [← hBB, ← hWO, ← hO]; simp
  have BW : Hid (∀ W, Below O WO W → Below W7.heap.size W7 W) := Lib.hid (fun W hq => by rw [hO]; exact bO.trans hq)
  have B2W : Hid (∀ W, Below O WO W → Below W2.heap.size W2 W) := Lib.hid (fun W hq => below_next BP (BW.out W hq))
  have KL := Lib.hid (fun W (hq : Below O WO W) kk (hk : kk < l.length) => (HP.out _ (below_next b2 (B2W.out W hq))).shard kk hk)
  have KF := Lib.hid (fun W (hq : Below O WO W) => HFR.out.below (BW.out W hq))
  have HFN := Lib.hid HFR.out.2.2.2.2
  have HLB : Hid (bL < O) := Lib.hid (by have := BP.size; have := B4.size; have h1 := b2.size; rw [← hO]; exact Nat.lt_of_lt_of_le hbL (by have := B7.size; have := b5.size; have := b6.size; have := b7.size; omega))
  have S0 : Hid (StA BB WO O (ep + 1) nf (.slice none 0 0) [] WO) := Lib.hid ⟨hbO, OwnsR.nil _ _ _ _ _, Below.refl _ _, Nat.le_of_eq hBB.symm⟩
  have hfO : AF < O := by rw [← hO]; exact hfb
  replace hO := Lib.hid hO
  replace hnf := Lib.hid hnf
  replace hWO := Lib.hid hWO
  replace hBB := Lib.hid hBB
  replace hbO := Lib.hid hbO
  replace hAF := Lib.hid hAF
  replace hAO := Lib.hid hAO
  replace HLB := HLB.out
  clear q0 q1 q2 z0 z1 z2 z3 z4 z5 y0 y1 y2 y3 y4 y5 c0 c1 c2 c3
  go_loopw [14, 15] (fun kv _ wr => ∃ (kk : Nat) (v : Value) (acc : List Sd), kv = .int .i64 (kk : Int) ∧ kk ≤ n ∧ Hid (acc = bld l [(nx, lo, hi', x)] i 1 kk) ∧ Hid (StA BB WO O (ep + 1) nf v acc wr))
    (fun kv _ _ => n - (intOf kv).toNat)
  case atStart => exact ⟨0, _, [], rfl, by omega, Lib.hid rfl, S0⟩
  case round =>
    obtain ⟨kk, v, acc, rfl, hk, HACC, HA⟩ := hrel
    clear S0
    have hlw := HA.out.low
    obtain ⟨q0, q1, q2⟩ := K3.out _ (B2W.out _ hlw)
    have hbl := bld_len l [(nx, lo, hi', x)] i 1 kk
    rw [← HACC.out] at hbl
    have hbl1 : acc.length ≤ kk + 1 := hbl.1
    have hbl2 := hbl.2
    clear hbl
    by_cases hlt : kk < n
    · have hkl : kk < l.length := by rw [← hn.out]; exact hlt
      have hkz : (kk : Int) < (n : Int) := by omega
      have hk0 : (0 : Int) ≤ (kk : Int) := by omega
      by_cases hki : kk = i
      · subst hki
        have x1 : ((kk : Int) == (kk : Int)) = true := by simp
        have x2 : decide ((kk : Int) < (kk : Int)) = false := decide_eq_false (by omega)
        have x3 : decide ((kk : Int) + 1 ≤ (kk : Int)) = false := decide_eq_false (by omega)
        have hacl : acc.length ≤ kk := hbl2 (Nat.le_refl _)
        have HNX := Lib.hid (show acc ++ [(nx, lo, hi', x)] = bld l [(nx, lo, hi', x)] kk 1 (kk + 1) by rw [bld, if_pos rfl, if_neg (by omega), List.append_nil, ← HACC.out])
        clear hbl2
        go_wp2_with fail
        clear q0 q1 q2
        go_loopw [15] (fun jv wr => ∃ (j : Nat) (v : Value), jv = .int .i64 (j : Int) ∧ j ≤ 1 ∧ Hid (StA BB WO O (ep + 1) nf v (acc ++ ([(nx, lo, hi', x)]).take j) wr))
          (fun jv _ => 1 - (intOf jv).toNat)
        case atStart => exact ⟨0, v, rfl, by omega, Lib.hid (by rw [List.take_zero, List.append_nil]; exact HA.out)⟩
        case round =>
          obtain ⟨j, v, rfl, hj, HA⟩ := hrel
          have hlw := HA.out.low
          obtain ⟨q0, q1, q2⟩ := K3.out _ (B2W.out _ hlw)
          by_cases hjf : j < 1
          · have hjz : (j : Int) < 1 := by omega
            have hj0 : (0 : Int) ≤ (j : Int) := by omega
            have hjl : j < ([(nx, lo, hi', x)]).length := hjf
            have hal0 : (acc ++ ([(nx, lo, hi', x)]).take j).length ≤ 25 := by rw [List.length_append, List.length_take]; simp; omega
            obtain ⟨⟨xi, xl, xh, xn⟩, hxe⟩ : ∃ s, ([(nx, lo, hi', x)])[j]! = s := ⟨_, rfl⟩
            have VV := Lib.hid (fun w1 (hq : Below O WO w1) => (show w1.cell? ⟨AF, j * 4, none⟩ = some (.int .i64 xi) ∧ w1.cell? ⟨AF, j * 4 + 1, none⟩ = some (.int .i64 xl) ∧ w1.cell? ⟨AF, j * 4 + 2, none⟩ = some (.int .i64 xh) ∧ w1.cell? ⟨AF, j * 4 + 3, none⟩ = some (.int .i64 xn) from by
              obtain ⟨bb, oo, ee, _, v0, v1, v2, v3⟩ := (KF.out w1 hq).2.2.2.2.shard j hjl
              cases ee
              rw [hxe] at v0 v1 v2 v3
              rw [Nat.zero_add] at v0 v1 v2 v3
              exact ⟨v0, v1, v2, v3⟩))
            have HNJ := Lib.hid (show (acc ++ ([(nx, lo, hi', x)]).take j) ++ [((xi, xl, xh, xn) : Sd)] = acc ++ ([(nx, lo, hi', x)]).take (j + 1) by rw [take_moreG hjl, hxe, List.append_assoc])
            replace hxe := Lib.hid hxe
            obtain ⟨ac, hac⟩ : ∃ ac, acc ++ ([(nx, lo, hi', x)]).take j = ac := ⟨_, rfl⟩
            rw [hac] at HA hal0 HNJ
            have hal := hal0
            replace hac := Lib.hid hac
            obtain ⟨v0, v1, v2, v3⟩ := VV.out _ hlw
            have hne0 : ¬ AF = O := by omega
            have hne1 : ¬ O = AF := by omega
            obtain ⟨aV, cV, rfl, _⟩ := OwnsR.arg encS_len HA.out.row
            obtain ⟨mV, hmV⟩ : ∃ m, ac.length = m := ⟨_, rfl⟩
            have hm26 : mV ≤ 26 := by omega
            have hro : wr.ownsRow BB 113 4 (.slice aV mV cV) mV (flatR encS ac) := by
              have := HA.out.row
              unfold OwnsR at this
              rwa [hmV] at this
            have hbx : wr.heap[O]? = some (.cells #[.int .i64 (ep + 1), .int .i64 nf, .slice aV mV cV] 30) := by have := HA.out.box; rwa [hmV] at this
            have hbig := HA.out.big
            have hlow := HA.out.low
            rw [hmV] at hal
            replace hmV := Lib.hid hmV
            obtain ⟨o0, o1, o2⟩ := c3K hbx
            obtain ⟨k0, k1, k2⟩ := f3K hbx
            have A0 : ∀ o, (wr.alloc o).cell? ⟨AF, j * 4, none⟩ = some (.int .i64 xi) := fun o => (World.cell?_alloc_lt _ _ ⟨AF, j * 4, none⟩ (by show AF < _; omega)).trans v0
            have A1 : ∀ o, (wr.alloc o).cell? ⟨AF, j * 4 + 1, none⟩ = some (.int .i64 xl) := fun o => (World.cell?_alloc_lt _ _ ⟨AF, j * 4 + 1, none⟩ (by show AF < _; omega)).trans v1
            have A2 : ∀ o, (wr.alloc o).cell? ⟨AF, j * 4 + 2, none⟩ = some (.int .i64 xh) := fun o => (World.cell?_alloc_lt _ _ ⟨AF, j * 4 + 2, none⟩ (by show AF < _; omega)).trans v2
            have A3 : ∀ o, (wr.alloc o).cell? ⟨AF, j * 4 + 3, none⟩ = some (.int .i64 xn) := fun o => (World.cell?_alloc_lt _ _ ⟨AF, j * 4 + 3, none⟩ (by show AF < _; omega)).trans v3
            have AO : ∀ o, (wr.alloc o).cell? ⟨O, 2, none⟩ = some (.slice aV mV cV) := fun o => (World.cell?_alloc_lt _ _ ⟨O, 2, none⟩ (by show O < _; omega)).trans o2
            have HD := Lib.hid (fun o => (hro.alloc o).drew)
            have HG := Lib.hid (fun o w1 (hg : ((wr.alloc o).drew).grownBy w1 (Value.slice aV mV cV).ownBlock) => (show w1.heap[O]? = some (.cells #[.int .i64 (ep + 1), .int .i64 nf, .slice aV mV cV] 30) ∧ Below O WO w1 ∧ BB ≤ w1.heap.size from by
              have hlt2 := hro.lt
              have z : ((wr.alloc o).drew).heap.size = wr.heap.size + 1 := by simp
              refine ⟨(hg.block O (by rw [z]; omega) (fun e => by have := (hlt2 _ e.symm).1; omega)).trans ((heap_alloc_old wr o (by omega)).trans hbx), ?_, Nat.le_trans (by rw [z]; omega) hg.size⟩
              exact ((hlow.alloc (by omega) o).drew).grown hg (by rw [z]; omega) (fun g e => by have := (hlt2 g e).1; omega)))
            have B63 := Lib.hid (show mV + 1 ≤ maxLen by unfold maxLen; omega)
            have BBY := Lib.hid (show (mV + 1) * 32 ≤ 140737488355328 by omega)
            have HBS := Lib.hid (fun o => (show BB ≤ ((wr.alloc o).drew).heap.size from by simp; omega))
            have HH := Lib.hid (fun o => (show ((wr.alloc o).drew).heap.size = wr.heap.size + 1 from by simp))
            have HRB := Lib.hid (fun w1 (hq : Below O WO w1) => (show w1.cell? ⟨AF, j * 4, none⟩ = some (.int .i64 xi) ∧ w1.cell? ⟨AF, j * 4 + 1, none⟩ = some (.int .i64 xl) ∧ w1.cell? ⟨AF, j * 4 + 2, none⟩ = some (.int .i64 xh) ∧ w1.cell? ⟨AF, j * 4 + 3, none⟩ = some (.int .i64 xn) from VV.out w1 hq))
            clear hro hbx
            go_wp2_with fail
            go_region_law (first | (refine step_append_lies _ rfl (.tmp 163) (.tmp 168) 28 rfl BB 113 i9 (.agg #[.int .i64 0, .int .i64 0, .int .i64 0, .int .i64 0]) 4 32 Try.underlying28 hi9 hz0 hz1 hz2 rfl (by decide) _ _ _ rfl (HD.out _) ⟨wr.heap.size, 0, none⟩ 1 1 [.int .i64 xi, .int .i64 xl, .int .i64 xh, .int .i64 xn] rfl rfl (cellD4 wr _ _ _ _ _) (four_i64 _ _ _ _) (by decide) B63.out BBY.out (HBS.out _) (wr.heap.size + 1) (HH.out _) ?_; intro g cap w1 hown1 hgrow1 _ _; obtain ⟨g1, g2, g3⟩ := HG.out _ _ hgrow1; obtain ⟨j0, j1, j2⟩ := c3K g1; obtain ⟨j3, j4, j5⟩ := f3K g1; obtain ⟨d0, d1, d2, d3⟩ := HRB.out _ g2; replace hown1 := Lib.hid hown1; replace g1 := Lib.hid g1; clear hgrow1))
            all_goals
              go_wp2_with fail
              go_roundw
              case rel => exact ⟨j + 1, _, by go_num, by omega, Lib.hid (by rw [← HNJ.out]; exact ⟨heap_setCell_same _ _ 2 _ _ (.slice (some ⟨g, 0, none⟩) (mV + 1) cap) g1.out, OwnsR.far (OwnsR.snoc (x := ((xi, xl, xh, xn) : Sd)) hmV.out hown1.out) _ _ (by intro e; have := (World.ownsRow.lt hown1.out _ e.symm).1; dsimp only at this; omega), g2.setCell (p := ⟨O, 2, none⟩) (Nat.le_refl _) _, by simpa using g3⟩)⟩
              case measure => simp [intOf]; omega
          · have hjz : ¬ (j : Int) < 1 := by omega
            have hA2 := HA.out
            rw [List.take_of_length_le (show ([(nx, lo, hi', x)]).length ≤ j by show 1 ≤ j; omega)] at hA2
            replace HA := Lib.hid hA2
            clear hA2
            go_wp2_with fail
            go_roundw
            case rel => exact ⟨kk + 1, _, _, by go_num, by omega, HNX, HA⟩
            case measure => simp [intOf]; omega
      · have x1 : ((kk : Int) == (i : Int)) = false := by simp; omega
        by_cases hin : kk < i ∨ i + 1 ≤ kk
        · have hal0 : acc.length ≤ 25 := by rcases hin with q | q <;> omega
          obtain ⟨⟨xi, xl, xh, xn⟩, hxe⟩ : ∃ s, l[kk]! = s := ⟨_, rfl⟩
          have VV := Lib.hid (fun w1 (hq : Below O WO w1) => (show w1.cell? ⟨bL, oL + kk * 4, none⟩ = some (.int .i64 xi) ∧ w1.cell? ⟨bL, oL + kk * 4 + 1, none⟩ = some (.int .i64 xl) ∧ w1.cell? ⟨bL, oL + kk * 4 + 2, none⟩ = some (.int .i64 xh) ∧ w1.cell? ⟨bL, oL + kk * 4 + 3, none⟩ = some (.int .i64 xn) from by
            obtain ⟨bb, oo, ee, _, v0, v1, v2, v3⟩ := KL.out w1 hq kk hkl
            cases ee
            rw [hxe] at v0 v1 v2 v3
            exact ⟨v0, v1, v2, v3⟩))
          have HNK := Lib.hid (show acc ++ [((xi, xl, xh, xn) : Sd)] = bld l [(nx, lo, hi', x)] i 1 (kk + 1) by rw [bld, if_neg hki, if_pos hin, List.append_nil, ← HACC.out, hxe])
          replace hxe := Lib.hid hxe
          obtain ⟨v0, v1, v2, v3⟩ := VV.out _ hlw
          have hal := hal0
          have KXC := Lib.hid (fun w1 (hq : Below O WO w1) => K3.out _ (B2W.out _ hq))
          rcases hin with q | q
          · have x2 : decide ((kk : Int) < (i : Int)) = true := decide_eq_true (by omega)
            have hne0 : ¬ bL = O := by omega
            have hne1 : ¬ O = bL := by omega
            obtain ⟨aV, cV, rfl, _⟩ := OwnsR.arg encS_len HA.out.row
            obtain ⟨mV, hmV⟩ : ∃ m, acc.length = m := ⟨_, rfl⟩
            have hm26 : mV ≤ 26 := by omega
            have hro : wr.ownsRow BB 113 4 (.slice aV mV cV) mV (flatR encS acc) := by
              have := HA.out.row
              unfold OwnsR at this
              rwa [hmV] at this
            have hbx : wr.heap[O]? = some (.cells #[.int .i64 (ep + 1), .int .i64 nf, .slice aV mV cV] 30) := by have := HA.out.box; rwa [hmV] at this
            have hbig := HA.out.big
            have hlow := HA.out.low
            rw [hmV] at hal
            replace hmV := Lib.hid hmV
            obtain ⟨o0, o1, o2⟩ := c3K hbx
            obtain ⟨k0, k1, k2⟩ := f3K hbx
            have A0 : ∀ o, (wr.alloc o).cell? ⟨bL, oL + kk * 4, none⟩ = some (.int .i64 xi) := fun o => (World.cell?_alloc_lt _ _ ⟨bL, oL + kk * 4, none⟩ (by show bL < _; omega)).trans v0
            have A1 : ∀ o, (wr.alloc o).cell? ⟨bL, oL + kk * 4 + 1, none⟩ = some (.int .i64 xl) := fun o => (World.cell?_alloc_lt _ _ ⟨bL, oL + kk * 4 + 1, none⟩ (by show bL < _; omega)).trans v1
            have A2 : ∀ o, (wr.alloc o).cell? ⟨bL, oL + kk * 4 + 2, none⟩ = some (.int .i64 xh) := fun o => (World.cell?_alloc_lt _ _ ⟨bL, oL + kk * 4 + 2, none⟩ (by show bL < _; omega)).trans v2
            have A3 : ∀ o, (wr.alloc o).cell? ⟨bL, oL + kk * 4 + 3, none⟩ = some (.int .i64 xn) := fun o => (World.cell?_alloc_lt _ _ ⟨bL, oL + kk * 4 + 3, none⟩ (by show bL < _; omega)).trans v3
            have AO : ∀ o, (wr.alloc o).cell? ⟨O, 2, none⟩ = some (.slice aV mV cV) := fun o => (World.cell?_alloc_lt _ _ ⟨O, 2, none⟩ (by show O < _; omega)).trans o2
            have HD := Lib.hid (fun o => (hro.alloc o).drew)
            have HG := Lib.hid (fun o w1 (hg : ((wr.alloc o).drew).grownBy w1 (Value.slice aV mV cV).ownBlock) => (show w1.heap[O]? = some (.cells #[.int .i64 (ep + 1), .int .i64 nf, .slice aV mV cV] 30) ∧ Below O WO w1 ∧ BB ≤ w1.heap.size from by
              have hlt2 := hro.lt
              have z : ((wr.alloc o).drew).heap.size = wr.heap.size + 1 := by simp
              refine ⟨(hg.block O (by rw [z]; omega) (fun e => by have := (hlt2 _ e.symm).1; omega)).trans ((heap_alloc_old wr o (by omega)).trans hbx), ?_, Nat.le_trans (by rw [z]; omega) hg.size⟩
              exact ((hlow.alloc (by omega) o).drew).grown hg (by rw [z]; omega) (fun g e => by have := (hlt2 g e).1; omega)))
            have B63 := Lib.hid (show mV + 1 ≤ maxLen by unfold maxLen; omega)
            have BBY := Lib.hid (show (mV + 1) * 32 ≤ 140737488355328 by omega)
            have HBS := Lib.hid (fun o => (show BB ≤ ((wr.alloc o).drew).heap.size from by simp; omega))
            have HH := Lib.hid (fun o => (show ((wr.alloc o).drew).heap.size = wr.heap.size + 1 from by simp))
            have HRB := Lib.hid (fun w1 (hq : Below O WO w1) => (show w1.cell? ⟨bL, oL + kk * 4, none⟩ = some (.int .i64 xi) ∧ w1.cell? ⟨bL, oL + kk * 4 + 1, none⟩ = some (.int .i64 xl) ∧ w1.cell? ⟨bL, oL + kk * 4 + 2, none⟩ = some (.int .i64 xh) ∧ w1.cell? ⟨bL, oL + kk * 4 + 3, none⟩ = some (.int .i64 xn) from VV.out w1 hq))
            clear hro hbx
            go_wp2_with fail
            go_region_law (first | (refine step_append_lies _ rfl (.tmp 183) (.tmp 189) 28 rfl BB 113 i9 (.agg #[.int .i64 0, .int .i64 0, .int .i64 0, .int .i64 0]) 4 32 Try.underlying28 hi9 hz0 hz1 hz2 rfl (by decide) _ _ _ rfl (HD.out _) ⟨wr.heap.size, 0, none⟩ 1 1 [.int .i64 xi, .int .i64 xl, .int .i64 xh, .int .i64 xn] rfl rfl (cellD4 wr _ _ _ _ _) (four_i64 _ _ _ _) (by decide) B63.out BBY.out (HBS.out _) (wr.heap.size + 1) (HH.out _) ?_; intro g cap w1 hown1 hgrow1 _ _; obtain ⟨g1, g2, g3⟩ := HG.out _ _ hgrow1; obtain ⟨j0, j1, j2⟩ := c3K g1; obtain ⟨j3, j4, j5⟩ := f3K g1; obtain ⟨d0, d1, d2, d3⟩ := HRB.out _ g2; replace hown1 := Lib.hid hown1; replace g1 := Lib.hid g1; clear hgrow1))
            all_goals
              go_wp2_with fail
              go_roundw
              case rel => exact ⟨kk + 1, _, _, by go_num, by omega, HNK, Lib.hid ⟨heap_setCell_same _ _ 2 _ _ (.slice (some ⟨g, 0, none⟩) (mV + 1) cap) g1.out, OwnsR.far (OwnsR.snoc (x := ((xi, xl, xh, xn) : Sd)) hmV.out hown1.out) _ _ (by intro e; have := (World.ownsRow.lt hown1.out _ e.symm).1; dsimp only at this; omega), g2.setCell (p := ⟨O, 2, none⟩) (Nat.le_refl _) _, by simpa using g3⟩⟩
              case measure => simp [intOf]; omega
          · have x2 : decide ((kk : Int) < (i : Int)) = false := decide_eq_false (by omega)
            have x3 : decide ((i : Int) + 1 ≤ (kk : Int)) = true := decide_eq_true (by omega)
            have hne0 : ¬ bL = O := by omega
            have hne1 : ¬ O = bL := by omega
            obtain ⟨aV, cV, rfl, _⟩ := OwnsR.arg encS_len HA.out.row
            obtain ⟨mV, hmV⟩ : ∃ m, acc.length = m := ⟨_, rfl⟩
            have hm26 : mV ≤ 26 := by omega
            have hro : wr.ownsRow BB 113 4 (.slice aV mV cV) mV (flatR encS acc) := by
              have := HA.out.row
              unfold OwnsR at this
              rwa [hmV] at this
            have hbx : wr.heap[O]? = some (.cells #[.int .i64 (ep + 1), .int .i64 nf, .slice aV mV cV] 30) := by have := HA.out.box; rwa [hmV] at this
            have hbig := HA.out.big
            have hlow := HA.out.low
            rw [hmV] at hal
            replace hmV := Lib.hid hmV
            obtain ⟨o0, o1, o2⟩ := c3K hbx
            obtain ⟨k0, k1, k2⟩ := f3K hbx
            have A0 : ∀ o, (wr.alloc o).cell? ⟨bL, oL + kk * 4, none⟩ = some (.int .i64 xi) := fun o => (World.cell?_alloc_lt _ _ ⟨bL, oL + kk * 4, none⟩ (by show bL < _; omega)).trans v0
            have A1 : ∀ o, (wr.alloc o).cell? ⟨bL, oL + kk * 4 + 1, none⟩ = some (.int .i64 xl) := fun o => (World.cell?_alloc_lt _ _ ⟨bL, oL + kk * 4 + 1, none⟩ (by show bL < _; omega)).trans v1
            have A2 : ∀ o, (wr.alloc o).cell? ⟨bL, oL + kk * 4 + 2, none⟩ = some (.int .i64 xh) := fun o => (World.cell?_alloc_lt _ _ ⟨bL, oL + kk * 4 + 2, none⟩ (by show bL < _; omega)).trans v2
            have A3 : ∀ o, (wr.alloc o).cell? ⟨bL, oL + kk * 4 + 3, none⟩ = some (.int .i64 xn) := fun o => (World.cell?_alloc_lt _ _ ⟨bL, oL + kk * 4 + 3, none⟩ (by show bL < _; omega)).trans v3
            have AO : ∀ o, (wr.alloc o).cell? ⟨O, 2, none⟩ = some (.slice aV mV cV) := fun o => (World.cell?_alloc_lt _ _ ⟨O, 2, none⟩ (by show O < _; omega)).trans o2
            have HD := Lib.hid (fun o => (hro.alloc o).drew)
            have HG := Lib.hid (fun o w1 (hg : ((wr.alloc o).drew).grownBy w1 (Value.slice aV mV cV).ownBlock) => (show w1.heap[O]? = some (.cells #[.int .i64 (ep + 1), .int .i64 nf, .slice aV mV cV] 30) ∧ Below O WO w1 ∧ BB ≤ w1.heap.size from by
              have hlt2 := hro.lt
              have z : ((wr.alloc o).drew).heap.size = wr.heap.size + 1 := by simp
              refine ⟨(hg.block O (by rw [z]; omega) (fun e => by have := (hlt2 _ e.symm).1; omega)).trans ((heap_alloc_old wr o (by omega)).trans hbx), ?_, Nat.le_trans (by rw [z]; omega) hg.size⟩
              exact ((hlow.alloc (by omega) o).drew).grown hg (by rw [z]; omega) (fun g e => by have := (hlt2 g e).1; omega)))
            have B63 := Lib.hid (show mV + 1 ≤ maxLen by unfold maxLen; omega)
            have BBY := Lib.hid (show (mV + 1) * 32 ≤ 140737488355328 by omega)
            have HBS := Lib.hid (fun o => (show BB ≤ ((wr.alloc o).drew).heap.size from by simp; omega))
            have HH := Lib.hid (fun o => (show ((wr.alloc o).drew).heap.size = wr.heap.size + 1 from by simp))
            have HRB := Lib.hid (fun w1 (hq : Below O WO w1) => (show w1.cell? ⟨bL, oL + kk * 4, none⟩ = some (.int .i64 xi) ∧ w1.cell? ⟨bL, oL + kk * 4 + 1, none⟩ = some (.int .i64 xl) ∧ w1.cell? ⟨bL, oL + kk * 4 + 2, none⟩ = some (.int .i64 xh) ∧ w1.cell? ⟨bL, oL + kk * 4 + 3, none⟩ = some (.int .i64 xn) from VV.out w1 hq))
            clear hro hbx
            go_wp2_with fail
            go_region_law (first | (refine step_append_lies _ rfl (.tmp 183) (.tmp 189) 28 rfl BB 113 i9 (.agg #[.int .i64 0, .int .i64 0, .int .i64 0, .int .i64 0]) 4 32 Try.underlying28 hi9 hz0 hz1 hz2 rfl (by decide) _ _ _ rfl (HD.out _) ⟨wr.heap.size, 0, none⟩ 1 1 [.int .i64 xi, .int .i64 xl, .int .i64 xh, .int .i64 xn] rfl rfl (cellD4 wr _ _ _ _ _) (four_i64 _ _ _ _) (by decide) B63.out BBY.out (HBS.out _) (wr.heap.size + 1) (HH.out _) ?_; intro g cap w1 hown1 hgrow1 _ _; obtain ⟨g1, g2, g3⟩ := HG.out _ _ hgrow1; obtain ⟨j0, j1, j2⟩ := c3K g1; obtain ⟨j3, j4, j5⟩ := f3K g1; obtain ⟨d0, d1, d2, d3⟩ := HRB.out _ g2; replace hown1 := Lib.hid hown1; replace g1 := Lib.hid g1; clear hgrow1))
            all_goals
              go_wp2_with fail
              go_roundw
              case rel => exact ⟨kk + 1, _, _, by go_num, by omega, HNK, Lib.hid ⟨heap_setCell_same _ _ 2 _ _ (.slice (some ⟨g, 0, none⟩) (mV + 1) cap) g1.out, OwnsR.far (OwnsR.snoc (x := ((xi, xl, xh, xn) : Sd)) hmV.out hown1.out) _ _ (by intro e; have := (World.ownsRow.lt hown1.out _ e.symm).1; dsimp only at this; omega), g2.setCell (p := ⟨O, 2, none⟩) (Nat.le_refl _) _, by simpa using g3⟩⟩
              case measure => simp [intOf]; omega
        · exact absurd (show kk < i ∨ i + 1 ≤ kk by omega) hin
    · have hkz : ¬ (kk : Int) < (n : Int) := by omega
      have hacc : acc = l.take i ++ ([(nx, lo, hi', x)] ++ l.drop (i + 1)) := by rw [HACC.out, show kk = l.length by have := hn.out; omega, HALL.out]
      have HR3 := HR.out
      rw [← hacc] at HR3
      replace hacc := Lib.hid hacc
      obtain ⟨aV, cV, rfl, hA9⟩ := OwnsR.arg encS_len HA.out.row
      have hrow := Lib.hid HA.out.row
      have HA9 := Lib.hid hA9
      have hneA : acc ≠ [] → ∃ b o, aV = some ⟨b, o, none⟩ ∧ b ≠ W1.heap.size := fun hl => by
        obtain ⟨b, off, e, _⟩ := hA9.2.2.2.2 0 (List.length_pos_iff.2 hl)
        subst e
        refine ⟨b, off, rfl, ?_⟩
        have h1 := (World.ownsRow.lt hrow.out b rfl).1
        have h2 := m2.out
        have h3 := BP.size
        have h4 := hO.out
        omega
      obtain ⟨o0, o1, o2⟩ := c3K HA.out.box
      have HBX := Lib.hid HA.out.box
      have gbx := (Array.getElem?_eq_some_iff.1 HA.out.box).1
      cases hck : chkC (ep + 1) nf acc with
      | false =>
        rw [if_neg (by rw [hck]; simp)] at HR3
        have CD := Lib.hid (fun W a n c (h : RArg encS 4 W a n c acc) => hck ▸ rcheck8_any (ep + 1) nf a n c acc W h)
        replace hck := Lib.hid hck
        have hR := HR3
        clear HR3 hA9
        go_wp2_with (go_at_call 20; (with_reducible refine (CD.out _ _ _ _ HA9.out).mono ?_); rintro e w9 ⟨rfl, b9⟩; have B9 := below_next (B2W.out _ hlw) b9; obtain ⟨⟨z0, z1, z2, z3, z4, z5⟩, ⟨y0, y1, y2, y3, y4, y5⟩⟩ := K6.out _ B9)
        exact bodyPost_ret (v := .agg #[.int .i64 0, .int .i64 0, .slice none 0 0, .slice none 0 0, .slice none 0 0, .int .i64 2]) (by simp [results, Try.results26, go_sem, z0, z1, z2, z3, z4, z5]) rfl (RMadePost.bad hR (by repeat (first | with_reducible exact below_next b2 B9 | with_reducible refine toDK ?_ | with_reducible refine Below.setCell ?_ (by first | with_reducible exact Nat.le_refl _ | (dsimp only; omega)) _)))
      | true =>
        rw [if_pos hck] at HR3
        have CD := Lib.hid (fun W a n c (h : RArg encS 4 W a n c acc) => hck ▸ rcheck8_any (ep + 1) nf a n c acc W h)
        replace hck := Lib.hid hck
        have HR4 := Lib.hid HR3
        clear HR3 hA9
        go_wp2_with (go_at_call 20; (with_reducible refine (CD.out _ _ _ _ HA9.out).mono ?_); rintro e w9 ⟨rfl, b9⟩; have B9 := below_next (B2W.out _ hlw) b9; obtain ⟨⟨z0, z1, z2, z3, z4, z5⟩, ⟨y0, y1, y2, y3, y4, y5⟩⟩ := K6.out _ B9; obtain ⟨o0, o1, o2⟩ := c3K ((b9.block _ gbx).trans HBX.out))
        exact bodyPost_ret (v := .agg #[.int .i64 (ep + 1), .int .i64 nf, .slice aV acc.length cV, .slice (some ⟨AO, 0, none⟩) 1 1, .slice (some ⟨AF, 0, none⟩) 1 1, .int .i64 0]) (by simp [results, Try.results26, go_sem, z0, z1, z2, z3, z4, z5]) rfl
          ⟨aV, acc.length, cV, some ⟨AO, 0, none⟩, 1, 1, some ⟨AF, 0, none⟩, 1, 1, by rw [HR4.out],
            by rw [HR4.out]; exact (HA9.out.below b9).onlyN (g := W1.heap.size) (by repeat (first | with_reducible exact Only.refl _ _ | with_reducible refine Only.drewR ?_ | with_reducible refine Only.set ?_ _ _)) hneA,
            by rw [HR4.out]; exact ((HOL.out.below (BW.out _ hlw)).below b9).onlyN (g := W1.heap.size) (by repeat (first | with_reducible exact Only.refl _ _ | with_reducible refine Only.drewR ?_ | with_reducible refine Only.set ?_ _ _)) (fun _ => ⟨_, _, rfl, hz2'⟩),
            by rw [HR4.out]; exact ((HFR.out.below (BW.out _ hlw)).below b9).onlyN (g := W1.heap.size) (by repeat (first | with_reducible exact Only.refl _ _ | with_reducible refine Only.drewR ?_ | with_reducible refine Only.set ?_ _ _)) (fun _ => ⟨_, _, rfl, hz1'⟩),
            (by repeat (first | with_reducible exact below_next b2 B9 | with_reducible refine toDK ?_ | with_reducible refine Below.setCell ?_ (by first | with_reducible exact Nat.le_refl _ | (dsimp only; omega)) _))⟩
end Go.Proofs.Ytcpcdinfagdlhaa
