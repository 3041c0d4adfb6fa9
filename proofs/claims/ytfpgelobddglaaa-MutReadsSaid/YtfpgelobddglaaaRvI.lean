/-
  CONTRACT: the document's Read, of mutations.
-/
import Derived.Test.YtfpgelobddglaaaRvH
namespace Go.Proofs.Ytfpgelobddglaaa
open Go.RowKit Go.Shelf Go.ChangeShapes Go.WideShapes Go.Deep

theorem Rv.far {w : World} {g : Nat} {s : ByteArray} {e : Int} (h : Rv w g s e) (p : Addr) (u : Value) (hp : p.block ≠ g) : Rv (w.setCell p u) g s e := h.grown (grown_setCell w p u) (by simp; omega)
/-- Pairs as the document reads them. -/
def dPairs (s : ByteArray) (e : Int) : List Sp × ByteArray × Int := dPs (rNum s e).1.toNat [] (rNum s e).2.1 (rNum s e).2.2
theorem dPs_size : ∀ (n : Nat) (acc : List Sp) (s : ByteArray) (e : Int), (dPs n acc s e).2.1.size ≤ s.size
  | 0, _, _, _ => Nat.le_refl _
  | n + 1, acc, s, e => by
    have h1 := rNum_size s e
    have h2 := rWhole_size (rNum s e).2.1 (rNum s e).2.2
    rw [dPs]
    split
    · exact Nat.le_trans (dPs_size n _ _ _) (Nat.le_trans h2 h1)
    · exact Nat.le_refl _
theorem mTail_err {k : Int} {s : ByteArray} {e : Int} (h : e ≠ 0) : (mTail k s e).2.2.2.2 = e := by
  unfold mTail
  split
  · rw [rNum_err h]; dsimp only; rw [rNum_err h]
  · split
    · unfold rWhole; rw [rNum_err h]
    · rfl
theorem mR4_eq (c q k : Int) (s : ByteArray) (e : Int) : mR4 dPairs c q k s e = mR4 cPairs c q k s e := by
  have h0 := rNum_errZ (s := s) (e := e)
  have hd : dPairs s e = dPs (rNum s e).1.toNat [] (rNum s e).2.1 (rNum s e).2.2 := rfl
  have hc : cPairs s e = cPs 8 (rNum s e).1.toNat [] (rNum s e).2.1 (rNum s e).2.2 := rfl
  unfold mR4
  rw [hd, hc]
  generalize (rNum s e).1 = x at *
  generalize (rNum s e).2.1 = u at *
  generalize (rNum s e).2.2 = e1 at *
  by_cases he : e1 = 0
  · subst he
    obtain ⟨h1, h2⟩ := dPs_cPs 8 x.toNat [] u
    rw [show ([] : List Sp).take (8 + 1) = [] from rfl] at h1 h2
    by_cases h3 : (dPs x.toNat [] u 0).2.2 = 0
    · rw [h1 h3]
      dsimp only
      generalize (dPs x.toNat [] u 0).1 = l
      generalize (dPs x.toNat [] u 0).2 = r
      by_cases hl : l.length ≤ 9
      · rw [List.take_of_length_le (by omega)]
      · have n1 : ∀ lo hi old, chkM c q k l lo hi old = false := fun lo hi old => by
          cases hq : chkM c q k l lo hi old
          · rfl
          · have := (chkM_facts hq).2.2.2.1.2; omega
        have n2 : ∀ lo hi old, chkM c q k (l.take (8 + 1)) lo hi old = false := fun lo hi old => by
          cases hq : chkM c q k (l.take (8 + 1)) lo hi old
          · rfl
          · have := (chkM_facts hq).2.2.2.1.2; rw [List.length_take] at this; omega
        unfold mFin
        rw [n1, n2]
        simp
    · rw [h2 h3]
      dsimp only
      have e3 := mTail_err (k := k) (s := (dPs x.toNat [] u 0).2.1) h3
      have e4 : rEnd (mTail k (dPs x.toNat [] u 0).2.1 (dPs x.toNat [] u 0).2.2).2.2.2.1 (mTail k (dPs x.toNat [] u 0).2.1 (dPs x.toNat [] u 0).2.2).2.2.2.2 ≠ 0 := by
        rw [e3]
        unfold rEnd
        rw [if_neg h3]
        exact h3
      unfold mFin
      rw [if_neg e4, if_neg e4]
  · rw [h0 he]
    rfl
theorem mRd_same (s : ByteArray) : mRd dPairs s = mRd cPairs s := mR4_eq _ _ _ _ _

set_option maxRecDepth 100000 in
set_option maxHeartbeats 8000000 in
theorem rmread_any (S : ByteArray) (w : World) (hs : (S.size : Int) ≤ 8192) : Calls Try.prog 30 #[.string S] w (MutRet w (mRd dPairs S)) := by
  obtain ⟨c, s1, e1, hA⟩ : ∃ x s1 e1, rNum S 0 = (x, s1, e1) := ⟨_, _, _, rfl⟩
  obtain ⟨q, s2, e2, hB⟩ : ∃ x s2 e2, rNum s1 e1 = (x, s2, e2) := ⟨_, _, _, rfl⟩
  obtain ⟨k, s3, e3, hC⟩ : ∃ x s3 e3, rNum s2 e2 = (x, s3, e3) := ⟨_, _, _, rfl⟩
  obtain ⟨x0, u, e4, hD⟩ : ∃ x s4 e4, rNum s3 e3 = (x, s4, e4) := ⟨_, _, _, rfl⟩
  have z1 : s1.size ≤ S.size := by have := rNum_size S 0; rw [hA] at this; exact this
  have z2 : s2.size ≤ s1.size := by have := rNum_size s1 e1; rw [hB] at this; exact this
  have z3 : s3.size ≤ s2.size := by have := rNum_size s2 e2; rw [hC] at this; exact this
  have hz : u.size ≤ s3.size := by have := rNum_size s3 e3; rw [hD] at this; exact this
  obtain ⟨v0, v1⟩ := rNum_val s3 e3
  rw [hD] at v0 v1
  dsimp only at v0 v1
  obtain ⟨n, rfl⟩ : ∃ n : Nat, x0 = (n : Int) := ⟨x0.toNat, by omega⟩
  have CA : Hid (∀ W, Calls Try.prog 72 #[rdV S 0] W (RdNumPost (c, s1, e1) W)) := Lib.hid fun W => by have := refNumR_any S 0 W (by omega); rw [hA] at this; exact this
  have CB : Hid (∀ W, Calls Try.prog 72 #[rdV s1 e1] W (RdNumPost (q, s2, e2) W)) := Lib.hid fun W => by have := refNumR_any s1 e1 W (by omega); rw [hB] at this; exact this
  have CC : Hid (∀ W, Calls Try.prog 72 #[rdV s2 e2] W (RdNumPost (k, s3, e3) W)) := Lib.hid fun W => by have := refNumR_any s2 e2 W (by omega); rw [hC] at this; exact this
  have CD : Hid (∀ W, Calls Try.prog 72 #[rdV s3 e3] W (RdNumPost ((n : Int), u, e4) W)) := Lib.hid fun W => by have := refNumR_any s3 e3 W (by omega); rw [hD] at this; exact this
  have HP : ∀ acc t e, dPs n [] u e4 = (acc, t, e) → dPairs s3 e3 = (acc, t, e) := fun acc t e h => by unfold dPairs; rw [hD]; dsimp only; rw [Int.toNat_natCast]; exact h
  have HRR := Lib.hid (fun acc t e lo hi old s5 e5 (h : dPs n [] u e4 = (acc, t, e)) (hT : mTail k t e = (lo, hi, old, s5, e5)) => mRd_eq hA hB hC (HP acc t e h) hT rfl)
  obtain ⟨R, hR⟩ : ∃ R, mRd dPairs S = R := ⟨_, rfl⟩
  rw [hR] at HRR ⊢
  replace hR := Lib.hid hR
  clear HP hA hB hC hD v0
  obtain ⟨W0, hW0⟩ : ∃ W0, w.alloc (.cells #[.int .i64 0, .int .i64 0, .int .i64 0, .slice none 0 0, .int .i64 0, .int .i64 0, .int .i64 0] 35) = W0 := ⟨_, rfl⟩
  obtain ⟨W1, hW1⟩ : ∃ W1, W0.alloc (.cells #[.int .i64 0, .int .i64 0, .int .i64 0, .slice none 0 0, .int .i64 0, .int .i64 0, .int .i64 0] 35) = W1 := ⟨_, rfl⟩
  have hM0 : W0.heap.size = w.heap.size + 1 := by rw [← hW0]; simp
  have hT0 : W1.heap.size = W0.heap.size + 1 := by rw [← hW1]; simp
  have B0 : Mv 35 W0 w.heap.size 0 0 0 (.slice none 0 0) 0 0 0 := by rw [← hW0]; exact Mv.new _ _ _ _ _ _ _ _ _
  have B1 : Mv 35 W1 w.heap.size 0 0 0 (.slice none 0 0) 0 0 0 := by rw [← hW1]; exact B0.grown (World.grownBy_alloc _ _ none) (by simp)
  have M1 : Mv 35 W1 W0.heap.size 0 0 0 (.slice none 0 0) 0 0 0 := by rw [← hW1]; exact Mv.new _ _ _ _ _ _ _ _ _
  have b0 : Below w.heap.size w W0 := by rw [← hW0]; exact (Below.refl _ _).alloc (Nat.le_refl _) _
  have b1 : Below w.heap.size w W1 := by rw [← hW1]; exact b0.alloc b0.size _
  have R2 : Rv (W1.alloc (.cells #[.string S, .int .i64 0] 114)) W1.heap.size S 0 := Rv.new _ _ _
  have B2 : Mv 35 (W1.alloc (.cells #[.string S, .int .i64 0] 114)) w.heap.size 0 0 0 (.slice none 0 0) 0 0 0 := B1.grown (World.grownBy_alloc _ _ none) (by simp)
  have M2 : Mv 35 (W1.alloc (.cells #[.string S, .int .i64 0] 114)) W0.heap.size 0 0 0 (.slice none 0 0) 0 0 0 := M1.grown (World.grownBy_alloc _ _ none) (by simp)
  have b2 : Below w.heap.size w (W1.alloc (.cells #[.string S, .int .i64 0] 114)) := b1.alloc b1.size _
  obtain ⟨T, hT⟩ : ∃ T, W1.heap.size = T := ⟨_, rfl⟩
  obtain ⟨M, hM⟩ : ∃ M, W0.heap.size = M := ⟨_, rfl⟩
  rw [hT] at R2 hT0
  rw [hM] at M2 hT0 hM0
  have hBM : w.heap.size < M := by omega
  have hMT : M < T := by omega
  have hTM : (T = M) = False := eq_false (by omega)
  have hMT' : (M = T) = False := eq_false (by omega)
  clear hM0 hT0 B0 B1 M1 b0 b1
  obtain ⟨i0, hi, hz0, hz1', hz2⟩ := info_parts Try.infoRefP
  go_enter Try.func30, Try.ntmps30
  go_wp2_with (first
    | (go_at_call 72; (with_reducible refine (CA.out (W1.alloc (.cells #[.string S, .int .i64 0] 114))).mono ?_); rintro en w3 ⟨rfl, bw3⟩; have Rw3 := R2.below bw3; have Mw3 := M2.below bw3; have Bw3 := B2.below bw3; have bbw3 := below_next b2 bw3; have Ra := Rw3.grown (World.grownBy_alloc w3 (.cells #[.string s1, .int .i64 e1] 114) none) (by simp); have Ma := Mw3.grown (World.grownBy_alloc w3 (.cells #[.string s1, .int .i64 e1] 114) none) (by simp); have r0 := Ra.cell0; have r1 := Ra.cell1; have r2 := Ra.free 0; have r3 := Ra.free 1; obtain ⟨m0, m1, m2, m3, m4, m5, m6⟩ := Ma.cells; have m7 := Ma.free1 0; clear Ra Ma; obtain ⟨WA, hWA⟩ : ∃ WA, ((((w3.alloc (.cells #[.string s1, .int .i64 e1] 114)).setCell ⟨T, 0, none⟩ (.string s1)).setCell ⟨T, 1, none⟩ (.int .i64 e1)).setCell ⟨M, 0, none⟩ (.int .i64 c)) = WA := ⟨_, rfl⟩; have RWA : Rv WA T s1 e1 := (by rw [← hWA]; exact ((Rw3.grown (World.grownBy_alloc _ _ none) (by simp)).put s1 e1).far _ _ (by simp <;> omega)); have MWA : Mv 35 WA M c 0 0 (.slice none 0 0) 0 0 0 := (by rw [← hWA]; exact (((Mw3.grown (World.grownBy_alloc _ _ none) (by simp)).far _ _ (by simp <;> omega)).far _ _ (by simp <;> omega)).set0 _); have BWA : Mv 35 WA w.heap.size 0 0 0 (.slice none 0 0) 0 0 0 := (by rw [← hWA]; exact (((Bw3.grown (World.grownBy_alloc _ _ none) (by simp)).far _ _ (by simp <;> omega)).far _ _ (by simp <;> omega)).far _ _ (by simp <;> omega)); have bWA : Below w.heap.size w WA := (by rw [← hWA]; exact (((bbw3.alloc bbw3.size _).setCell (by simp <;> omega) _).setCell (by simp <;> omega) _).setCell (by simp <;> omega) _); have t0 := RWA.cell0; have t1 := RWA.cell1; obtain ⟨n0, n1, n2, n3, n4, n5, n6'⟩ := MWA.cells)
    | (go_at_call 72; (with_reducible refine (CB.out WA).mono ?_); rintro en w4 ⟨rfl, bw4⟩; have Rw4 := RWA.below bw4; have Mw4 := MWA.below bw4; have Bw4 := BWA.below bw4; have bbw4 := below_next bWA bw4; have Ra := Rw4.grown (World.grownBy_alloc w4 (.cells #[.string s2, .int .i64 e2] 114) none) (by simp); have Ma := Mw4.grown (World.grownBy_alloc w4 (.cells #[.string s2, .int .i64 e2] 114) none) (by simp); have r0 := Ra.cell0; have r1 := Ra.cell1; have r2 := Ra.free 0; have r3 := Ra.free 1; obtain ⟨m0, m1, m2, m3, m4, m5, m6⟩ := Ma.cells; have m7 := Ma.free1 1; clear Ra Ma; obtain ⟨WB, hWB⟩ : ∃ WB, ((((w4.alloc (.cells #[.string s2, .int .i64 e2] 114)).setCell ⟨T, 0, none⟩ (.string s2)).setCell ⟨T, 1, none⟩ (.int .i64 e2)).setCell ⟨M, 1, none⟩ (.int .i64 q)) = WB := ⟨_, rfl⟩; have RWB : Rv WB T s2 e2 := (by rw [← hWB]; exact ((Rw4.grown (World.grownBy_alloc _ _ none) (by simp)).put s2 e2).far _ _ (by simp <;> omega)); have MWB : Mv 35 WB M c q 0 (.slice none 0 0) 0 0 0 := (by rw [← hWB]; exact (((Mw4.grown (World.grownBy_alloc _ _ none) (by simp)).far _ _ (by simp <;> omega)).far _ _ (by simp <;> omega)).set1 _); have BWB : Mv 35 WB w.heap.size 0 0 0 (.slice none 0 0) 0 0 0 := (by rw [← hWB]; exact (((Bw4.grown (World.grownBy_alloc _ _ none) (by simp)).far _ _ (by simp <;> omega)).far _ _ (by simp <;> omega)).far _ _ (by simp <;> omega)); have bWB : Below w.heap.size w WB := (by rw [← hWB]; exact (((bbw4.alloc bbw4.size _).setCell (by simp <;> omega) _).setCell (by simp <;> omega) _).setCell (by simp <;> omega) _); have t0 := RWB.cell0; have t1 := RWB.cell1; obtain ⟨n0, n1, n2, n3, n4, n5, n6'⟩ := MWB.cells)
    | (go_at_call 72; (with_reducible refine (CC.out WB).mono ?_); rintro en w5 ⟨rfl, bw5⟩; have Rw5 := RWB.below bw5; have Mw5 := MWB.below bw5; have Bw5 := BWB.below bw5; have bbw5 := below_next bWB bw5; have Ra := Rw5.grown (World.grownBy_alloc w5 (.cells #[.string s3, .int .i64 e3] 114) none) (by simp); have Ma := Mw5.grown (World.grownBy_alloc w5 (.cells #[.string s3, .int .i64 e3] 114) none) (by simp); have r0 := Ra.cell0; have r1 := Ra.cell1; have r2 := Ra.free 0; have r3 := Ra.free 1; obtain ⟨m0, m1, m2, m3, m4, m5, m6⟩ := Ma.cells; have m7 := Ma.free1 2; clear Ra Ma; obtain ⟨WC, hWC⟩ : ∃ WC, ((((w5.alloc (.cells #[.string s3, .int .i64 e3] 114)).setCell ⟨T, 0, none⟩ (.string s3)).setCell ⟨T, 1, none⟩ (.int .i64 e3)).setCell ⟨M, 2, none⟩ (.int .i64 k)) = WC := ⟨_, rfl⟩; have RWC : Rv WC T s3 e3 := (by rw [← hWC]; exact ((Rw5.grown (World.grownBy_alloc _ _ none) (by simp)).put s3 e3).far _ _ (by simp <;> omega)); have MWC : Mv 35 WC M c q k (.slice none 0 0) 0 0 0 := (by rw [← hWC]; exact (((Mw5.grown (World.grownBy_alloc _ _ none) (by simp)).far _ _ (by simp <;> omega)).far _ _ (by simp <;> omega)).set2 _); have BWC : Mv 35 WC w.heap.size 0 0 0 (.slice none 0 0) 0 0 0 := (by rw [← hWC]; exact (((Bw5.grown (World.grownBy_alloc _ _ none) (by simp)).far _ _ (by simp <;> omega)).far _ _ (by simp <;> omega)).far _ _ (by simp <;> omega)); have bWC : Below w.heap.size w WC := (by rw [← hWC]; exact (((bbw5.alloc bbw5.size _).setCell (by simp <;> omega) _).setCell (by simp <;> omega) _).setCell (by simp <;> omega) _); have t0 := RWC.cell0; have t1 := RWC.cell1; obtain ⟨n0, n1, n2, n3, n4, n5, n6'⟩ := MWC.cells)
    | (go_at_call 72; (with_reducible refine (CD.out WC).mono ?_); rintro en w6 ⟨rfl, bw6⟩; have Rw6 := RWC.below bw6; have Mw6 := MWC.below bw6; have Bw6 := BWC.below bw6; have bbw6 := below_next bWC bw6; have r0 := Rw6.cell0; have r1 := Rw6.cell1; have r2 := Rw6.free 0; have r3 := Rw6.free 1; obtain ⟨WD, hWD⟩ : ∃ WD, (w6.setCell ⟨T, 0, none⟩ (.string u)).setCell ⟨T, 1, none⟩ (.int .i64 e4) = WD := ⟨_, rfl⟩; have RWD : Rv WD T u e4 := (by rw [← hWD]; exact Rw6.put u e4); have MWD : Mv 35 WD M c q k (.slice none 0 0) 0 0 0 := (by rw [← hWD]; exact (Mw6.far _ _ (by simp <;> omega)).far _ _ (by simp <;> omega)); have BWD : Mv 35 WD w.heap.size 0 0 0 (.slice none 0 0) 0 0 0 := (by rw [← hWD]; exact (Bw6.far _ _ (by simp <;> omega)).far _ _ (by simp <;> omega)); have bWD : Below w.heap.size w WD := (by rw [← hWD]; exact (bbw6.setCell (by simp <;> omega) _).setCell (by simp <;> omega) _)))
  have hbase : T < WD.heap.size := RWD.lt
  obtain ⟨base, hbs⟩ : ∃ b, WD.heap.size = b := ⟨_, rfl⟩
  have hb0 : base ≤ WD.heap.size := by omega
  rw [hbs] at hbase
  have O0 : WD.ownsRow base 92 2 (.slice none 0 0) 0 (flatP []) := ⟨rfl, .inl ⟨rfl, rfl⟩⟩
  clear RWA RWB RWC MWA MWB MWC BWA BWB BWC bWA bWB bWC Rw3 Rw4 Rw5 Rw6 Mw3 Mw4 Mw5 Mw6 Bw3 Bw4 Bw5 Bw6 bw3 bw4 bw5 bw6 bbw3 bbw4 bbw5 bbw6 hWA hWB hWC hW0 hW1 R2 B2 M2 b2 CA CB CC CD
  replace hWD := Lib.hid hWD
  replace hT := Lib.hid hT
  replace hM := Lib.hid hM
  replace hbs := Lib.hid hbs
  go_loopw [13, 14, 15] (fun i k1 k2 wr => ∃ (j : Nat) (acc : List Sp) (t : ByteArray) (e2 : Int) (v6 : Value) (n6 : Nat), i = .int .i64 (j : Int) ∧ j ≤ n ∧ Hid (e2 = 0 → acc.length + t.size ≤ S.size) ∧ Hid (acc.length = n6) ∧ n6 ≤ S.size + 1 ∧ t.size ≤ S.size ∧ wr.ownsRow base 92 2 v6 n6 (flatP acc) ∧ Rv wr T t e2 ∧ Mv 35 wr M c q k v6 0 0 0 ∧ Mv 35 wr w.heap.size 0 0 0 (.slice none 0 0) 0 0 0 ∧ Below w.heap.size w wr ∧ base ≤ wr.heap.size ∧ Hid (dPs (n - j) acc t e2 = dPs n [] u e4))
    (fun i _ _ _ => n - (intOf i).toNat)
  case atStart => exact ⟨0, [], u, e4, _, 0, rfl, by omega, Lib.hid (fun _ => by simp; omega), Lib.hid rfl, by omega, by omega, O0, RWD, MWD, BWD, bWD, hb0, Lib.hid rfl⟩
  case round =>
    obtain ⟨j, acc, t, e2, v6, n6, rfl, hj, HL, hm, hac, hts, hrow, R1, M1, B1, hbl, hz3, HE⟩ := hrel
    clear RWD MWD BWD bWD O0 hb0
    obtain ⟨a6, p6, hv6, _, _, _, _⟩ := (show OwnsP 92 wr base v6 acc from by unfold OwnsP; rw [hm.out]; exact hrow).arg
    rw [hm.out] at hv6
    subst hv6
    have c0 := R1.cell0
    have c1 := R1.cell1
    have f0 := R1.free 0
    have f1 := R1.free 1
    obtain ⟨m0, m1, m2, m3, m4, m5, m6⟩ := M1.cells
    by_cases hgo : j < n ∧ e2 = 0
    · obtain ⟨hlt, rfl⟩ := hgo
      have hkz : (j : Int) < (n : Int) := by omega
      have hsum := HL.out rfl
      rw [hm.out] at hsum
      obtain ⟨y, g1, e3', hA⟩ : ∃ x s1 e3, rNum t 0 = (x, s1, e3) := ⟨_, _, _, rfl⟩
      obtain ⟨z, g2, e5, hB⟩ : ∃ y s2 e4, rWhole g1 e3' = (y, s2, e4) := ⟨_, _, _, rfl⟩
      have hs1 : g1.size ≤ t.size := by have := rNum_size t 0; rw [hA] at this; exact this
      have hs2 : g2.size ≤ g1.size := by have := rWhole_size g1 e3'; rw [hB] at this; exact this
      have hl4 : Hid (e5 = 0 → n6 + 1 + g2.size ≤ S.size) := Lib.hid fun h => by
        subst h
        have := rWhole_lessE (s := g1) (e := e3') (by rw [hB])
        rw [hB] at this
        dsimp only at this
        omega
      have CN : Hid (∀ W, Calls Try.prog 72 #[rdV t 0] W (RdNumPost (y, g1, e3') W)) := Lib.hid fun W => by have := refNumR_any t 0 W (by omega); rw [hA] at this; exact this
      have CW : Hid (∀ W, Calls Try.prog 73 #[rdV g1 e3'] W (RdNumPost (z, g2, e5) W)) := Lib.hid fun W => by have := refWholeR_any g1 e3' W (by omega); rw [hB] at this; exact this
      have HG := Lib.hid (dPs_go (n := n - (j + 1)) (acc := acc) hA hB)
      clear hA hB HRR
      have hlo : ∀ b, (Value.slice a6 n6 p6).ownBlock = some b → base ≤ b := fun b hb => (hrow.lt b hb).1
      replace hlo := Lib.hid hlo
      replace hrow := Lib.hid hrow
      go_wp2_with (first
        | (go_at_call 72; refine (CN.out _).mono ?_; rintro en w5 ⟨rfl, B5⟩; have R5 := R1.below B5; have M5 := M1.below B5; have G5 := B1.below B5; have g0 := R5.cell0; have g1' := R5.cell1; have g2' := R5.free 0; have g3 := R5.free 1; have R6 := R5.put g1 e3'; have i0' := R6.cell0; have i1' := R6.cell1; have M6 := (M5.far ⟨T, 0, none⟩ (.string g1) (by simp <;> omega)).far ⟨T, 1, none⟩ (.int .i64 e3') (by simp <;> omega); have G6 := (G5.far ⟨T, 0, none⟩ (.string g1) (by simp <;> omega)).far ⟨T, 1, none⟩ (.int .i64 e3') (by simp <;> omega); have ho6 := Lib.hid (row_far (row_far (row_belowR hrow.out B5) ⟨T, 0, none⟩ (.string g1) hbase) ⟨T, 1, none⟩ (.int .i64 e3') hbase))
        | (go_at_call 73; refine (CW.out _).mono ?_; rintro en w7 ⟨rfl, B7⟩; have R7 := R6.below B7; have M7 := M6.below B7; have G7 := G6.below B7; have j0 := R7.cell0; have j1 := R7.cell1; have j2 := R7.free 0; have j3 := R7.free 1; obtain ⟨_, _, _, k3, _, _, _⟩ := M7.cells; have R8 := R7.put g2 e5; have M8 := (M7.far ⟨T, 0, none⟩ (.string g2) (by simp <;> omega)).far ⟨T, 1, none⟩ (.int .i64 e5) (by simp <;> omega); obtain ⟨_, _, _, l3, _, _, _⟩ := M8.cells; have G8 := (G7.far ⟨T, 0, none⟩ (.string g2) (by simp <;> omega)).far ⟨T, 1, none⟩ (.int .i64 e5) (by simp <;> omega); have ho8 := Lib.hid (row_far (row_far (row_belowR ho6.out B7) ⟨T, 0, none⟩ (.string g2) hbase) ⟨T, 1, none⟩ (.int .i64 e5) hbase))
        | (at_builtin; refine wpList_append_own _ rfl _ _ 32 rfl base 92 i0 (.agg #[.int .i64 0, .int .i64 0]) 2 16 Try.underlying32 hi hz0 hz1' hz2 rfl (by decide) _ _ _ rfl (World.ownsRow.alloc ho8.out _) ⟨w7.heap.size, 0, none⟩ 1 1 [.int .i64 y, .int .i64 z] rfl ?c1 ?c2 ?c3 ?c4 ?c5 ?c6 ?_))
      case c2 =>
        have hX : ((w7.setCell ⟨T, 0, none⟩ (.string g2)).setCell ⟨T, 1, none⟩ (.int .i64 e5)).heap.size = w7.heap.size := by simp [World.setCell]
        intro j u hj
        have hh := heap_alloc_new ((w7.setCell ⟨T, 0, none⟩ (.string g2)).setCell ⟨T, 1, none⟩ (.int .i64 e5)) (.cells #[.int .i64 y, .int .i64 z] 92)
        rw [hX] at hh
        match j, hj with
        | 0, hj => simp at hj; subst hj; exact cell_of_row _ _ 0 _ _ _ hh
        | 1, hj => simp at hj; subst hj; exact cell_of_row _ _ 1 _ _ _ hh
      all_goals first
        | rfl
        | (intro u hu; simp at hu; rcases hu with rfl | rfl <;> rfl)
        | (unfold maxLen; omega)
        | omega
        | (have := B5.size; have := B7.size; simp [World.setCell] at *; omega)
        | skip
      intro v' w9 hown9 hgrow9 _
      have ho : OwnsP 92 w9 base v' (acc ++ [(y, z)]) := OwnsP.snocR hm.out hown9
      have hz5 := B5.size
      have hz7 : w5.heap.size ≤ w7.heap.size := by have := B7.size; simpa [World.setCell] using this
      have hb7 : Below w.heap.size w w7 := (((hbl.trans (B5.mono hbl.size)).setCell (p := ⟨T, 0, none⟩) (by simp <;> omega) (.string g1)).setCell (p := ⟨T, 1, none⟩) (by simp <;> omega) (.int .i64 e3')).trans (B7.mono (by have := hbl.size; simp [World.setCell]; omega))
      have hb9 : Below w.heap.size w w9 := ((((hb7.setCell (p := ⟨T, 0, none⟩) (by simp <;> omega) (.string g2)).setCell (p := ⟨T, 1, none⟩) (by simp <;> omega) (.int .i64 e5)).alloc (by have := hbl.size; simp [World.setCell]; omega) (.cells #[.int .i64 y, .int .i64 z] 92))).grown hgrow9 (by have := hbl.size; simp [World.setCell]; omega) (fun g hg => by have := hlo.out g hg; omega)
      have R9 : Rv w9 T g2 e5 := (R8.grown (World.grownBy_alloc _ _ none) (by simp)).grown hgrow9 (by intro hv; have := hlo.out T hv.symm; omega)
      have M9 : Mv 35 w9 M c q k (.slice a6 n6 p6) 0 0 0 := (M8.grown (World.grownBy_alloc _ _ none) (by simp)).grown hgrow9 (by intro hv; have := hlo.out M hv.symm; omega)
      have G9 : Mv 35 w9 w.heap.size 0 0 0 (.slice none 0 0) 0 0 0 := (G8.grown (World.grownBy_alloc _ _ none) (by simp)).grown hgrow9 (by intro hv; have := hlo.out _ hv.symm; omega)
      have Z9 : base ≤ w9.heap.size := by have := hgrow9.size; simp [World.setCell] at this; omega
      have f9 := M9.free1 3
      obtain ⟨_, _, _, y3, _, _, _⟩ := M9.cells
      have hE9 := Lib.hid (show dPs (n - (j + 1)) (acc ++ [(y, z)]) g2 e5 = dPs n [] u e4 by rw [← HE.out, show n - j = n - (j + 1) + 1 by omega, HG.out])
      have hl9 := Lib.hid (show e5 = 0 → (acc ++ [(y, z)]).length + g2.size ≤ S.size by intro h; rw [List.length_append, hm.out]; exact hl4.out h)
      have hm9 := Lib.hid (show (acc ++ [(y, z)]).length = n6 + 1 by rw [List.length_append, hm.out]; rfl)
      obtain ⟨a9, p9, hv9, _, _, _, _⟩ := ho.arg
      have ho' : w9.ownsRow base 92 2 v' (n6 + 1) (flatP (acc ++ [(y, z)])) := by rw [← hm9.out]; exact ho
      rw [hm9.out] at hv9
      subst hv9
      have hoF := Lib.hid (row_far ho' ⟨M, 3, none⟩ (.slice a9 (n6 + 1) p9) (show M < base by omega))
      have MF := M9.set3 (.slice a9 (n6 + 1) p9)
      have RF := R9.far ⟨M, 3, none⟩ (.slice a9 (n6 + 1) p9) (by simp <;> omega)
      have GF := G9.far ⟨M, 3, none⟩ (.slice a9 (n6 + 1) p9) (by simp <;> omega)
      have bF := hb9.setCell (p := ⟨M, 3, none⟩) (by simp <;> omega) (.slice a9 (n6 + 1) p9)
      have ZF : base ≤ (w9.setCell ⟨M, 3, none⟩ (.slice a9 (n6 + 1) p9)).heap.size := by simp [World.setCell]; omega
      clear hown9 hgrow9 R1 R5 R6 R7 R8 M1 M5 M6 M7 M8 B1 G5 G6 G7 G8 ho6 ho8 hrow B5 B7 hbl hb7 ho ho'
      go_wp2
      go_roundw
      case rel => exact ⟨j + 1, acc ++ [(y, z)], g2, e5, _, n6 + 1, by go_num, by omega, hl9, hm9, by omega, by omega, hoF.out, RF, MF, GF, bF, ZF, hE9⟩
      case measure => simp [intOf]; omega
    · have hfin : dPs (n - j) acc t e2 = (acc, t, e2) := by
        by_cases hlt : j < n
        · exact dPs_err _ _ _ (fun h => hgo ⟨hlt, h⟩)
        · rw [show n - j = 0 by omega]; rfl
      have hDD := HE.out
      rw [hfin] at hDD
      have HR2 := fun lo hi old s5 e5 hT => HRR.out acc t e2 lo hi old s5 e5 hDD.symm hT
      have hcase : ((j : Int) < (n : Int) ∧ (e2 == 0) = false) ∨ ¬ (j : Int) < (n : Int) := by
        by_cases hlt : j < n
        · exact .inl ⟨by omega, by simpa using fun h => hgo ⟨hlt, h⟩⟩
        · exact .inr (by omega)
      have v6h : True := trivial
      clear hgo hfin hDD HE HL HRR
      by_cases hk2 : k = 2
      · subst hk2
        obtain ⟨lo, h1, f1', hE⟩ : ∃ x s9 e9, rNum t e2 = (x, s9, e9) := ⟨_, _, _, rfl⟩
        obtain ⟨hi, h2, f2', hF⟩ : ∃ x s5 e5, rNum h1 f1' = (x, s5, e5) := ⟨_, _, _, rfl⟩
        have z5 : h1.size ≤ t.size := by have := rNum_size t e2; rw [hE] at this; exact this
        have CE : Hid (∀ W, Calls Try.prog 72 #[rdV t e2] W (RdNumPost (lo, h1, f1') W)) := Lib.hid fun W => by have := refNumR_any t e2 W (by omega); rw [hE] at this; exact this
        have CF : Hid (∀ W, Calls Try.prog 72 #[rdV h1 f1'] W (RdNumPost (hi, h2, f2') W)) := Lib.hid fun W => by have := refNumR_any h1 f1' W (by omega); rw [hF] at this; exact this
        have HR := HR2 _ _ _ _ _ (mTail_2 hE hF)
        clear hE hF HR2
        obtain ⟨x, hx⟩ : ∃ x, rEnd h2 f2' = x := ⟨_, rfl⟩
        have CX : Hid (∀ W, Calls Try.prog 74 #[rdV h2 f2'] W fun en w' => en = .returned (.int .i64 x) ∧ Below W.heap.size W w') := Lib.hid fun W => hx ▸ refEndR_any h2 f2' W
        rw [hx] at HR
        replace hx := Lib.hid hx
        by_cases h0 : x = 0
        · have d1 : (x != 0) = false := by simpa using h0
          cases hc : chkM c q 2 acc lo hi 0
          · have HF := Lib.hid (show R = (noM, 3) by rw [HR]; unfold mFin; rw [if_pos h0, if_neg (by rw [hc]; simp)])
            have hck := Lib.hid hc
            clear HR hc
            replace h0 := Lib.hid h0
            rcases hcase with ⟨hkz, dd⟩ | hkz
            all_goals
              go_wp2_with (first
                | (go_at_call 72; (with_reducible refine (CE.out wr).mono ?_); rintro en wa ⟨rfl, bwa⟩; have Rwa := R1.below bwa; have Mwa := M1.below bwa; have Bwa := B1.below bwa; have bbwa := below_next hbl bwa; have Ra := Rwa.grown (World.grownBy_alloc wa (.cells #[.string h1, .int .i64 f1'] 114) none) (by simp); have Ma := Mwa.grown (World.grownBy_alloc wa (.cells #[.string h1, .int .i64 f1'] 114) none) (by simp); have r0 := Ra.cell0; have r1 := Ra.cell1; have r2 := Ra.free 0; have r3 := Ra.free 1; obtain ⟨m0, m1, m2, m3, m4, m5, m6⟩ := Ma.cells; have m7 := Ma.free1 4; clear Ra Ma; obtain ⟨WE, hWE⟩ : ∃ WE, ((((wa.alloc (.cells #[.string h1, .int .i64 f1'] 114)).setCell ⟨T, 0, none⟩ (.string h1)).setCell ⟨T, 1, none⟩ (.int .i64 f1')).setCell ⟨M, 4, none⟩ (.int .i64 lo)) = WE := ⟨_, rfl⟩; have RWE : Rv WE T h1 f1' := (by rw [← hWE]; exact ((Rwa.grown (World.grownBy_alloc _ _ none) (by simp)).put h1 f1').far _ _ (by simp <;> omega)); have MWE : Mv 35 WE M c q 2 (.slice a6 n6 p6) lo 0 0 := (by rw [← hWE]; exact (((Mwa.grown (World.grownBy_alloc _ _ none) (by simp)).far _ _ (by simp <;> omega)).far _ _ (by simp <;> omega)).set4 _); have BWE : Mv 35 WE w.heap.size 0 0 0 (.slice none 0 0) 0 0 0 := (by rw [← hWE]; exact (((Bwa.grown (World.grownBy_alloc _ _ none) (by simp)).far _ _ (by simp <;> omega)).far _ _ (by simp <;> omega)).far _ _ (by simp <;> omega)); have bWE : Below w.heap.size w WE := (by rw [← hWE]; exact (((bbwa.alloc bbwa.size _).setCell (by simp <;> omega) _).setCell (by simp <;> omega) _).setCell (by simp <;> omega) _); have oWE : WE.ownsRow base 92 2 (.slice a6 n6 p6) n6 (flatP acc) := (by rw [← hWE]; exact row_far (row_far (row_far (World.ownsRow.alloc (row_belowR hrow bwa) _) _ _ (by simp <;> omega)) _ _ (by simp <;> omega)) _ _ (by simp <;> omega)); have t0 := RWE.cell0; have t1 := RWE.cell1; obtain ⟨n0, n1, n2, n3, n4, n5, n6'⟩ := MWE.cells)
                | (go_at_call 72; (with_reducible refine (CF.out WE).mono ?_); rintro en wb ⟨rfl, bwb⟩; have Rwb := RWE.below bwb; have Mwb := MWE.below bwb; have Bwb := BWE.below bwb; have bbwb := below_next bWE bwb; have Ra := Rwb.grown (World.grownBy_alloc wb (.cells #[.string h2, .int .i64 f2'] 114) none) (by simp); have Ma := Mwb.grown (World.grownBy_alloc wb (.cells #[.string h2, .int .i64 f2'] 114) none) (by simp); have r0 := Ra.cell0; have r1 := Ra.cell1; have r2 := Ra.free 0; have r3 := Ra.free 1; obtain ⟨m0, m1, m2, m3, m4, m5, m6⟩ := Ma.cells; have m7 := Ma.free1 5; clear Ra Ma; obtain ⟨WF, hWF⟩ : ∃ WF, ((((wb.alloc (.cells #[.string h2, .int .i64 f2'] 114)).setCell ⟨T, 0, none⟩ (.string h2)).setCell ⟨T, 1, none⟩ (.int .i64 f2')).setCell ⟨M, 5, none⟩ (.int .i64 hi)) = WF := ⟨_, rfl⟩; have RWF : Rv WF T h2 f2' := (by rw [← hWF]; exact ((Rwb.grown (World.grownBy_alloc _ _ none) (by simp)).put h2 f2').far _ _ (by simp <;> omega)); have MWF : Mv 35 WF M c q 2 (.slice a6 n6 p6) lo hi 0 := (by rw [← hWF]; exact (((Mwb.grown (World.grownBy_alloc _ _ none) (by simp)).far _ _ (by simp <;> omega)).far _ _ (by simp <;> omega)).set5 _); have BWF : Mv 35 WF w.heap.size 0 0 0 (.slice none 0 0) 0 0 0 := (by rw [← hWF]; exact (((Bwb.grown (World.grownBy_alloc _ _ none) (by simp)).far _ _ (by simp <;> omega)).far _ _ (by simp <;> omega)).far _ _ (by simp <;> omega)); have bWF : Below w.heap.size w WF := (by rw [← hWF]; exact (((bbwb.alloc bbwb.size _).setCell (by simp <;> omega) _).setCell (by simp <;> omega) _).setCell (by simp <;> omega) _); have oWF : WF.ownsRow base 92 2 (.slice a6 n6 p6) n6 (flatP acc) := (by rw [← hWF]; exact row_far (row_far (row_far (World.ownsRow.alloc (row_belowR oWE bwb) _) _ _ (by simp <;> omega)) _ _ (by simp <;> omega)) _ _ (by simp <;> omega)); have t0 := RWF.cell0; have t1 := RWF.cell1; obtain ⟨n0, n1, n2, n3, n4, n5, n6'⟩ := MWF.cells)
                | (go_at_call 74; (with_reducible refine (CX.out WF).mono ?_); rintro en wx ⟨rfl, bx⟩; have Rx := RWF.below bx; have Mx := MWF.below bx; have Bx := BWF.below bx; have bbx := below_next bWF bx; have ox := row_belowR oWF bx; have t0 := Rx.cell0; have t1 := Rx.cell1; obtain ⟨m0, m1, m2, m3, m4, m5, m6⟩ := Mx.cells; obtain ⟨x0, x1, x2, x3, x4, x5, x6⟩ := Bx.cells; obtain ⟨y0, y1, y2, y3, y4, y5, y6⟩ := Bx.free)
                | (go_at_call 17; (with_reducible refine (rcheck4_any c q 2 a6 n6 p6 acc lo hi 0 wx (Arg.of_own (ownsP_of_row ox hm.out.symm) hm.out.symm)).mono ?_); rw [hck.out]; rintro en wy ⟨rfl, by'⟩; have By := Bx.below by'; have My := Mx.below by'; have bby := below_next bbx by'; have oy := row_belowR ox by'; obtain ⟨m0, m1, m2, m3, m4, m5, m6⟩ := My.cells; obtain ⟨x0, x1, x2, x3, x4, x5, x6⟩ := By.cells; obtain ⟨y0, y1, y2, y3, y4, y5, y6⟩ := By.free))
              refine bodyPost_ret (v := .tuple #[.agg #[.int .i64 0, .int .i64 0, .int .i64 0, .slice none 0 0, .int .i64 0, .int .i64 0, .int .i64 0], .int .i64 3]) (by simp [results, Try.results30, go_sem, x0, x1, x2, x3, x4, x5, x6]; try rfl) rfl ?_
              rw [HF.out]
              exact ⟨none, 0, 0, rfl, Arg.nil0 _, (((((((bby.setCell (Nat.le_refl _) _).setCell (Nat.le_refl _) _).setCell (Nat.le_refl _) _).setCell (Nat.le_refl _) _).setCell (Nat.le_refl _) _).setCell (Nat.le_refl _) _).setCell (Nat.le_refl _) _)⟩
          · have HF := Lib.hid (show R = (⟨c, q, 2, acc, lo, hi, 0⟩, 0) by rw [HR]; unfold mFin; rw [if_pos h0, if_pos hc])
            have hck := Lib.hid hc
            clear HR hc
            replace h0 := Lib.hid h0
            rcases hcase with ⟨hkz, dd⟩ | hkz
            all_goals
              go_wp2_with (first
                | (go_at_call 72; (with_reducible refine (CE.out wr).mono ?_); rintro en wa ⟨rfl, bwa⟩; have Rwa := R1.below bwa; have Mwa := M1.below bwa; have Bwa := B1.below bwa; have bbwa := below_next hbl bwa; have Ra := Rwa.grown (World.grownBy_alloc wa (.cells #[.string h1, .int .i64 f1'] 114) none) (by simp); have Ma := Mwa.grown (World.grownBy_alloc wa (.cells #[.string h1, .int .i64 f1'] 114) none) (by simp); have r0 := Ra.cell0; have r1 := Ra.cell1; have r2 := Ra.free 0; have r3 := Ra.free 1; obtain ⟨m0, m1, m2, m3, m4, m5, m6⟩ := Ma.cells; have m7 := Ma.free1 4; clear Ra Ma; obtain ⟨WE, hWE⟩ : ∃ WE, ((((wa.alloc (.cells #[.string h1, .int .i64 f1'] 114)).setCell ⟨T, 0, none⟩ (.string h1)).setCell ⟨T, 1, none⟩ (.int .i64 f1')).setCell ⟨M, 4, none⟩ (.int .i64 lo)) = WE := ⟨_, rfl⟩; have RWE : Rv WE T h1 f1' := (by rw [← hWE]; exact ((Rwa.grown (World.grownBy_alloc _ _ none) (by simp)).put h1 f1').far _ _ (by simp <;> omega)); have MWE : Mv 35 WE M c q 2 (.slice a6 n6 p6) lo 0 0 := (by rw [← hWE]; exact (((Mwa.grown (World.grownBy_alloc _ _ none) (by simp)).far _ _ (by simp <;> omega)).far _ _ (by simp <;> omega)).set4 _); have BWE : Mv 35 WE w.heap.size 0 0 0 (.slice none 0 0) 0 0 0 := (by rw [← hWE]; exact (((Bwa.grown (World.grownBy_alloc _ _ none) (by simp)).far _ _ (by simp <;> omega)).far _ _ (by simp <;> omega)).far _ _ (by simp <;> omega)); have bWE : Below w.heap.size w WE := (by rw [← hWE]; exact (((bbwa.alloc bbwa.size _).setCell (by simp <;> omega) _).setCell (by simp <;> omega) _).setCell (by simp <;> omega) _); have oWE : WE.ownsRow base 92 2 (.slice a6 n6 p6) n6 (flatP acc) := (by rw [← hWE]; exact row_far (row_far (row_far (World.ownsRow.alloc (row_belowR hrow bwa) _) _ _ (by simp <;> omega)) _ _ (by simp <;> omega)) _ _ (by simp <;> omega)); have t0 := RWE.cell0; have t1 := RWE.cell1; obtain ⟨n0, n1, n2, n3, n4, n5, n6'⟩ := MWE.cells)
                | (go_at_call 72; (with_reducible refine (CF.out WE).mono ?_); rintro en wb ⟨rfl, bwb⟩; have Rwb := RWE.below bwb; have Mwb := MWE.below bwb; have Bwb := BWE.below bwb; have bbwb := below_next bWE bwb; have Ra := Rwb.grown (World.grownBy_alloc wb (.cells #[.string h2, .int .i64 f2'] 114) none) (by simp); have Ma := Mwb.grown (World.grownBy_alloc wb (.cells #[.string h2, .int .i64 f2'] 114) none) (by simp); have r0 := Ra.cell0; have r1 := Ra.cell1; have r2 := Ra.free 0; have r3 := Ra.free 1; obtain ⟨m0, m1, m2, m3, m4, m5, m6⟩ := Ma.cells; have m7 := Ma.free1 5; clear Ra Ma; obtain ⟨WF, hWF⟩ : ∃ WF, ((((wb.alloc (.cells #[.string h2, .int .i64 f2'] 114)).setCell ⟨T, 0, none⟩ (.string h2)).setCell ⟨T, 1, none⟩ (.int .i64 f2')).setCell ⟨M, 5, none⟩ (.int .i64 hi)) = WF := ⟨_, rfl⟩; have RWF : Rv WF T h2 f2' := (by rw [← hWF]; exact ((Rwb.grown (World.grownBy_alloc _ _ none) (by simp)).put h2 f2').far _ _ (by simp <;> omega)); have MWF : Mv 35 WF M c q 2 (.slice a6 n6 p6) lo hi 0 := (by rw [← hWF]; exact (((Mwb.grown (World.grownBy_alloc _ _ none) (by simp)).far _ _ (by simp <;> omega)).far _ _ (by simp <;> omega)).set5 _); have BWF : Mv 35 WF w.heap.size 0 0 0 (.slice none 0 0) 0 0 0 := (by rw [← hWF]; exact (((Bwb.grown (World.grownBy_alloc _ _ none) (by simp)).far _ _ (by simp <;> omega)).far _ _ (by simp <;> omega)).far _ _ (by simp <;> omega)); have bWF : Below w.heap.size w WF := (by rw [← hWF]; exact (((bbwb.alloc bbwb.size _).setCell (by simp <;> omega) _).setCell (by simp <;> omega) _).setCell (by simp <;> omega) _); have oWF : WF.ownsRow base 92 2 (.slice a6 n6 p6) n6 (flatP acc) := (by rw [← hWF]; exact row_far (row_far (row_far (World.ownsRow.alloc (row_belowR oWE bwb) _) _ _ (by simp <;> omega)) _ _ (by simp <;> omega)) _ _ (by simp <;> omega)); have t0 := RWF.cell0; have t1 := RWF.cell1; obtain ⟨n0, n1, n2, n3, n4, n5, n6'⟩ := MWF.cells)
                | (go_at_call 74; (with_reducible refine (CX.out WF).mono ?_); rintro en wx ⟨rfl, bx⟩; have Rx := RWF.below bx; have Mx := MWF.below bx; have Bx := BWF.below bx; have bbx := below_next bWF bx; have ox := row_belowR oWF bx; have t0 := Rx.cell0; have t1 := Rx.cell1; obtain ⟨m0, m1, m2, m3, m4, m5, m6⟩ := Mx.cells; obtain ⟨x0, x1, x2, x3, x4, x5, x6⟩ := Bx.cells; obtain ⟨y0, y1, y2, y3, y4, y5, y6⟩ := Bx.free)
                | (go_at_call 17; (with_reducible refine (rcheck4_any c q 2 a6 n6 p6 acc lo hi 0 wx (Arg.of_own (ownsP_of_row ox hm.out.symm) hm.out.symm)).mono ?_); rw [hck.out]; rintro en wy ⟨rfl, by'⟩; have By := Bx.below by'; have My := Mx.below by'; have bby := below_next bbx by'; have oy := row_belowR ox by'; obtain ⟨m0, m1, m2, m3, m4, m5, m6⟩ := My.cells; obtain ⟨x0, x1, x2, x3, x4, x5, x6⟩ := By.cells; obtain ⟨y0, y1, y2, y3, y4, y5, y6⟩ := By.free))
              have oF := row_far (row_far (row_far (row_far (row_far (row_far (row_far oy ⟨w.heap.size, 0, none⟩ (.int .i64 c) (by simp <;> omega)) ⟨w.heap.size, 1, none⟩ (.int .i64 q) (by simp <;> omega)) ⟨w.heap.size, 2, none⟩ (.int .i64 2) (by simp <;> omega)) ⟨w.heap.size, 3, none⟩ (.slice a6 n6 p6) (by simp <;> omega)) ⟨w.heap.size, 4, none⟩ (.int .i64 lo) (by simp <;> omega)) ⟨w.heap.size, 5, none⟩ (.int .i64 hi) (by simp <;> omega)) ⟨w.heap.size, 6, none⟩ (.int .i64 0) (by simp <;> omega)
              refine bodyPost_ret (v := .tuple #[.agg #[.int .i64 c, .int .i64 q, .int .i64 2, .slice a6 n6 p6, .int .i64 lo, .int .i64 hi, .int .i64 0], .int .i64 0]) (by simp [results, Try.results30, go_sem, x0, x1, x2, x3, x4, x5, x6]; try rfl) rfl ?_
              rw [HF.out]
              exact ⟨a6, n6, p6, rfl, Arg.of_own (ownsP_of_row oF hm.out.symm) hm.out.symm, (((((((bby.setCell (Nat.le_refl _) _).setCell (Nat.le_refl _) _).setCell (Nat.le_refl _) _).setCell (Nat.le_refl _) _).setCell (Nat.le_refl _) _).setCell (Nat.le_refl _) _).setCell (Nat.le_refl _) _)⟩
        · have d1 : (x != 0) = true := by simpa using h0
          have HF := Lib.hid (show R = (noM, x) by rw [HR]; unfold mFin; rw [if_neg h0])
          clear HR
          replace h0 := Lib.hid h0
          rcases hcase with ⟨hkz, dd⟩ | hkz
          all_goals
            go_wp2_with (first
              | (go_at_call 72; (with_reducible refine (CE.out wr).mono ?_); rintro en wa ⟨rfl, bwa⟩; have Rwa := R1.below bwa; have Mwa := M1.below bwa; have Bwa := B1.below bwa; have bbwa := below_next hbl bwa; have Ra := Rwa.grown (World.grownBy_alloc wa (.cells #[.string h1, .int .i64 f1'] 114) none) (by simp); have Ma := Mwa.grown (World.grownBy_alloc wa (.cells #[.string h1, .int .i64 f1'] 114) none) (by simp); have r0 := Ra.cell0; have r1 := Ra.cell1; have r2 := Ra.free 0; have r3 := Ra.free 1; obtain ⟨m0, m1, m2, m3, m4, m5, m6⟩ := Ma.cells; have m7 := Ma.free1 4; clear Ra Ma; obtain ⟨WE, hWE⟩ : ∃ WE, ((((wa.alloc (.cells #[.string h1, .int .i64 f1'] 114)).setCell ⟨T, 0, none⟩ (.string h1)).setCell ⟨T, 1, none⟩ (.int .i64 f1')).setCell ⟨M, 4, none⟩ (.int .i64 lo)) = WE := ⟨_, rfl⟩; have RWE : Rv WE T h1 f1' := (by rw [← hWE]; exact ((Rwa.grown (World.grownBy_alloc _ _ none) (by simp)).put h1 f1').far _ _ (by simp <;> omega)); have MWE : Mv 35 WE M c q 2 (.slice a6 n6 p6) lo 0 0 := (by rw [← hWE]; exact (((Mwa.grown (World.grownBy_alloc _ _ none) (by simp)).far _ _ (by simp <;> omega)).far _ _ (by simp <;> omega)).set4 _); have BWE : Mv 35 WE w.heap.size 0 0 0 (.slice none 0 0) 0 0 0 := (by rw [← hWE]; exact (((Bwa.grown (World.grownBy_alloc _ _ none) (by simp)).far _ _ (by simp <;> omega)).far _ _ (by simp <;> omega)).far _ _ (by simp <;> omega)); have bWE : Below w.heap.size w WE := (by rw [← hWE]; exact (((bbwa.alloc bbwa.size _).setCell (by simp <;> omega) _).setCell (by simp <;> omega) _).setCell (by simp <;> omega) _); have oWE : WE.ownsRow base 92 2 (.slice a6 n6 p6) n6 (flatP acc) := (by rw [← hWE]; exact row_far (row_far (row_far (World.ownsRow.alloc (row_belowR hrow bwa) _) _ _ (by simp <;> omega)) _ _ (by simp <;> omega)) _ _ (by simp <;> omega)); have t0 := RWE.cell0; have t1 := RWE.cell1; obtain ⟨n0, n1, n2, n3, n4, n5, n6'⟩ := MWE.cells)
              | (go_at_call 72; (with_reducible refine (CF.out WE).mono ?_); rintro en wb ⟨rfl, bwb⟩; have Rwb := RWE.below bwb; have Mwb := MWE.below bwb; have Bwb := BWE.below bwb; have bbwb := below_next bWE bwb; have Ra := Rwb.grown (World.grownBy_alloc wb (.cells #[.string h2, .int .i64 f2'] 114) none) (by simp); have Ma := Mwb.grown (World.grownBy_alloc wb (.cells #[.string h2, .int .i64 f2'] 114) none) (by simp); have r0 := Ra.cell0; have r1 := Ra.cell1; have r2 := Ra.free 0; have r3 := Ra.free 1; obtain ⟨m0, m1, m2, m3, m4, m5, m6⟩ := Ma.cells; have m7 := Ma.free1 5; clear Ra Ma; obtain ⟨WF, hWF⟩ : ∃ WF, ((((wb.alloc (.cells #[.string h2, .int .i64 f2'] 114)).setCell ⟨T, 0, none⟩ (.string h2)).setCell ⟨T, 1, none⟩ (.int .i64 f2')).setCell ⟨M, 5, none⟩ (.int .i64 hi)) = WF := ⟨_, rfl⟩; have RWF : Rv WF T h2 f2' := (by rw [← hWF]; exact ((Rwb.grown (World.grownBy_alloc _ _ none) (by simp)).put h2 f2').far _ _ (by simp <;> omega)); have MWF : Mv 35 WF M c q 2 (.slice a6 n6 p6) lo hi 0 := (by rw [← hWF]; exact (((Mwb.grown (World.grownBy_alloc _ _ none) (by simp)).far _ _ (by simp <;> omega)).far _ _ (by simp <;> omega)).set5 _); have BWF : Mv 35 WF w.heap.size 0 0 0 (.slice none 0 0) 0 0 0 := (by rw [← hWF]; exact (((Bwb.grown (World.grownBy_alloc _ _ none) (by simp)).far _ _ (by simp <;> omega)).far _ _ (by simp <;> omega)).far _ _ (by simp <;> omega)); have bWF : Below w.heap.size w WF := (by rw [← hWF]; exact (((bbwb.alloc bbwb.size _).setCell (by simp <;> omega) _).setCell (by simp <;> omega) _).setCell (by simp <;> omega) _); have oWF : WF.ownsRow base 92 2 (.slice a6 n6 p6) n6 (flatP acc) := (by rw [← hWF]; exact row_far (row_far (row_far (World.ownsRow.alloc (row_belowR oWE bwb) _) _ _ (by simp <;> omega)) _ _ (by simp <;> omega)) _ _ (by simp <;> omega)); have t0 := RWF.cell0; have t1 := RWF.cell1; obtain ⟨n0, n1, n2, n3, n4, n5, n6'⟩ := MWF.cells)
              | (go_at_call 74; (with_reducible refine (CX.out WF).mono ?_); rintro en wx ⟨rfl, bx⟩; have Rx := RWF.below bx; have Mx := MWF.below bx; have Bx := BWF.below bx; have bbx := below_next bWF bx; have ox := row_belowR oWF bx; have t0 := Rx.cell0; have t1 := Rx.cell1; obtain ⟨m0, m1, m2, m3, m4, m5, m6⟩ := Mx.cells; obtain ⟨x0, x1, x2, x3, x4, x5, x6⟩ := Bx.cells; obtain ⟨y0, y1, y2, y3, y4, y5, y6⟩ := Bx.free)
              | (go_at_call 74; (with_reducible refine (CX.out wx).mono ?_); rintro en wy ⟨rfl, by'⟩; have By := Bx.below by'; have bby := below_next bbx by'; obtain ⟨x0, x1, x2, x3, x4, x5, x6⟩ := By.cells; obtain ⟨y0, y1, y2, y3, y4, y5, y6⟩ := By.free))
            refine bodyPost_ret (v := .tuple #[.agg #[.int .i64 0, .int .i64 0, .int .i64 0, .slice none 0 0, .int .i64 0, .int .i64 0, .int .i64 0], .int .i64 x]) (by simp [results, Try.results30, go_sem, x0, x1, x2, x3, x4, x5, x6]; try rfl) rfl ?_
            rw [HF.out]
            exact ⟨none, 0, 0, rfl, Arg.nil0 _, (((((((bby.setCell (Nat.le_refl _) _).setCell (Nat.le_refl _) _).setCell (Nat.le_refl _) _).setCell (Nat.le_refl _) _).setCell (Nat.le_refl _) _).setCell (Nat.le_refl _) _).setCell (Nat.le_refl _) _)⟩
      · by_cases hk4 : k = 4
        · subst hk4
          obtain ⟨old, h2, f2', hE⟩ : ∃ x s9 e9, rWhole t e2 = (x, s9, e9) := ⟨_, _, _, rfl⟩
          have CE : Hid (∀ W, Calls Try.prog 73 #[rdV t e2] W (RdNumPost (old, h2, f2') W)) := Lib.hid fun W => by have := refWholeR_any t e2 W (by omega); rw [hE] at this; exact this
          have HR := HR2 _ _ _ _ _ (mTail_4 hE)
          clear hE HR2
          obtain ⟨x, hx⟩ : ∃ x, rEnd h2 f2' = x := ⟨_, rfl⟩
          have CX : Hid (∀ W, Calls Try.prog 74 #[rdV h2 f2'] W fun en w' => en = .returned (.int .i64 x) ∧ Below W.heap.size W w') := Lib.hid fun W => hx ▸ refEndR_any h2 f2' W
          rw [hx] at HR
          replace hx := Lib.hid hx
          by_cases h0 : x = 0
          · have d1 : (x != 0) = false := by simpa using h0
            cases hc : chkM c q 4 acc 0 0 old
            · have HF := Lib.hid (show R = (noM, 3) by rw [HR]; unfold mFin; rw [if_pos h0, if_neg (by rw [hc]; simp)])
              have hck := Lib.hid hc
              clear HR hc
              replace h0 := Lib.hid h0
              rcases hcase with ⟨hkz, dd⟩ | hkz
              all_goals
                go_wp2_with (first
                  | (go_at_call 73; (with_reducible refine (CE.out wr).mono ?_); rintro en wa ⟨rfl, bwa⟩; have Rwa := R1.below bwa; have Mwa := M1.below bwa; have Bwa := B1.below bwa; have bbwa := below_next hbl bwa; have Ra := Rwa.grown (World.grownBy_alloc wa (.cells #[.string h2, .int .i64 f2'] 114) none) (by simp); have Ma := Mwa.grown (World.grownBy_alloc wa (.cells #[.string h2, .int .i64 f2'] 114) none) (by simp); have r0 := Ra.cell0; have r1 := Ra.cell1; have r2 := Ra.free 0; have r3 := Ra.free 1; obtain ⟨m0, m1, m2, m3, m4, m5, m6⟩ := Ma.cells; have m7 := Ma.free1 6; clear Ra Ma; obtain ⟨WF, hWF⟩ : ∃ WF, ((((wa.alloc (.cells #[.string h2, .int .i64 f2'] 114)).setCell ⟨T, 0, none⟩ (.string h2)).setCell ⟨T, 1, none⟩ (.int .i64 f2')).setCell ⟨M, 6, none⟩ (.int .i64 old)) = WF := ⟨_, rfl⟩; have RWF : Rv WF T h2 f2' := (by rw [← hWF]; exact ((Rwa.grown (World.grownBy_alloc _ _ none) (by simp)).put h2 f2').far _ _ (by simp <;> omega)); have MWF : Mv 35 WF M c q 4 (.slice a6 n6 p6) 0 0 old := (by rw [← hWF]; exact (((Mwa.grown (World.grownBy_alloc _ _ none) (by simp)).far _ _ (by simp <;> omega)).far _ _ (by simp <;> omega)).set6 _); have BWF : Mv 35 WF w.heap.size 0 0 0 (.slice none 0 0) 0 0 0 := (by rw [← hWF]; exact (((Bwa.grown (World.grownBy_alloc _ _ none) (by simp)).far _ _ (by simp <;> omega)).far _ _ (by simp <;> omega)).far _ _ (by simp <;> omega)); have bWF : Below w.heap.size w WF := (by rw [← hWF]; exact (((bbwa.alloc bbwa.size _).setCell (by simp <;> omega) _).setCell (by simp <;> omega) _).setCell (by simp <;> omega) _); have oWF : WF.ownsRow base 92 2 (.slice a6 n6 p6) n6 (flatP acc) := (by rw [← hWF]; exact row_far (row_far (row_far (World.ownsRow.alloc (row_belowR hrow bwa) _) _ _ (by simp <;> omega)) _ _ (by simp <;> omega)) _ _ (by simp <;> omega)); have t0 := RWF.cell0; have t1 := RWF.cell1; obtain ⟨n0, n1, n2, n3, n4, n5, n6'⟩ := MWF.cells)
                  | (go_at_call 74; (with_reducible refine (CX.out WF).mono ?_); rintro en wx ⟨rfl, bx⟩; have Rx := RWF.below bx; have Mx := MWF.below bx; have Bx := BWF.below bx; have bbx := below_next bWF bx; have ox := row_belowR oWF bx; have t0 := Rx.cell0; have t1 := Rx.cell1; obtain ⟨m0, m1, m2, m3, m4, m5, m6⟩ := Mx.cells; obtain ⟨x0, x1, x2, x3, x4, x5, x6⟩ := Bx.cells; obtain ⟨y0, y1, y2, y3, y4, y5, y6⟩ := Bx.free)
                  | (go_at_call 17; (with_reducible refine (rcheck4_any c q 4 a6 n6 p6 acc 0 0 old wx (Arg.of_own (ownsP_of_row ox hm.out.symm) hm.out.symm)).mono ?_); rw [hck.out]; rintro en wy ⟨rfl, by'⟩; have By := Bx.below by'; have My := Mx.below by'; have bby := below_next bbx by'; have oy := row_belowR ox by'; obtain ⟨m0, m1, m2, m3, m4, m5, m6⟩ := My.cells; obtain ⟨x0, x1, x2, x3, x4, x5, x6⟩ := By.cells; obtain ⟨y0, y1, y2, y3, y4, y5, y6⟩ := By.free))
                refine bodyPost_ret (v := .tuple #[.agg #[.int .i64 0, .int .i64 0, .int .i64 0, .slice none 0 0, .int .i64 0, .int .i64 0, .int .i64 0], .int .i64 3]) (by simp [results, Try.results30, go_sem, x0, x1, x2, x3, x4, x5, x6]; try rfl) rfl ?_
                rw [HF.out]
                exact ⟨none, 0, 0, rfl, Arg.nil0 _, (((((((bby.setCell (Nat.le_refl _) _).setCell (Nat.le_refl _) _).setCell (Nat.le_refl _) _).setCell (Nat.le_refl _) _).setCell (Nat.le_refl _) _).setCell (Nat.le_refl _) _).setCell (Nat.le_refl _) _)⟩
            · have HF := Lib.hid (show R = (⟨c, q, 4, acc, 0, 0, old⟩, 0) by rw [HR]; unfold mFin; rw [if_pos h0, if_pos hc])
              have hck := Lib.hid hc
              clear HR hc
              replace h0 := Lib.hid h0
              rcases hcase with ⟨hkz, dd⟩ | hkz
              all_goals
                go_wp2_with (first
                  | (go_at_call 73; (with_reducible refine (CE.out wr).mono ?_); rintro en wa ⟨rfl, bwa⟩; have Rwa := R1.below bwa; have Mwa := M1.below bwa; have Bwa := B1.below bwa; have bbwa := below_next hbl bwa; have Ra := Rwa.grown (World.grownBy_alloc wa (.cells #[.string h2, .int .i64 f2'] 114) none) (by simp); have Ma := Mwa.grown (World.grownBy_alloc wa (.cells #[.string h2, .int .i64 f2'] 114) none) (by simp); have r0 := Ra.cell0; have r1 := Ra.cell1; have r2 := Ra.free 0; have r3 := Ra.free 1; obtain ⟨m0, m1, m2, m3, m4, m5, m6⟩ := Ma.cells; have m7 := Ma.free1 6; clear Ra Ma; obtain ⟨WF, hWF⟩ : ∃ WF, ((((wa.alloc (.cells #[.string h2, .int .i64 f2'] 114)).setCell ⟨T, 0, none⟩ (.string h2)).setCell ⟨T, 1, none⟩ (.int .i64 f2')).setCell ⟨M, 6, none⟩ (.int .i64 old)) = WF := ⟨_, rfl⟩; have RWF : Rv WF T h2 f2' := (by rw [← hWF]; exact ((Rwa.grown (World.grownBy_alloc _ _ none) (by simp)).put h2 f2').far _ _ (by simp <;> omega)); have MWF : Mv 35 WF M c q 4 (.slice a6 n6 p6) 0 0 old := (by rw [← hWF]; exact (((Mwa.grown (World.grownBy_alloc _ _ none) (by simp)).far _ _ (by simp <;> omega)).far _ _ (by simp <;> omega)).set6 _); have BWF : Mv 35 WF w.heap.size 0 0 0 (.slice none 0 0) 0 0 0 := (by rw [← hWF]; exact (((Bwa.grown (World.grownBy_alloc _ _ none) (by simp)).far _ _ (by simp <;> omega)).far _ _ (by simp <;> omega)).far _ _ (by simp <;> omega)); have bWF : Below w.heap.size w WF := (by rw [← hWF]; exact (((bbwa.alloc bbwa.size _).setCell (by simp <;> omega) _).setCell (by simp <;> omega) _).setCell (by simp <;> omega) _); have oWF : WF.ownsRow base 92 2 (.slice a6 n6 p6) n6 (flatP acc) := (by rw [← hWF]; exact row_far (row_far (row_far (World.ownsRow.alloc (row_belowR hrow bwa) _) _ _ (by simp <;> omega)) _ _ (by simp <;> omega)) _ _ (by simp <;> omega)); have t0 := RWF.cell0; have t1 := RWF.cell1; obtain ⟨n0, n1, n2, n3, n4, n5, n6'⟩ := MWF.cells)
                  | (go_at_call 74; (with_reducible refine (CX.out WF).mono ?_); rintro en wx ⟨rfl, bx⟩; have Rx := RWF.below bx; have Mx := MWF.below bx; have Bx := BWF.below bx; have bbx := below_next bWF bx; have ox := row_belowR oWF bx; have t0 := Rx.cell0; have t1 := Rx.cell1; obtain ⟨m0, m1, m2, m3, m4, m5, m6⟩ := Mx.cells; obtain ⟨x0, x1, x2, x3, x4, x5, x6⟩ := Bx.cells; obtain ⟨y0, y1, y2, y3, y4, y5, y6⟩ := Bx.free)
                  | (go_at_call 17; (with_reducible refine (rcheck4_any c q 4 a6 n6 p6 acc 0 0 old wx (Arg.of_own (ownsP_of_row ox hm.out.symm) hm.out.symm)).mono ?_); rw [hck.out]; rintro en wy ⟨rfl, by'⟩; have By := Bx.below by'; have My := Mx.below by'; have bby := below_next bbx by'; have oy := row_belowR ox by'; obtain ⟨m0, m1, m2, m3, m4, m5, m6⟩ := My.cells; obtain ⟨x0, x1, x2, x3, x4, x5, x6⟩ := By.cells; obtain ⟨y0, y1, y2, y3, y4, y5, y6⟩ := By.free))
                have oF := row_far (row_far (row_far (row_far (row_far (row_far (row_far oy ⟨w.heap.size, 0, none⟩ (.int .i64 c) (by simp <;> omega)) ⟨w.heap.size, 1, none⟩ (.int .i64 q) (by simp <;> omega)) ⟨w.heap.size, 2, none⟩ (.int .i64 4) (by simp <;> omega)) ⟨w.heap.size, 3, none⟩ (.slice a6 n6 p6) (by simp <;> omega)) ⟨w.heap.size, 4, none⟩ (.int .i64 0) (by simp <;> omega)) ⟨w.heap.size, 5, none⟩ (.int .i64 0) (by simp <;> omega)) ⟨w.heap.size, 6, none⟩ (.int .i64 old) (by simp <;> omega)
                refine bodyPost_ret (v := .tuple #[.agg #[.int .i64 c, .int .i64 q, .int .i64 4, .slice a6 n6 p6, .int .i64 0, .int .i64 0, .int .i64 old], .int .i64 0]) (by simp [results, Try.results30, go_sem, x0, x1, x2, x3, x4, x5, x6]; try rfl) rfl ?_
                rw [HF.out]
                exact ⟨a6, n6, p6, rfl, Arg.of_own (ownsP_of_row oF hm.out.symm) hm.out.symm, (((((((bby.setCell (Nat.le_refl _) _).setCell (Nat.le_refl _) _).setCell (Nat.le_refl _) _).setCell (Nat.le_refl _) _).setCell (Nat.le_refl _) _).setCell (Nat.le_refl _) _).setCell (Nat.le_refl _) _)⟩
          · have d1 : (x != 0) = true := by simpa using h0
            have HF := Lib.hid (show R = (noM, x) by rw [HR]; unfold mFin; rw [if_neg h0])
            clear HR
            replace h0 := Lib.hid h0
            rcases hcase with ⟨hkz, dd⟩ | hkz
            all_goals
              go_wp2_with (first
                | (go_at_call 73; (with_reducible refine (CE.out wr).mono ?_); rintro en wa ⟨rfl, bwa⟩; have Rwa := R1.below bwa; have Mwa := M1.below bwa; have Bwa := B1.below bwa; have bbwa := below_next hbl bwa; have Ra := Rwa.grown (World.grownBy_alloc wa (.cells #[.string h2, .int .i64 f2'] 114) none) (by simp); have Ma := Mwa.grown (World.grownBy_alloc wa (.cells #[.string h2, .int .i64 f2'] 114) none) (by simp); have r0 := Ra.cell0; have r1 := Ra.cell1; have r2 := Ra.free 0; have r3 := Ra.free 1; obtain ⟨m0, m1, m2, m3, m4, m5, m6⟩ := Ma.cells; have m7 := Ma.free1 6; clear Ra Ma; obtain ⟨WF, hWF⟩ : ∃ WF, ((((wa.alloc (.cells #[.string h2, .int .i64 f2'] 114)).setCell ⟨T, 0, none⟩ (.string h2)).setCell ⟨T, 1, none⟩ (.int .i64 f2')).setCell ⟨M, 6, none⟩ (.int .i64 old)) = WF := ⟨_, rfl⟩; have RWF : Rv WF T h2 f2' := (by rw [← hWF]; exact ((Rwa.grown (World.grownBy_alloc _ _ none) (by simp)).put h2 f2').far _ _ (by simp <;> omega)); have MWF : Mv 35 WF M c q 4 (.slice a6 n6 p6) 0 0 old := (by rw [← hWF]; exact (((Mwa.grown (World.grownBy_alloc _ _ none) (by simp)).far _ _ (by simp <;> omega)).far _ _ (by simp <;> omega)).set6 _); have BWF : Mv 35 WF w.heap.size 0 0 0 (.slice none 0 0) 0 0 0 := (by rw [← hWF]; exact (((Bwa.grown (World.grownBy_alloc _ _ none) (by simp)).far _ _ (by simp <;> omega)).far _ _ (by simp <;> omega)).far _ _ (by simp <;> omega)); have bWF : Below w.heap.size w WF := (by rw [← hWF]; exact (((bbwa.alloc bbwa.size _).setCell (by simp <;> omega) _).setCell (by simp <;> omega) _).setCell (by simp <;> omega) _); have oWF : WF.ownsRow base 92 2 (.slice a6 n6 p6) n6 (flatP acc) := (by rw [← hWF]; exact row_far (row_far (row_far (World.ownsRow.alloc (row_belowR hrow bwa) _) _ _ (by simp <;> omega)) _ _ (by simp <;> omega)) _ _ (by simp <;> omega)); have t0 := RWF.cell0; have t1 := RWF.cell1; obtain ⟨n0, n1, n2, n3, n4, n5, n6'⟩ := MWF.cells)
                | (go_at_call 74; (with_reducible refine (CX.out WF).mono ?_); rintro en wx ⟨rfl, bx⟩; have Rx := RWF.below bx; have Mx := MWF.below bx; have Bx := BWF.below bx; have bbx := below_next bWF bx; have ox := row_belowR oWF bx; have t0 := Rx.cell0; have t1 := Rx.cell1; obtain ⟨m0, m1, m2, m3, m4, m5, m6⟩ := Mx.cells; obtain ⟨x0, x1, x2, x3, x4, x5, x6⟩ := Bx.cells; obtain ⟨y0, y1, y2, y3, y4, y5, y6⟩ := Bx.free)
                | (go_at_call 74; (with_reducible refine (CX.out wx).mono ?_); rintro en wy ⟨rfl, by'⟩; have By := Bx.below by'; have bby := below_next bbx by'; obtain ⟨x0, x1, x2, x3, x4, x5, x6⟩ := By.cells; obtain ⟨y0, y1, y2, y3, y4, y5, y6⟩ := By.free))
              refine bodyPost_ret (v := .tuple #[.agg #[.int .i64 0, .int .i64 0, .int .i64 0, .slice none 0 0, .int .i64 0, .int .i64 0, .int .i64 0], .int .i64 x]) (by simp [results, Try.results30, go_sem, x0, x1, x2, x3, x4, x5, x6]; try rfl) rfl ?_
              rw [HF.out]
              exact ⟨none, 0, 0, rfl, Arg.nil0 _, (((((((bby.setCell (Nat.le_refl _) _).setCell (Nat.le_refl _) _).setCell (Nat.le_refl _) _).setCell (Nat.le_refl _) _).setCell (Nat.le_refl _) _).setCell (Nat.le_refl _) _).setCell (Nat.le_refl _) _)⟩
        · skip
          have HR := HR2 _ _ _ _ _ (mTail_0 t e2 hk2 hk4)
          have hk2b : (k == 2) = false := by simpa using hk2
          have hk4b : (k == 4) = false := by simpa using hk4
          clear HR2 hk2 hk4
          obtain ⟨x, hx⟩ : ∃ x, rEnd t e2 = x := ⟨_, rfl⟩
          have CX : Hid (∀ W, Calls Try.prog 74 #[rdV t e2] W fun en w' => en = .returned (.int .i64 x) ∧ Below W.heap.size W w') := Lib.hid fun W => hx ▸ refEndR_any t e2 W
          rw [hx] at HR
          replace hx := Lib.hid hx
          by_cases h0 : x = 0
          · have d1 : (x != 0) = false := by simpa using h0
            cases hc : chkM c q k acc 0 0 0
            · have HF := Lib.hid (show R = (noM, 3) by rw [HR]; unfold mFin; rw [if_pos h0, if_neg (by rw [hc]; simp)])
              have hck := Lib.hid hc
              clear HR hc
              replace h0 := Lib.hid h0
              rcases hcase with ⟨hkz, dd⟩ | hkz
              all_goals
                go_wp2_with (first
                  | (go_at_call 74; (with_reducible refine (CX.out wr).mono ?_); rintro en wx ⟨rfl, bx⟩; have Rx := R1.below bx; have Mx := M1.below bx; have Bx := B1.below bx; have bbx := below_next hbl bx; have ox := row_belowR hrow bx; have t0 := Rx.cell0; have t1 := Rx.cell1; obtain ⟨m0, m1, m2, m3, m4, m5, m6⟩ := Mx.cells; obtain ⟨x0, x1, x2, x3, x4, x5, x6⟩ := Bx.cells; obtain ⟨y0, y1, y2, y3, y4, y5, y6⟩ := Bx.free)
                  | (go_at_call 17; (with_reducible refine (rcheck4_any c q k a6 n6 p6 acc 0 0 0 wx (Arg.of_own (ownsP_of_row ox hm.out.symm) hm.out.symm)).mono ?_); rw [hck.out]; rintro en wy ⟨rfl, by'⟩; have By := Bx.below by'; have My := Mx.below by'; have bby := below_next bbx by'; have oy := row_belowR ox by'; obtain ⟨m0, m1, m2, m3, m4, m5, m6⟩ := My.cells; obtain ⟨x0, x1, x2, x3, x4, x5, x6⟩ := By.cells; obtain ⟨y0, y1, y2, y3, y4, y5, y6⟩ := By.free))
                refine bodyPost_ret (v := .tuple #[.agg #[.int .i64 0, .int .i64 0, .int .i64 0, .slice none 0 0, .int .i64 0, .int .i64 0, .int .i64 0], .int .i64 3]) (by simp [results, Try.results30, go_sem, x0, x1, x2, x3, x4, x5, x6]; try rfl) rfl ?_
                rw [HF.out]
                exact ⟨none, 0, 0, rfl, Arg.nil0 _, (((((((bby.setCell (Nat.le_refl _) _).setCell (Nat.le_refl _) _).setCell (Nat.le_refl _) _).setCell (Nat.le_refl _) _).setCell (Nat.le_refl _) _).setCell (Nat.le_refl _) _).setCell (Nat.le_refl _) _)⟩
            · have HF := Lib.hid (show R = (⟨c, q, k, acc, 0, 0, 0⟩, 0) by rw [HR]; unfold mFin; rw [if_pos h0, if_pos hc])
              have hck := Lib.hid hc
              clear HR hc
              replace h0 := Lib.hid h0
              rcases hcase with ⟨hkz, dd⟩ | hkz
              all_goals
                go_wp2_with (first
                  | (go_at_call 74; (with_reducible refine (CX.out wr).mono ?_); rintro en wx ⟨rfl, bx⟩; have Rx := R1.below bx; have Mx := M1.below bx; have Bx := B1.below bx; have bbx := below_next hbl bx; have ox := row_belowR hrow bx; have t0 := Rx.cell0; have t1 := Rx.cell1; obtain ⟨m0, m1, m2, m3, m4, m5, m6⟩ := Mx.cells; obtain ⟨x0, x1, x2, x3, x4, x5, x6⟩ := Bx.cells; obtain ⟨y0, y1, y2, y3, y4, y5, y6⟩ := Bx.free)
                  | (go_at_call 17; (with_reducible refine (rcheck4_any c q k a6 n6 p6 acc 0 0 0 wx (Arg.of_own (ownsP_of_row ox hm.out.symm) hm.out.symm)).mono ?_); rw [hck.out]; rintro en wy ⟨rfl, by'⟩; have By := Bx.below by'; have My := Mx.below by'; have bby := below_next bbx by'; have oy := row_belowR ox by'; obtain ⟨m0, m1, m2, m3, m4, m5, m6⟩ := My.cells; obtain ⟨x0, x1, x2, x3, x4, x5, x6⟩ := By.cells; obtain ⟨y0, y1, y2, y3, y4, y5, y6⟩ := By.free))
                have oF := row_far (row_far (row_far (row_far (row_far (row_far (row_far oy ⟨w.heap.size, 0, none⟩ (.int .i64 c) (by simp <;> omega)) ⟨w.heap.size, 1, none⟩ (.int .i64 q) (by simp <;> omega)) ⟨w.heap.size, 2, none⟩ (.int .i64 k) (by simp <;> omega)) ⟨w.heap.size, 3, none⟩ (.slice a6 n6 p6) (by simp <;> omega)) ⟨w.heap.size, 4, none⟩ (.int .i64 0) (by simp <;> omega)) ⟨w.heap.size, 5, none⟩ (.int .i64 0) (by simp <;> omega)) ⟨w.heap.size, 6, none⟩ (.int .i64 0) (by simp <;> omega)
                refine bodyPost_ret (v := .tuple #[.agg #[.int .i64 c, .int .i64 q, .int .i64 k, .slice a6 n6 p6, .int .i64 0, .int .i64 0, .int .i64 0], .int .i64 0]) (by simp [results, Try.results30, go_sem, x0, x1, x2, x3, x4, x5, x6]; try rfl) rfl ?_
                rw [HF.out]
                exact ⟨a6, n6, p6, rfl, Arg.of_own (ownsP_of_row oF hm.out.symm) hm.out.symm, (((((((bby.setCell (Nat.le_refl _) _).setCell (Nat.le_refl _) _).setCell (Nat.le_refl _) _).setCell (Nat.le_refl _) _).setCell (Nat.le_refl _) _).setCell (Nat.le_refl _) _).setCell (Nat.le_refl _) _)⟩
          · have d1 : (x != 0) = true := by simpa using h0
            have HF := Lib.hid (show R = (noM, x) by rw [HR]; unfold mFin; rw [if_neg h0])
            clear HR
            replace h0 := Lib.hid h0
            rcases hcase with ⟨hkz, dd⟩ | hkz
            all_goals
              go_wp2_with (first
                | (go_at_call 74; (with_reducible refine (CX.out wr).mono ?_); rintro en wx ⟨rfl, bx⟩; have Rx := R1.below bx; have Mx := M1.below bx; have Bx := B1.below bx; have bbx := below_next hbl bx; have ox := row_belowR hrow bx; have t0 := Rx.cell0; have t1 := Rx.cell1; obtain ⟨m0, m1, m2, m3, m4, m5, m6⟩ := Mx.cells; obtain ⟨x0, x1, x2, x3, x4, x5, x6⟩ := Bx.cells; obtain ⟨y0, y1, y2, y3, y4, y5, y6⟩ := Bx.free)
                | (go_at_call 74; (with_reducible refine (CX.out wx).mono ?_); rintro en wy ⟨rfl, by'⟩; have By := Bx.below by'; have bby := below_next bbx by'; obtain ⟨x0, x1, x2, x3, x4, x5, x6⟩ := By.cells; obtain ⟨y0, y1, y2, y3, y4, y5, y6⟩ := By.free))
              refine bodyPost_ret (v := .tuple #[.agg #[.int .i64 0, .int .i64 0, .int .i64 0, .slice none 0 0, .int .i64 0, .int .i64 0, .int .i64 0], .int .i64 x]) (by simp [results, Try.results30, go_sem, x0, x1, x2, x3, x4, x5, x6]; try rfl) rfl ?_
              rw [HF.out]
              exact ⟨none, 0, 0, rfl, Arg.nil0 _, (((((((bby.setCell (Nat.le_refl _) _).setCell (Nat.le_refl _) _).setCell (Nat.le_refl _) _).setCell (Nat.le_refl _) _).setCell (Nat.le_refl _) _).setCell (Nat.le_refl _) _).setCell (Nat.le_refl _) _)⟩
end Go.Proofs.Ytfpgelobddglaaa
