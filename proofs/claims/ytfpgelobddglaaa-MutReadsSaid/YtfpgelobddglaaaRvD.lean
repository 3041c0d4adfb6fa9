/-
  CONTRACT: mut.readPairs.
-/
import Derived.Test.YtfpgelobddglaaaRtM
namespace Go.Proofs.Ytfpgelobddglaaa
open Go.RowKit Go.Shelf

def cPairs (s : ByteArray) (e : Int) : List Sp × ByteArray × Int := cPs 8 (rNum s e).1.toNat [] (rNum s e).2.1 (rNum s e).2.2
set_option maxRecDepth 100000 in
set_option maxHeartbeats 2000000 in
theorem mpairs_any {w : World} {g : Nat} {s : ByteArray} {e : Int} (h : Rd w g s e) (hs : (s.size : Int) ≤ 1000000000000) :
    Calls Try.prog 69 #[.pointer (some ⟨g, 0, none⟩)] w (PsPost w g (cPairs s e).1 (cPairs s e).2) := by
  obtain ⟨v0, v1⟩ := rNum_val s e
  have hz := rNum_size s e
  have hg := h.lt
  obtain ⟨n, hn⟩ : ∃ n : Nat, (rNum s e).1 = (n : Int) := ⟨(rNum s e).1.toNat, by omega⟩
  obtain ⟨u, hu⟩ : ∃ u, (rNum s e).2.1 = u := ⟨_, rfl⟩
  obtain ⟨e1, he1⟩ : ∃ e1, (rNum s e).2.2 = e1 := ⟨_, rfl⟩
  have HL := Lib.hid (show cPairs s e = cPs 8 n [] u e1 by unfold cPairs; rw [hn, hu, he1]; rfl)
  have HC : Hid (∀ w : World, Rd w g s e → Calls Try.prog 68 #[.pointer (some ⟨g, 0, none⟩)] w (RdPost w g (.int .i64 (n : Int)) (u, e1))) :=
    Lib.hid fun w h => (rnum_any h (by omega)).mono fun e w' h => by rw [hn] at h; rw [← hu, ← he1]; exact h
  rw [hu] at hz
  rw [hn] at v1
  have hn1 : (n : Int) ≤ 9223372036854775807 := v1
  clear hn hu he1 v0 v1
  obtain ⟨i0, hi, hz0, hz1, hz2⟩ := info_parts Try.infoPair
  go_enter Try.func69, Try.ntmps69
  go_wp2_with (go_at_call 68; refine (HC.out _ h).mono ?_; rintro en w0 ⟨rfl, R0, G0⟩)
  go_loopw [3, 4, 7] (fun v _ i wr => ∃ (k : Nat) (acc : List Sp) (t : ByteArray) (e2 : Int), i = .int .i64 (k : Int) ∧ k ≤ n ∧ acc.length ≤ 9 ∧ t.size ≤ s.size ∧ OwnsP 87 wr w.heap.size v acc ∧ Rd wr g t e2 ∧ w.grownBy wr (some g) ∧ cPs 8 (n - k) acc t e2 = cPs 8 n [] u e1)
    (fun _ _ i _ => n - (intOf i).toNat)
  case atStart => exact ⟨0, [], u, e1, rfl, by omega, by simp, hz, OwnsP.nil _ _ _, R0, G0, rfl⟩
  case round =>
    obtain ⟨k, acc, t, e2, rfl, hk, hac, hsum, hown, R, G, heq⟩ := hrel
    have HE := Lib.hid heq
    clear heq
    have hsz := G.size
    by_cases hlt : k < n
    · have hkz : (k : Int) < (n : Int) := by omega
      obtain ⟨x, s1, e3, hA⟩ : ∃ x s1 e3, rNum t e2 = (x, s1, e3) := ⟨_, _, _, rfl⟩
      obtain ⟨y, s2, e4, hB⟩ : ∃ y s2 e4, rWhole s1 e3 = (y, s2, e4) := ⟨_, _, _, rfl⟩
      have hs1 : s1.size ≤ t.size := by have := rNum_size t e2; rw [hA] at this; exact this
      have hs2 : s2.size ≤ s1.size := by have := rWhole_size s1 e3; rw [hB] at this; exact this
      have CN : Hid (∀ W, Rd W g t e2 → Calls Try.prog 68 #[.pointer (some ⟨g, 0, none⟩)] W (RdPost W g (.int .i64 x) (s1, e3))) :=
        Lib.hid fun W hR => (rnum_any hR (by omega)).mono fun e w' h => by rw [hA] at h; exact h
      have CW : Hid (∀ W, Rd W g s1 e3 → Calls Try.prog 70 #[.pointer (some ⟨g, 0, none⟩)] W (RdPost W g (.int .i64 y) (s2, e4))) :=
        Lib.hid fun W hR => (rwhole_any hR (by omega)).mono fun e w' h => by rw [hB] at h; exact h
      by_cases he : e4 = 0
      · have hd : (e4 == 0) = true := by simpa using he
        have hd2 : (e4 != 0) = false := by simpa using he
        have HG := Lib.hid (cPs_go (c := 8) (n := n - (k + 1)) (acc := acc) hA hB he)
        clear he hA hB
        obtain ⟨a6, cap6, hv6, hkc, hcm, _, _⟩ := hown.arg
        subst hv6
        have hkc0 := hcm
        unfold maxLen at hkc0
        obtain ⟨m, hm⟩ : ∃ m, acc.length = m := ⟨_, rfl⟩
        have hrow : wr.ownsRow w.heap.size 87 2 (.slice a6 m cap6) m (flatP acc) := by rw [← hm]; exact hown
        rw [hm] at hac hkc ⊢
        replace hm := Lib.hid hm
        have hne : (Value.slice a6 m cap6).ownBlock = none ∨ (Value.slice a6 m cap6).ownBlock ≠ some g := by right; intro hv; have := (hrow.lt g hv).1; omega
        have hlo : ∀ k, (Value.slice a6 m cap6).ownBlock = some k → w.heap.size ≤ k := fun k hk => (hrow.lt k hk).1
        have HRW : Hid (∀ w1 w2, wr.grownBy w1 (some g) → w1.grownBy w2 (some g) → w2.ownsRow w.heap.size 87 2 (.slice a6 m cap6) m (flatP acc)) := Lib.hid fun w1 w2 g1 g2 => (hrow.kept g1 hne).kept g2 hne
        replace hne := Lib.hid hne
        replace hlo := Lib.hid hlo
        clear hown hrow
        by_cases hl : m ≤ 8
        · have hlz : (m : Int) ≤ 8 := by omega
          go_wp2_with (first | (go_at_call 68; refine (CN.out _ R).mono ?_; rintro en w1 ⟨rfl, R1, G1⟩) | (go_at_call 70; refine (CW.out _ R1).mono ?_; rintro en w2 ⟨rfl, R2, G2⟩) | (go_at_call 114; refine (err_any (rd_grown R2 (World.grownBy_alloc w2 (Obj.cells #[.int .i64 x, .int .i64 y] 87) none) (by simp))).mono ?_; rintro e w' ⟨rfl, rfl⟩) | (at_builtin; refine wpList_append_own _ rfl _ _ 22 rfl w.heap.size 87 i0 (.agg #[.int .i64 0, .int .i64 0]) 2 16 Try.underlying22 hi hz0 hz1 hz2 rfl (by decide) _ _ _ rfl (((HRW.out w1 w2 G1 G2).alloc _).alloc _) ⟨w2.heap.size + 1, 0, none⟩ 1 1 [.int .i64 x, .int .i64 y] rfl ?c1 ?c2 ?c3 ?c4 ?c5 ?c6 ?_))
          all_goals first
            | rfl
            | (intro j u hj
               match j, hj with
               | 0, hj => simp at hj; subst hj; simp [Addr.add]
               | 1, hj => simp at hj; subst hj; simp [Addr.add])
            | (intro u hu; simp at hu; rcases hu with rfl | rfl <;> rfl)
            | (unfold maxLen; omega)
            | omega
            | (have := G1.size; have := G2.size; simp; omega)
            | skip
          intro v' w5 hown' hgrow _
          have hlo' := hlo.out
          have hne' := hne.out
          have G5 := grown_over (grown_over (grown_over (grown_trans (grown_trans G G1) G2) (World.grownBy_alloc w2 (Obj.cells #[.int .i64 x, .int .i64 y] 87) none) (by intro k hk; cases hk)) (World.grownBy_alloc _ (Obj.cells #[.int .i64 x, .int .i64 y] 87) none) (by intro k hk; cases hk)) hgrow hlo'
          have R5 := rd_grown (rd_grown (rd_grown R2 (World.grownBy_alloc w2 (Obj.cells #[.int .i64 x, .int .i64 y] 87) none) (by simp)) (World.grownBy_alloc _ (Obj.cells #[.int .i64 x, .int .i64 y] 87) none) (by simp)) hgrow (by intro hv; have := hlo' g hv.symm; omega)
          have ho := OwnsP.snoc hm.out hown'
          clear hown' hgrow hlo' hne'
          go_wp2
          go_roundw
          case rel => exact ⟨k + 1, acc ++ [(x, y)], s2, e4, by go_num, by omega, by rw [List.length_append, hm.out]; simp; omega, by omega, ho, R5, G5, by rw [← HE.out, show n - k = n - (k + 1) + 1 by omega, HG.out, if_pos (by rw [hm.out]; exact hl)]⟩
          case measure => simp [intOf]; omega
        · have hlz : ¬ (m : Int) ≤ 8 := by omega
          go_wp2_with (first | (go_at_call 68; refine (CN.out _ R).mono ?_; rintro en w1 ⟨rfl, R1, G1⟩) | (go_at_call 70; refine (CW.out _ R1).mono ?_; rintro en w2 ⟨rfl, R2, G2⟩) | (go_at_call 114; refine (err_any (rd_grown R2 (World.grownBy_alloc w2 (Obj.cells #[.int .i64 x, .int .i64 y] 87) none) (by simp))).mono ?_; rintro e w' ⟨rfl, rfl⟩))
          have G5 := grown_over (grown_trans (grown_trans G G1) G2) (World.grownBy_alloc w2 (Obj.cells #[.int .i64 x, .int .i64 y] 87) none) (by intro k hk; cases hk)
          have R5 := rd_grown R2 (World.grownBy_alloc w2 (Obj.cells #[.int .i64 x, .int .i64 y] 87) none) (by simp)
          have ho : OwnsP 87 (w2.alloc (Obj.cells #[.int .i64 x, .int .i64 y] 87)) w.heap.size (.slice a6 m cap6) acc := by unfold OwnsP; rw [hm.out]; exact (HRW.out w1 w2 G1 G2).alloc _
          go_roundw
          case rel => exact ⟨k + 1, acc, s2, e4, by go_num, by omega, by rw [hm.out]; omega, by omega, ho, R5, G5, by rw [← HE.out, show n - k = n - (k + 1) + 1 by omega, HG.out, if_neg (by rw [hm.out]; exact hl)]⟩
          case measure => simp [intOf]; omega
      · have hd : (e4 == 0) = false := by simpa using he
        have hd2 : (e4 != 0) = true := by simpa using he
        have HG := Lib.hid (cPs_stop (c := 8) (n := n - (k + 1)) (acc := acc) hA hB he)
        clear he hA hB
        go_wp2_with (first | (go_at_call 68; refine (CN.out _ R).mono ?_; rintro en w1 ⟨rfl, R1, G1⟩) | (go_at_call 70; refine (CW.out _ R1).mono ?_; rintro en w2 ⟨rfl, R2, G2⟩) | (go_at_call 114; refine (err_any (rd_grown R2 (World.grownBy_alloc w2 (Obj.cells #[.int .i64 x, .int .i64 y] 87) none) (by simp))).mono ?_; rintro e w' ⟨rfl, rfl⟩))
        go_ret
        have G5 := grown_over (grown_trans (grown_trans G G1) G2) (World.grownBy_alloc w2 (Obj.cells #[.int .i64 x, .int .i64 y] 87) none) (by intro k hk; cases hk)
        have R5 := rd_grown R2 (World.grownBy_alloc w2 (Obj.cells #[.int .i64 x, .int .i64 y] 87) none) (by simp)
        have HR : cPairs s e = ([], s2, e4) := by rw [HL.out, ← HE.out, show n - k = n - (k + 1) + 1 by omega, HG.out]
        rw [HR]
        exact ⟨_, rfl, OwnsP.nil _ _ _, R5, G5⟩
    · have hkn : n - k = 0 := by omega
      have hkz : ¬ (k : Int) < (n : Int) := by omega
      have HK := Lib.hid hkn
      clear hkn
      go_wp2
      go_ret
      have HR : cPairs s e = (acc, t, e2) := by rw [HL.out, ← HE.out, HK.out]; rfl
      rw [HR]
      exact ⟨_, rfl, hown, R, G⟩
end Go.Proofs.Ytfpgelobddglaaa
