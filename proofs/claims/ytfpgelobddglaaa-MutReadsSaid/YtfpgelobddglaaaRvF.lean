/-
  CONTRACTS: slices.Equal of pairs; the program's Same of mutations.
-/
import Derived.Test.YtfpgelobddglaaaRvE
namespace Go.Proofs.Ytfpgelobddglaaa
open Go.RowKit Go.Shelf Go.ChangeShapes Go.WideShapes Go.Deep

theorem neqAPair (x y p q : Int) (w : World) : (binOp .neq 87 (.agg #[.int .i64 x, .int .i64 y]) (.agg #[.int .i64 p, .int .i64 q])).run Try.prog w = .ok (.bool (!decide ((x, y) = (p, q)))) w := by
  have u3 := Try.underlying3
  have a3 := Try.isAgg3
  have z3 := Try.sizeOf3
  have hS : Try.prog.underlying 87 = some (.struct (Try.prog.fieldsOf 87)) := by kernel_rfl
  have hp : Try.prog.stoodInHeld 87 = false := by kernel_rfl
  rw [run_neq_struct, show (10000 : Nat) = 9999 + 1 from rfl, run_equalIn_agg w 9999 87 _ _ hS hp]
  simp only [Program.fieldsOf, Try.underlying87]
  go_simp
  by_cases h1 : x = p <;> by_cases h2 : y = q <;> simp [h1, h2]

set_option maxRecDepth 100000 in
set_option maxHeartbeats 1000000 in
theorem equalPair_any (a b : Option Addr) (n m c d : Nat) (l k : List Sp) (w : World) (hA : Arg w a n c l) (hB : Arg w b m d k) :
    Calls Try.prog 78 #[.slice a n c, .slice b m d] w (Gives w (.bool (decide (l = k)))) := by
  obtain ⟨hn, zn, hc1, hc2, hp⟩ := hA
  obtain ⟨hm, zm, hd1, hd2, hq⟩ := hB
  have zn' : (n : Int) ≤ 9223372036854775807 := by omega
  have zm' : (m : Int) ≤ 9223372036854775807 := by omega
  obtain ⟨r, hr⟩ : ∃ r, decide (l = k) = r := ⟨_, rfl⟩
  rw [hr]
  replace hr := Lib.hid hr
  replace hp := Lib.hid hp
  replace hq := Lib.hid hq
  replace hn := Lib.hid hn
  replace hm := Lib.hid hm
  by_cases hnm : n = m
  · subst hnm
    go_enter Try.func78, Try.ntmps78
    go_wp2_with fail
    go_loopw [5, 13] (fun _ i wr => ∃ (j : Nat), i = .int .i64 (j : Int) ∧ j ≤ n ∧ Hid (l.take j = k.take j) ∧ Below w.heap.size w wr)
      (fun _ i _ => n - (intOf i).toNat)
    case atStart => exact ⟨0, rfl, by omega, Lib.hid rfl, Below.refl _ _⟩
    case round =>
      obtain ⟨j, rfl, hj, HJ, hbl⟩ := hrel
      by_cases hlt : j < n
      · obtain ⟨b1, o1, e1, _, x0, x1⟩ := (hp.out.below hbl) j (by rw [← hn.out]; exact hlt)
        obtain ⟨b2, o2, e2, _, y0, y1⟩ := (hq.out.below hbl) j (by rw [← hm.out]; exact hlt)
        subst e1
        subst e2
        obtain ⟨s, hs⟩ : ∃ s, l.getD j (0, 0) = s := ⟨_, rfl⟩
        obtain ⟨t, ht⟩ : ∃ s, k.getD j (0, 0) = s := ⟨_, rfl⟩
        rw [hs] at x0 x1
        rw [ht] at y0 y1
        replace hs := Lib.hid hs
        replace ht := Lib.hid ht
        obtain ⟨x, y⟩ := s
        obtain ⟨p, q⟩ := t
        dsimp only at x0 x1 y0 y1
        have NE := fun w => neqAPair x y p q w
        have hltz : (j : Int) < (n : Int) := by omega
        cases hd : decide ((x, y) = (p, q))
        · simp only [hd] at NE
          replace hd := Lib.hid hd
          go_wp2_with fail
          go_quiet (fail)
          go_wp2
          go_ret
          refine ⟨ret_bool ?_, below_drewN hbl _⟩
          rw [← hr.out]
          refine (decide_eq_false fun e => ?_).symm
          have := of_decide_eq_false hd.out
          rw [← hs.out, ← ht.out, e] at this
          exact this rfl
        · simp only [hd] at NE
          replace hd := Lib.hid hd
          go_wp2_with fail
          go_quiet (fail)
          go_wp2
          go_roundw
          case rel =>
            refine ⟨j + 1, by go_num, by omega, Lib.hid ?_, below_drewN hbl _⟩
            rw [take_more (by rw [← hn.out]; exact hlt), take_more (by rw [← hm.out]; exact hlt), HJ.out, hs.out, ht.out, of_decide_eq_true hd.out]
          case measure => simp [intOf]; omega
      · have e1 : l.take j = l := List.take_of_length_le (by rw [← hn.out]; omega)
        have e2 : k.take j = k := List.take_of_length_le (by rw [← hm.out]; omega)
        have e := HJ.out
        rw [e1, e2] at e
        replace e := Lib.hid e
        clear e1 e2 HJ
        go_wp2
        go_ret
        exact ⟨ret_bool (by rw [← hr.out]; exact (decide_eq_true e.out).symm), hbl⟩
  · have hne : ¬ (n : Int) = (m : Int) := by omega
    have hnb : ((n : Int) != (m : Int)) = true := by simp; omega
    go_enter Try.func78, Try.ntmps78
    go_wp2
    go_ret
    refine ⟨ret_bool ?_, Below.refl _ _⟩
    rw [← hr.out]
    exact (decide_eq_false fun e => hnm (by rw [hn.out, hm.out, e])).symm

set_option maxRecDepth 100000 in
set_option maxHeartbeats 4000000 in
theorem msame_any (c s k : Int) (a : Option Addr) (n cp : Nat) (l : List Sp) (lo hi old c2 s2 k2 : Int) (a2 : Option Addr) (n2 cp2 : Nat) (l2 : List Sp) (lo2 hi2 old2 : Int) (w : World) (hA : Arg w a n cp l) (hB : Arg w a2 n2 cp2 l2) :
    Calls Try.prog 33 #[.agg #[.int .i64 c, .int .i64 s, .int .i64 k, .slice a n cp, .int .i64 lo, .int .i64 hi, .int .i64 old], .agg #[.int .i64 c2, .int .i64 s2, .int .i64 k2, .slice a2 n2 cp2, .int .i64 lo2, .int .i64 hi2, .int .i64 old2]] w (Gives w (.bool (decide (c = c2 ∧ s = s2 ∧ k = k2 ∧ (lo, hi) = (lo2, hi2) ∧ old = old2 ∧ l = l2)))) := by
  have hn := hA.1
  have hm := hB.1
  have zn : (n : Int) ≤ 9223372036854775807 := by have := hA.2.1; omega
  have zm : (n2 : Int) ≤ 9223372036854775807 := by have := hB.2.1; omega
  obtain ⟨W2, hW2⟩ : ∃ W2, (w.alloc (.cells #[.int .i64 c, .int .i64 s, .int .i64 k, .slice a n cp, .int .i64 lo, .int .i64 hi, .int .i64 old] 26)).alloc (.cells #[.int .i64 c2, .int .i64 s2, .int .i64 k2, .slice a2 n2 cp2, .int .i64 lo2, .int .i64 hi2, .int .i64 old2] 26) = W2 := ⟨_, rfl⟩
  have b2 : Below w.heap.size w W2 := by rw [← hW2]; exact ((Below.refl _ _).alloc (Nat.le_refl _) _).alloc (by simp) _
  have K := Lib.hid (fun W (h : Below W2.heap.size W2 W) => box77 (w := w) (ta := 26) (tb := 26) (v0 := .int .i64 c) (v1 := .int .i64 s) (v2 := .int .i64 k) (v3 := .slice a n cp) (v4 := .int .i64 lo) (v5 := .int .i64 hi) (v6 := .int .i64 old) (u0 := .int .i64 c2) (u1 := .int .i64 s2) (u2 := .int .i64 k2) (u3 := .slice a2 n2 cp2) (u4 := .int .i64 lo2) (u5 := .int .i64 hi2) (u6 := .int .i64 old2) (W := W) (by rw [hW2]; exact h))
  obtain ⟨⟨p0, p1, p2, p3, p4, p5, p6⟩, r0, r1, r2, r3, r4, r5, r6⟩ := K.out _ (Below.refl _ _)
  have HA := Lib.hid (hA.below b2)
  have HB := Lib.hid (hB.below b2)
  obtain ⟨r, hr⟩ : ∃ r, decide (c = c2 ∧ s = s2 ∧ k = k2 ∧ (lo, hi) = (lo2, hi2) ∧ old = old2 ∧ l = l2) = r := ⟨_, rfl⟩
  rw [hr]
  replace hr := Lib.hid hr
  obtain ⟨q, hq⟩ : ∃ q, decide (l = l2) = q := ⟨_, rfl⟩
  have CQ := Lib.hid (fun W (h : Below W2.heap.size W2 W) => hq ▸ equalPair_any a a2 n n2 cp cp2 l l2 W (HA.out.below h) (HB.out.below h))
  have ES := fun w => eqSpan lo hi lo2 hi2 w
  obtain ⟨o, ho⟩ : ∃ o, (lo == lo2 && hi == hi2) = o := ⟨_, rfl⟩
  have hO : o = true ↔ (lo, hi) = (lo2, hi2) := by rw [← ho]; simp
  simp only [ho] at ES
  clear hA hB hn hm ho
  by_cases h1 : c = c2
  · subst h1
    by_cases h2 : s = s2
    · subst h2
      by_cases h3 : k = k2
      · subst h3
        cases q
        · have hr0 := Lib.hid (show r = false by rw [← hr.out]; exact decide_eq_false (fun h => of_decide_eq_false hq h.2.2.2.2.2))
          replace hq := Lib.hid hq
          clear hO
          go_enter Try.func33, Try.ntmps33
          go_wp2_with (go_at_call 78; (with_reducible refine (CQ.out _ (Below.refl _ _)).mono ?_); rintro e w5 ⟨rfl, b5⟩; obtain ⟨⟨p0, p1, p2, p3, p4, p5, p6⟩, r0, r1, r2, r3, r4, r5, r6⟩ := K.out _ b5)
          go_ret
          exact ⟨ret_bool hr0.out.symm, b2.trans (b5.mono b2.size)⟩
        · have hl := of_decide_eq_true hq
          replace hq := Lib.hid hq
          cases o
          · have hr0 := Lib.hid (show r = false by rw [← hr.out]; exact decide_eq_false (fun h => by cases hO.2 h.2.2.2.1))
            clear hO
            go_enter Try.func33, Try.ntmps33
            go_wp2_with (go_at_call 78; (with_reducible refine (CQ.out _ (Below.refl _ _)).mono ?_); rintro e w5 ⟨rfl, b5⟩; obtain ⟨⟨p0, p1, p2, p3, p4, p5, p6⟩, r0, r1, r2, r3, r4, r5, r6⟩ := K.out _ b5)
            go_ret
            exact ⟨ret_bool hr0.out.symm, b2.trans (b5.mono b2.size)⟩
          · have hpo := hO.1 rfl
            clear hO
            by_cases h5 : old = old2
            · subst h5
              have hr0 := Lib.hid (show r = true by rw [← hr.out]; exact decide_eq_true ⟨rfl, rfl, rfl, hpo, rfl, hl⟩)
              clear hpo
              replace hl := Lib.hid hl
              go_enter Try.func33, Try.ntmps33
              go_wp2_with (go_at_call 78; (with_reducible refine (CQ.out _ (Below.refl _ _)).mono ?_); rintro e w5 ⟨rfl, b5⟩; obtain ⟨⟨p0, p1, p2, p3, p4, p5, p6⟩, r0, r1, r2, r3, r4, r5, r6⟩ := K.out _ b5)
              go_ret
              exact ⟨ret_bool hr0.out.symm, b2.trans (b5.mono b2.size)⟩
            · have hob : (old == old2) = false := by simpa using h5
              have hr0 := Lib.hid (show r = false by rw [← hr.out]; exact decide_eq_false (fun h => h5 h.2.2.2.2.1))
              clear h5 hpo
              replace hl := Lib.hid hl
              go_enter Try.func33, Try.ntmps33
              go_wp2_with (go_at_call 78; (with_reducible refine (CQ.out _ (Below.refl _ _)).mono ?_); rintro e w5 ⟨rfl, b5⟩; obtain ⟨⟨p0, p1, p2, p3, p4, p5, p6⟩, r0, r1, r2, r3, r4, r5, r6⟩ := K.out _ b5)
              go_ret
              exact ⟨ret_bool hr0.out.symm, b2.trans (b5.mono b2.size)⟩
      · have hkb : (k == k2) = false := by simpa using h3
        have hr0 := Lib.hid (show r = false by rw [← hr.out]; exact decide_eq_false (fun h => h3 h.2.2.1))
        clear h3 hO hq
        go_enter Try.func33, Try.ntmps33
        go_wp2
        go_ret
        exact ⟨ret_bool hr0.out.symm, b2⟩
    · have hsb : (s == s2) = false := by simpa using h2
      have hr0 := Lib.hid (show r = false by rw [← hr.out]; exact decide_eq_false (fun h => h2 h.2.1))
      clear h2 hO hq
      go_enter Try.func33, Try.ntmps33
      go_wp2
      go_ret
      exact ⟨ret_bool hr0.out.symm, b2⟩
  · have hcb : (c == c2) = false := by simpa using h1
    have hr0 := Lib.hid (show r = false by rw [← hr.out]; exact decide_eq_false (fun h => h1 h.1))
    clear h1 hO hq
    go_enter Try.func33, Try.ntmps33
    go_wp2
    go_ret
    exact ⟨ret_bool hr0.out.symm, b2⟩
end Go.Proofs.Ytfpgelobddglaaa
