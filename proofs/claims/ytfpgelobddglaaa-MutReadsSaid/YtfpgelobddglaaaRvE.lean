/-
  CONTRACTS: the document's Same of mutations, and the program's.
-/
import Derived.Test.YtfpgelobddglaaaRvC
namespace Go.Proofs.Ytfpgelobddglaaa
open Go.RowKit Go.Shelf Go.ChangeShapes Go.WideShapes Go.Deep

theorem box77 {w W : World} {ta tb : TypeId} {v0 v1 v2 v3 v4 v5 v6 u0 u1 u2 u3 u4 u5 u6 : Value} (h : Below ((w.alloc (.cells #[v0, v1, v2, v3, v4, v5, v6] ta)).alloc (.cells #[u0, u1, u2, u3, u4, u5, u6] tb)).heap.size ((w.alloc (.cells #[v0, v1, v2, v3, v4, v5, v6] ta)).alloc (.cells #[u0, u1, u2, u3, u4, u5, u6] tb)) W) :
    (W.cell? ⟨w.heap.size, 0, none⟩ = some v0 ∧ W.cell? ⟨w.heap.size, 1, none⟩ = some v1 ∧ W.cell? ⟨w.heap.size, 2, none⟩ = some v2 ∧ W.cell? ⟨w.heap.size, 3, none⟩ = some v3 ∧ W.cell? ⟨w.heap.size, 4, none⟩ = some v4 ∧ W.cell? ⟨w.heap.size, 5, none⟩ = some v5 ∧ W.cell? ⟨w.heap.size, 6, none⟩ = some v6) ∧
    W.cell? ⟨w.heap.size + 1, 0, none⟩ = some u0 ∧ W.cell? ⟨w.heap.size + 1, 1, none⟩ = some u1 ∧ W.cell? ⟨w.heap.size + 1, 2, none⟩ = some u2 ∧ W.cell? ⟨w.heap.size + 1, 3, none⟩ = some u3 ∧ W.cell? ⟨w.heap.size + 1, 4, none⟩ = some u4 ∧ W.cell? ⟨w.heap.size + 1, 5, none⟩ = some u5 ∧ W.cell? ⟨w.heap.size + 1, 6, none⟩ = some u6 := by
  have e := bx2 h
  exact ⟨⟨e.1 0, e.1 1, e.1 2, e.1 3, e.1 4, e.1 5, e.1 6⟩, e.2 0, e.2 1, e.2 2, e.2 3, e.2 4, e.2 5, e.2 6⟩

set_option maxRecDepth 100000 in
set_option maxHeartbeats 4000000 in
theorem rsame4_any (c s k : Int) (a : Option Addr) (n cp : Nat) (l : List Sp) (lo hi old c2 s2 k2 : Int) (a2 : Option Addr) (n2 cp2 : Nat) (l2 : List Sp) (lo2 hi2 old2 : Int) (w : World) (hA : Arg w a n cp l) (hB : Arg w a2 n2 cp2 l2) :
    Calls Try.prog 31 #[.agg #[.int .i64 c, .int .i64 s, .int .i64 k, .slice a n cp, .int .i64 lo, .int .i64 hi, .int .i64 old], .agg #[.int .i64 c2, .int .i64 s2, .int .i64 k2, .slice a2 n2 cp2, .int .i64 lo2, .int .i64 hi2, .int .i64 old2]] w (Gives w (.bool (decide (c = c2 ∧ s = s2 ∧ k = k2 ∧ (lo, hi) = (lo2, hi2) ∧ old = old2 ∧ l = l2)))) := by
  have hn := hA.1
  have hm := hB.1
  have zn : (n : Int) ≤ 9223372036854775807 := by have := hA.2.1; omega
  have zm : (n2 : Int) ≤ 9223372036854775807 := by have := hB.2.1; omega
  obtain ⟨W2, hW2⟩ : ∃ W2, (w.alloc (.cells #[.int .i64 c, .int .i64 s, .int .i64 k, .slice a n cp, .int .i64 lo, .int .i64 hi, .int .i64 old] 35)).alloc (.cells #[.int .i64 c2, .int .i64 s2, .int .i64 k2, .slice a2 n2 cp2, .int .i64 lo2, .int .i64 hi2, .int .i64 old2] 35) = W2 := ⟨_, rfl⟩
  have b2 : Below w.heap.size w W2 := by rw [← hW2]; exact ((Below.refl _ _).alloc (Nat.le_refl _) _).alloc (by simp) _
  have K := Lib.hid (fun W (h : Below W2.heap.size W2 W) => box77 (w := w) (ta := 35) (tb := 35) (v0 := .int .i64 c) (v1 := .int .i64 s) (v2 := .int .i64 k) (v3 := .slice a n cp) (v4 := .int .i64 lo) (v5 := .int .i64 hi) (v6 := .int .i64 old) (u0 := .int .i64 c2) (u1 := .int .i64 s2) (u2 := .int .i64 k2) (u3 := .slice a2 n2 cp2) (u4 := .int .i64 lo2) (u5 := .int .i64 hi2) (u6 := .int .i64 old2) (W := W) (by rw [hW2]; exact h))
  obtain ⟨⟨p0, p1, p2, p3, p4, p5, p6⟩, r0, r1, r2, r3, r4, r5, r6⟩ := K.out _ (Below.refl _ _)
  have HA := Lib.hid (hA.below b2)
  have HB := Lib.hid (hB.below b2)
  replace hn := Lib.hid hn
  replace hm := Lib.hid hm
  obtain ⟨r, hr⟩ : ∃ r, decide (c = c2 ∧ s = s2 ∧ k = k2 ∧ (lo, hi) = (lo2, hi2) ∧ old = old2 ∧ l = l2) = r := ⟨_, rfl⟩
  rw [hr]
  replace hr := Lib.hid hr
  clear hA hB
  by_cases h1 : c = c2
  · subst h1
    by_cases h2 : s = s2
    · subst h2
      by_cases h3 : k = k2
      · subst h3
        have NE := fun w => neqRef lo hi lo2 hi2 w
        cases hd : decide ((lo, hi) = (lo2, hi2))
        · have hr0 := Lib.hid (show r = false by rw [← hr.out]; exact decide_eq_false (fun h => of_decide_eq_false hd h.2.2.2.1))
          simp only [hd] at NE
          replace hd := Lib.hid hd
          go_enter Try.func31, Try.ntmps31
          go_wp2
          go_ret
          exact ⟨ret_bool hr0.out.symm, b2⟩
        · have hd' := of_decide_eq_true hd
          simp only [hd] at NE
          replace hd := Lib.hid hd
          by_cases h5 : old = old2
          · subst h5
            by_cases h6 : n = n2
            · subst h6
              have hr2 := Lib.hid (show decide (l = l2) = r by rw [← hr.out, Bool.eq_iff_iff]; simp [hd'])
              go_enter Try.func31, Try.ntmps31
              go_wp2
              clear p0 p1 p2 p3 p4 p5 p6 r0 r1 r2 r3 r4 r5 r6
              replace hW2 := Lib.hid hW2
              go_loopw [5] (fun i wr => ∃ (j : Nat), i = .int .i64 (j : Int) ∧ j ≤ n ∧ Hid (l.take j = l2.take j) ∧ Below W2.heap.size W2 wr)
                (fun i _ => n - (intOf i).toNat)
              case atStart => exact ⟨0, rfl, by omega, Lib.hid rfl, Below.refl _ _⟩
              case round =>
                obtain ⟨j, rfl, hj, HJ, hbl⟩ := hrel
                obtain ⟨⟨p0, p1, p2, p3, p4, p5, p6⟩, r0, r1, r2, r3, r4, r5, r6⟩ := K.out _ hbl
                clear p0 p1 p2 p4 p5 p6 r0 r1 r2 r4 r5 r6
                by_cases hlt : j < n
                · obtain ⟨b1, o1, e1, _, x0, x1⟩ := (HA.out.2.2.2.2.below hbl) j (by rw [← hn.out]; exact hlt)
                  obtain ⟨b3, o3, e3, _, y0, y1⟩ := (HB.out.2.2.2.2.below hbl) j (by rw [← hm.out]; exact hlt)
                  subst e1
                  subst e3
                  obtain ⟨f, hs⟩ : ∃ s, l.getD j (0, 0) = s := ⟨_, rfl⟩
                  obtain ⟨g, ht⟩ : ∃ s, l2.getD j (0, 0) = s := ⟨_, rfl⟩
                  rw [hs] at x0 x1
                  rw [ht] at y0 y1
                  replace hs := Lib.hid hs
                  replace ht := Lib.hid ht
                  obtain ⟨x, y⟩ := f
                  obtain ⟨p, q⟩ := g
                  dsimp only at x0 x1 y0 y1
                  have NP := fun w => neqRPair x y p q w
                  have hltz : (j : Int) < (n : Int) := by omega
                  cases hq : decide ((x, y) = (p, q))
                  · simp only [hq] at NP
                    replace hq := Lib.hid hq
                    go_wp2_with fail
                    go_quiet (fail)
                    go_wp2
                    go_ret
                    refine ⟨ret_bool ?_, b2.trans ((below_drewN hbl _).mono b2.size)⟩
                    rw [← hr2.out]
                    refine (decide_eq_false fun e => ?_).symm
                    have := of_decide_eq_false hq.out
                    rw [← hs.out, ← ht.out, e] at this
                    exact this rfl
                  · simp only [hq] at NP
                    replace hq := Lib.hid hq
                    go_wp2_with fail
                    go_quiet (fail)
                    go_wp2
                    go_roundw
                    case rel =>
                      refine ⟨j + 1, by go_num, by omega, Lib.hid ?_, below_drewN hbl _⟩
                      rw [take_more (by rw [← hn.out]; exact hlt), take_more (by rw [← hm.out]; exact hlt), HJ.out, hs.out, ht.out, of_decide_eq_true hq.out]
                    case measure => simp [intOf]; omega
                · have e1 : l.take j = l := List.take_of_length_le (by rw [← hn.out]; omega)
                  have e2 : l2.take j = l2 := List.take_of_length_le (by rw [← hm.out]; omega)
                  have e := HJ.out
                  rw [e1, e2] at e
                  have hltz : ¬ (j : Int) < (n : Int) := by omega
                  replace e := Lib.hid e
                  clear e1 e2 HJ
                  go_wp2
                  go_ret
                  exact ⟨ret_bool (by rw [← hr2.out]; exact (decide_eq_true e.out).symm), b2.trans (hbl.mono b2.size)⟩
            · have hnb : ((n : Int) != (n2 : Int)) = true := by simp; omega
              have hr0 := Lib.hid (show r = false by rw [← hr.out]; exact decide_eq_false (fun h => h6 (by rw [hn.out, hm.out, h.2.2.2.2.2])))
              clear h6
              go_enter Try.func31, Try.ntmps31
              go_wp2
              go_ret
              exact ⟨ret_bool hr0.out.symm, b2⟩
          · have hob : (old != old2) = true := by simpa using h5
            have hr0 := Lib.hid (show r = false by rw [← hr.out]; exact decide_eq_false (fun h => h5 h.2.2.2.2.1))
            clear h5
            go_enter Try.func31, Try.ntmps31
            go_wp2
            go_ret
            exact ⟨ret_bool hr0.out.symm, b2⟩
      · have hkb : (k != k2) = true := by simpa using h3
        have hr0 := Lib.hid (show r = false by rw [← hr.out]; exact decide_eq_false (fun h => h3 h.2.2.1))
        clear h3
        go_enter Try.func31, Try.ntmps31
        go_wp2
        go_ret
        exact ⟨ret_bool hr0.out.symm, b2⟩
    · have hsb : (s != s2) = true := by simpa using h2
      have hr0 := Lib.hid (show r = false by rw [← hr.out]; exact decide_eq_false (fun h => h2 h.2.1))
      clear h2
      go_enter Try.func31, Try.ntmps31
      go_wp2
      go_ret
      exact ⟨ret_bool hr0.out.symm, b2⟩
  · have hcb : (c != c2) = true := by simpa using h1
    have hr0 := Lib.hid (show r = false by rw [← hr.out]; exact decide_eq_false (fun h => h1 h.1))
    clear h1
    go_enter Try.func31, Try.ntmps31
    go_wp2
    go_ret
    exact ⟨ret_bool hr0.out.symm, b2⟩
end Go.Proofs.Ytfpgelobddglaaa
