/-
  CONTRACT: the document's Check (of a mutation).
-/
import Derived.Test.YtfnjadiibiedgabMutI
namespace Go.Proofs.Ytfnjadiibiedgab
open Go.RowKit Go.Shelf

theorem chk_good {c s k : Int} {l : List Sp} {lo hi old : Int} (hcs : 1 ≤ c ∧ c ≤ 1048576 ∧ 1 ≤ s ∧ s ≤ 1073741824) : chkM c s k l lo hi old = (bareB k lo hi old && fitsB k l lo hi old) := by
  obtain ⟨u1, u2, u3, u4⟩ := hcs
  unfold chkM
  rw [show btw 1 c 1048576 = true from decide_eq_true ⟨u1, u2⟩, show btw 1 s 1073741824 = true from decide_eq_true ⟨u3, u4⟩]
  simp
theorem btw_one (m n : Nat) : btw m n m = (n == m) := by
  unfold btw
  by_cases h : n = m
  · simp [h]
  · rw [show (n == m) = false from by simpa using h]
    exact decide_eq_false (by omega)

set_option maxRecDepth 100000 in
set_option maxHeartbeats 2000000 in
theorem rchk_out (c s k : Int) (a : Option Addr) (n cp : Nat) (l : List Sp) (lo hi old : Int) (w : World) (hA : Arg w a n cp l) (h : ¬ (1 ≤ c ∧ c ≤ 1048576 ∧ 1 ≤ s ∧ s ≤ 1073741824)) :
    Calls Try.prog 116 #[.agg #[.int .i64 c, .int .i64 s, .int .i64 k, .slice a n cp, .int .i64 lo, .int .i64 hi, .int .i64 old]] w (Gives w (.bool (chkM c s k l lo hi old))) := by
  have hn := hA.1
  have hnz : (n : Int) ≤ 9223372036854775807 := by have := hA.2.1; omega
  have hb0 : Below w.heap.size w (w.alloc (.cells #[.int .i64 c, .int .i64 s, .int .i64 k, .slice a n cp, .int .i64 lo, .int .i64 hi, .int .i64 old] 51)) := (Below.refl _ _).alloc (Nat.le_refl _) _
  have H := Lib.hid (show chkM c s k l lo hi old = false by
    unfold chkM
    by_cases h1 : 1 ≤ c ∧ c ≤ 1048576
    · rw [show btw 1 s 1073741824 = false from decide_eq_false (fun q => h ⟨h1.1, h1.2, q.1, q.2⟩)]; simp
    · rw [show btw 1 c 1048576 = false from decide_eq_false h1]; simp)
  generalize chkM c s k l lo hi old = r at H
  clear hA hn
  by_cases h1 : c < 1
  · go_enter Try.func116, Try.ntmps116
    go_wp2
    go_ret
    exact ⟨ret_bool H.out.symm, hb0⟩
  · by_cases h2 : 1048576 < c
    · go_enter Try.func116, Try.ntmps116
      go_wp2
      go_ret
      exact ⟨ret_bool H.out.symm, hb0⟩
    · by_cases h3 : s < 1
      · go_enter Try.func116, Try.ntmps116
        go_wp2
        go_ret
        exact ⟨ret_bool H.out.symm, hb0⟩
      · have h4 : 1073741824 < s := by omega
        clear h
        go_enter Try.func116, Try.ntmps116
        go_wp2
        go_ret
        exact ⟨ret_bool H.out.symm, hb0⟩

set_option maxRecDepth 100000 in
set_option maxHeartbeats 2000000 in
theorem rchk2 (c s : Int) (a : Option Addr) (n cp : Nat) (l : List Sp) (lo hi old : Int) (w : World) (hA : Arg w a n cp l) (hcs : 1 ≤ c ∧ c ≤ 1048576 ∧ 1 ≤ s ∧ s ≤ 1073741824) :
    Calls Try.prog 116 #[.agg #[.int .i64 c, .int .i64 s, .int .i64 2, .slice a n cp, .int .i64 lo, .int .i64 hi, .int .i64 old]] w (Gives w (.bool (chkM c s 2 l lo hi old))) := by
  have hn := hA.1
  have hnz : (n : Int) ≤ 9223372036854775807 := by have := hA.2.1; omega
  have hb0 : Below w.heap.size w (w.alloc (.cells #[.int .i64 c, .int .i64 s, .int .i64 2, .slice a n cp, .int .i64 lo, .int .i64 hi, .int .i64 old] 51)) := (Below.refl _ _).alloc (Nat.le_refl _) _
  have hF : chkM c s 2 l lo hi old = ((n == 0) && ((old == 0) && oneB (lo, hi))) := by
    rw [chk_good hcs, hn]
    show (((2 : Int) == 2 || (lo == 0 && hi == 0)) && ((2 : Int) == 4 || old == 0) && ((l.length == 0) && oneB (lo, hi))) = _
    cases (old == 0) <;> cases (l.length == 0) <;> simp
  obtain ⟨u1, u2, u3, u4⟩ := hcs
  have x1 : ¬ c < 1 := by omega
  have x2 : ¬ 1048576 < c := by omega
  have x3 : ¬ s < 1 := by omega
  have x4 : ¬ 1073741824 < s := by omega
  clear hA
  replace hn := Lib.hid hn
  by_cases n0 : n = 0
  · subst n0
    by_cases o0 : old = 0
    · subst o0
      cases h2 : oneB (lo, hi)
      all_goals
        have H := Lib.hid (hF.trans (by rw [h2]))
        replace h2' := Lib.hid h2
        clear hF h2
        go_enter Try.func116, Try.ntmps116
        go_wp2_with (go_at_call 69; (with_reducible refine (rone_any (lo, hi) _).mono ?_); rw [h2'.out]; rintro e w2 ⟨rfl, b2⟩; have b02 := below_next hb0 b2)
        go_ret
        exact ⟨ret_bool H.out.symm, b02⟩
    · have H := Lib.hid (hF.trans (show _ = false by rw [show (old == 0) = false from by simpa using o0]; simp))
      clear hF
      go_enter Try.func116, Try.ntmps116
      go_wp2
      go_ret
      exact ⟨ret_bool H.out.symm, hb0⟩
  · have nb : ((n : Int) == 0) = false := by simp; omega
    have H := Lib.hid (hF.trans (show _ = false by rw [show (n == 0) = false from by simpa using n0]; rfl))
    clear hF
    go_enter Try.func116, Try.ntmps116
    go_wp2
    go_ret
    exact ⟨ret_bool H.out.symm, hb0⟩

set_option maxRecDepth 100000 in
set_option maxHeartbeats 2000000 in
theorem rchkOver (c s k : Int) (a : Option Addr) (n cp : Nat) (l : List Sp) (lo hi old : Int) (w : World) (hA : Arg w a n cp l) (hcs : 1 ≤ c ∧ c ≤ 1048576 ∧ 1 ≤ s ∧ s ≤ 1073741824) (k2 : (k == 2) = false) (h : ¬ (lo = 0 ∧ hi = 0)) :
    Calls Try.prog 116 #[.agg #[.int .i64 c, .int .i64 s, .int .i64 k, .slice a n cp, .int .i64 lo, .int .i64 hi, .int .i64 old]] w (Gives w (.bool (chkM c s k l lo hi old))) := by
  have hn := hA.1
  have hnz : (n : Int) ≤ 9223372036854775807 := by have := hA.2.1; omega
  have hb0 : Below w.heap.size w (w.alloc (.cells #[.int .i64 c, .int .i64 s, .int .i64 k, .slice a n cp, .int .i64 lo, .int .i64 hi, .int .i64 old] 51)) := (Below.refl _ _).alloc (Nat.le_refl _) _
  have H := Lib.hid (show chkM c s k l lo hi old = false by
    rw [chk_good hcs]
    unfold bareB
    rw [k2]
    by_cases h1 : lo = 0
    · have h2 : hi ≠ 0 := fun e => h ⟨h1, e⟩
      simp [h1, h2]
    · simp [h1])
  generalize chkM c s k l lo hi old = r at H
  obtain ⟨u1, u2, u3, u4⟩ := hcs
  have x1 : ¬ c < 1 := by omega
  have x2 : ¬ 1048576 < c := by omega
  have x3 : ¬ s < 1 := by omega
  have x4 : ¬ 1073741824 < s := by omega
  clear hA hn
  by_cases h1 : lo = 0
  · have h2 : hi ≠ 0 := fun e => h ⟨h1, e⟩
    subst h1
    have h3 : (hi != 0) = true := by simpa using h2
    clear h
    go_enter Try.func116, Try.ntmps116
    go_wp2
    go_ret
    exact ⟨ret_bool H.out.symm, hb0⟩
  · have h3 : (lo != 0) = true := by simpa using h1
    clear h
    go_enter Try.func116, Try.ntmps116
    go_wp2
    go_ret
    exact ⟨ret_bool H.out.symm, hb0⟩

set_option maxRecDepth 100000 in
set_option maxHeartbeats 2000000 in
theorem rchkOld (c s k : Int) (a : Option Addr) (n cp : Nat) (l : List Sp) (old : Int) (w : World) (hA : Arg w a n cp l) (hcs : 1 ≤ c ∧ c ≤ 1048576 ∧ 1 ≤ s ∧ s ≤ 1073741824) (k2 : (k == 2) = false) (k4 : (k == 4) = false) (h : old ≠ 0) :
    Calls Try.prog 116 #[.agg #[.int .i64 c, .int .i64 s, .int .i64 k, .slice a n cp, .int .i64 0, .int .i64 0, .int .i64 old]] w (Gives w (.bool (chkM c s k l 0 0 old))) := by
  have hn := hA.1
  have hnz : (n : Int) ≤ 9223372036854775807 := by have := hA.2.1; omega
  have hb0 : Below w.heap.size w (w.alloc (.cells #[.int .i64 c, .int .i64 s, .int .i64 k, .slice a n cp, .int .i64 0, .int .i64 0, .int .i64 old] 51)) := (Below.refl _ _).alloc (Nat.le_refl _) _
  have H := Lib.hid (show chkM c s k l 0 0 old = false by
    rw [chk_good hcs]
    unfold bareB
    rw [k2, k4]
    simp [h])
  generalize chkM c s k l 0 0 old = r at H
  have h3 : (old != 0) = true := by simpa using h
  obtain ⟨u1, u2, u3, u4⟩ := hcs
  have x1 : ¬ c < 1 := by omega
  have x2 : ¬ 1048576 < c := by omega
  have x3 : ¬ s < 1 := by omega
  have x4 : ¬ 1073741824 < s := by omega
  clear hA hn
  go_enter Try.func116, Try.ntmps116
  go_wp2
  go_ret
  exact ⟨ret_bool H.out.symm, hb0⟩

set_option maxRecDepth 100000 in
set_option maxHeartbeats 2000000 in
theorem rchk4 (c s : Int) (a : Option Addr) (n cp : Nat) (l : List Sp) (old : Int) (w : World) (hA : Arg w a n cp l) (hcs : 1 ≤ c ∧ c ≤ 1048576 ∧ 1 ≤ s ∧ s ≤ 1073741824) :
    Calls Try.prog 116 #[.agg #[.int .i64 c, .int .i64 s, .int .i64 4, .slice a n cp, .int .i64 0, .int .i64 0, .int .i64 old]] w (Gives w (.bool (chkM c s 4 l 0 0 old))) := by
  have hn := hA.1
  have hnz : (n : Int) ≤ 9223372036854775807 := by have := hA.2.1; omega
  have hb0 : Below w.heap.size w (w.alloc (.cells #[.int .i64 c, .int .i64 s, .int .i64 4, .slice a n cp, .int .i64 0, .int .i64 0, .int .i64 old] 51)) := (Below.refl _ _).alloc (Nat.le_refl _) _
  have hF : chkM c s 4 l 0 0 old = ((btw 1 n 1 && okPs l) && (isVal old || old == 1099511627777)) := by
    rw [chk_good hcs, show btw 1 n 1 = (n == 1) from btw_one 1 n, hn]
    show ((l.length == 1) && okPs l && (isVal old || old == 1099511627777)) = _
    rfl
  obtain ⟨u1, u2, u3, u4⟩ := hcs
  have x1 : ¬ c < 1 := by omega
  have x2 : ¬ 1048576 < c := by omega
  have x3 : ¬ s < 1 := by omega
  have x4 : ¬ 1073741824 < s := by omega
  have HB := Lib.hid (hA.below hb0)
  clear hA hn
  obtain ⟨r, hr⟩ : ∃ r, (btw 1 n 1 && okPs l) = r := ⟨_, rfl⟩
  obtain ⟨q, hq⟩ : ∃ r, isVal old = r := ⟨_, rfl⟩
  obtain ⟨z, hz⟩ : ∃ r, (old == 1099511627777) = r := ⟨_, rfl⟩
  rw [hr, hq, hz] at hF
  replace hF := Lib.hid hF
  replace hr := Lib.hid hr
  replace hq := Lib.hid hq
  cases r
  · go_enter Try.func116, Try.ntmps116
    go_wp2_with (go_at_call 141; (with_reducible refine (pairs4_any 1 1 a n cp l _ HB.out).mono ?_); rw [hr.out]; rintro e w2 ⟨rfl, b2⟩; obtain ⟨g0, g1, g2, g3, g4, g5, g6⟩ := box7 b2; have b02 := below_next hb0 b2)
    go_ret
    exact ⟨ret_bool (by rw [hF.out]; rfl), b02⟩
  · cases q <;> cases z
    all_goals
      go_enter Try.func116, Try.ntmps116
      go_wp2_with (first | (go_at_call 141; (with_reducible refine (pairs4_any 1 1 a n cp l _ HB.out).mono ?_); rw [hr.out]; rintro e w2 ⟨rfl, b2⟩; obtain ⟨g0, g1, g2, g3, g4, g5, g6⟩ := box7 b2; have b02 := below_next hb0 b2) | (go_at_call 142; (with_reducible refine (value4_any old _).mono ?_); rw [hq.out]; rintro e w3 ⟨rfl, rfl⟩))
      go_ret
      exact ⟨ret_bool (by rw [hF.out]; rfl), b02⟩

set_option maxRecDepth 100000 in
set_option maxHeartbeats 2000000 in
theorem rchk3 (c s : Int) (a : Option Addr) (n cp : Nat) (l : List Sp) (w : World) (hA : Arg w a n cp l) (hcs : 1 ≤ c ∧ c ≤ 1048576 ∧ 1 ≤ s ∧ s ≤ 1073741824) :
    Calls Try.prog 116 #[.agg #[.int .i64 c, .int .i64 s, .int .i64 3, .slice a n cp, .int .i64 0, .int .i64 0, .int .i64 0]] w (Gives w (.bool (chkM c s 3 l 0 0 0))) := by
  have hn := hA.1
  have hnz : (n : Int) ≤ 9223372036854775807 := by have := hA.2.1; omega
  have hb0 : Below w.heap.size w (w.alloc (.cells #[.int .i64 c, .int .i64 s, .int .i64 3, .slice a n cp, .int .i64 0, .int .i64 0, .int .i64 0] 51)) := (Below.refl _ _).alloc (Nat.le_refl _) _
  have hF : chkM c s 3 l 0 0 0 = (btw 1 n 1 && okPs l) := by
    rw [chk_good hcs, show btw 1 n 1 = (n == 1) from btw_one 1 n, hn]
    show ((l.length == 1) && okPs l) = _
    rfl
  obtain ⟨u1, u2, u3, u4⟩ := hcs
  have x1 : ¬ c < 1 := by omega
  have x2 : ¬ 1048576 < c := by omega
  have x3 : ¬ s < 1 := by omega
  have x4 : ¬ 1073741824 < s := by omega
  have HB := Lib.hid (hA.below hb0)
  clear hA hn
  obtain ⟨r, hr⟩ : ∃ r, (btw 1 n 1 && okPs l) = r := ⟨_, rfl⟩
  rw [hr] at hF
  replace hF := Lib.hid hF
  replace hr := Lib.hid hr
  go_enter Try.func116, Try.ntmps116
  go_wp2_with (go_at_call 141; (with_reducible refine (pairs4_any 1 1 a n cp l _ HB.out).mono ?_); rw [hr.out]; rintro e w2 ⟨rfl, b2⟩; obtain ⟨g0, g1, g2, g3, g4, g5, g6⟩ := box7 b2; have b02 := below_next hb0 b2)
  go_ret
  exact ⟨ret_bool hF.out.symm, b02⟩
end Go.Proofs.Ytfnjadiibiedgab
