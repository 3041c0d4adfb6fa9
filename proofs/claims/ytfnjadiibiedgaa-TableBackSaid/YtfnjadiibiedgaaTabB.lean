/-
  CONTRACT of next: what a mutation's i-th pair makes of its key's value.
-/
import Derived.Test.YtfnjadiibiedgaaTabA
namespace Go.Proofs.Ytfnjadiibiedgaa
open Go.RowKit Go.Shelf

def NextPost (r : Option Int) (w : World) (e : Ending) (w' : World) : Prop := ∃ (v : Int) (b : Bool), e = .returned (.tuple #[.int .i64 v, .bool b]) ∧ (if b = true then some v else none) = r ∧ Below w.heap.size w w'

set_option maxRecDepth 100000 in
set_option maxHeartbeats 4000000 in
theorem next_any (a : Option Addr) (n cp : Nat) (l : List Sp) (c s k : Int) (a2 : Option Addr) (n2 cp2 : Nat) (ps : List Sp) (lo hi old : Int) (i : Nat) (w : World) (hL : Arg w a n cp l) (hA : Arg w a2 n2 cp2 ps) (ht : tblB l = true) (hin : i < n2)
    (hk : okP (ps.getD i (0, 0)) = true) (h5 : k = 5 → 0 ≤ (ps.getD i (0, 0)).2) :
    Calls Try.prog 84 #[.slice a n cp, .agg #[.int .i64 c, .int .i64 s, .int .i64 k, .slice a2 n2 cp2, .int .i64 lo, .int .i64 hi, .int .i64 old], .int .i64 (i : Int)] w
      (NextPost (nextV k old i (ps.getD i (0, 0)) (getT l (ps.getD i (0, 0)).1)) w) := by
  have hil : i < ps.length := by rw [← hA.1]; exact hin
  have hiz : (i : Int) < (n2 : Int) := by omega
  have hnz : (n2 : Int) ≤ 9223372036854775807 := by have h1 := hA.1; have h2 := hA.2.1; omega
  obtain ⟨W1, hW1⟩ : ∃ W1, (w.alloc (.cells #[.int .i64 c, .int .i64 s, .int .i64 k, .slice a2 n2 cp2, .int .i64 lo, .int .i64 hi, .int .i64 old] 26)) = W1 := ⟨_, rfl⟩
  have K7 := Lib.hid (fun W (h : Below W1.heap.size W1 W) => box7 (w := w) (t := 26) (v0 := .int .i64 c) (v1 := .int .i64 s) (v2 := .int .i64 k) (v3 := .slice a2 n2 cp2) (v4 := .int .i64 lo) (v5 := .int .i64 hi) (v6 := .int .i64 old) (w' := W) (by rw [hW1]; exact h))
  have bw : Below w.heap.size w W1 := by rw [← hW1]; exact (Below.refl _ _).alloc (Nat.le_refl _) _
  have s1 : w.heap.size ≤ W1.heap.size := bw.size
  have s2 : w.heap.size < W1.heap.size := by rw [← hW1]; simp
  obtain ⟨z0, z1, z2, z3, z4, z5, z6⟩ := K7.out _ (Below.refl _ _)
  obtain ⟨b, off, e, hb, c0, c1⟩ := (hA.2.2.2.2.below bw) i hil
  subst e
  obtain ⟨p, hp⟩ : ∃ p, ps.getD i (0, 0) = p := ⟨_, rfl⟩
  rw [hp] at c0 c1 hk h5 ⊢
  replace hp := Lib.hid hp
  have hbd := okP_bd hk
  obtain ⟨x, y⟩ := p
  dsimp only at c0 c1 h5 hbd ⊢
  obtain ⟨⟨x0, x1⟩, y0, y1⟩ := hbd
  obtain ⟨Wp, hWp⟩ : ∃ Wp, W1.alloc (.cells #[.int .i64 x, .int .i64 y] 90) = Wp := ⟨_, rfl⟩
  have b1p : Below W1.heap.size W1 Wp := by rw [← hWp]; exact (Below.refl _ _).alloc (Nat.le_refl _) _
  have bwp : Below w.heap.size w Wp := below_next bw b1p
  have p0 : Wp.cell? ⟨W1.heap.size, 0, none⟩ = some (.int .i64 x) := by rw [← hWp]; simp
  have p1 : Wp.cell? ⟨W1.heap.size, 1, none⟩ = some (.int .i64 y) := by rw [← hWp]; simp
  have spp : W1.heap.size < Wp.heap.size := by rw [← hWp]; simp
  have V := value_any a n cp l x Wp (hL.below bwp) ht
  have hvb := getT_val (k := x) ht
  obtain ⟨g, hg⟩ : ∃ g, getT l x = g := ⟨_, rfl⟩
  rw [hg] at V hvb ⊢
  unfold cellOut at V
  obtain ⟨v0, hv0⟩ : ∃ v, g.getD 0 = v := ⟨_, rfl⟩
  obtain ⟨o, ho⟩ : ∃ o, g.isSome = o := ⟨_, rfl⟩
  have hgo : o = true ∧ g = some v0 ∨ o = false ∧ g = none ∧ v0 = 0 := by
    cases g with
    | none => exact .inr ⟨ho.symm, rfl, hv0.symm⟩
    | some v => exact .inl ⟨ho.symm, congrArg some hv0⟩
  rw [hv0, ho] at V
  rw [hv0] at hvb
  obtain ⟨v1, v2⟩ := hvb
  obtain ⟨R, hR⟩ : ∃ R, nextV k old i (x, y) g = R := ⟨_, rfl⟩
  have hcase : (k = 3 ∧ decide (0 ≤ v0 + y) = false ∧ R = none) ∨ (k = 3 ∧ decide (0 ≤ v0 + y) = true ∧ decide (v0 + y ≤ 1099511627776) = false ∧ R = none) ∨ (k = 3 ∧ decide (0 ≤ v0 + y) = true ∧ decide (v0 + y ≤ 1099511627776) = true ∧ R = some (v0 + y)) ∨
      (k = 4 ∧ o = true ∧ (v0 == old) = true ∧ R = some y) ∨ (k = 4 ∧ o = true ∧ (v0 == old) = false ∧ R = none) ∨ (k = 4 ∧ o = false ∧ (old == 1099511627777) = true ∧ R = some y) ∨ (k = 4 ∧ o = false ∧ (old == 1099511627777) = false ∧ R = none) ∨
      (k = 5 ∧ ((i : Int) == 0) = true ∧ 0 ≤ y ∧ R = some (max (v0 - y) (-1099511627776))) ∨ (k = 5 ∧ ((i : Int) == 0) = false ∧ 0 ≤ y ∧ R = some (min (v0 + y) 1099511627776)) ∨ ((k == 3) = false ∧ (k == 4) = false ∧ (k == 5) = false ∧ R = some y) := by
    rw [← hR]
    unfold nextV
    rw [hv0]
    dsimp only
    by_cases k3 : k = 3
    · rw [if_pos k3]
      by_cases q1 : 0 ≤ v0 + y
      · by_cases q2 : v0 + y ≤ 1099511627776
        · exact .inr (.inr (.inl ⟨k3, decide_eq_true q1, decide_eq_true q2, if_pos ⟨q1, q2⟩⟩))
        · exact .inr (.inl ⟨k3, decide_eq_true q1, decide_eq_false q2, if_neg fun q => q2 q.2⟩)
      · exact .inl ⟨k3, decide_eq_false q1, if_neg fun q => q1 q.1⟩
    · rw [if_neg k3]
      by_cases k4 : k = 4
      · rw [if_pos k4]
        rcases hgo with ⟨ho1, hg1⟩ | ⟨ho1, hg1, _⟩
        · by_cases q1 : v0 = old
          · exact .inr (.inr (.inr (.inl ⟨k4, ho1, by simpa using q1, if_pos (.inl (by rw [hg1, q1]))⟩)))
          · exact .inr (.inr (.inr (.inr (.inl ⟨k4, ho1, by simpa using q1, if_neg (by rw [hg1]; simp [q1])⟩))))
        · by_cases q1 : old = 1099511627777
          · exact .inr (.inr (.inr (.inr (.inr (.inl ⟨k4, ho1, by simpa using q1, if_pos (.inr ⟨hg1, q1⟩)⟩)))))
          · exact .inr (.inr (.inr (.inr (.inr (.inr (.inl ⟨k4, ho1, by simpa using q1, if_neg (by rw [hg1]; simp [q1])⟩))))))
      · rw [if_neg k4]
        by_cases k5 : k = 5
        · rw [if_pos k5]
          by_cases i0 : i = 0
          · exact .inr (.inr (.inr (.inr (.inr (.inr (.inr (.inl ⟨k5, by simpa using i0, h5 k5, by rw [if_pos i0]⟩)))))))
          · exact .inr (.inr (.inr (.inr (.inr (.inr (.inr (.inr (.inl ⟨k5, by simpa using i0, h5 k5, by rw [if_neg i0]⟩))))))))
        · rw [if_neg k5]
          exact .inr (.inr (.inr (.inr (.inr (.inr (.inr (.inr (.inr ⟨by simpa using k3, by simpa using k4, by simpa using k5, rfl⟩))))))))
  rw [hR]
  replace V := Lib.hid V
  replace hR := Lib.hid hR
  replace hg := Lib.hid hg
  replace ho := Lib.hid ho
  replace hv0 := Lib.hid hv0
  have hw : IntKind.i64.wrap (v0 + y) = v0 + y := IntWalk.i64_in _ (by omega)
  have hw2 : IntKind.i64.wrap (v0 - y) = v0 - y := IntWalk.i64_in _ (by omega)
  clear hgo hL hA ht hk h5 hil
  rcases hcase with ⟨rfl, d1, hN⟩ | ⟨rfl, d1, d2, hN⟩ | ⟨rfl, d1, d2, hN⟩ | ⟨rfl, rfl, d1, hN⟩ | ⟨rfl, rfl, d1, hN⟩ | ⟨rfl, rfl, d1, hN⟩ | ⟨rfl, rfl, d1, hN⟩ | ⟨rfl, d1, d2, hN⟩ | ⟨rfl, d1, d2, hN⟩ | ⟨d1, d2, d3, hN⟩
  all_goals
    replace hN := Lib.hid hN
    go_enter Try.func84, Try.ntmps84
    go_wp2_with (go_at_call 81; (with_reducible refine V.out.mono ?_); rintro e w3 ⟨rfl, b3⟩; obtain ⟨g0, g1, g2, g3, g4, g5, g6⟩ := K7.out _ (below_next b1p b3); have q0 := (b3.cell (p := ⟨W1.heap.size, 0, none⟩) spp).trans p0; have q1 := (b3.cell (p := ⟨W1.heap.size, 1, none⟩) spp).trans p1)
    try (go_quiet (fail))
    try go_wp2
  all_goals
    go_ret2
    refine ⟨_, _, rfl, ?_, by first | exact below_next bwp b3 | exact below_drewN (below_next bwp b3) _⟩
    rw [hN.out]
    first | rfl | (simp; done) | (simp; omega)
end Go.Proofs.Ytfnjadiibiedgaa
