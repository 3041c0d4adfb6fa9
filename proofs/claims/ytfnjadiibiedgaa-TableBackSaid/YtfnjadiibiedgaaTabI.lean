/-
  CONTRACTS of the statements' own few and awake (on tables).
-/
import Derived.Test.YtfnjadiibiedgaaTabH
namespace Go.Proofs.Ytfnjadiibiedgaa
open Go.RowKit Go.Shelf Go.Lib

def fewB (n n2 n3 : Nat) : Bool := decide (n ≤ 200) && (decide (n2 ≤ 100) && decide (n3 ≤ 100))
theorem few5_any (a : Option Addr) (n cp : Nat) (c s k : Int) (a2 : Option Addr) (n2 cp2 : Nat) (lo hi old : Int) (a3 : Option Addr) (n3 cp3 : Nat) (w : World) (h1 : (n : Int) ≤ 9223372036854775807) (h2 : (n2 : Int) ≤ 9223372036854775807) (h3 : (n3 : Int) ≤ 9223372036854775807) :
    Calls Try.prog 36 #[.slice a n cp, .agg #[.int .i64 c, .int .i64 s, .int .i64 k, .slice a2 n2 cp2, .int .i64 lo, .int .i64 hi, .int .i64 old], .slice a3 n3 cp3] w (Gives w (.bool (fewB n n2 n3))) := by
  have H := Lib.hid (show fewB n n2 n3 = (decide (n ≤ 200) && (decide (n2 ≤ 100) && decide (n3 ≤ 100))) from rfl)
  generalize fewB n n2 n3 = r at H
  have e1 : decide (n ≤ 200) = decide ((n : Int) ≤ 200) := decide_eq_decide.2 (by omega)
  have e2 : decide (n2 ≤ 100) = decide ((n2 : Int) ≤ 100) := decide_eq_decide.2 (by omega)
  have e3 : decide (n3 ≤ 100) = decide ((n3 : Int) ≤ 100) := decide_eq_decide.2 (by omega)
  rw [e1, e2, e3] at H
  by_cases q1 : (n : Int) ≤ 200
  · have d1 := decide_eq_true q1
    by_cases q2 : (n2 : Int) ≤ 100
    · have d2 := decide_eq_true q2
      have HH := Lib.hid (show r = decide ((n3 : Int) ≤ 100) by rw [H.out, d1, d2]; simp)
      clear e1 e2 e3 q1 q2
      go_enter Try.func36, Try.ntmps36
      go_wp2
      go_ret
      exact ⟨ret_bool HH.out.symm, (Below.refl _ _).alloc (Nat.le_refl _) _⟩
    · have d2 := decide_eq_false q2
      have HH := Lib.hid (show r = false by rw [H.out, d2]; simp)
      clear e1 e2 e3 q1 q2
      go_enter Try.func36, Try.ntmps36
      go_wp2
      go_ret
      exact ⟨ret_bool HH.out.symm, (Below.refl _ _).alloc (Nat.le_refl _) _⟩
  · have d1 := decide_eq_false q1
    have HH := Lib.hid (show r = false by rw [H.out, d1]; simp)
    clear e1 e2 e3 q1
    go_enter Try.func36, Try.ntmps36
    go_wp2
    go_ret
    exact ⟨ret_bool HH.out.symm, (Below.refl _ _).alloc (Nat.le_refl _) _⟩

theorem eqPair (x y p q : Int) (w : World) : (binOp .eql 90 (.agg #[.int .i64 x, .int .i64 y]) (.agg #[.int .i64 p, .int .i64 q])).run Try.prog w = .ok (.bool (x == p && y == q)) w := by
  have u3 := Try.underlying3
  have a3 := Try.isAgg3
  have z3 := Try.sizeOf3
  have hS : Try.prog.underlying 90 = some (.struct (Try.prog.fieldsOf 90)) := by kernel_rfl
  have hp : Try.prog.stoodInHeld 90 = false := by kernel_rfl
  rw [run_eql_struct, show (10000 : Nat) = 9999 + 1 from rfl, run_equalIn_agg w 9999 90 _ _ hS hp]
  simp only [Program.fieldsOf, Try.underlying90]
  go_simp
  by_cases h1 : x = p <;> by_cases h2 : y = q <;> simp [h1, h2]
theorem app_ex1 : applyP [(5, 7)] 1 1 3 [(5, 3)] 0 0 0 [(0, 4096)] = ([(5, 10)], true) := by decide +kernel
theorem app_ex2 : applyP [(5, 7)] 1 1 5 [(5, 4), (9, 4)] 0 0 0 [(9, 10)] = ([(5, 7), (9, 4)], true) := by decide +kernel
theorem OwnsP.one {t : TypeId} {w : World} {base : Nat} {v : Value} {x y : Int} (h : OwnsP t w base v [(x, y)]) : ∃ g c, v = .slice (some ⟨g, 0, none⟩) 1 c ∧ g < w.heap.size ∧ w.cell? ⟨g, 0, none⟩ = some (.int .i64 x) ∧ w.cell? ⟨g, 1, none⟩ = some (.int .i64 y) := by
  obtain ⟨g, cap, hv, _, hg, _, _⟩ := h.form (by simp)
  have hv' : v = .slice (some ⟨g, 0, none⟩) 1 cap := hv
  subst hv'
  exact ⟨g, cap, rfl, hg, World.ownsRow.cellAt h 0 (by decide), World.ownsRow.cellAt h 1 (by decide)⟩
theorem OwnsP.two {t : TypeId} {w : World} {base : Nat} {v : Value} {x y p q : Int} (h : OwnsP t w base v [(x, y), (p, q)]) : ∃ g c, v = .slice (some ⟨g, 0, none⟩) 2 c ∧ g < w.heap.size ∧ w.cell? ⟨g, 0, none⟩ = some (.int .i64 x) ∧ w.cell? ⟨g, 1, none⟩ = some (.int .i64 y) ∧ w.cell? ⟨g, 2, none⟩ = some (.int .i64 p) ∧ w.cell? ⟨g, 3, none⟩ = some (.int .i64 q) := by
  obtain ⟨g, cap, hv, _, hg, _, _⟩ := h.form (by simp)
  have hv' : v = .slice (some ⟨g, 0, none⟩) 2 cap := hv
  subst hv'
  exact ⟨g, cap, rfl, hg, World.ownsRow.cellAt h 0 (by decide), World.ownsRow.cellAt h 1 (by decide), World.ownsRow.cellAt h 2 (by decide), World.ownsRow.cellAt h 3 (by decide)⟩

set_option maxRecDepth 100000 in
set_option maxHeartbeats 2000000 in
theorem awake5_any (w : World) : Calls Try.prog 37 #[] w (TruePost w) := by
  obtain ⟨W1, hW1⟩ : ∃ W1, w.alloc (.cells #[.int .i64 5, .int .i64 7] 90) = W1 := ⟨_, rfl⟩
  obtain ⟨W2, hW2⟩ : ∃ W2, W1.alloc (.cells #[.int .i64 0, .int .i64 4096] 24) = W2 := ⟨_, rfl⟩
  obtain ⟨W3, hW3⟩ : ∃ W3, W2.alloc (.cells #[.int .i64 5, .int .i64 3] 90) = W3 := ⟨_, rfl⟩
  have b1 : Below w.heap.size w W1 := by rw [← hW1]; exact (Below.refl _ _).alloc (Nat.le_refl _) _
  have b2 : Below W1.heap.size W1 W2 := by rw [← hW2]; exact (Below.refl _ _).alloc (Nat.le_refl _) _
  have b3 : Below W2.heap.size W2 W3 := by rw [← hW3]; exact (Below.refl _ _).alloc (Nat.le_refl _) _
  have A1 : Arg W1 (some ⟨w.heap.size, 0, none⟩) 1 1 [(5, 7)] := by rw [← hW1]; exact arg_new w 90 [(5, 7)] #[.int .i64 5, .int .i64 7] rfl (by simp)
  have A2 : Arg W2 (some ⟨W1.heap.size, 0, none⟩) 1 1 [(0, 4096)] := by rw [← hW2]; exact arg_new W1 24 [(0, 4096)] #[.int .i64 0, .int .i64 4096] rfl (by simp)
  have A3 : Arg W3 (some ⟨W2.heap.size, 0, none⟩) 1 1 [(5, 3)] := by rw [← hW3]; exact arg_new W2 90 [(5, 3)] #[.int .i64 5, .int .i64 3] rfl (by simp)
  have b03 := below_next (below_next b1 b2) b3
  have b13 := below_next b2 b3
  have C1 := apply_any _ 1 1 [(5, 7)] 1 1 3 _ 1 1 [(5, 3)] 0 0 0 _ 1 1 [(0, 4096)] W3 (A1.below b13) A3 (A2.below b3)
  rw [app_ex1] at C1
  have C2 := Lib.hid (fun (W : World) (h : Below W1.heap.size W1 W) => (show Calls Try.prog 43 #[.slice (some ⟨w.heap.size, 0, none⟩) 1 1, .agg #[.int .i64 1, .int .i64 1, .int .i64 5, .slice (some ⟨W.heap.size, 0, none⟩) 2 2, .int .i64 0, .int .i64 0, .int .i64 0], .slice (some ⟨W.heap.size + 1, 0, none⟩) 1 1]
      ((W.alloc (.cells #[.int .i64 5, .int .i64 4, .int .i64 9, .int .i64 4] 90)).alloc (.cells #[.int .i64 9, .int .i64 10] 24)) (AppPost ([(5, 7), (9, 4)], true) ((W.alloc (.cells #[.int .i64 5, .int .i64 4, .int .i64 9, .int .i64 4] 90)).alloc (.cells #[.int .i64 9, .int .i64 10] 24))) from by
    have hs : (W.alloc (.cells #[.int .i64 5, .int .i64 4, .int .i64 9, .int .i64 4] 90)).heap.size = W.heap.size + 1 := by simp
    have := apply_any _ 1 1 [(5, 7)] 1 1 5 _ 2 2 [(5, 4), (9, 4)] 0 0 0 _ 1 1 [(9, 10)] ((W.alloc (.cells #[.int .i64 5, .int .i64 4, .int .i64 9, .int .i64 4] 90)).alloc (.cells #[.int .i64 9, .int .i64 10] 24))
      (A1.below ((h.alloc h.size _).alloc (by have := h.size; simp; omega) _)) ((arg_new W 90 [(5, 4), (9, 4)] #[.int .i64 5, .int .i64 4, .int .i64 9, .int .i64 4] rfl (by simp)).below ((Below.refl _ _).alloc (Nat.le_refl _) _)) (arg_new _ 24 [(9, 10)] #[.int .i64 9, .int .i64 10] rfl (by simp))
    rw [app_ex2, hs] at this
    exact this))
  have E := fun w => eqPair 9 4 9 4 w
  replace C1 := Lib.hid C1
  clear A1 A2 A3
  go_enter Try.func37, Try.ntmps37
  go_wp2_with (first | (go_at_call 43; (with_reducible refine C1.out.mono ?_); rintro e w4 ⟨v4, rfl, o4, b4⟩; obtain ⟨g4, c4, rfl, hg4, x0, x1⟩ := o4.one; clear o4; have b04 := below_next b03 b4; have b14 := below_next b13 b4) | (go_at_call 43; (with_reducible refine (C2.out w4 b14).mono ?_); rintro e w5 ⟨v5, rfl, o5, b5⟩; obtain ⟨g5, c5, rfl, hg5, y0, y1, y2, y3⟩ := o5.two; clear o5; have bq := (((Below.refl w4.heap.size w4).alloc (Nat.le_refl _) (.cells #[.int .i64 5, .int .i64 4, .int .i64 9, .int .i64 4] 90)).alloc (by simp) (.cells #[.int .i64 9, .int .i64 10] 24)).trans (b5.mono (by simp; omega)); have x1 := (bq.cell (p := ⟨g4, 1, none⟩) hg4).trans x1))
  go_ret
  exact ⟨rfl, b04.trans (bq.mono b04.size)⟩
end Go.Proofs.Ytfnjadiibiedgaa
