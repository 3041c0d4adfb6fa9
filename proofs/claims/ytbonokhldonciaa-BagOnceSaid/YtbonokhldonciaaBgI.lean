/-
  BAGS: a nil bag; BagNil.
-/
import Derived.Test.YtbonokhldonciaaBgH
import Derived.OpenShut
namespace Go.Proofs.Ytbonokhldonciaa
open Go.RowKit Go.Maps Go.ChangeMaps Go.ChangeShapes Go.WideShapes

theorem take_nil (k : Int) (w : World) : Calls Try.prog 14 #[.pointer none, .int .i64 k] w (RPost (.tuple #[.agg #[.int .i64 0, .int .i64 0, .int .i64 0, .string ⟨#[]⟩], .int .i64 1]) w) := by
  have hx1 := heap_alloc_new w (boxM m0)
  have B1 := belowM w m0
  simp only [m0, boxM] at B1 hx1
  replace B1 := Lib.hid B1
  replace hx1 := Lib.hid hx1
  obtain ⟨m, hm⟩ : ∃ m, m0 = m := ⟨_, rfl⟩
  have hg := fun w => get_nil k w
  rw [hm] at hg
  clear hm
  go_enter Try.func14, Try.ntmps14
  go_wp2_with (go_at_call 31; (with_reducible refine (hg _).mono ?_); rintro e w2 ⟨rfl, b2⟩; (have b3 := b2.trans ((belowM w2 m).mono b2.size)); (have hx := (b3.block _ (by simp)).trans hx1.out); (have B3 := B1.out.trans (b3.mono B1.out.size)); obtain ⟨W3, hW3⟩ : ∃ W3, w2.alloc (.cells #[.int .i64 m.id, .int .i64 m.fr, .int .i64 m.to, .string m.tx] 42) = W3 := ⟨_, rfl⟩; simp only [boxM] at b3 hx B3; rw [hW3] at b3 hx B3; obtain ⟨z0, z1, z2, z3⟩ := cellsM hx; obtain ⟨f0, f1, f2, f3⟩ := freeM hx)
  exact bodyPost_ret (v := .tuple #[.agg #[.int .i64 0, .int .i64 0, .int .i64 0, .string ⟨#[]⟩], .int .i64 1]) (by simp [results, Try.results14, go_sem, z0, z1, z2, z3]) rfl ⟨rfl, (((B3.setCell (Nat.le_refl _) _).setCell (Nat.le_refl _) _).setCell (Nat.le_refl _) _).setCell (Nat.le_refl _) _⟩
theorem find_nil (k : Int) (w : World) : Calls Try.prog 21 #[.pointer none, .int .i64 k] w (RPost (.tuple #[.agg #[.int .i64 0, .int .i64 0, .int .i64 0, .string ⟨#[]⟩], .bool false]) w) := by
  have hx1 := heap_alloc_new w (boxM m0)
  have B1 := belowM w m0
  simp only [m0, boxM] at B1 hx1
  replace B1 := Lib.hid B1
  replace hx1 := Lib.hid hx1
  have hg := fun w => get_nil k w
  simp only [m0] at hg
  go_enter Try.func21, Try.ntmps21
  go_wp2_with (go_at_call 31; (with_reducible refine (hg _).mono ?_); rintro e w2 ⟨rfl, b2⟩; (have b3 := b2.trans ((belowM w2 m0).mono b2.size)); (have hx := (b3.block _ (by simp)).trans hx1.out); (have hy := heap_alloc_new w2 (boxM m0)); (have B3 := B1.out.trans (b3.mono B1.out.size)); simp only [boxM, m0] at b3 hx hy B3; obtain ⟨z0, z1, z2, z3⟩ := cellsM hx; obtain ⟨f0, f1, f2, f3⟩ := freeM hx; obtain ⟨y0, y1, y2, y3⟩ := cellsM hy)
  exact bodyPost_ret (v := .tuple #[.agg #[.int .i64 0, .int .i64 0, .int .i64 0, .string ⟨#[]⟩], .bool false]) (by simp [results, Try.results21, go_sem, z0, z1, z2, z3]) rfl ⟨rfl, (((B3.setCell (Nat.le_refl _) _).setCell (Nat.le_refl _) _).setCell (Nat.le_refl _) _).setCell (Nat.le_refl _) _⟩
theorem index_none (v : Value) (w : World) : Calls Try.prog 46 #[.slice none 0 0, v] w fun e w' => e = .returned (.int .i64 (-1)) ∧ w' = w := by
  go_enter Try.func46, Try.ntmps46
  go_wp2
  refine wp_loop_once ?_
  go_wp2
  go_ret
  exact ⟨rfl, rfl⟩
theorem delete_none (v : Value) (w : World) : Calls Try.prog 36 #[.slice none 0 0, v] w fun e w' => e = .returned (.slice none 0 0) ∧ w' = w := by
  go_enter Try.func36, Try.ntmps36
  go_wp2_with (go_at_call 46; (with_reducible refine (index_none _ _).mono ?_); rintro e w2 ⟨rfl, hw2⟩; subst w2)
  go_ret
  exact ⟨rfl, rfl⟩
theorem ready_nil (w : World) : Calls Try.prog 20 #[.pointer none] w (RPost (.slice none 0 0) w) := by
  have B : Below w.heap.size w (w.alloc (.cells #[.pointer none] 23)) := (Below.refl _ _).alloc (Nat.le_refl _) _
  have hx := heap_alloc_new w (.cells #[.pointer none] 23)
  have z0 := cell_of_row _ _ 0 _ _ _ hx
  go_enter Try.func20, Try.ntmps20
  go_wp2_with (first
    | (go_at_call 17; (with_reducible refine (ids_nil _).mono ?_); rintro e w2 ⟨rfl, hw2⟩; subst w2)
    | (go_at_call 36; (with_reducible refine (delete_none _ _).mono ?_); rintro e w2 ⟨rfl, hw2⟩; subst w2))
  go_ret
  exact ⟨rfl, B⟩
set_option maxRecDepth 100000 in
set_option maxHeartbeats 4000000 in
theorem bagNil_walk (x y : Int) (t : ByteArray) (w : World) (_hx : (Lit.int .i64 x).wf = true) (_hy : (Lit.int .i64 y).wf = true) (_ht : t.size ≤ maxLen) :
    Calls Try.prog 7 #[.int .i64 x, .int .i64 y, .string t] w (TruePost w) := by
  have BM := fun w => belowM w m0
  have hn := fun w => heap_alloc_new w (boxM m0)
  simp only [m0, boxM] at BM hn
  replace BM := Lib.hid BM
  replace hn := Lib.hid hn
  go_enter Try.func7, Try.ntmps7
  go_wp2_with (first
    | (go_at_call 13; (with_reducible refine (send_nil _ _ _ _).mono ?_); rintro e w1 ⟨rfl, hw1⟩; subst w1)
    | (go_at_call 14; (with_reducible refine (take_nil _ _).mono ?_); rintro e w2 ⟨rfl, b2⟩; (have c2 := b2.trans ((BM.out w2).mono b2.size)); (have x2 := hn.out w2); replace c2 := Lib.hid c2; replace x2 := Lib.hid x2)
    | (go_at_call 16; (with_reducible refine (twice_nil _ _).mono ?_); rintro e w3 ⟨rfl, b3⟩; (have c3 := c2.out.trans (b3.mono c2.out.size)); (have x3 := (b3.block _ (by simp)).trans x2.out); replace c3 := Lib.hid c3; replace x3 := Lib.hid x3)
    | (go_at_call 21; (with_reducible refine (find_nil _ _).mono ?_); rintro e w4 ⟨rfl, b4⟩; (have d4 := b4.trans ((BM.out w4).mono b4.size)); (have c4 := c3.out.trans (d4.mono c3.out.size)); (have x4 := (d4.block _ (Array.getElem?_eq_some_iff.1 x3.out).1).trans x3.out); (have y4 := hn.out w4); replace c4 := Lib.hid c4; replace x4 := Lib.hid x4; replace y4 := Lib.hid y4)
    | (go_at_call 10; (with_reducible refine (awake10_any _).mono ?_); rintro e w5 ⟨rfl, b5⟩; (have c5 := c4.out.trans (b5.mono c4.out.size)); (have x5 := (b5.block _ (Array.getElem?_eq_some_iff.1 x4.out).1).trans x4.out); (have y5 := (b5.block _ (Array.getElem?_eq_some_iff.1 y4.out).1).trans y4.out); obtain ⟨u0, u1, u2, u3⟩ := cellsM x5; obtain ⟨v0, v1, v2, v3⟩ := cellsM y5)
    | (go_at_call 15; (with_reducible refine (lose_nil _ _).mono ?_); rintro e w6 ⟨rfl, b6⟩)
    | (go_at_call 18; (with_reducible refine (apart_nil _ _ _ _).mono ?_); rintro e w7 ⟨rfl, hw7⟩; subst w7)
    | (go_at_call 17; (with_reducible refine (ids_nil _).mono ?_); rintro e w8 ⟨rfl, hw8⟩; subst w8)
    | (go_at_call 20; (with_reducible refine (ready_nil _).mono ?_); rintro e w9 ⟨rfl, b9⟩))
  go_ret
  exact ⟨rfl, (c5.trans (b6.mono c5.size)).trans (b9.mono (by have := c5.size; have := b6.size; omega))⟩
end Go.Proofs.Ytbonokhldonciaa
