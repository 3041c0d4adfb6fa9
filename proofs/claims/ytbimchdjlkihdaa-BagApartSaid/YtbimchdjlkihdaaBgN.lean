/-
  BAGS: BagApart.
-/
import Derived.Test.YtbimchdjlkihdaaBgM
namespace Go.Proofs.Ytbimchdjlkihdaa
open Go.RowKit Go.Maps Go.ChangeMaps Go.ChangeShapes Go.WideShapes

set_option maxRecDepth 100000 in
theorem thirdVal_of {H : Type} {enc : TypeId × Value → H} {w : World} {r : Reach} {b0 base : Nat} {spare : Nat → Bool} {held : Bool} {v : Value} {d : DataW H} {p : List MemPlace}
    (hv : Value.okWide Try.prog w r b0 49 v) (h : DataW.Trod enc Try.prog w base spare held 49 v d p) :
    ∃ (z : Int) (t : ByteArray), ((Lit.int .i64 z).wf = true ∧ t.size ≤ maxLen) ∧ v = .agg #[.int .i64 z, .string t] := by
  obtain ⟨v0, v1, y0, y1, n, rfl, _, _, r0, r1⟩ := Go.Joins.open_agg2 Try.underlying49 (by kernel_rfl) (by kernel_rfl) hv h
  obtain ⟨z, e0, _, w0⟩ := DataW.trod_int Try.underlying3 r0
  obtain ⟨t, e1, _, w1⟩ := DataW.trod_string Try.underlying9 r1
  simp at e0 e1
  rw [e0, e1]
  exact ⟨z, t, ⟨w0, w1⟩, rfl⟩
theorem cells2 {W : World} {b : Nat} {x y : Value} {t : TypeId} (h : W.heap[b]? = some (.cells #[x, y] t)) : W.cell? ⟨b, 0, none⟩ = some x ∧ W.cell? ⟨b, 1, none⟩ = some y := ⟨cell_of_row _ _ 0 _ _ _ h, cell_of_row _ _ 1 _ _ _ h⟩
set_option maxRecDepth 100000 in
set_option maxHeartbeats 1000000 in
theorem bagApart_walk (a b : Int) (zz : Int) (t : ByteArray) (w : World) (_ha : (Lit.int .i64 a).wf = true) (_hb : (Lit.int .i64 b).wf = true) (hzt : (Lit.int .i64 zz).wf = true ∧ t.size ≤ maxLen) :
    Calls Try.prog 5 #[.int .i64 a, .int .i64 b, .agg #[.int .i64 zz, .string t]] w (TruePost w) := by
  obtain ⟨x, hx, ex⟩ := tmod_first a 64 (by decide) (by decide)
  obtain ⟨y, hy, ey⟩ := tmod_first b 64 (by decide) (by decide)
  obtain ⟨z, hz, ez⟩ := tmod_first zz 64 (by decide) (by decide)
  have ex1 : (wrap64 (a.tmod 64 + 64)).tmod 64 = (x : Int) := ex
  have ey1 : (wrap64 (b.tmod 64 + 64)).tmod 64 = (y : Int) := ey
  have ez1 : (wrap64 (zz.tmod 64 + 64)).tmod 64 = (z : Int) := ez
  clear ex ey ez
  obtain ⟨W1, hW1⟩ : ∃ W1, w.alloc (.cells #[.int .i64 zz, .string t] 49) = W1 := ⟨_, rfl⟩
  have B1 : Below w.heap.size w W1 := by rw [← hW1]; exact (Below.refl _ _).alloc (Nat.le_refl _) _
  have hx1 : W1.heap[w.heap.size]? = some (.cells #[.int .i64 zz, .string t] 49) := by rw [← hW1]; exact heap_alloc_new _ _
  obtain ⟨z0, z1⟩ := cells2 hx1
  have htm := hzt.2
  have hL := htm
  unfold maxLen at htm
  by_cases hgo : x = y ∨ z = x ∨ z = y ∨ 300 < t.size
  · by_cases c1 : x = y
    · subst c1
      go_enter Try.func5, Try.ntmps5
      go_wp2_with (go_at_call 10; (with_reducible refine (awake10_any _).mono ?_); rintro e w2 ⟨rfl, b2⟩)
      go_ret
      exact ⟨rfl, B1.trans (b2.mono B1.size)⟩
    · have k1 : ¬ (x : Int) = (y : Int) := by omega
      by_cases c2 : z = x
      · subst c2
        go_enter Try.func5, Try.ntmps5
        go_wp2_with (go_at_call 10; (with_reducible refine (awake10_any _).mono ?_); rintro e w2 ⟨rfl, b2⟩)
        go_ret
        exact ⟨rfl, B1.trans (b2.mono B1.size)⟩
      · have k2 : ¬ (z : Int) = (x : Int) := by omega
        by_cases c3 : z = y
        · subst c3
          go_enter Try.func5, Try.ntmps5
          go_wp2_with (go_at_call 10; (with_reducible refine (awake10_any _).mono ?_); rintro e w2 ⟨rfl, b2⟩)
          go_ret
          exact ⟨rfl, B1.trans (b2.mono B1.size)⟩
        · have k3 : ¬ (z : Int) = (y : Int) := by omega
          have k4 : (300 : Int) < (t.size : Int) := by omega
          go_enter Try.func5, Try.ntmps5
          go_wp2_with (go_at_call 10; (with_reducible refine (awake10_any _).mono ?_); rintro e w2 ⟨rfl, b2⟩)
          go_ret
          exact ⟨rfl, B1.trans (b2.mono B1.size)⟩
  · have k1 : ¬ (x : Int) = (y : Int) := by omega
    have k2 : ¬ (z : Int) = (x : Int) := by omega
    have k3 : ¬ (z : Int) = (y : Int) := by omega
    have k4 : ¬ (300 : Int) < (t.size : Int) := by omega
    have n1 : ¬ x = y := by omega
    have n2 : ¬ z = x := by omega
    have n3 : ¬ z = y := by omega
    have n4 : ¬ 300 < t.size := by omega
    have d1 : ((x : Int) == (y : Int)) = false := beq_eq_false_iff_ne.2 k1
    have d2 : ((z : Int) == (x : Int)) = false := beq_eq_false_iff_ne.2 k2
    have d3 : ((z : Int) == (y : Int)) = false := beq_eq_false_iff_ne.2 k3
    have wx := wf_i64 (k := (x : Int)) (by omega) (by omega)
    have wy := wf_i64 (k := (y : Int)) (by omega) (by omega)
    obtain ⟨s1, s2, s3, s4, s5, s6, s7, s8, ma, mc, ⟨e1, l1⟩, ⟨e2, l2⟩, ⟨e3, l3⟩, ⟨e4, v4⟩, ⟨ii, g1, g2, g3, q1, q2, q3⟩, ⟨t1, u1⟩, ⟨t2, u2⟩, ⟨t3, u3, l5⟩, ⟨e5, v5⟩, ⟨e6, v6⟩, ⟨t7, u7⟩, ⟨t8, u8⟩, n8⟩ := apart_plain (x := (x : Int)) (y := (y : Int)) (z := (z : Int)) (t := t) ⟨by omega, by omega⟩ ⟨by omega, by omega⟩ ⟨by omega, by omega⟩ k1 k2 k3 (by omega)
    have l0 : Hid (newB.last < 100000) := Lib.hid (by decide)
    replace l1 := Lib.hid l1
    replace l2 := Lib.hid l2
    clear hgo
    replace e1 := Lib.hid e1
    replace e2 := Lib.hid e2
    replace e3 := Lib.hid e3
    replace e4 := Lib.hid e4
    replace v4 := Lib.hid v4
    replace ii := Lib.hid ii
    replace g1 := Lib.hid g1
    replace g2 := Lib.hid g2
    replace g3 := Lib.hid g3
    replace q1 := Lib.hid q1
    replace q2 := Lib.hid q2
    replace q3 := Lib.hid q3
    replace t1 := Lib.hid t1
    replace u1 := Lib.hid u1
    replace t2 := Lib.hid t2
    replace u2 := Lib.hid u2
    replace t3 := Lib.hid t3
    replace u3 := Lib.hid u3
    replace e5 := Lib.hid e5
    replace v5 := Lib.hid v5
    replace e6 := Lib.hid e6
    replace v6 := Lib.hid v6
    replace t7 := Lib.hid t7
    replace u7 := Lib.hid u7
    replace t8 := Lib.hid t8
    replace u8 := Lib.hid u8
    replace n8 := Lib.hid n8
    go_enter Try.func5, Try.ntmps5
    go_wp2_with (first
      | (go_at_call 9; (with_reducible refine (new_any _).mono ?_); rintro e w1 ⟨p, mb, ab, rfl, h1, p1, p2, p3, b1⟩)
      | (go_at_call 13; (with_reducible refine (send_any h1 l0.out (x : Int) (y : Int) t hL).mono ?_); rw [e1.out]; rintro e w2 ⟨rfl, h2, b2⟩)
      | (go_at_call 13; (with_reducible refine (send_any h2 l1.out (y : Int) (x : Int) t hL).mono ?_); rw [e2.out]; rintro e w3 ⟨rfl, h3, b3⟩)
      | (go_at_call 13; (with_reducible refine (send_any h3 l2.out (x : Int) (z : Int) t hL).mono ?_); rw [e3.out]; rintro e w4 ⟨rfl, h4, b4⟩)
      | (go_at_call 18; (with_reducible refine (apartE h4 l3 wx wy e4.out v4.out).mono ?_); rintro e w5 ⟨rfl, h5, b5⟩)
      | (go_at_call 20; (with_reducible refine (ready3_any h5 ii.out g1.out g2.out g3.out q1.out q2.out q3.out).mono ?_); rintro e w6 ⟨g, c, rfl, c6, gl, b6⟩; (have B7 : Below w6.heap.size w6 (w6.alloc (.cells #[.int .i64 3] 3)) := (Below.refl _ _).alloc (Nat.le_refl _) _); (have y7 := cell_of_row _ _ 0 _ _ _ (heap_alloc_new w6 (.cells #[.int .i64 3] 3))); (have c7 := (B7.cell (p := ⟨g, 0, none⟩) gl).trans c6); (have h7 := (h5.same b6).same B7))
      | (go_at_call 19; (with_reducible refine (same3_any c7 y7).mono ?_); rintro e w8 ⟨rfl, b8⟩; (have h8 := h7.same b8))
      | (go_at_call 14; (with_reducible refine (takeE h8 (by decide) t1.out u1.out).mono ?_); rintro e w9 ⟨rfl, h9, b9⟩; (have B9 := belowM w9 ma); (have i9 := h9.same B9); obtain ⟨W9, hW9⟩ : ∃ W, w9.alloc (.cells #[.int .i64 ma.id, .int .i64 ma.fr, .int .i64 ma.to, .string ma.tx] 42) = W := ⟨_, rfl⟩; simp only [boxM] at B9 i9; rw [hW9] at B9 i9)
      | (go_at_call 14; (with_reducible refine (takeE i9 (by decide) t2.out u2.out).mono ?_); rintro e w10 ⟨rfl, h10, b10⟩; (have B10 := belowM w10 mc); (have i10 := h10.same B10); obtain ⟨W10, hW10⟩ : ∃ W, w10.alloc (.cells #[.int .i64 mc.id, .int .i64 mc.fr, .int .i64 mc.to, .string mc.tx] 42) = W := ⟨_, rfl⟩; simp only [boxM] at B10 i10; rw [hW10] at B10 i10)
      | (go_at_call 14; (with_reducible refine (takeE i10 (by decide) t3.out u3.out).mono ?_); rintro e w11 ⟨rfl, h11, b11⟩; (have B11 := belowM w11 ⟨3, x, z, t⟩); (have i11 := h11.same B11); (have x11 := heap_alloc_new w11 (boxM ⟨3, x, z, t⟩)); obtain ⟨W11, hW11⟩ : ∃ W, w11.alloc (.cells #[.int .i64 3, .int .i64 x, .int .i64 z, .string t] 42) = W := ⟨_, rfl⟩; simp only [boxM] at B11 i11 x11; rw [hW11] at B11 i11 x11; obtain ⟨m0_, m1_, m2_, m3_⟩ := cellsM x11)
      | (go_at_call 18; (with_reducible refine (apartE i11 l5 wx wx e5.out v5.out).mono ?_); rintro e w12 ⟨rfl, h12, b12⟩)
      | (go_at_call 18; (with_reducible refine (apartE h12 l5 wy wx e6.out v6.out).mono ?_); rintro e w13 ⟨rfl, h13, b13⟩)
      | (go_at_call 14; (with_reducible refine (takeE h13 (by decide) t7.out u7.out).mono ?_); rintro e w14 ⟨rfl, h14, b14⟩; (have B14 := belowM w14 ⟨2, y, x, t⟩); (have i14 := h14.same B14); (have x14 := heap_alloc_new w14 (boxM ⟨2, y, x, t⟩)); obtain ⟨W14, hW14⟩ : ∃ W, w14.alloc (.cells #[.int .i64 2, .int .i64 y, .int .i64 x, .string t] 42) = W := ⟨_, rfl⟩; simp only [boxM] at B14 i14 x14; rw [hW14] at B14 i14 x14)
      | (go_at_call 14; (with_reducible refine (takeE i14 (by decide) t8.out u8.out).mono ?_); rintro e w15 ⟨rfl, h15, b15⟩; (have l14 := h14.lt); (have B15 := belowM w15 ⟨1, x, y, t⟩); (have i15 := h15.same B15); (have x15 := heap_alloc_new w15 (boxM ⟨1, x, y, t⟩)); (have r14 := (b15.block _ (Array.getElem?_eq_some_iff.1 x14).1 (by omega) (by omega) (by omega)).trans x14); (have s14 := (B15.block _ (Array.getElem?_eq_some_iff.1 r14).1).trans r14); obtain ⟨W15, hW15⟩ : ∃ W, w15.alloc (.cells #[.int .i64 1, .int .i64 x, .int .i64 y, .string t] 42) = W := ⟨_, rfl⟩; simp only [boxM] at B15 i15 x15 s14; rw [hW15] at B15 i15 x15 s14)
      | (go_at_call 10; (with_reducible refine (awake10_any _).mono ?_); rintro e w16 ⟨rfl, b16⟩; (have h16 := i15.same b16); obtain ⟨j0, j1, j2, j3⟩ := cellsM ((b16.block _ (Array.getElem?_eq_some_iff.1 s14).1).trans s14); obtain ⟨o0, o1, o2, o3⟩ := cellsM ((b16.block _ (Array.getElem?_eq_some_iff.1 x15).1).trans x15))
      | (go_at_call 17; (with_reducible refine (ids_any h16).1.mono ?_); rintro e w17 ⟨a17, c17, rfl, _, b17⟩; rw [(ids_any h16).2, n8.out]))
    go_ret
    refine ⟨rfl, ?_⟩
    have D : But p mb ab w1 w17 := (((((((((((((((((((b2.trans b3).trans b4).trans b5).trans (But.of_below b6)).trans (But.of_below B7)).trans (But.of_below b8)).trans b9).trans (But.of_below B9)).trans b10).trans (But.of_below B10)).trans b11).trans (But.of_below B11)).trans b12).trans b13).trans b14).trans (But.of_below B14)).trans b15).trans (But.of_below B15)).trans (But.of_below b16)).trans (But.of_below b17)
    have E := b1.trans (D.below b1.size p1 p2 p3)
    exact B1.trans (E.mono B1.size)
end Go.Proofs.Ytbimchdjlkihdaa
