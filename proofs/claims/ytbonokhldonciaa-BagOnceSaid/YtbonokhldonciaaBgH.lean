/-
  BAGS: the page's example (splicelaw10.awake).
-/
import Derived.Test.YtbonokhldonciaaBgG
namespace Go.Proofs.Ytbonokhldonciaa
open Go.RowKit Go.Maps Go.ChangeMaps

def TruePost (w : World) (e : Ending) (w' : World) : Prop := e = .returned (.bool true) ∧ Below w.heap.size w w'
theorem sendE {w : World} {p mb ab : Nat} {s s' : Bs} {f t i v : Int} {x : ByteArray} (h : Bg w p mb ab s) (hL : s.last < 100000) (e1 : sendS s f t x = s') (e2 : sendV s f t x = (i, v)) (hx : x.size ≤ maxLen) :
    Calls Try.prog 13 #[.pointer (some ⟨p, 0, none⟩), .int .i64 f, .int .i64 t, .string x] w (SPost p mb ab (.tuple #[.int .i64 i, .int .i64 v]) s' w) := by
  have := send_any h hL f t x hx
  rwa [e1, e2] at this
theorem twiceE {w : World} {p mb ab : Nat} {s s' : Bs} {k i v : Int} (h : Bg w p mb ab s) (hL : s.last < 100000) (hk : (Lit.int .i64 k).wf = true) (e1 : twiceS s k = s') (e2 : twiceV s k = (i, v)) :
    Calls Try.prog 16 #[.pointer (some ⟨p, 0, none⟩), .int .i64 k] w (SPost p mb ab (.tuple #[.int .i64 i, .int .i64 v]) s' w) := by
  have := twice_any h hL hk
  rwa [e1, e2] at this
theorem takeE {w : World} {p mb ab : Nat} {s s' : Bs} {k v : Int} {m : Ml} (h : Bg w p mb ab s) (hk : (Lit.int .i64 k).wf = true) (e1 : takeS s k = s') (e2 : takeV s k = (m, v)) :
    Calls Try.prog 14 #[.pointer (some ⟨p, 0, none⟩), .int .i64 k] w (SPost p mb ab (.tuple #[.agg #[.int .i64 m.id, .int .i64 m.fr, .int .i64 m.to, .string m.tx], .int .i64 v]) s' w) := by
  have := take_any h hk
  rwa [e1, e2] at this
theorem loseE {w : World} {p mb ab : Nat} {s s' : Bs} {k v : Int} (h : Bg w p mb ab s) (hk : (Lit.int .i64 k).wf = true) (e1 : loseS s k = s') (e2 : loseV s k = v) :
    Calls Try.prog 15 #[.pointer (some ⟨p, 0, none⟩), .int .i64 k] w (SPost p mb ab (.int .i64 v) s' w) := by
  have := lose_any h hk
  rwa [e1, e2] at this
theorem apartE {w : World} {p mb ab : Nat} {s s' : Bs} {x y v : Int} {on : Bool} (h : Bg w p mb ab s) (hc : s.c ≤ 4000) (hx : (Lit.int .i64 x).wf = true) (hy : (Lit.int .i64 y).wf = true) (e1 : apartS s x y on = s') (e2 : apartV x y = v) :
    Calls Try.prog 18 #[.pointer (some ⟨p, 0, none⟩), .int .i64 x, .int .i64 y, .bool on] w (SPost p mb ab (.int .i64 v) s' w) := by
  have := apart_any h hc hx hy on
  rwa [e1, e2] at this
abbrev tA : ByteArray := ⟨#[97]⟩
/-- What comes out of the example, step by step. -/
theorem awake_plain : ∃ (s1 s2 s3 s4 s5 s6 : Bs) (ma mc : Ml), sendS newB 1 2 tA = s1 ∧ sendV newB 1 2 tA = (1, 0) ∧ s1.last < 100000 ∧ twiceS s1 1 = s2 ∧ twiceV s1 1 = (2, 0) ∧ s2.c ≤ 4000 ∧ apartS s2 2 1 true = s3 ∧ takeS s3 1 = s4 ∧ takeV s3 1 = (ma, 50) ∧
    s4.c ≤ 4000 ∧ apartS s4 1 2 false = s5 ∧ takeS s5 1 = s6 ∧ takeV s5 1 = (⟨1, 1, 2, tA⟩, 0) ∧ takeV s6 1 = (mc, 4) := by
  refine ⟨_, _, _, _, _, _, m0, m0, rfl, by rfl, by decide, rfl, by rfl, by decide, rfl, rfl, by rfl, by decide, rfl, rfl, by rfl, by rfl⟩
set_option maxRecDepth 100000 in
set_option maxHeartbeats 2000000 in
theorem awake10_any (w : World) : Calls Try.prog 10 #[] w (TruePost w) := by
  obtain ⟨s1, s2, s3, s4, s5, s6, ma, mc, e1, e1v, l1, e2, e2v, k2, e3, e4, e4v, k4, e5, e6, e6v, e7v⟩ := awake_plain
  replace e1 := Lib.hid e1
  replace e2 := Lib.hid e2
  replace e3 := Lib.hid e3
  replace e4 := Lib.hid e4
  replace e5 := Lib.hid e5
  replace e6 := Lib.hid e6
  go_enter Try.func10, Try.ntmps10
  go_wp2_with (first
    | (go_at_call 9; (with_reducible refine (new_any _).mono ?_); rintro e w1 ⟨p, mb, ab, rfl, h1, p1, p2, p3, b1⟩)
    | (go_at_call 13; (with_reducible refine (sendE h1 (by decide) e1.out e1v (by decide)).mono ?_); rintro e w2 ⟨rfl, h2, b2⟩)
    | (go_at_call 16; (with_reducible refine (twiceE h2 l1 (by decide) e2.out e2v).mono ?_); rintro e w3 ⟨rfl, h3, b3⟩)
    | (go_at_call 18; (with_reducible refine (apartE h3 k2 (by decide) (by decide) e3.out rfl).mono ?_); rintro e w4 ⟨rfl, h4, b4⟩)
    | (go_at_call 14; (with_reducible refine (takeE h4 (by decide) e4.out e4v).mono ?_); rintro e w5 ⟨rfl, h5, b5⟩; (have B5 := belowM w5 ma); (have g5 := h5.same B5); obtain ⟨W5, hW5⟩ : ∃ W, w5.alloc (.cells #[.int .i64 ma.id, .int .i64 ma.fr, .int .i64 ma.to, .string ma.tx] 42) = W := ⟨_, rfl⟩; simp only [boxM] at B5 g5; rw [hW5] at B5 g5)
    | (go_at_call 18; (with_reducible refine (apartE g5 k4 (by decide) (by decide) e5.out rfl).mono ?_); rintro e w6 ⟨rfl, h6, b6⟩)
    | (go_at_call 14; (with_reducible refine (takeE h6 (by decide) e6.out e6v).mono ?_); rintro e w7 ⟨rfl, h7, b7⟩; (have B7 := belowM w7 ⟨1, 1, 2, tA⟩); (have g7 := h7.same B7); (have x7 := heap_alloc_new w7 (boxM ⟨1, 1, 2, tA⟩)); obtain ⟨W7, hW7⟩ : ∃ W, w7.alloc (.cells #[.int .i64 1, .int .i64 1, .int .i64 2, .string tA] 42) = W := ⟨_, rfl⟩; simp only [boxM] at B7 g7 x7; rw [hW7] at B7 g7 x7)
    | (go_at_call 14; (with_reducible refine (takeE g7 (by decide) rfl e7v).mono ?_); rintro e w8 ⟨rfl, h8, b8⟩; (have B8 := belowM w8 mc); (have n7 : w7.heap.size ≠ p ∧ w7.heap.size ≠ mb ∧ w7.heap.size ≠ ab := by have := h7.lt; omega); (have x8 := (B8.block _ (by have := (Array.getElem?_eq_some_iff.1 x7).1; have := b8.size; omega)).trans ((b8.block _ (Array.getElem?_eq_some_iff.1 x7).1 n7.1 n7.2.1 n7.2.2).trans x7)); (have g8 := h8.same B8); obtain ⟨W8, hW8⟩ : ∃ W, w8.alloc (.cells #[.int .i64 mc.id, .int .i64 mc.fr, .int .i64 mc.to, .string mc.tx] 42) = W := ⟨_, rfl⟩; simp only [boxM] at B8 x8 g8; rw [hW8] at B8 x8 g8; obtain ⟨z0, z1, z2, z3⟩ := cellsM x8))
  go_ret
  refine ⟨rfl, ?_⟩
  have c1 : But p mb ab w1 W8 := ((((((((b2.trans b3).trans b4).trans b5).trans (But.of_below B5)).trans b6).trans b7).trans (But.of_below B7)).trans b8).trans (But.of_below B8)
  exact b1.trans (c1.below b1.size p1 p2 p3)
end Go.Proofs.Ytbonokhldonciaa
