/-
  All numbers of a table in memory; values that came in. (The head of XMkW, which bears it itself.)
-/
import Derived.Test.YtjjadappjapjhaaMkV
import Derived.Test.YtjjadappjapjhaaMkM
namespace Go.Proofs.Ytjjadappjapjhaa
open Go.RowKit Go.Deep

set_option maxRecDepth 100000 in
theorem pairArr_of {H : Type} {enc : TypeId × Value → H} {w : World} {r : Reach} {b0 base : Nat} {spare : Nat → Bool} {held : Bool} {v : Value} {d : DataW H} {p : List MemPlace}
    (hv : Value.okWide Try.prog w r b0 23 v) (h : DataW.Trod enc Try.prog w base spare held 23 v d p) :
    ∃ (x y : Int), v = .agg #[.int .i64 x, .int .i64 y] := by
  have kI : Try.prog.cellsOf 3 = 1 := by kernel_rfl
  have kA : Try.prog.cellsOf 23 = 2 := by kernel_rfl
  simp only [Value.okWide, Try.underlying23] at hv
  obtain ⟨cs, rfl, hsz, _⟩ := hv
  rw [kA] at hsz
  obtain ⟨fuel, hf⟩ := h
  obtain ⟨xs, m, _, _, _, hl, hel⟩ := DataW.trod_array Try.underlying23 hf
  rw [kI] at hel
  obtain ⟨v0, v1, rfl⟩ : ∃ v0 v1, cs = #[v0, v1] := by
    refine ⟨cs[0], cs[1], ?_⟩
    apply Array.ext
    · simp [hsz]
    · intro i h1 h2
      have : i = 0 ∨ i = 1 := by omega
      rcases this with rfl | rfl <;> rfl
  have e0 := hel 0 (by omega)
  have e1 := hel 1 (by omega)
  rw [List.getElem?_eq_getElem (by omega)] at e0 e1
  obtain ⟨x, h0, _, _⟩ := DataW.trod_int Try.underlying3 e0
  obtain ⟨y, h1, _, _⟩ := DataW.trod_int Try.underlying3 e1
  simp [Value.cells] at h0 h1
  rw [h0, h1]
  exact ⟨x, y, rfl⟩
set_option maxRecDepth 100000 in
theorem cellVal_of {H : Type} {enc : TypeId × Value → H} {w : World} {r : Reach} {b0 base : Nat} {spare : Nat → Bool} {held : Bool} {v : Value} {d : DataW H} {p : List MemPlace}
    (hv : Value.okWide Try.prog w r b0 25 v) (h : DataW.Trod enc Try.prog w base spare held 25 v d p) :
    ∃ (x : Int) (y : Bool), v = .agg #[.int .i64 x, .bool y] := by
  obtain ⟨v0, v1, y0, y1, n, rfl, _, _, r0, r1⟩ := Go.Joins.open_agg2 Try.underlying25 (by kernel_rfl) (by kernel_rfl) hv h
  obtain ⟨x, e1, _, w1⟩ := DataW.trod_int Try.underlying3 r0
  obtain ⟨y, e2, _⟩ := DataW.trod_bool Try.underlying4 r1
  simp at e1 e2
  rw [e1, e2]
  exact ⟨x, y, rfl⟩
theorem keyB_neg {k : Int} (h : k < 0) : keyB k = false := by unfold keyB; rw [decide_eq_false (by omega)]; rfl
theorem keyB_big {k : Int} (h : 4096 ≤ k) : keyB k = false := by unfold keyB; rw [decide_eq_false (show ¬ k < 4096 by omega), Bool.and_false]
/-- All numbers of a table in memory, level by level. -/
def AllA (W : World) (g : Nat) (C : Nat → Option Int) : Prop := g < W.heap.size ∧ ∀ m, m ≤ 3 → ∃ a n c, W.cell? ⟨g, m, none⟩ = some (.slice a n c) ∧ RArg encU 1 W a n c (rowL (lvN C m) (szA m))
theorem AllA.below {W W' : World} {g : Nat} {C : Nat → Option Int} (h : AllA W g C) (hb : Below W.heap.size W W') : AllA W' g C := by
  refine ⟨Nat.lt_of_lt_of_le h.1 hb.size, fun m hm => ?_⟩
  obtain ⟨a, n, c, h1, h2⟩ := h.2 m hm
  exact ⟨a, n, c, (hb.cell (p := ⟨g, m, none⟩) h.1).trans h1, h2.below hb⟩
def LevP (C : Nat → Option Int) (w : World) (e : Ending) (w' : World) : Prop := ∃ g, e = .returned (.slice (some ⟨g, 0, none⟩) 4 4) ∧ AllA w' g C ∧ Below w.heap.size w w'
theorem levelsA_any (a : Option Addr) (n c : Nat) (l : List Pr) (w : World) (h : RArg encP 2 w a n c l) (ht : tblB l = true) (hl : l.length ≤ 100000) :
    Calls Try.prog 17 #[.slice a n c] w (LevP (tabC l) w) := by
  refine (levels_any a n c l w h ht hl).mono fun e w' q => ?_
  obtain ⟨g, a0, n0, c0, a1, n1, c1, a2, n2, c2, a3, n3, c3, rfl, hg, hh, r0, r1, r2, r3, hb⟩ := q
  refine ⟨g, rfl, ⟨hg, fun m hm => ?_⟩, hb⟩
  have hm4 : m = 0 ∨ m = 1 ∨ m = 2 ∨ m = 3 := by omega
  rcases hm4 with rfl | rfl | rfl | rfl
  · exact ⟨a0, n0, c0, by simp [World.cell?, hh], r0⟩
  · exact ⟨a1, n1, c1, by simp [World.cell?, hh], r1⟩
  · exact ⟨a2, n2, c2, by simp [World.cell?, hh], r2⟩
  · exact ⟨a3, n3, c3, by simp [World.cell?, hh], r3⟩
theorem AllA.at {W : World} {g : Nat} {C : Nat → Option Int} (h : AllA W g C) {m k : Nat} (hm : m ≤ 3) (hk : k < szA m) : ∃ b off c, W.cell? ⟨g, m, none⟩ = some (.slice (some ⟨b, off, none⟩) (szA m) c) ∧ b < W.heap.size ∧ W.cell? ⟨b, off + k, none⟩ = some (.int .u32 (regI (lvN C m k))) := by
  obtain ⟨a, n, c, h1, h2⟩ := h.2 m hm
  have hn : n = szA m := by have := h2.1; rwa [rowL_len] at this
  subst hn
  obtain ⟨b, off, e, hb, hc⟩ := h2.us (k := k) (by rw [rowL_len]; exact hk)
  subst e
  refine ⟨b, off, c, h1, hb, ?_⟩
  rw [hc, getElem!_pos _ _ (by rw [rowL_len]; exact hk)]
  have e1 := rowL_get (lvN C m) (szA m) k hk
  rw [List.getElem?_eq_getElem (by rw [rowL_len]; exact hk)] at e1
  injection e1 with e1
  rw [e1]
end Go.Proofs.Ytjjadappjapjhaa
