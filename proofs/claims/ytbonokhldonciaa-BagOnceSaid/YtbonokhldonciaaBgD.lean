/-
  BAGS: laying a mail in.
-/
import Derived.Test.YtbonokhldonciaaBgC
namespace Go.Proofs.Ytbonokhldonciaa
open Go.RowKit Go.Maps Go.ChangeMaps

theorem Bg.keep {w w' : World} {p mb ab : Nat} {s : Bs} (h : Bg w p mb ab s) (o : ∀ k, k = p ∨ k = mb ∨ k = ab → w'.heap[k]? = w.heap[k]?) : Bg w' p mb ab s :=
  { h with hp := (o p (.inl rfl)).trans h.hp, hm := h.hm.same (o mb (.inr (.inl rfl))), ha := h.ha.same (o ab (.inr (.inr rfl))) }
def setId (m : Ml) (i : Int) : Ml := { m with id := i }
def addS (s : Bs) (m : Ml) : Bs := if 400 ≤ s.n then s else { s with G := putG s.G (s.last + 1) (some (setId m (s.last + 1))), n := s.n + 1, last := s.last + 1 }
def addV (s : Bs) : Int × Int := if 400 ≤ s.n then (0, 8) else (s.last + 1, 0)
theorem Bg.fresh {w : World} {p mb ab : Nat} {s : Bs} (h : Bg w p mb ab s) : s.G (s.last + 1) = none := by
  cases e : s.G (s.last + 1) with
  | none => rfl
  | some m => have := (h.keys _ m e).2.1; omega
set_option maxRecDepth 100000 in
set_option maxHeartbeats 1000000 in
theorem add_any {w : World} {p mb ab : Nat} {s : Bs} (h : Bg w p mb ab s) (hL : s.last < 100000) (m : Ml) (hf : 0 ≤ m.fr ∧ m.fr ≤ 63) (ht : 0 ≤ m.to ∧ m.to ≤ 63) :
    Calls Try.prog 30 #[.pointer (some ⟨p, 0, none⟩), .agg #[.int .i64 m.id, .int .i64 m.fr, .int .i64 m.to, .string m.tx]] w (SPost p mb ab (.tuple #[.int .i64 (addV s).1, .int .i64 (addV s).2]) (addS s m) w) := by
  have h1 := h.same (belowM w m)
  have BM := belowM w m
  have hx := heap_alloc_new w (boxM m)
  obtain ⟨W1, hW1⟩ : ∃ W1, w.alloc (boxM m) = W1 := ⟨_, rfl⟩
  rw [hW1] at h1 BM hx
  simp only [boxM] at hW1 hx
  obtain ⟨z0, z1, z2, z3⟩ := cellsM hx
  have zf := frozen_of_row _ _ 0 _ _ hx
  have pf := h1.free 1
  obtain ⟨c0, c1, c2⟩ := h1.cells
  have hn := h1.hm.count 3
  obtain ⟨l1, l2, l3⟩ := h.lt
  have h0 := h.last
  unfold addS addV
  by_cases h4 : 400 ≤ s.n
  · rw [if_pos h4, if_pos h4]
    have h4z : (400 : Int) ≤ (s.n : Int) := by omega
    go_enter Try.func30, Try.ntmps30
    go_wp2
    go_ret2
    exact ⟨rfl, h1, But.of_below BM⟩
  · rw [if_neg h4, if_neg h4]
    have h4z : ¬ (400 : Int) ≤ (s.n : Int) := by omega
    have hwr : IntKind.i64.wrap (s.last + 1) = s.last + 1 := IntWalk.i64_in _ (by omega)
    have hg := h.fresh
    have hw := wf_i64 (k := s.last + 1) (by omega) (by omega)
    have hne1 : w.heap.size ≠ p := by omega
    have hne2 : w.heap.size ≠ mb := by omega
    have hne3 : w.heap.size ≠ ab := by omega
    have h2 := h1.setL (z := s.last + 1) (by omega) (by omega)
    have hx2 : (W1.setCell ⟨p, 1, none⟩ (.int .i64 (s.last + 1))).heap[w.heap.size]? = _ := (Below.heap_setCell _ _ _ _ hne1).trans hx
    have h3 : Bg ((W1.setCell ⟨p, 1, none⟩ (.int .i64 (s.last + 1))).setCell ⟨w.heap.size, 0, none⟩ (.int .i64 (s.last + 1))) p mb ab { s with last := s.last + 1 } :=
      h2.keep (fun k hk => Below.heap_setCell _ _ _ _ (by show k ≠ w.heap.size; omega))
    have hx3 := heap_setCell_same _ _ 0 _ _ (.int .i64 (s.last + 1)) hx2
    have hB3 : But p mb ab w ((W1.setCell ⟨p, 1, none⟩ (.int .i64 (s.last + 1))).setCell ⟨w.heap.size, 0, none⟩ (.int .i64 (s.last + 1))) := ((But.of_below BM).set (.inl rfl) _).set (.inr (.inr (.inr (Nat.le_refl _)))) _
    have h3 := h3.drew
    obtain ⟨W4, hrun, hm4, ht4⟩ := h3.hm.store (by have := h.n4; dsimp only; omega) hw hg (setId m (s.last + 1))
    have h4' := h3.turnM ht4 hm4 (by dsimp only; omega) (fun k m' hk => by
      unfold putG at hk
      dsimp only at hk ⊢
      by_cases e : k = s.last + 1
      · rw [if_pos e] at hk
        cases hk
        exact ⟨by omega, by omega, e.symm, hf, ht⟩
      · rw [if_neg e] at hk
        obtain ⟨k1, k2, k3⟩ := h.keys k m' hk
        exact ⟨k1, by omega, k3⟩)
    have hB4 : But p mb ab w W4 := hB3.drew.grown ht4.grown (.inr (.inl rfl))
    have hx4 := (ht4.grown.block w.heap.size (by rw [World.size_drew]; simp [World.setCell, ← hW1]) (fun q => hne2 (Option.some.inj q))).trans hx3
    obtain ⟨x0, x1, x2⟩ := h3.cells
    obtain ⟨y0, y1, y2, y3⟩ := cellsM (W := ((W1.setCell ⟨p, 1, none⟩ (.int .i64 (s.last + 1))).setCell ⟨w.heap.size, 0, none⟩ (.int .i64 (s.last + 1))).drew) hx3
    obtain ⟨u0, u1, u2, u3⟩ := cellsM hx4
    simp only [setId] at hrun
    replace h0 := Lib.hid h0
    replace hB4 := Lib.hid hB4
    go_enter Try.func30, Try.ntmps30
    go_wp2
    replace hW1 := Lib.hid hW1
    go_region
    go_wp2
    go_ret2
    exact ⟨rfl, h4', hB4.out⟩
end Go.Proofs.Ytbonokhldonciaa
