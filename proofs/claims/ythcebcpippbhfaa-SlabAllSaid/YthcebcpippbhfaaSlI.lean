/-
  SLABS: the first eight blocks, as the statements read them.
-/
import Derived.Test.YthcebcpippbhfaaSlH
namespace Go.Proofs.Ythcebcpippbhfaa
open Go.RowKit Go.Maps Go.ChangeMaps Go.ChangeShapes Go.WideShapes

def r8 (f : Nat → ByteArray) : Array Value := #[.string (f 0), .string (f 1), .string (f 2), .string (f 3), .string (f 4), .string (f 5), .string (f 6), .string (f 7)]
theorem r8_set (f : Nat → ByteArray) {j : Nat} (h : j < 8) (t : ByteArray) : (r8 f).setIfInBounds j (.string t) = r8 (fun k => if k = j then t else f k) := by
  match j, h with
  | 0, _ => rfl
  | 1, _ => rfl
  | 2, _ => rfl
  | 3, _ => rfl
  | 4, _ => rfl
  | 5, _ => rfl
  | 6, _ => rfl
  | 7, _ => rfl
theorem r8_get (f : Nat → ByteArray) {j : Nat} (h : j < 8) : (r8 f)[j]? = some (.string (f j)) := by
  match j, h with
  | 0, _ => rfl
  | 1, _ => rfl
  | 2, _ => rfl
  | 3, _ => rfl
  | 4, _ => rfl
  | 5, _ => rfl
  | 6, _ => rfl
  | 7, _ => rfl
theorem r8_congr {f g : Nat → ByteArray} (h : ∀ k, k < 8 → f k = g k) : r8 f = r8 g := by
  unfold r8
  rw [h 0 (by decide), h 1 (by decide), h 2 (by decide), h 3 (by decide), h 4 (by decide), h 5 (by decide), h 6 (by decide), h 7 (by decide)]
def e8 : Nat → ByteArray := fun _ => ⟨#[]⟩
def seen8 (s : St) (j : Nat) : Nat → ByteArray := fun k => if k < j then (readS s (k : Int)).1 else ⟨#[]⟩
def all8 (s : St) : Nat → ByteArray := fun k => (readS s (k : Int)).1
theorem seen8_step (s : St) {j : Nat} (h : j < 8) : (r8 (seen8 s j)).setIfInBounds j (.string (readS s (j : Int)).1) = r8 (seen8 s (j + 1)) := by
  rw [r8_set _ h]
  refine r8_congr fun k hk => ?_
  unfold seen8
  by_cases e : k = j
  · subst e; simp
  · rw [if_neg e]
    by_cases e2 : k < j
    · rw [if_pos e2, if_pos (by omega)]
    · rw [if_neg e2, if_neg (by omega)]
theorem cells8 {W : World} {g : Nat} {f : Nat → ByteArray} {T : TypeId} (h : W.heap[g]? = some (.cells (r8 f) T)) : W.cell? ⟨g, 0, none⟩ = some (.string (f 0)) ∧ W.cell? ⟨g, 1, none⟩ = some (.string (f 1)) ∧ W.cell? ⟨g, 2, none⟩ = some (.string (f 2)) ∧ W.cell? ⟨g, 3, none⟩ = some (.string (f 3)) ∧ W.cell? ⟨g, 4, none⟩ = some (.string (f 4)) ∧ W.cell? ⟨g, 5, none⟩ = some (.string (f 5)) ∧ W.cell? ⟨g, 6, none⟩ = some (.string (f 6)) ∧ W.cell? ⟨g, 7, none⟩ = some (.string (f 7)) :=
  ⟨cell_of_row _ _ 0 _ _ _ h, cell_of_row _ _ 1 _ _ _ h, cell_of_row _ _ 2 _ _ _ h, cell_of_row _ _ 3 _ _ _ h, cell_of_row _ _ 4 _ _ _ h, cell_of_row _ _ 5 _ _ _ h, cell_of_row _ _ 6 _ _ _ h, cell_of_row _ _ 7 _ _ _ h⟩
theorem free8 {W : World} {g : Nat} {f : Nat → ByteArray} {T : TypeId} (h : W.heap[g]? = some (.cells (r8 f) T)) : W.frozen? ⟨g, 0, none⟩ = false ∧ W.frozen? ⟨g, 1, none⟩ = false ∧ W.frozen? ⟨g, 2, none⟩ = false ∧ W.frozen? ⟨g, 3, none⟩ = false ∧ W.frozen? ⟨g, 4, none⟩ = false ∧ W.frozen? ⟨g, 5, none⟩ = false ∧ W.frozen? ⟨g, 6, none⟩ = false ∧ W.frozen? ⟨g, 7, none⟩ = false :=
  ⟨frozen_of_row _ _ 0 _ _ h, frozen_of_row _ _ 1 _ _ h, frozen_of_row _ _ 2 _ _ h, frozen_of_row _ _ 3 _ _ h, frozen_of_row _ _ 4 _ _ h, frozen_of_row _ _ 5 _ _ h, frozen_of_row _ _ 6 _ _ h, frozen_of_row _ _ 7 _ _ h⟩
theorem set8 {W : World} {g : Nat} {f0 : Nat → ByteArray} {T : TypeId} (h : W.heap[g]? = some (.cells (r8 f0) T)) (f : Nat → ByteArray) :
    ((((((((W.setCell ⟨g, 0, none⟩ (.string (f 0))).setCell ⟨g, 1, none⟩ (.string (f 1))).setCell ⟨g, 2, none⟩ (.string (f 2))).setCell ⟨g, 3, none⟩ (.string (f 3))).setCell ⟨g, 4, none⟩ (.string (f 4))).setCell ⟨g, 5, none⟩ (.string (f 5))).setCell ⟨g, 6, none⟩ (.string (f 6))).setCell ⟨g, 7, none⟩ (.string (f 7))).heap[g]? = some (.cells (r8 f) T) := by
  have h0 := heap_setCell_same _ _ 0 _ _ (.string (f 0)) h
  rw [r8_set _ (by decide)] at h0
  have h1 := heap_setCell_same _ _ 1 _ _ (.string (f 1)) h0
  rw [r8_set _ (by decide)] at h1
  have h2 := heap_setCell_same _ _ 2 _ _ (.string (f 2)) h1
  rw [r8_set _ (by decide)] at h2
  have h3 := heap_setCell_same _ _ 3 _ _ (.string (f 3)) h2
  rw [r8_set _ (by decide)] at h3
  have h4 := heap_setCell_same _ _ 4 _ _ (.string (f 4)) h3
  rw [r8_set _ (by decide)] at h4
  have h5 := heap_setCell_same _ _ 5 _ _ (.string (f 5)) h4
  rw [r8_set _ (by decide)] at h5
  have h6 := heap_setCell_same _ _ 6 _ _ (.string (f 6)) h5
  rw [r8_set _ (by decide)] at h6
  have h7 := heap_setCell_same _ _ 7 _ _ (.string (f 7)) h6
  rw [r8_set _ (by decide)] at h7
  rw [r8_congr (g := f) (fun k hk => by
    match k, hk with
    | 0, _ => rfl
    | 1, _ => rfl
    | 2, _ => rfl
    | 3, _ => rfl
    | 4, _ => rfl
    | 5, _ => rfl
    | 6, _ => rfl
    | 7, _ => rfl)] at h7
  exact h7
theorem but8 {B : Nat} {a W : World} {g : Nat} (h : Below B a W) (hg : B ≤ g) (f : Nat → ByteArray) : Below B a ((((((((W.setCell ⟨g, 0, none⟩ (.string (f 0))).setCell ⟨g, 1, none⟩ (.string (f 1))).setCell ⟨g, 2, none⟩ (.string (f 2))).setCell ⟨g, 3, none⟩ (.string (f 3))).setCell ⟨g, 4, none⟩ (.string (f 4))).setCell ⟨g, 5, none⟩ (.string (f 5))).setCell ⟨g, 6, none⟩ (.string (f 6))).setCell ⟨g, 7, none⟩ (.string (f 7))) :=
  ((((((((h.setCell (p := ⟨g, 0, none⟩) hg _).setCell (p := ⟨g, 1, none⟩) hg _).setCell (p := ⟨g, 2, none⟩) hg _).setCell (p := ⟨g, 3, none⟩) hg _).setCell (p := ⟨g, 4, none⟩) hg _).setCell (p := ⟨g, 5, none⟩) hg _).setCell (p := ⟨g, 6, none⟩) hg _).setCell (p := ⟨g, 7, none⟩) hg _)
set_option maxRecDepth 100000 in
set_option maxHeartbeats 2000000 in
theorem read8_any {w : World} {p db mb : Nat} {s : St} (h : Sl w p db mb s) :
    Calls Try.prog 19 #[.pointer (some ⟨p, 0, none⟩)] w (RPost (.agg (r8 (all8 s))) w) := by
  obtain ⟨W1, hW1⟩ : ∃ W1, w.alloc (.cells #[.string ⟨#[]⟩, .string ⟨#[]⟩, .string ⟨#[]⟩, .string ⟨#[]⟩, .string ⟨#[]⟩, .string ⟨#[]⟩, .string ⟨#[]⟩, .string ⟨#[]⟩] 45) = W1 := ⟨_, rfl⟩
  obtain ⟨W2, hW2⟩ : ∃ W2, W1.alloc (.cells #[.string ⟨#[]⟩, .string ⟨#[]⟩, .string ⟨#[]⟩, .string ⟨#[]⟩, .string ⟨#[]⟩, .string ⟨#[]⟩, .string ⟨#[]⟩, .string ⟨#[]⟩] 45) = W2 := ⟨_, rfl⟩
  have b1 : Below w.heap.size w W1 := by rw [← hW1]; exact (Below.refl _ _).alloc (Nat.le_refl _) _
  have b2 : Below W1.heap.size W1 W2 := by rw [← hW2]; exact (Below.refl _ _).alloc (Nat.le_refl _) _
  have g1 : W1.heap.size = w.heap.size + 1 := by rw [← hW1]; simp
  have g2 : W2.heap.size = w.heap.size + 2 := by rw [← hW2]; simp [g1]
  have k1 : W2.heap[w.heap.size]? = some (.cells (r8 e8) 45) := by rw [b2.block _ (by omega), ← hW1]; exact heap_alloc_new _ _
  have k2 : W2.heap[W1.heap.size]? = some (.cells (r8 e8) 45) := by rw [← hW2]; exact heap_alloc_new _ _
  have h2 := (h.same b1).same b2
  have hB : Below w.heap.size w W2 := b1.trans (b2.mono (by omega))
  replace g1 := Lib.hid g1
  replace g2 := Lib.hid g2
  go_enter Try.func19, Try.ntmps19
  go_wp2
  replace hW1 := Lib.hid hW1
  replace hW2 := Lib.hid hW2
  go_loopw [4, 5, 6] (fun i _ _ wr => ∃ (j : Nat), i = .int .i64 (j : Int) ∧ j ≤ 8 ∧ wr.heap[w.heap.size]? = some (.cells (r8 e8) 45) ∧ wr.heap[W1.heap.size]? = some (.cells (r8 (seen8 s j)) 45) ∧ Below w.heap.size w wr ∧ W2.heap.size ≤ wr.heap.size)
    (fun i _ _ _ => 8 - (intOf i).toNat)
  case atStart => exact ⟨0, rfl, by decide, k1, k2, hB, Nat.le_refl _⟩
  case round =>
    obtain ⟨j, rfl, hj, q1, q2, hb, hsz⟩ := hrel
    have hs := h.same hb
    obtain ⟨ka, kn, kc, hs⟩ := hs
    have l1 : w.heap.size < wr.heap.size := by have := g2.out; omega
    have l2 : W1.heap.size < wr.heap.size := by have := g1.out; have := g2.out; omega
    have ln : w.heap.size ≠ W1.heap.size := by have := g1.out; omega
    by_cases hlt : j < 8
    · have hltz : (j : Int) < 8 := by omega
      have hw : (Lit.int .i64 (j : Int)).wf = true := wf_i64 (by omega) (by omega)
      have HR := read_any hs (j : Int) hw
      generalize hrd : readS s (j : Int) = rd at HR
      obtain ⟨t, e⟩ := rd
      replace hrd := Lib.hid hrd
      replace hs := Lib.hid hs
      go_wp2_with (go_at_call 24; refine HR.mono ?_; rintro e9 w2 ⟨rfl, b3⟩; have q3 := (b3.block _ l1).trans q1; have q4 := (b3.block _ l2).trans q2; have q5 := (cell_of_row _ _ j _ _ _ q4).trans (r8_get (seen8 s j) hlt); have q6 := frozen_of_row _ _ j _ _ q4)
      have q7 := heap_setCell_same _ _ j _ _ (.string t) q4
      have q8 : (w2.setCell ⟨W1.heap.size, j, none⟩ (.string t)).heap[w.heap.size]? = some (.cells (r8 e8) 45) := (Below.heap_setCell _ _ _ _ ln).trans q3
      have e1 : t = (readS s (j : Int)).1 := by rw [hrd.out]
      rw [show (.string t : Value) = .string (readS s (j : Int)).1 by rw [← e1], seen8_step s hlt] at q7
      have hb9 : Below w.heap.size w (w2.setCell ⟨W1.heap.size, j, none⟩ (.string t)) := (hb.trans (b3.mono (Nat.le_of_lt l1))).setCell (by show w.heap.size ≤ W1.heap.size; have := g1.out; omega) _
      have hz9 : W2.heap.size ≤ (w2.setCell ⟨W1.heap.size, j, none⟩ (.string t)).heap.size := by simp [World.setCell]; exact Nat.le_trans hsz b3.size
      go_roundw
      case rel => exact ⟨j + 1, by go_num, by omega, q8, by rw [e1]; exact q7, hb9, hz9⟩
      case measure => simp [intOf]; omega
    · have hj8 : j = 8 := by omega
      subst hj8
      clear hlt
      have hE : r8 (seen8 s 8) = r8 (all8 s) := r8_congr fun k hk => by unfold seen8 all8; rw [if_pos hk]
      rw [hE] at q2
      obtain ⟨x0, x1, x2, x3, x4, x5, x6, x7⟩ := cells8 q2
      obtain ⟨v0, v1, v2, v3, v4, v5, v6, v7⟩ := cells8 q1
      obtain ⟨u0, u1, u2, u3, u4, u5, u6, u7⟩ := free8 q1
      obtain ⟨z0, z1, z2, z3, z4, z5, z6, z7⟩ := cells8 (set8 q1 (all8 s))
      have hb9 := but8 hb (Nat.le_refl _) (all8 s)
      go_wp2
      exact bodyPost_ret (v := .agg (r8 (all8 s))) (by simp [results, Try.results19, go_sem, z0, z1, z2, z3, z4, z5, z6, z7, r8]) rfl ⟨rfl, hb9⟩
end Go.Proofs.Ythcebcpippbhfaa
