/-
  SLABS: worlds of which some blocks may have turned; arrays of eight flags; writings that do or do not.
-/
import Derived.Test.YthcebcpippbhfaaSlM
namespace Go.Proofs.Ythcebcpippbhfaa
open Go.RowKit Go.Maps Go.ChangeMaps Go.ChangeShapes Go.WideShapes Go.Deep

/-- But for some blocks the world is as it was. -/
structure Off (N : Nat → Prop) (w w' : World) : Prop where
  os : w'.os = w.os
  tape : w'.tape = w.tape
  output : w'.output = w.output
  size : w.heap.size ≤ w'.heap.size
  block : ∀ i, i < w.heap.size → ¬ N i → w'.heap[i]? = w.heap[i]?
theorem Off.refl (N : Nat → Prop) (w : World) : Off N w w := ⟨rfl, rfl, rfl, Nat.le_refl _, fun _ _ _ => rfl⟩
theorem Off.trans {N : Nat → Prop} {a b c : World} (h : Off N a b) (k : Off N b c) : Off N a c :=
  ⟨k.os.trans h.os, k.tape.trans h.tape, k.output.trans h.output, Nat.le_trans h.size k.size, fun i hi hn => (k.block i (Nat.lt_of_lt_of_le hi h.size) hn).trans (h.block i hi hn)⟩
theorem Off.but {N : Nat → Prop} {p db mb : Nat} {w w' : World} (h : But p db mb w w') (h1 : N p) (h2 : N db) (h3 : N mb) : Off N w w' :=
  ⟨h.os, h.tape, h.output, h.size, fun i hi hn => h.block i hi (fun e => hn (e ▸ h1)) (fun e => hn (e ▸ h2)) (fun e => hn (e ▸ h3))⟩
theorem Off.low {N : Nat → Prop} {w w' : World} (h : Below w.heap.size w w') : Off N w w' := ⟨h.os, h.tape, h.output, h.size, fun i hi _ => h.block i hi⟩
theorem Off.set {N : Nat → Prop} {a w : World} (h : Off N a w) {g i : Nat} (hg : N g ∨ a.heap.size ≤ g) (v : Value) : Off N a (w.setCell ⟨g, i, none⟩ v) :=
  ⟨h.os, h.tape, h.output, by simp [World.setCell]; exact h.size, fun k hk hn => (Below.heap_setCell _ _ _ _ (by
    show k ≠ g
    rintro rfl
    rcases hg with q | q
    · exact hn q
    · omega)).trans (h.block k hk hn)⟩
theorem Off.drew {N : Nat → Prop} {a w : World} (h : Off N a w) : Off N a w.drew := ⟨h.os, h.tape, h.output, h.size, h.block⟩
theorem Off.below {N : Nat → Prop} {w w' : World} (h : Off N w w') {B : Nat} (hB : B ≤ w.heap.size) (hN : ∀ i, N i → B ≤ i) : Below B w w' :=
  ⟨h.os, h.tape, h.output, h.size, fun k hk => h.block k (by omega) (fun q => by have := hN k q; omega)⟩
def b8 (f : Nat → Bool) : Array Value := #[.bool (f 0), .bool (f 1), .bool (f 2), .bool (f 3), .bool (f 4), .bool (f 5), .bool (f 6), .bool (f 7)]
theorem b8_set (f : Nat → Bool) {j : Nat} (h : j < 8) (t : Bool) : (b8 f).setIfInBounds j (.bool t) = b8 (fun k => if k = j then t else f k) := by
  match j, h with
  | 0, _ => rfl
  | 1, _ => rfl
  | 2, _ => rfl
  | 3, _ => rfl
  | 4, _ => rfl
  | 5, _ => rfl
  | 6, _ => rfl
  | 7, _ => rfl
theorem b8_get (f : Nat → Bool) {j : Nat} (h : j < 8) : (b8 f)[j]? = some (.bool (f j)) := by
  match j, h with
  | 0, _ => rfl
  | 1, _ => rfl
  | 2, _ => rfl
  | 3, _ => rfl
  | 4, _ => rfl
  | 5, _ => rfl
  | 6, _ => rfl
  | 7, _ => rfl
/-- A slab of eight blocks that is up and has no trip. -/
structure Up (s : St) : Prop where
  down : s.down = false
  left : s.left = 0
  zs : s.zs = []
  len : s.bs.length = 8
  fit : Fits s.bs
theorem Up.start : Up (newS 8) := ⟨rfl, rfl, rfl, by simp [newS], Fits.new 8⟩
/-- A writing is refused, and changes nothing, or does. -/
theorem Up.write {s : St} (h : Up s) (k : Int) (t : ByteArray) :
    (writeS s k t = (s, 1)) ∨ ∃ i : Nat, i < 8 ∧ k = (i : Int) ∧ t.size ≤ 256 ∧ writeS s k t = ({ s with bs := giveP s.bs i t }, 0) ∧ Up { s with bs := giveP s.bs i t } := by
  by_cases hi : insideB s.bs k = true
  · obtain ⟨i, rfl, hil⟩ := insideB_iff.1 hi
    by_cases ht : t.size ≤ 256
    · exact .inr ⟨i, by have := h.len; omega, rfl, ht, write_calm h.down h.left hil ht, h.down, h.left, h.zs, by rw [giveP_length]; exact h.len, h.fit.give i ht⟩
    · refine .inl ?_
      unfold writeS
      rw [if_neg (by rw [h.down]; decide), if_pos (.inr (by omega))]
  · refine .inl ?_
    unfold writeS
    rw [if_neg (by rw [h.down]; decide), if_pos (.inl (by simpa using hi))]
theorem Up.flush {s : St} (h : Up s) : flushS s = ({ s with bs := flushP s.bs }, 0) ∧ Up { s with bs := flushP s.bs } :=
  ⟨flush_calm h.down h.left, h.down, h.left, h.zs, by rw [flushP_length]; exact h.len, h.fit.flush⟩
theorem SlK.offSame {N : Nat → Prop} {w w' : World} {p db mb : Nat} {ka : Option Addr} {kn kc : Nat} {s : St} (h : SlK w p db mb ka kn kc s) (hz : s.zs = []) (ho : Off N w w') (h1 : ¬ N p) (h2 : ¬ N db) (h3 : ¬ N mb) : SlK w' p db mb ka kn kc s := by
  obtain ⟨l1, l2, l3⟩ := h.lt
  exact h.move (ho.block p l1 h1) (ho.block db l2 h2) (ho.block mb l3 h3) ⟨h.keep.len, h.keep.cap, h.keep.val, fun j hj => by rw [hz] at hj; exact absurd hj (Nat.not_lt_zero _)⟩
end Go.Proofs.Ythcebcpippbhfaa
