/-
  DELTA: what the iterator keeps between two rounds; a meeting in its box; plain: the meetings, step by step.
-/
import Derived.Test.YtnjlbgnojlmmlaaDlB
import Derived.Test.YtnjlbgnojlmmlaaDlZ
import Derived.RangeFuncBound
import Derived.RangeFuncLeaves
import Derived.RangeFuncBox
import Derived.OwnWalkIn
import Derived.TacticsInMore
import Derived.LoopNIn
import Derived.LoopIn
import Derived.Maps.AppendAt
import Derived.Lib.MinMax
namespace Go.Proofs.Ytnjlbgnojlmmlaa
open Go.RowKit Go.Deep

/-- But for the blocks ex, and what is made anew, the world is as it was. -/
structure Kept (n1 : Nat) (ex : Nat → Prop) (w w' : World) : Prop where
  os : w'.os = w.os
  tape : w'.tape = w.tape
  output : w'.output = w.output
  size : w.heap.size ≤ w'.heap.size
  block : ∀ k, k < n1 → ¬ ex k → w'.heap[k]? = w.heap[k]?
theorem Kept.refl (n1 : Nat) (ex : Nat → Prop) (w : World) : Kept n1 ex w w := ⟨rfl, rfl, rfl, Nat.le_refl _, fun _ _ _ => rfl⟩
theorem Kept.trans {n1 : Nat} {ex : Nat → Prop} {a b c : World} (h : Kept n1 ex a b) (k : Kept n1 ex b c) : Kept n1 ex a c :=
  ⟨k.os.trans h.os, k.tape.trans h.tape, k.output.trans h.output, Nat.le_trans h.size k.size, fun i hi he => (k.block i hi he).trans (h.block i hi he)⟩
theorem Kept.below {n1 B : Nat} {ex : Nat → Prop} {w w' : World} (h : Below B w w') (hB : n1 ≤ B) : Kept n1 ex w w' := ⟨h.os, h.tape, h.output, h.size, fun k hk _ => h.block k (Nat.lt_of_lt_of_le hk hB)⟩
theorem Kept.cell {n1 : Nat} {ex : Nat → Prop} {w w' : World} (h : Kept n1 ex w w') {p : Addr} (hp : p.block < n1) (he : ¬ ex p.block) : w'.cell? p = w.cell? p := World.cell?_of_block (h.block _ hp he)
theorem below_refl_drewN (w : World) (n : Nat) : Below w.heap.size w (w.drewN n) := ⟨rfl, rfl, rfl, Nat.le_refl _, fun _ _ => rfl⟩
theorem getElem!_mem {α : Type} [Inhabited α] {l : List α} {k : Nat} (h : k < l.length) : l[k]! ∈ l := by rw [getElem!_pos l k h]; exact List.getElem_mem h
theorem beq_no {x y : Int} (h : x ≠ y) : (x == y) = false := by rw [Bool.eq_false_iff]; intro e; exact h (by simpa using e)
theorem beq_yes {x y : Int} (h : x = y) : (x == y) = true := by rw [h]; simp
theorem toDr {B : Nat} {a w : World} (h : Below B a w) : Below B a w.drew := h.drew
theorem toSet {B : Nat} {a w : World} {b i : Nat} {v : Value} (h : Below B a w) (hb : B ≤ b) : Below B a (w.setCell ⟨b, i, none⟩ v) := h.setCell hb v
theorem toNext {B : Nat} {a w w' : World} (h : Below B a w) (hB : B ≤ w.heap.size) (k : Below w.heap.size w w') : Below B a w' := h.trans (k.mono hB)
/-- A row, in blocks that are kept. -/
def RK {α : Type} [Inhabited α] (enc : α → List Value) (k : Nat) (p : Nat → Prop) (w : World) (a : Option Addr) (l : List α) : Prop :=
  ∀ j, j < l.length → ∃ b off, a = some ⟨b, off, none⟩ ∧ p b ∧ ∀ i v, (enc l[j]!)[i]? = some v → w.cell? ⟨b, off + j * k + i, none⟩ = some v
theorem RK.kept {α : Type} [Inhabited α] {enc : α → List Value} {k n1 : Nat} {ex : Nat → Prop} {w w' : World} {a : Option Addr} {l : List α} (h : RK enc k (fun b => b < n1 ∧ ¬ ex b) w a l) (hk : Kept n1 ex w w') : RK enc k (fun b => b < n1 ∧ ¬ ex b) w' a l := fun j hj => by
  obtain ⟨b, off, e, hp, hc⟩ := h j hj
  exact ⟨b, off, e, hp, fun i v hi => (hk.cell (p := ⟨b, off + j * k + i, none⟩) hp.1 hp.2).trans (hc i v hi)⟩
theorem RK.prs {p : Nat → Prop} {w : World} {a : Option Addr} {l : List Pr} (h : RK encP 2 p w a l) {k : Nat} (hk : k < l.length) :
    ∃ b off, a = some ⟨b, off, none⟩ ∧ p b ∧ w.cell? ⟨b, off + k * 2, none⟩ = some (.int .i64 l[k]!.1) ∧ w.cell? ⟨b, off + k * 2 + 1, none⟩ = some (.int .i64 l[k]!.2) := by
  obtain ⟨b, off, e, hb, hc⟩ := h k hk
  exact ⟨b, off, e, hb, hc 0 _ rfl, hc 1 _ rfl⟩
theorem RK.tns {p : Nat → Prop} {w : World} {a : Option Addr} {l : List Tn} (h : RK encT 5 p w a l) {k : Nat} (hk : k < l.length) :
    ∃ b off, a = some ⟨b, off, none⟩ ∧ p b ∧ w.cell? ⟨b, off + k * 5, none⟩ = some (.int .i64 l[k]!.1) ∧ w.cell? ⟨b, off + k * 5 + 1, none⟩ = some (.int .i64 l[k]!.2.1.1) ∧
      w.cell? ⟨b, off + k * 5 + 2, none⟩ = some (.bool l[k]!.2.1.2) ∧ w.cell? ⟨b, off + k * 5 + 3, none⟩ = some (.int .i64 l[k]!.2.2.1) ∧ w.cell? ⟨b, off + k * 5 + 4, none⟩ = some (.bool l[k]!.2.2.2) := by
  obtain ⟨b, off, e, hb, hc⟩ := h k hk
  exact ⟨b, off, e, hb, hc 0 _ rfl, hc 1 _ rfl, hc 2 _ rfl, hc 3 _ rfl, hc 4 _ rfl⟩
/-- A meeting's box. -/
def XB (t : TypeId) (w : World) (x : Nat) (cs : List Value) : Prop := w.heap[x]? = some (.cells cs.toArray t)
theorem XB.lt {t : TypeId} {w : World} {x : Nat} {cs : List Value} (h : XB t w x cs) : x < w.heap.size := (Array.getElem?_eq_some_iff.1 h).1
theorem XB.below {t : TypeId} {w w' : World} {x : Nat} {cs : List Value} (h : XB t w x cs) (hb : Below w.heap.size w w') : XB t w' x cs := (hb.block x h.lt).trans h
theorem XB.at {t : TypeId} {w : World} {x : Nat} {cs : List Value} (h : XB t w x cs) (i : Nat) (v : Value) (hv : cs[i]? = some v) : w.cell? ⟨x, i, none⟩ = some v := cell_of_row _ _ i _ _ _ (show w.heap[x]? = _ from h) |>.trans (by simpa using hv)
theorem XB.free {t : TypeId} {w : World} {x : Nat} {cs : List Value} (h : XB t w x cs) (i : Nat) : w.frozen? ⟨x, i, none⟩ = false := frozen_of_row _ _ i _ _ h
theorem XB.set {t : TypeId} {w : World} {x : Nat} {cs : List Value} (h : XB t w x cs) (i : Nat) (v : Value) : XB t (w.setCell ⟨x, i, none⟩ v) x (cs.set i v) := by
  have := heap_setCell_same _ _ i _ _ v (show w.heap[x]? = _ from h)
  rw [List.setIfInBounds_toArray] at this
  exact this
theorem meets_nil {α β : Type} (ka : α → Int) (kb : β → Int) (za : α) (zb : β) : meets ka kb za zb [] [] = [] := by rw [meets]
theorem meets_a {α β : Type} (ka : α → Int) (kb : β → Int) (za : α) (zb : β) (x : α) (a : List α) : meets ka kb za zb (x :: a) [] = ⟨ka x, x, zb, true, false⟩ :: meets ka kb za zb a [] := by rw [meets]
theorem meets_b {α β : Type} (ka : α → Int) (kb : β → Int) (za : α) (zb : β) (y : β) (b : List β) : meets ka kb za zb [] (y :: b) = ⟨kb y, za, y, false, true⟩ :: meets ka kb za zb [] b := by rw [meets]
theorem meets_lt {α β : Type} (ka : α → Int) (kb : β → Int) (za : α) (zb : β) {x : α} {y : β} (a : List α) (b : List β) (h : ka x < kb y) : meets ka kb za zb (x :: a) (y :: b) = ⟨ka x, x, zb, true, false⟩ :: meets ka kb za zb a (y :: b) := by rw [meets, if_pos h]
theorem meets_gt {α β : Type} (ka : α → Int) (kb : β → Int) (za : α) (zb : β) {x : α} {y : β} (a : List α) (b : List β) (h : kb y < ka x) : meets ka kb za zb (x :: a) (y :: b) = ⟨kb y, za, y, false, true⟩ :: meets ka kb za zb (x :: a) b := by rw [meets, if_neg (by omega), if_pos h]
theorem meets_eq {α β : Type} (ka : α → Int) (kb : β → Int) (za : α) (zb : β) {x : α} {y : β} (a : List α) (b : List β) (h : ka x = kb y) : meets ka kb za zb (x :: a) (y :: b) = ⟨ka x, x, y, true, true⟩ :: meets ka kb za zb a b := by rw [meets, if_neg (by omega), if_neg (by omega)]
/-- A region all of whose orders end in one frame, and in a world of which R holds. -/
theorem wp_least {P : Program} {c : Code} {Q : Exit → Act → World → Prop} {a A : Act} {w : World} {R : World → Prop} (h : c.wp P (fun e a' w' => e = Exit.normal ∧ a' = A ∧ R w') a w) (hq : ∀ w', R w' → Q .normal A w') : c.wp P Q a w :=
  wp_mono h (fun e a' w' ⟨h1, h2, h3⟩ => by subst h1 h2; exact hq w' h3)
end Go.Proofs.Ytnjlbgnojlmmlaa
