/-
  CONTRACTS of the document's Keys, Count.
-/
import Derived.Test.YtfnjadiibiedgabRefB3
namespace Go.Proofs.Ytfnjadiibiedgab
open Go.RowKit Go.Shelf

theorem Try.infoBool : (Try.prog.info? 4).map (fun i => (i.zero, i.size, i.bytes)) = some (some (.bool false), 1, 1) := by kernel_rfl
/-- The Bools that a test gives of the keys below n. -/
def tab (p : Int → Bool) (n : Nat) : List Value := (List.range n).map fun j : Nat => Value.bool (p (j : Int))
theorem tab_len (p : Int → Bool) (n : Nat) : (tab p n).length = n := by simp [tab]
theorem tab_get (p : Int → Bool) (n j : Nat) (h : j < n) : (tab p n)[j]? = some (.bool (p j)) := by simp [tab, h]
theorem tab_succ (p : Int → Bool) (n : Nat) : tab p (n + 1) = tab p n ++ [.bool (p n)] := by simp [tab, List.range_succ]
theorem tab_congr {p q : Int → Bool} {n : Nat} (h : ∀ j : Nat, j < n → p j = q j) : tab p n = tab q n := by
  unfold tab
  exact List.map_congr_left fun j hj => by rw [h j (List.mem_range.1 hj)]
theorem tab_set (p : Int → Bool) (n m : Nat) (h : m < n) : (tab p n).set m (.bool true) = tab (fun j => p j || decide (j = (m : Int))) n := by
  refine List.ext_getElem? fun j => ?_
  rw [List.getElem?_set]
  by_cases hj : j < n
  · have h2 : (tab (fun j => p j || decide (j = (m : Int))) n)[j]? = some (.bool (p j || decide ((j : Int) = (m : Int)))) := tab_get _ _ _ hj
    rw [h2]
    by_cases e : m = j
    · subst e
      rw [if_pos rfl, if_pos (by rw [tab_len]; exact h), decide_eq_true rfl, Bool.or_true]
    · rw [if_neg e, tab_get _ _ _ hj, decide_eq_false (by omega), Bool.or_false]
  · have h1 : (tab p n)[j]? = none := List.getElem?_eq_none (by rw [tab_len]; omega)
    have h2 : (tab (fun j => p j || decide (j = (m : Int))) n)[j]? = none := List.getElem?_eq_none (by rw [tab_len]; omega)
    rw [h2, if_neg (by omega), h1]
theorem row_below {t : TypeId} {size n base : Nat} {w w' : World} {v : Value} {xs : List Value} (h : w.ownsRow base t size v n xs) (hb : Below w.heap.size w w') : w'.ownsRow base t size v n xs :=
  World.ownsRow.kept h (row := none) ⟨hb.os, hb.tape, hb.output, hb.size, fun k hk _ => hb.block k hk⟩ (by cases hv : v.ownBlock <;> simp)
theorem row_form {t : TypeId} {size n base : Nat} {w : World} {v : Value} {xs : List Value} (h : w.ownsRow base t size v n xs) (hn : 0 < n) : ∃ g cap, v = .slice (some ⟨g, 0, none⟩) n cap ∧ base ≤ g ∧ g < w.heap.size := by
  rcases h.2 with ⟨_, h0⟩ | ⟨g, cap, cur, hv, hb, hg, _⟩
  · omega
  · exact ⟨g, cap, hv, hb, (Array.getElem?_eq_some_iff.1 hg).1⟩
/-- 4096 Bools in block g. -/
def KIn (w : World) (g : Nat) (p : Int → Bool) : Prop := g < w.heap.size ∧ ∀ j : Nat, j < 4096 → w.cell? ⟨g, j, none⟩ = some (.bool (p j))
theorem KIn.below {w w' : World} {g : Nat} {p : Int → Bool} (h : KIn w g p) (hb : Below w.heap.size w w') : KIn w' g p := ⟨Nat.lt_of_lt_of_le h.1 hb.size, fun j hj => (hb.cell (p := ⟨g, j, none⟩) h.1).trans (h.2 j hj)⟩
theorem KIn.of_row {w : World} {base g cap n : Nat} {p : Int → Bool} {t : TypeId} (hn : n = 4096) (h : w.ownsRow base t 1 (.slice (some ⟨g, 0, none⟩) n cap) n (tab p n)) : KIn w g p := by
  subst hn
  refine ⟨(h.lt g rfl).2, fun j hj => ?_⟩
  have := World.ownsRow.cellAt h j (by omega)
  rw [this, tab_get _ _ _ hj]
def KeysPost (w : World) (l : List Sp) (e : Ending) (w' : World) : Prop := ∃ g cap, e = .returned (.slice (some ⟨g, 0, none⟩) 4096 cap) ∧ KIn w' g (hasB l) ∧ Below w.heap.size w w'

end Go.Proofs.Ytfnjadiibiedgab
