/-
  DELTA: Back.
-/
import Derived.Test.YtnjlbgnojlmmlaaDlL
import Derived.Laws.OwnMore
namespace Go.Proofs.Ytnjlbgnojlmmlaa
open Go.RowKit Go.Deep Go.Shelf

theorem flatR_cons {α : Type} (enc : α → List Value) (x : α) (t : List α) : flatR enc (x :: t) = enc x ++ flatR enc t := rfl
theorem flatR_set5 : ∀ (L : List Tn) (k : Nat) (t : Tn), k < L.length →
    (((((flatR encT L).set (k * 5) (.int .i64 t.1)).set (k * 5 + 1) (.int .i64 t.2.1.1)).set (k * 5 + 2) (.bool t.2.1.2)).set (k * 5 + 3) (.int .i64 t.2.2.1)).set (k * 5 + 4) (.bool t.2.2.2) = flatR encT (L.set k t)
  | [], _, _, h => absurd h (Nat.not_lt_zero _)
  | s :: r, 0, t, _ => by
    rw [List.set_cons_zero, flatR_cons, flatR_cons]
    rfl
  | s :: r, k + 1, t, h => by
    rw [List.set_cons_succ, flatR_cons, flatR_cons, ← flatR_set5 r k t (by simpa using h), Nat.succ_mul]
    rfl
theorem own_put5 {w : World} {base g n cap i : Nat} {cur : List Tn} (t : Tn) (hn : cur.length = n) (hi : i < n) (h : w.ownsRow base 46 5 (.slice (some ⟨g, 0, none⟩) n cap) n (flatR encT cur)) :
    (((((w.setCell ⟨g, i * 5, none⟩ (.int .i64 t.1)).setCell ⟨g, i * 5 + 1, none⟩ (.int .i64 t.2.1.1)).setCell ⟨g, i * 5 + 2, none⟩ (.bool t.2.1.2)).setCell ⟨g, i * 5 + 3, none⟩ (.int .i64 t.2.2.1)).setCell ⟨g, i * 5 + 4, none⟩ (.bool t.2.2.2)).ownsRow base 46 5 (.slice (some ⟨g, 0, none⟩) n cap) n (flatR encT (cur.set i t)) := by
  have h1 := (World.ownsRow.stored h (i * 5) (.int .i64 t.1)).1
  have h2 := (World.ownsRow.stored h1 (i * 5 + 1) (.int .i64 t.2.1.1)).1
  have h3 := (World.ownsRow.stored h2 (i * 5 + 2) (.bool t.2.1.2)).1
  have h4 := (World.ownsRow.stored h3 (i * 5 + 3) (.int .i64 t.2.2.1)).1
  have h5 := (World.ownsRow.stored h4 (i * 5 + 4) (.bool t.2.2.2)).1
  rwa [flatR_set5 cur i t (by omega)] at h5
def zT : Tn := (0, (0, false), (0, false))
theorem made5 (n : Nat) : (madeCells #[.int .i64 0, .int .i64 0, .bool false, .int .i64 0, .bool false] (n * 5)).toList = flatR encT (List.replicate n zT) := by
  have hl : (flatR encT (List.replicate n zT)).length = n * 5 := by rw [flatR_length encT_len, List.length_replicate]
  apply List.ext_getElem?
  intro j
  by_cases hj : j < n * 5
  · have hq : j / 5 < n := by omega
    have hd : j / 5 * 5 + j % 5 = j := by omega
    have hm : j % 5 < 5 := Nat.mod_lt _ (by omega)
    have e0 : (List.replicate n zT)[j / 5]! = zT := by rw [getElem!_pos _ _ (by simpa using hq), List.getElem_replicate]
    have e1 := flatR_get encT_len (List.replicate n zT) (j / 5) (j % 5) ((encT zT)[j % 5]'(by rw [encT_len]; exact hm)) (by simpa using hq) (by rw [e0]; exact List.getElem?_eq_getElem _)
    rw [hd] at e1
    rw [e1]
    simp [madeCells, hj]
    have : j % 5 = 0 ∨ j % 5 = 1 ∨ j % 5 = 2 ∨ j % 5 = 3 ∨ j % 5 = 4 := by omega
    rcases this with h | h | h | h | h <;> simp [h, encT, zT]
  · rw [List.getElem?_eq_none (l := flatR encT (List.replicate n zT)) (by rw [hl]; omega), List.getElem?_eq_none (by rw [Array.length_toList, size_madeCells]; omega)]
def flipT (t : Tn) : Tn := (t.1, t.2.2, t.2.1)
def backS (l : List Tn) : List Tn := l.map flipT
theorem back_step (l cur : List Tn) (k : Nat) (hk : k < l.length) (h1 : cur.length = l.length) (h2 : cur.take k = (backS l).take k) (t : Tn) (ht : t = flipT l[k]!) :
    (cur.set k t).length = l.length ∧ (cur.set k t).take (k + 1) = (backS l).take (k + 1) := by
  have hs : (cur.set k t).length = l.length := by rw [List.length_set]; exact h1
  have hb : (backS l).length = l.length := by unfold backS; simp
  have hks : k < (cur.set k t).length := by rw [hs]; exact hk
  have hkb : k < (backS l).length := by rw [hb]; exact hk
  have a1 : (cur.set k t).take k = cur.take k := by rw [List.take_set, List.set_eq_of_length_le (by rw [List.length_take]; omega)]
  have a2 : (cur.set k t)[k]! = t := by rw [getElem!_pos (cur.set k t) k hks, List.getElem_set_self]
  have a3 : (backS l)[k]! = flipT l[k]! := by rw [getElem!_pos (backS l) k hkb, getElem!_pos l k hk]; simp [backS]
  exact ⟨hs, by rw [take_moreG hks, take_moreG hkb, a1, a2, a3, h2, ht]⟩
def backP (l : List Tn) : List Tn × Int := if chkB l then (backS l, 0) else ([], 1)
def BkPost (w : World) (l : List Tn) (z : Int) (e : Ending) (w' : World) : Prop := ∃ v, e = .returned (.tuple #[v, .int .i64 z]) ∧ OwnT w' w.heap.size v l ∧ Below w.heap.size w w'
end Go.Proofs.Ytnjlbgnojlmmlaa
