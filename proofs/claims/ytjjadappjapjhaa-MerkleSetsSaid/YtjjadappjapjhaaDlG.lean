/-
  DELTA: rows of structs of any number of cells, as arguments and of the call's own (as template Gen, without the sets).
-/
import Derived.Test.YtjjadappjapjhaaVA
import Derived.IntWalk
import Derived.Below
import Derived.Laws.AppendOwn
import Derived.Deep.Slices
import Derived.Deep.RegionHeld3
import Derived.Deep.DeepCutAuto
import Derived.BigQuiet
import Derived.StillTailTactics
namespace Go.Proofs.Ytjjadappjapjhaa
open Go.RowKit Go.Deep

theorem addr_add (g o i : Nat) : (⟨g, o, none⟩ : Addr).add i = ⟨g, o + i, none⟩ := by
  unfold Addr.add; split
  · rename_i h; subst h; rfl
  · rfl
theorem below_next {w w1 w2 : World} (h : Below w.heap.size w w1) (h2 : Below w1.heap.size w1 w2) : Below w.heap.size w w2 := h.trans (h2.mono h.size)
theorem below_alloc {w wr : World} (h : Below w.heap.size w wr) (o : Obj) : Below w.heap.size w (wr.alloc o) := h.alloc h.size o
def Gives (w : World) (v : Value) (e : Ending) (w' : World) : Prop := e = .returned v ∧ Below w.heap.size w w'
theorem ret_bool {a b : Bool} (h : a = b) : Ending.returned (.bool a) = .returned (.bool b) := by rw [h]
/-- A row at a: its elements are l, each laid in k cells by enc, in blocks below B. -/
def RIn {α : Type} [Inhabited α] (enc : α → List Value) (k : Nat) (w : World) (B : Nat) (a : Option Addr) (l : List α) : Prop :=
  ∀ j, j < l.length → ∃ b off, a = some ⟨b, off, none⟩ ∧ b < B ∧ ∀ i v, (enc l[j]!)[i]? = some v → w.cell? ⟨b, off + j * k + i, none⟩ = some v
def RArg {α : Type} [Inhabited α] (enc : α → List Value) (k : Nat) (w : World) (a : Option Addr) (n c : Nat) (l : List α) : Prop :=
  n = l.length ∧ (l.length : Int) ≤ 9223372036854775807 ∧ l.length ≤ c ∧ c ≤ maxLen ∧ RIn enc k w w.heap.size a l
theorem RIn.nil {α : Type} [Inhabited α] (enc : α → List Value) (k : Nat) (w : World) (B : Nat) (a : Option Addr) : RIn enc k w B a [] := fun _ h => absurd h (Nat.not_lt_zero _)
theorem RIn.below {α : Type} [Inhabited α] {enc : α → List Value} {k : Nat} {w w' : World} {a : Option Addr} {l : List α} (h : RIn enc k w w.heap.size a l) (hb : Below w.heap.size w w') : RIn enc k w' w'.heap.size a l := fun j hj => by
  obtain ⟨b, off, e, hlt, hc⟩ := h j hj
  exact ⟨b, off, e, Nat.lt_of_lt_of_le hlt hb.size, fun i v hi => (hb.cell (p := ⟨b, off + j * k + i, none⟩) hlt).trans (hc i v hi)⟩
theorem RArg.below {α : Type} [Inhabited α] {enc : α → List Value} {k : Nat} {w w' : World} {a : Option Addr} {n c : Nat} {l : List α} (h : RArg enc k w a n c l) (hb : Below w.heap.size w w') : RArg enc k w' a n c l :=
  ⟨h.1, h.2.1, h.2.2.1, h.2.2.2.1, h.2.2.2.2.below hb⟩
theorem RArg.nil {α : Type} [Inhabited α] (enc : α → List Value) (k : Nat) (w : World) : RArg enc k w none 0 0 ([] : List α) := ⟨rfl, by simp, by simp, by simp, RIn.nil _ _ _ _ _⟩
theorem RIn.spot {α : Type} [Inhabited α] {enc : α → List Value} {k : Nat} {w : World} {B : Nat} {a : Option Addr} {l : List α} (h : RIn enc k w B a l) (hl : l ≠ []) : ∃ b off, a = some ⟨b, off, none⟩ ∧ b < B ∧ ∀ j, j < l.length → ∀ i v, (enc l[j]!)[i]? = some v → w.cell? ⟨b, off + j * k + i, none⟩ = some v := by
  obtain ⟨b, off, e, hb, _⟩ := h 0 (List.length_pos_iff.2 hl)
  refine ⟨b, off, e, hb, fun j hj i v hi => ?_⟩
  obtain ⟨b', off', e', _, hc⟩ := h j hj
  rw [e] at e'
  cases e'
  exact hc i v hi
/-- The front of a row. -/
theorem RIn.take {α : Type} [Inhabited α] {enc : α → List Value} {k : Nat} {w : World} {B : Nat} {a : Option Addr} {l : List α} (h : RIn enc k w B a l) (m : Nat) : RIn enc k w B a (l.take m) := fun j hj => by
  have hj' : j < m ∧ j < l.length := by rw [List.length_take] at hj; omega
  obtain ⟨b, off, e, hb, hc⟩ := h j hj'.2
  refine ⟨b, off, e, hb, ?_⟩
  have he : (l.take m)[j]! = l[j]! := by
    rw [getElem!_pos (l.take m) j hj, getElem!_pos l j hj'.2, List.getElem_take]
  rw [he]
  exact hc
/-- What is true stays true in worlds that only grow. -/
def Stable (P : World → Prop) : Prop := ∀ W W', P W → Below W.heap.size W W' → P W'
theorem Stable.row {α : Type} [Inhabited α] (enc : α → List Value) (k : Nat) (a : Option Addr) (n c : Nat) (l : List α) : Stable (fun W => RArg enc k W a n c l) := fun _ _ h hb => h.below hb
structure EnvS (w0 W : World) (Ps : List (World → Prop)) : Prop where
  low : Below w0.heap.size w0 W
  st : ∀ P ∈ Ps, Stable P
  is : ∀ P ∈ Ps, P W
theorem EnvS.start (w : World) : EnvS w w [] := ⟨Below.refl _ _, by simp, by simp⟩
theorem EnvS.step {w0 W W' : World} {Ps : List (World → Prop)} (h : EnvS w0 W Ps) (hb : Below W.heap.size W W') : EnvS w0 W' Ps := ⟨below_next h.low hb, h.st, fun P hP => h.st P hP _ _ (h.is P hP) hb⟩
theorem EnvS.add {w0 W : World} {Ps : List (World → Prop)} (h : EnvS w0 W Ps) {P : World → Prop} (hs : Stable P) (hp : P W) : EnvS w0 W (P :: Ps) := ⟨h.low, fun Q hQ => by
  rcases List.mem_cons.1 hQ with rfl | hQ
  · exact hs
  · exact h.st Q hQ, fun Q hQ => by
  rcases List.mem_cons.1 hQ with rfl | hQ
  · exact hp
  · exact h.is Q hQ⟩
theorem EnvS.get {w0 W : World} {Ps : List (World → Prop)} (h : EnvS w0 W Ps) (P : World → Prop) (hP : P ∈ Ps) : P W := h.is P hP
theorem EnvS.drew {w0 W : World} {Ps : List (World → Prop)} (h : EnvS w0 W Ps) : EnvS w0 W.drew Ps := h.step (Below.refl _ _).drew
theorem take_moreG {α : Type} [Inhabited α] {l : List α} {k : Nat} (h : k < l.length) : l.take (k + 1) = l.take k ++ [l[k]!] := by
  rw [List.take_succ_eq_append_getElem h, getElem!_pos l k h]
theorem drop_moreG {α : Type} [Inhabited α] {l : List α} {k : Nat} (h : k < l.length) : l.drop k = l[k]! :: l.drop (k + 1) := by
  rw [List.drop_eq_getElem_cons h, getElem!_pos l k h]
/-- A row of the call's own. -/
def flatR {α : Type} (enc : α → List Value) (l : List α) : List Value := l.flatMap enc
theorem flatR_append {α : Type} (enc : α → List Value) (l m : List α) : flatR enc (l ++ m) = flatR enc l ++ flatR enc m := List.flatMap_append
theorem flatR_length {α : Type} {enc : α → List Value} {k : Nat} (hk : ∀ x, (enc x).length = k) : ∀ (l : List α), (flatR enc l).length = l.length * k
  | [] => by simp [flatR]
  | x :: t => by
    have e : flatR enc (x :: t) = enc x ++ flatR enc t := rfl
    rw [e, List.length_append, hk, flatR_length hk t, List.length_cons, Nat.succ_mul]
    omega
theorem flatR_get {α : Type} [Inhabited α] {enc : α → List Value} {k : Nat} (hk : ∀ x, (enc x).length = k) : ∀ (l : List α) (j i : Nat) (v : Value), j < l.length → (enc l[j]!)[i]? = some v → (flatR enc l)[j * k + i]? = some v
  | [], _, _, _, h, _ => absurd h (Nat.not_lt_zero _)
  | x :: t, 0, i, v, _, hi => by
    have e : flatR enc (x :: t) = enc x ++ flatR enc t := rfl
    have hi' : (enc x)[i]? = some v := hi
    have hlt : i < (enc x).length := by
      rcases Nat.lt_or_ge i (enc x).length with h | h
      · exact h
      · rw [List.getElem?_eq_none h] at hi'; cases hi'
    rw [e, Nat.zero_mul, Nat.zero_add, List.getElem?_append_left hlt]
    exact hi'
  | x :: t, j + 1, i, v, hj, hi => by
    have e : flatR enc (x :: t) = enc x ++ flatR enc t := rfl
    have hj' : j < t.length := by simpa using hj
    have hi' : (enc t[j]!)[i]? = some v := by
      have : (x :: t)[j + 1]! = t[j]! := by rw [getElem!_pos (x :: t) (j + 1) hj, getElem!_pos t j hj', List.getElem_cons_succ]
      rw [← this]; exact hi
    rw [e, show (j + 1) * k + i = k + (j * k + i) from by rw [Nat.succ_mul]; omega, List.getElem?_append_right (by rw [hk]; omega), hk, Nat.add_sub_cancel_left]
    exact flatR_get hk t j i v hj' hi'
def OwnsR {α : Type} (enc : α → List Value) (k : Nat) (t : TypeId) (w : World) (base : Nat) (v : Value) (l : List α) : Prop := w.ownsRow base t k v l.length (flatR enc l)
theorem OwnsR.nil {α : Type} (enc : α → List Value) (k : Nat) (t : TypeId) (w : World) (base : Nat) : OwnsR enc k t w base (.slice none 0 0) ([] : List α) := ⟨by simp [flatR], .inl ⟨rfl, rfl⟩⟩
theorem OwnsR.below {α : Type} {enc : α → List Value} {k : Nat} {t : TypeId} {w w' : World} {base : Nat} {v : Value} {l : List α} (h : OwnsR enc k t w base v l) (hb : Below w.heap.size w w') : OwnsR enc k t w' base v l := by
  refine ⟨h.1, ?_⟩
  rcases h.2 with hn | ⟨g, cap, cur, rfl, hbb, hg, rest⟩
  · exact .inl hn
  · exact .inr ⟨g, cap, cur, rfl, hbb, (hb.block g (World.ownsRow.lt h g rfl).2).trans hg, rest⟩
theorem OwnsR.arg {α : Type} [Inhabited α] {enc : α → List Value} {k : Nat} (hk : ∀ x, (enc x).length = k) {t : TypeId} {w : World} {base : Nat} {v : Value} {l : List α} (h : OwnsR enc k t w base v l) :
    ∃ a c, v = .slice a l.length c ∧ RArg enc k w a l.length c l := by
  rcases h.2 with ⟨rfl, hn⟩ | ⟨g, cap, cur, rfl, hb, hg, hc, hm, hs, ht⟩
  · have : l = [] := List.eq_nil_of_length_eq_zero hn
    subst this
    exact ⟨none, 0, rfl, RArg.nil _ _ _⟩
  · have hz : (l.length : Int) ≤ 9223372036854775807 := by unfold maxLen at hm; omega
    refine ⟨some ⟨g, 0, none⟩, cap, rfl, rfl, hz, hc, hm, fun j hj => ⟨g, 0, rfl, (World.ownsRow.lt h g rfl).2, fun i u hi => ?_⟩⟩
    have := World.ownsRow.cells (g := g) h rfl (j * k + i) u (flatR_get hk l j i u hj hi)
    rw [addr_add] at this
    rw [Nat.add_assoc]
    exact this
theorem OwnsR.snoc {α : Type} {enc : α → List Value} {k : Nat} {t : TypeId} {w : World} {base n : Nat} {v : Value} {l : List α} {x : α} (hn : l.length = n) (h : w.ownsRow base t k v (n + 1) (flatR enc l ++ enc x)) : OwnsR enc k t w base v (l ++ [x]) := by
  unfold OwnsR
  rw [flatR_append, List.length_append, hn]
  have e : flatR enc [x] = enc x := by show enc x ++ [] = enc x; simp
  rw [e]
  exact h
/-- A row that was given. -/
def RowArg {α : Type} [Inhabited α] (enc : α → List Value) (k : Nat) (w : World) (l : List α) (e : Ending) (w' : World) : Prop := ∃ a n c, e = .returned (.slice a n c) ∧ RArg enc k w' a n c l ∧ Below w.heap.size w w'
end Go.Proofs.Ytjjadappjapjhaa
