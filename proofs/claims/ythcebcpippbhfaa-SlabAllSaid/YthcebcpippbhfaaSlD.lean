/-
  SLABS: writing, reading, waking, flushing; a new slab.
-/
import Derived.Test.YthcebcpippbhfaaSlC
namespace Go.Proofs.Ythcebcpippbhfaa
open Go.RowKit Go.Maps Go.ChangeMaps

def writeS (s : St) (k : Int) (t : ByteArray) : St × Int :=
  if s.down then (s, 9) else if insideB s.bs k = false ∨ 256 < t.size then (s, 1) else
    ((tripsS { s with bs := giveP s.bs k.toNat t }).1, if (tripsS { s with bs := giveP s.bs k.toNat t }).2 then 9 else 0)
theorem insideB_iff {bs : List Bk} {k : Int} : insideB bs k = true ↔ ∃ i : Nat, k = (i : Int) ∧ i < bs.length := by
  unfold insideB
  simp only [Bool.and_eq_true, decide_eq_true_eq]
  constructor
  · intro ⟨h1, h2⟩; exact ⟨k.toNat, by omega, by omega⟩
  · rintro ⟨i, rfl, hi⟩; omega
theorem map_fst_give {bs : List Bk} {i : Nat} (t : ByteArray) : (giveP bs i t).map (·.1) = bs.map (·.1) := by
  unfold giveP
  rw [List.map_set]
  dsimp only
  apply List.ext_getElem?
  intro j
  rw [List.getElem?_set]
  split
  · rename_i e
    subst e
    split
    · rename_i h
      rw [List.getD_eq_getElem?_getD, List.getElem?_map, List.getElem?_eq_getElem (by simpa using h)]
      rfl
    · rename_i h
      rw [List.getElem?_eq_none (by simpa using h)]
  · rfl
set_option maxRecDepth 100000 in
set_option maxHeartbeats 1000000 in
theorem write_any {w : World} {p db mb : Nat} {ka : Option Addr} {kn kc : Nat} {s : St} (h : SlK w p db mb ka kn kc s) (k : Int) (t : ByteArray) (hts : t.size ≤ maxLen) :
    Calls Try.prog 16 #[.pointer (some ⟨p, 0, none⟩), .int .i64 k, .string t] w (SPost p db mb (.int .i64 (writeS s k t).2) (writeS s k t).1 w) := by
  obtain ⟨_, c1, c2, _⟩ := h.cells
  unfold writeS
  rcases Bool.eq_false_or_eq_true s.down with hd | hd
  · rw [if_pos hd]
    rw [hd] at c2
    go_enter Try.func16, Try.ntmps16
    go_wp2
    go_ret
    exact ⟨rfl, ⟨ka, kn, kc, h⟩, But.refl _ _ _ _⟩
  · rw [if_neg (by rw [hd]; decide)]
    rw [hd] at c2
    unfold maxLen at hts
    cases hi : insideB s.bs k with
    | false =>
      rw [if_pos (.inl rfl)]
      go_enter Try.func16, Try.ntmps16
      go_wp2_with (go_at_call 33; refine (has_any h k).mono ?_; rintro e w2 ⟨rfl, hw2⟩; subst w2)
      go_ret
      exact ⟨rfl, ⟨ka, kn, kc, h⟩, But.refl _ _ _ _⟩
    | true =>
      by_cases ht : 256 < t.size
      · rw [if_pos (.inr ht)]
        have htz : (256 : Int) < (t.size : Int) := by omega
        go_enter Try.func16, Try.ntmps16
        go_wp2_with (go_at_call 33; refine (has_any h k).mono ?_; rintro e w2 ⟨rfl, hw2⟩; subst w2)
        go_ret
        exact ⟨rfl, ⟨ka, kn, kc, h⟩, But.refl _ _ _ _⟩
      · rw [if_neg (by intro q; rcases q with q | q; · cases q
                       · exact ht q)]
        obtain ⟨i, rfl, hil⟩ := insideB_iff.1 hi
        have htz : ¬ ((256 : Int) < (t.size : Int)) := by omega
        obtain ⟨W1, hrun, hm1, ht1⟩ := h.hm.store h.len.2 hil t
        have h1 : SlK W1 p db mb ka kn kc { s with bs := giveP s.bs i t } := h.turn ht1 (hm1 (s.bs.getD i bk0).1) (map_fst_give t) (h.fit.give i (by omega)) (fun q => by rw [hd] at q; cases q)
        have hb1 : But p db mb w W1 := (But.refl _ _ _ _).grown ht1.grown (.inr (.inr (.inl rfl)))
        have htn : (((i : Nat) : Int)).toNat = i := by omega
        rw [htn]
        generalize ({ s with bs := giveP s.bs i t } : St) = s1 at h1 ⊢
        replace hd := Lib.hid hd
        cases hq : (tripsS s1).2 with
        | true =>
          go_enter Try.func16, Try.ntmps16
          go_wp2_with (first
            | (go_at_call 33; refine (has_any h _).mono ?_; rintro e w2 ⟨rfl, hw2⟩; subst w2)
            | (go_at_call 34; refine (trips_any h1).mono ?_; rintro e w2 ⟨rfl, hs2, hb2⟩))
          go_ret
          exact ⟨rfl, hs2, hb1.trans hb2⟩
        | false =>
          go_enter Try.func16, Try.ntmps16
          go_wp2_with (first
            | (go_at_call 33; refine (has_any h _).mono ?_; rintro e w2 ⟨rfl, hw2⟩; subst w2)
            | (go_at_call 34; refine (trips_any h1).mono ?_; rintro e w2 ⟨rfl, hs2, hb2⟩))
          go_ret
          exact ⟨rfl, hs2, hb1.trans hb2⟩
theorem write_nil (k : Int) (t : ByteArray) (w : World) : Calls Try.prog 16 #[.pointer none, .int .i64 k, .string t] w fun e w' => e = .returned (.int .i64 1) ∧ w' = w := by
  go_enter Try.func16, Try.ntmps16
  go_wp2
  go_ret
  exact ⟨rfl, rfl⟩
def readS (s : St) (k : Int) : ByteArray × Int :=
  if s.down then (⟨#[]⟩, 9) else if insideB s.bs k = false then (⟨#[]⟩, 1) else ((looseAt s.bs k).getD (s.bs.getD k.toNat bk0).1, 0)
/-- What a call that only reads leaves. -/
def RPost (v : Value) (w : World) (e : Ending) (w' : World) : Prop := e = .returned v ∧ Below w.heap.size w w'
set_option maxRecDepth 100000 in
set_option maxHeartbeats 1000000 in
theorem read_any {w : World} {p db mb : Nat} {ka : Option Addr} {kn kc : Nat} {s : St} (h : SlK w p db mb ka kn kc s) (k : Int) (hk : (Lit.int .i64 k).wf = true) :
    Calls Try.prog 24 #[.pointer (some ⟨p, 0, none⟩), .int .i64 k] w (RPost (.tuple #[.string (readS s k).1, .int .i64 (readS s k).2]) w) := by
  obtain ⟨c0, c1, c2, _⟩ := h.cells
  unfold readS
  rcases Bool.eq_false_or_eq_true s.down with hd | hd
  · rw [if_pos hd]
    rw [hd] at c2
    go_enter Try.func24, Try.ntmps24
    go_wp2
    go_ret2
    exact ⟨rfl, Below.refl _ _⟩
  · rw [if_neg (by rw [hd]; decide)]
    rw [hd] at c2
    cases hi : insideB s.bs k with
    | false =>
      rw [if_pos rfl]
      go_enter Try.func24, Try.ntmps24
      go_wp2_with (go_at_call 33; refine (has_any h k).mono ?_; rintro e w2 ⟨rfl, hw2⟩; subst w2)
      go_ret2
      exact ⟨rfl, Below.refl _ _⟩
    | true =>
      rw [if_neg (by decide)]
      obtain ⟨i, rfl, hil⟩ := insideB_iff.1 hi
      have hl := h.hm.look hk
      have htn : (((i : Nat) : Int)).toNat = i := by omega
      rw [htn]
      have B : ∀ t, Below w.heap.size w (w.alloc (.cells #[.string t] 75)) := fun t => (Below.refl _ _).alloc (Nat.le_refl _) _
      cases e : looseAt s.bs (i : Int) with
      | none =>
        rw [e] at hl
        simp only [Option.getD_none, Option.isSome_none] at hl
        have h1 := h.same (B ⟨#[]⟩)
        obtain ⟨d0, d1, _⟩ := h1.cells
        obtain ⟨q1, q2⟩ := h1.row hil
        have e9 : (s.bs.getD i bk0).1 = s.bs[i].1 := by rw [List.getD_eq_getElem?_getD, List.getElem?_eq_getElem hil]; rfl
        have B1 := B ⟨#[]⟩
        go_enter Try.func24, Try.ntmps24
        go_wp2_with (go_at_call 33; refine (has_any h _).mono ?_; rintro e w2 ⟨rfl, hw2⟩; subst w2)
        go_ret2
        rw [Option.getD_none, e9]
        exact ⟨rfl, B1⟩
      | some t =>
        rw [e] at hl
        simp only [Option.getD_some, Option.isSome_some] at hl
        have hb := boxW w t
        obtain ⟨W1, hW1⟩ : ∃ W1, w.alloc (.cells #[.string t] 75) = W1 := ⟨_, rfl⟩
        rw [hW1] at hb
        have B1 : Below w.heap.size w W1 := by rw [← hW1]; exact B _
        go_enter Try.func24, Try.ntmps24
        go_wp2_with (go_at_call 33; refine (has_any h _).mono ?_; rintro e w2 ⟨rfl, hw2⟩; subst w2)
        go_ret2
        exact ⟨rfl, B1⟩
theorem read_nil (k : Int) (w : World) : Calls Try.prog 24 #[.pointer none, .int .i64 k] w fun e w' => e = .returned (.tuple #[.string ⟨#[]⟩, .int .i64 1]) ∧ w' = w := by
  go_enter Try.func24, Try.ntmps24
  go_wp2
  go_ret2
  exact ⟨rfl, rfl⟩
end Go.Proofs.Ythcebcpippbhfaa
