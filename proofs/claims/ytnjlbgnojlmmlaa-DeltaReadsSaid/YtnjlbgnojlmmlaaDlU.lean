/-
  DELTA: Check (of turns), a turn's kind, Text.
-/
import Derived.Test.YtnjlbgnojlmmlaaDlT
namespace Go.Proofs.Ytnjlbgnojlmmlaa
open Go.RowKit Go.Deep Go.Shelf

theorem cell_ne {a b : Int} {s t : Bool} (h : ¬ ((a, s) = (b, t))) : (a ≠ b ∧ (a == b) = false) ∨ (a = b ∧ ¬ s = t ∧ (s == t) = false) := by
  by_cases e : a = b
  · refine .inr ?_
    cases s <;> cases t <;> simp_all
  · exact .inl ⟨e, by simpa using e⟩
theorem isCell_h {v : Int} {s r : Bool} (h : cellB (v, s) = r) (w : World) : Calls Try.prog 39 #[.agg #[.int .i64 v, .bool s]] w (Gives w (.bool r)) := by
  have := isCell_any (v, s) w
  rwa [h] at this
set_option maxRecDepth 100000 in
set_option maxHeartbeats 2000000 in
theorem dcheck_any (a : Option Addr) (n c : Nat) (l : List Tn) (w : World) (h : RArg encT 5 w a n c l) : Calls Try.prog 17 #[.slice a n c] w (Gives w (.bool (chkB l))) := by
  have hp := h
  obtain ⟨rfl, hz, _, _, _⟩ := h
  obtain ⟨r, hr⟩ : ∃ r, chkB l = r := ⟨_, rfl⟩
  rw [hr]
  have H0 := Lib.hid (show chkF (-1) (l.drop 0) = r from hr)
  clear hr
  replace hp := Lib.hid hp
  go_enter Try.func17, Try.ntmps17
  go_wp2_with fail
  go_loopw [3, 5, 8] (fun en _ i wr => ∃ (k : Nat) (z : Int), i = .int .i64 (k : Int) ∧ en = .int .i64 z ∧ k ≤ l.length ∧ Hid (chkF z (l.drop k) = r) ∧ Below w.heap.size w wr)
    (fun _ _ i _ => l.length - (intOf i).toNat)
  case atStart => exact ⟨0, -1, rfl, rfl, by omega, H0, Below.refl _ _⟩
  case round =>
    obtain ⟨k, z, rfl, rfl, hk, HC, hbl⟩ := hrel
    by_cases hlt : k < l.length
    · have hkz : (k : Int) < (l.length : Int) := by omega
      obtain ⟨b, off, e, hb, c0, c1, c2, c3, c4⟩ := (hp.out.below hbl).tns hlt
      subst e
      have hnext := HC.out
      rw [drop_moreG hlt] at hnext
      generalize l[k]! = s at c0 c1 c2 c3 c4 hnext
      obtain ⟨x, ⟨y, s1⟩, ⟨u, s2⟩⟩ := s
      dsimp only at c0 c1 c2 c3 c4
      have hd : chkF z ((x, (y, s1), (u, s2)) :: l.drop (k + 1)) = ((decide (z < x ∧ x < 4096) && cellB (y, s1) && cellB (u, s2) && !decide (((y, s1) : Cl) = (u, s2))) && chkF x (l.drop (k + 1))) := rfl
      rw [hd] at hnext
      clear hd
      obtain ⟨Wb, hWb⟩ : ∃ Wb, wr.alloc (.cells #[.int .i64 x, .int .i64 y, .bool s1, .int .i64 u, .bool s2] 46) = Wb := ⟨_, rfl⟩
      have BW : Below wr.heap.size wr Wb := by rw [← hWb]; exact (Below.refl _ _).alloc (Nat.le_refl _) _
      have hx := heap_alloc_new wr (.cells #[.int .i64 x, .int .i64 y, .bool s1, .int .i64 u, .bool s2] 46)
      rw [hWb] at hx
      have KX := Lib.hid (fun W' (hb : Below Wb.heap.size Wb W') => (hb.block _ (Array.getElem?_eq_some_iff.1 hx).1).trans hx)
      have cx : ∀ W', Below Wb.heap.size Wb W' → W'.cell? ⟨wr.heap.size, 0, none⟩ = some (.int .i64 x) ∧ W'.cell? ⟨wr.heap.size, 1, none⟩ = some (.int .i64 y) ∧ W'.cell? ⟨wr.heap.size, 2, none⟩ = some (.bool s1) ∧ W'.cell? ⟨wr.heap.size, 3, none⟩ = some (.int .i64 u) ∧ W'.cell? ⟨wr.heap.size, 4, none⟩ = some (.bool s2) := fun W' hb =>
        ⟨cell_of_row _ _ 0 _ _ _ (KX.out W' hb), cell_of_row _ _ 1 _ _ _ (KX.out W' hb), cell_of_row _ _ 2 _ _ _ (KX.out W' hb), cell_of_row _ _ 3 _ _ _ (KX.out W' hb), cell_of_row _ _ 4 _ _ _ (KX.out W' hb)⟩
      replace cx := Lib.hid cx
      obtain ⟨q0, q1, q2, q3, q4⟩ := cx.out _ (Below.refl _ _)
      have bB := below_next hbl BW
      clear KX hx BW
      by_cases h1 : x ≤ z
      · have hr := Lib.hid (show r = false by rw [← hnext, decide_eq_false (show ¬ (z < x ∧ x < 4096) by omega)]; rfl)
        have d1 : decide (x ≤ z) = true := decide_eq_true h1
        clear hnext h1
        go_wp2_with fail
        go_ret
        exact ⟨ret_bool hr.out.symm, bB⟩
      · have d1 : decide (x ≤ z) = false := decide_eq_false h1
        by_cases h2 : 4096 ≤ x
        · have hr := Lib.hid (show r = false by rw [← hnext, decide_eq_false (show ¬ (z < x ∧ x < 4096) by omega)]; rfl)
          have d2 : decide (4096 ≤ x) = true := decide_eq_true h2
          clear hnext h1 h2
          go_wp2_with fail
          go_ret
          exact ⟨ret_bool hr.out.symm, bB⟩
        · have d2 : decide (4096 ≤ x) = false := decide_eq_false h2
          rw [decide_eq_true (show z < x ∧ x < 4096 by omega), Bool.true_and] at hnext
          clear h1 h2
          cases g1 : cellB (y, s1) with
          | false =>
            have hr := Lib.hid (show r = false by rw [← hnext, g1]; rfl)
            clear hnext
            replace g1 := Lib.hid g1
            go_wp2_with (go_at_call 39; (with_reducible refine (isCell_h g1.out _).mono ?_); rintro e w2 ⟨rfl, b2⟩; obtain ⟨q0, q1, q2, q3, q4⟩ := cx.out _ b2; clear g1)
            go_ret
            exact ⟨ret_bool hr.out.symm, below_next bB b2⟩
          | true =>
            rw [g1, Bool.true_and] at hnext
            cases g2 : cellB (u, s2) with
            | false =>
              have hr := Lib.hid (show r = false by rw [← hnext, g2]; rfl)
              clear hnext
              replace g1 := Lib.hid g1
              replace g2 := Lib.hid g2
              go_wp2_with (first | (go_at_call 39; (with_reducible refine (isCell_h g1.out _).mono ?_); rintro e w2 ⟨rfl, b2⟩; obtain ⟨q0, q1, q2, q3, q4⟩ := cx.out _ b2; clear g1) | (go_at_call 39; (with_reducible refine (isCell_h g2.out _).mono ?_); rintro e w3 ⟨rfl, b3⟩; (have b23 := below_next b2 b3); obtain ⟨q0, q1, q2, q3, q4⟩ := cx.out _ b23))
              go_ret
              exact ⟨ret_bool hr.out.symm, below_next bB b23⟩
            | true =>
              rw [g2, Bool.true_and] at hnext
              by_cases h5 : ((y, s1) : Cl) = (u, s2)
              · have hr := Lib.hid (show r = false by rw [← hnext, decide_eq_true h5]; rfl)
                clear hnext
                obtain ⟨rfl, rfl⟩ : y = u ∧ s1 = s2 := by simpa using h5
                replace g1 := Lib.hid g1
                replace g2 := Lib.hid g2
                clear h5
                go_wp2_with (first | (go_at_call 39; (with_reducible refine (isCell_h g1.out _).mono ?_); rintro e w2 ⟨rfl, b2⟩; obtain ⟨q0, q1, q2, q3, q4⟩ := cx.out _ b2; clear g1) | (go_at_call 39; (with_reducible refine (isCell_h g2.out _).mono ?_); rintro e w3 ⟨rfl, b3⟩; (have b23 := below_next b2 b3); obtain ⟨q0, q1, q2, q3, q4⟩ := cx.out _ b23))
                go_ret
                exact ⟨ret_bool hr.out.symm, below_next bB b23⟩
              · have HN := Lib.hid (show chkF x (l.drop (k + 1)) = r by rw [← hnext, decide_eq_false h5]; rfl)
                clear hnext
                have hcase := cell_ne h5
                clear h5
                rcases hcase with ⟨e1, e2⟩ | ⟨rfl, e1, e2⟩
                · replace g1 := Lib.hid g1
                  replace g2 := Lib.hid g2
                  go_wp2_with (first | (go_at_call 39; (with_reducible refine (isCell_h g1.out _).mono ?_); rintro e w2 ⟨rfl, b2⟩; obtain ⟨q0, q1, q2, q3, q4⟩ := cx.out _ b2; clear g1) | (go_at_call 39; (with_reducible refine (isCell_h g2.out _).mono ?_); rintro e w3 ⟨rfl, b3⟩; (have b23 := below_next b2 b3); obtain ⟨q0, q1, q2, q3, q4⟩ := cx.out _ b23))
                  go_roundw
                  case rel => exact ⟨k + 1, x, by go_num, rfl, by omega, HN, below_next bB b23⟩
                  case measure => simp [intOf]; omega
                · replace g1 := Lib.hid g1
                  replace g2 := Lib.hid g2
                  go_wp2_with (first | (go_at_call 39; (with_reducible refine (isCell_h g1.out _).mono ?_); rintro e w2 ⟨rfl, b2⟩; obtain ⟨q0, q1, q2, q3, q4⟩ := cx.out _ b2; clear g1) | (go_at_call 39; (with_reducible refine (isCell_h g2.out _).mono ?_); rintro e w3 ⟨rfl, b3⟩; (have b23 := below_next b2 b3); obtain ⟨q0, q1, q2, q3, q4⟩ := cx.out _ b23))
                  go_roundw
                  case rel => exact ⟨k + 1, x, by go_num, rfl, by omega, HN, below_next bB b23⟩
                  case measure => simp [intOf]; omega
    · have hkn : k = l.length := by omega
      subst hkn
      have hr := Lib.hid (show r = true by have := HC.out; rw [List.drop_length] at this; exact this.symm)
      clear HC
      have hkz : ¬ ((l.length : Int) < (l.length : Int)) := by omega
      go_wp2_with fail
      go_ret
      exact ⟨ret_bool hr.out.symm, hbl⟩
def kindT (t : Tn) : Int := (if t.2.1.2 then 1 else 0) + (if t.2.2.2 then 2 else 0)
theorem kind_any (t : Tn) (w : World) : Calls Try.prog 24 #[.agg #[.int .i64 t.1, .int .i64 t.2.1.1, .bool t.2.1.2, .int .i64 t.2.2.1, .bool t.2.2.2]] w (Gives w (.int .i64 (kindT t))) := by
  obtain ⟨k, ⟨a, s⟩, ⟨b, u⟩⟩ := t
  have B : Below w.heap.size w (w.alloc (.cells #[.int .i64 k, .int .i64 a, .bool s, .int .i64 b, .bool u] 46)) := (Below.refl _ _).alloc (Nat.le_refl _) _
  unfold kindT
  cases s <;> cases u <;>
  · go_enter Try.func24, Try.ntmps24
    go_wp2_with fail
    go_ret
    exact ⟨rfl, B⟩
theorem kind_h {k a b K : Int} {s u : Bool} (h : kindT (k, (a, s), (b, u)) = K) (w : World) : Calls Try.prog 24 #[.agg #[.int .i64 k, .int .i64 a, .bool s, .int .i64 b, .bool u]] w (Gives w (.int .i64 K)) := by
  have := kind_any (k, (a, s), (b, u)) w
  rwa [h] at this
end Go.Proofs.Ytnjlbgnojlmmlaa
