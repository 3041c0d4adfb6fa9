/-
  CONTRACT: the document's Touches (of a mutation).
-/
import Derived.Test.YtfnjadiibiedgaaMutD
namespace Go.Proofs.Ytfnjadiibiedgaa
open Go.RowKit Go.Shelf

def touchesB (k : Int) (l : List Sp) (lo hi key : Int) : Bool := if k = 2 then decide (lo ≤ key) && decide (key < hi) else l.any fun p => p.1 == key
set_option maxRecDepth 100000 in
set_option maxHeartbeats 2000000 in
theorem touches4_any (c s k : Int) (a : Option Addr) (n cp : Nat) (l : List Sp) (lo hi old key : Int) (w : World) (hA : Arg w a n cp l) :
    Calls Try.prog 21 #[.agg #[.int .i64 c, .int .i64 s, .int .i64 k, .slice a n cp, .int .i64 lo, .int .i64 hi, .int .i64 old], .int .i64 key] w (Gives w (.bool (touchesB k l lo hi key))) := by
  have hn := hA.1
  have hp := hA.2.2.2.2
  have hnz : (n : Int) ≤ 9223372036854775807 := by have := hA.2.1; omega
  replace hn := Lib.hid hn
  replace hp := Lib.hid hp
  obtain ⟨W1, hW1⟩ : ∃ W1, (w.alloc (.cells #[.int .i64 c, .int .i64 s, .int .i64 k, .slice a n cp, .int .i64 lo, .int .i64 hi, .int .i64 old] 35)) = W1 := ⟨_, rfl⟩
  have K7 := Lib.hid (fun W (h : Below W1.heap.size W1 W) => box7 (w := w) (t := 35) (v0 := .int .i64 c) (v1 := .int .i64 s) (v2 := .int .i64 k) (v3 := .slice a n cp) (v4 := .int .i64 lo) (v5 := .int .i64 hi) (v6 := .int .i64 old) (w' := W) (by rw [hW1]; exact h))
  have bw : Below w.heap.size w W1 := by rw [← hW1]; exact (Below.refl _ _).alloc (Nat.le_refl _) _
  have s1 : w.heap.size ≤ W1.heap.size := bw.size
  have s2 : w.heap.size < W1.heap.size := by rw [← hW1]; simp
  obtain ⟨z0, z1, z2, z3, z4, z5, z6⟩ := K7.out _ (Below.refl _ _)
  clear hA
  by_cases k2 : k = 2
  · subst k2
    have H := Lib.hid (show touchesB 2 l lo hi key = (decide (lo ≤ key) && decide (key < hi)) from rfl)
    generalize touchesB 2 l lo hi key = r at H
    by_cases e1 : lo ≤ key
    · by_cases e2 : key < hi
      all_goals
        go_enter Try.func21, Try.ntmps21
        go_wp2
        go_ret
        exact ⟨ret_bool (by rw [H.out]; simp [e1, e2]), bw⟩
    · have e3 : decide (lo ≤ key) = false := decide_eq_false e1
      go_enter Try.func21, Try.ntmps21
      go_wp2
      go_ret
      exact ⟨ret_bool (by rw [H.out, e3]; rfl), bw⟩
  · have H := Lib.hid (show touchesB k l lo hi key = l.any (fun p => p.1 == key) from if_neg k2)
    have k2' : (k == 2) = false := by simpa using k2
    generalize touchesB k l lo hi key = r at H
    clear k2
    go_enter Try.func21, Try.ntmps21
    go_wp2_with fail
    clear z0 z1 z2 z3 z4 z5 z6
    replace hW1 := Lib.hid hW1
    go_loopw [5] (fun i wr => ∃ (j : Nat), i = .int .i64 (j : Int) ∧ j ≤ n ∧ Hid ((l.take j).any (fun p => p.1 == key) = false) ∧ Hid (Below W1.heap.size W1 wr))
      (fun i _ => n - (intOf i).toNat)
    case atStart => exact ⟨0, rfl, Nat.zero_le _, Lib.hid rfl, Lib.hid (Below.refl _ _)⟩
    case round =>
      obtain ⟨j, rfl, hj, HK, HL⟩ := hrel
      obtain ⟨_, _, _, c3, _, _, _⟩ := K7.out _ HL.out
      have hlow : Below w.heap.size w wr := bw.trans (HL.out.mono s1)
      by_cases hlt : j < n
      · have hjz : (j : Int) < (n : Int) := by omega
        obtain ⟨b, off, e, hb, d0, _⟩ := (hp.out.below hlow) j (by rw [← hn.out]; exact hlt)
        subst e
        obtain ⟨p, hpk⟩ : ∃ q, l.getD j (0, 0) = q := ⟨_, rfl⟩
        rw [hpk] at d0
        have hnext : (l.take (j + 1)).any (fun p => p.1 == key) = (p.1 == key) := by
          rw [take_more (k := j) (by rw [← hn.out]; exact hlt), List.any_append, HK.out, hpk]
          simp
        replace hpk := Lib.hid hpk
        obtain ⟨x, y⟩ := p
        dsimp only at d0 hnext
        cases hx : (x == key)
        · rw [hx] at hnext
          have hN := Lib.hid hnext
          clear hnext
          go_wp2_with fail
          go_roundw
          case rel => exact ⟨j + 1, by go_num, by omega, hN, HL⟩
          case measure => simp [intOf]; omega
        · rw [hx] at hnext
          have hr := Lib.hid (show r = true by
            rw [H.out, ← List.take_append_drop (j + 1) l, List.any_append, hnext, Bool.true_or])
          clear hnext
          go_wp2_with fail
          go_ret
          exact ⟨ret_bool hr.out.symm, hlow⟩
      · have hk' : l.take j = l := List.take_of_length_le (by rw [← hn.out]; omega)
        have hjn : ¬ (j : Int) < (n : Int) := by omega
        have hr := Lib.hid (show r = false by rw [H.out, ← hk', HK.out])
        replace hk' := Lib.hid hk'
        go_wp2
        go_ret
        exact ⟨ret_bool hr.out.symm, hlow⟩
end Go.Proofs.Ytfnjadiibiedgaa
