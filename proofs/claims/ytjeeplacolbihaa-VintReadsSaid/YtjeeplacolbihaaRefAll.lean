/-
  CONTRACTS of the document's reader: Whole, Flag, End, List.
-/
import Derived.Test.YtjeeplacolbihaaRefTx
namespace Go.Proofs.Ytjeeplacolbihaa
open Go.RowKit

theorem odd_num {n : Int} (h : n % 2 = 1) : unfoldN n = -(n / 2) - 1 := by unfold unfoldN; rw [if_pos h]
theorem even_num {n : Int} (h : ¬ n % 2 = 1) : unfoldN n = n / 2 := by unfold unfoldN; rw [if_neg h]

set_option maxRecDepth 100000 in
set_option maxHeartbeats 2000000 in
theorem refWholeR_any (s : ByteArray) (e : Int) (w : World) (hs : (s.size : Int) ≤ 9000000000000000000) : Calls Try.prog 29 #[rdV s e] w (RdNumPost (rWhole s e) w) := by
  obtain ⟨v0, v1⟩ := rNum_val s e
  obtain ⟨n, u, e1, hN⟩ : ∃ n u e1, rNum s e = (n, u, e1) := ⟨_, _, _, rfl⟩
  have HC : Hid (∀ w, Calls Try.prog 27 #[rdV s e] w (RdNumPost (n, u, e1) w)) := Lib.hid fun w => by have := refNumR_any s e w hs; rw [hN] at this; exact this
  have HW : Hid (rWhole s e = (unfoldN n, u, e1)) := Lib.hid (by unfold rWhole; rw [hN])
  rw [hN] at v0 v1
  have n0 : 0 ≤ n := v0
  have n1 : n ≤ 9223372036854775807 := v1
  clear hN v0 v1
  by_cases h : n % 2 = 1
  · have H := Lib.hid (odd_num h)
    go_enter Try.func29, Try.ntmps29
    go_wp2_with (go_at_call 27; refine (HC.out _).mono ?_; rintro e w2 ⟨rfl, B2⟩; obtain ⟨hcB, hfB⟩ := bcell B2; have hzB : w.heap.size + 1 < w2.heap.size := (by have := B2.size; simp at this; omega); have hzC : w.heap.size < w2.heap.size := (by omega))
    refine bodyPost_ret (v := .tuple #[rdV u e1, .int .i64 (-(n / 2) - 1)]) (by simp [results, Try.results29, go_sem, hcB, hzB]; try rfl) rfl ⟨by rw [HW.out, H.out], ?_⟩
    have C2 : Below w.heap.size w w2 := (((Below.refl _ _).alloc (Nat.le_refl _) _).alloc (by simp) _).trans (B2.mono (by simp; omega))
    exact ((C2.setCell (by simp) _).setCell (by simp) _).alloc (by simp [World.setCell]; omega) _
  · have H := Lib.hid (even_num h)
    go_enter Try.func29, Try.ntmps29
    go_wp2_with (go_at_call 27; refine (HC.out _).mono ?_; rintro e w2 ⟨rfl, B2⟩; obtain ⟨hcB, hfB⟩ := bcell B2; have hzB : w.heap.size + 1 < w2.heap.size := (by have := B2.size; simp at this; omega); have hzC : w.heap.size < w2.heap.size := (by omega))
    refine bodyPost_ret (v := .tuple #[rdV u e1, .int .i64 (n / 2)]) (by simp [results, Try.results29, go_sem, hcB, hzB]; try rfl) rfl ⟨by rw [HW.out, H.out], ?_⟩
    have C2 : Below w.heap.size w w2 := (((Below.refl _ _).alloc (Nat.le_refl _) _).alloc (by simp) _).trans (B2.mono (by simp; omega))
    exact ((C2.setCell (by simp) _).setCell (by simp) _).alloc (by simp [World.setCell]; omega) _

theorem refEndR_any (s : ByteArray) (e : Int) (w : World) : Calls Try.prog 41 #[rdV s e] w fun en w' => en = .returned (.int .i64 (rEnd s e)) ∧ Below w.heap.size w w' := by
  by_cases he : e = 0
  · subst he
    cases hz : s.toList.isEmpty
    all_goals
      have H : Hid (rEnd s 0 = bif s.toList.isEmpty then 0 else 2) := Lib.hid (by unfold rEnd; rw [if_pos rfl, ByteArray.toList_eq]; cases s.data.toList.isEmpty <;> rfl)
      rw [hz] at H
      go_enter Try.func41, Try.ntmps41
      go_wp2
      go_ret
      exact ⟨by rw [H.out]; rfl, (Below.refl _ _).alloc (Nat.le_refl _) _⟩
  · have d0 : (e == 0) = false := by simpa using he
    have H : Hid (rEnd s e = e) := Lib.hid (by unfold rEnd; rw [if_neg he])
    clear he
    go_enter Try.func41, Try.ntmps41
    go_wp2
    go_ret
    exact ⟨by rw [H.out]; rfl, (Below.refl _ _).alloc (Nat.le_refl _) _⟩

def RdFlagPost (r : Bool × ByteArray × Int) (w : World) (e : Ending) (w' : World) : Prop := e = .returned (.tuple #[rdV r.2.1 r.2.2, .bool r.1]) ∧ Below w.heap.size w w'

set_option maxRecDepth 100000 in
set_option maxHeartbeats 2000000 in
theorem refFlagR_any (s : ByteArray) (e : Int) (w : World) : Calls Try.prog 31 #[rdV s e] w (RdFlagPost (rFlag s e) w) := by
  by_cases he : e = 0
  · subst he
    by_cases hz : s.size = 0
    · have hs2 : s.toList.isEmpty = true := by rw [ByteArray.toList_eq]; simpa using (List.eq_nil_of_length_eq_zero (by simpa using hz) : s.data.toList = [])
      have H := Lib.hid (rFlag_end hz)
      clear hz
      go_enter Try.func31, Try.ntmps31
      go_wp2_with (go_at_call 51; refine (refFail_any _ _).mono ?_; rintro e w4 ⟨rfl, B4⟩; obtain ⟨hcD, hfD⟩ := bcell B4; have hzD : w.heap.size < w4.heap.size := by have := B4.size; simp at this; omega)
      refine bodyPost_ret (v := .tuple #[rdV ByteArray.empty 5, .bool false]) (by simp [results, Try.results31, go_sem, hcD]; try rfl) rfl ⟨by rw [H.out], ?_⟩
      have C4 : Below w.heap.size w w4 := (((Below.refl _ _).alloc (Nat.le_refl _) _).alloc (by simp) _).trans (B4.mono (by simp; omega))
      exact (C4.setCell (by simp) _).setCell (by simp) _
    · have hz' : 0 < s.size := by omega
      have hs2 : s.toList.isEmpty = false := by rw [ByteArray.toList_eq]; have := drop_bytes s 0 hz'; rw [List.drop_zero] at this; rw [this]; rfl
      by_cases hc : s[0].toNat ≤ 1
      · have H := Lib.hid (rFlag_at hz')
        rw [if_pos hc] at H
        have hq : ((s[0].toNat : Int) == 1) = (s[0].toNat == 1) := by rw [Bool.eq_iff_iff]; simp; omega
        have HQ := Lib.hid hq
        clear hq
        go_enter Try.func31, Try.ntmps31
        go_wp2_with fail
        go_region
        all_goals go_wp2
        all_goals
          refine bodyPost_ret (v := .tuple #[rdV (s.extract 1 s.size) 0, .bool (s[0].toNat == 1)]) (by simp [results, Try.results31, go_sem, HQ.out]; try rfl) rfl ⟨by rw [H.out], ?_⟩
          exact (((Below.refl _ _).alloc (Nat.le_refl _) _).alloc (by simp) _).drew
      · have H := Lib.hid (rFlag_at hz')
        rw [if_neg hc] at H
        go_enter Try.func31, Try.ntmps31
        go_wp2_with (go_at_call 51; refine (refFail_any _ _).mono ?_; rintro e w4 ⟨rfl, B4⟩; obtain ⟨hcD, hfD⟩ := bcell B4; have hzD : w.heap.size < w4.heap.size := by have := B4.size; simp at this; omega)
        refine bodyPost_ret (v := .tuple #[rdV ByteArray.empty 3, .bool false]) (by simp [results, Try.results31, go_sem, hcD]; try rfl) rfl ⟨by rw [H.out], ?_⟩
        have C4 : Below w.heap.size w w4 := (((Below.refl _ _).alloc (Nat.le_refl _) _).alloc (by simp) _).trans (B4.mono (by simp; omega))
        exact (C4.setCell (by simp) _).setCell (by simp) _
  · have H := Lib.hid (show rFlag s e = (false, s, e) by unfold rFlag; rw [if_neg he])
    have hd : (e == 0) = false := by simpa using he
    clear he
    go_enter Try.func31, Try.ntmps31
    go_wp2_with fail
    refine bodyPost_ret (v := .tuple #[rdV s e, .bool false]) (by simp [results, Try.results31, go_sem]; try rfl) rfl ⟨by rw [H.out], ?_⟩
    exact ((Below.refl _ _).alloc (Nat.le_refl _) _).alloc (by simp) _
end Go.Proofs.Ytjeeplacolbihaa
