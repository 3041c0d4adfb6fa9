/-
  CONTRACT of cksum.Open: which frame stands at the front of bytes, and what is behind it; THE PAGE's EXAMPLES of layer 2.
-/
import Derived.Test.YtjeeplacolbihabFrame
import Derived.Deep.QuietTactic
import Derived.BigQuiet
import Derived.Deep.RegionWith
namespace Go.Proofs.Ytjeeplacolbihab
open Go.RowKit

/-- The frame at the front of bytes: its body, what is behind it, the error. -/
def openR (s : ByteArray) : ByteArray × ByteArray × Int :=
  if (rText s 0 1048576).2.2 = 0 then
    if (rText s 0 1048576).2.1.size < 4 then (ByteArray.empty, ByteArray.empty, 5)
    else if ((rText s 0 1048576).2.1.extract 0 4).data.toList = fourL (sumL (s.extract 0 (s.size - (rText s 0 1048576).2.1.size)).data.toList)
      then ((rText s 0 1048576).1, (rText s 0 1048576).2.1.extract 4 (rText s 0 1048576).2.1.size, 0)
      else (ByteArray.empty, ByteArray.empty, 6)
  else (ByteArray.empty, ByteArray.empty, (rText s 0 1048576).2.2)

theorem below_drewN' {B : Nat} {a w : World} (h : Below B a w) (n : Nat) : Below B a (w.drewN n) := ⟨h.os, h.tape, h.output, h.size, h.block⟩
theorem rNum_fst_nonneg (s : ByteArray) (e : Int) : 0 ≤ (rNum s e).1 := (rNum_val s e).1
theorem rText_left (s : ByteArray) (e most : Int) : (rText s e most).2.1.size ≤ s.size ∧ (rText s e most).1.size ≤ s.size := by
  have hl := rLen_size s e most
  have h0 : ByteArray.empty.size = 0 := rfl
  unfold rText
  split
  · split
    · simp only [h0]; omega
    · simp only [ba_size (ByteArray.extract _ _ _), ba_take, ba_drop, List.length_take, List.length_drop, ← ba_size]
      omega
  · simp only [h0]; omega

def OpenPost (r : ByteArray × ByteArray × Int) (w : World) (e : Ending) (w' : World) : Prop := e = .returned (.tuple #[.string r.1, .string r.2.1, .int .i64 r.2.2]) ∧ Below w.heap.size w w'

def ReadNew (s : ByteArray) (w : World) (e : Ending) (w' : World) : Prop :=
  ∃ g, e = .returned (.pointer (some ⟨g, 0, none⟩)) ∧ w.heap.size ≤ g ∧ Rd w' g s 0 ∧ Below w.heap.size w w'
theorem from_new (s : ByteArray) (w : World) : Calls Try.prog 16 #[.string s] w (ReadNew s w) :=
  (from_any s w).mono fun _ _ ⟨he, hw⟩ => ⟨w.heap.size, he, Nat.le_refl _, by rw [← hw]; exact Rd.new w s 0, by rw [← hw]; exact (Below.refl _ _).alloc (Nat.le_refl _) _⟩

set_option maxRecDepth 100000 in
set_option maxHeartbeats 2000000 in
theorem open_any (s : ByteArray) (w : World) (hs : (s.size : Int) ≤ 9000000000000000000) : Calls Try.prog 9 #[.string s] w (OpenPost (openR s) w) := by
  obtain ⟨t, u, e1, hT⟩ : ∃ t u e1, rText s 0 1048576 = (t, u, e1) := ⟨_, _, _, rfl⟩
  have P : ∀ w g, Rd w g s 0 → Calls Try.prog 17 #[.pointer (some ⟨g, 0, none⟩), .int .i64 1048576] w (RdPost w g (.string t) (u, e1)) := fun w g h => by have := rtext_any 1048576 h hs; rw [hT] at this; exact this
  replace P := Lib.hid P
  have z1 : u.size ≤ s.size := by have := (rText_left s 0 1048576).1; rw [hT] at this; exact this
  obtain ⟨c, hc⟩ : ∃ c, sumL (s.extract 0 (s.size - u.size)).data.toList = c := ⟨_, rfl⟩
  have hx : ((s.extract 0 (s.size - u.size)).size : Int) ≤ 9000000000000000000 := by rw [ba_size, ba_take, List.length_take, ← ba_size]; omega
  have HS : Hid (∀ w, Calls Try.prog 20 #[.string (s.extract 0 (s.size - u.size))] w (StrPost (fourS c) w)) := Lib.hid fun w => by have := sumText_any (s.extract 0 (s.size - u.size)) w hx; rw [hc] at this; exact this
  have HA : Hid (e1 = 0 → u.size < 4 → openR s = (ByteArray.empty, ByteArray.empty, 5)) := Lib.hid fun h0 h4 => by unfold openR; rw [hT, if_pos h0, if_pos h4]
  have HB : Hid (e1 = 0 → ¬ u.size < 4 → (u.extract 0 4).data.toList = fourL c → openR s = (t, u.extract 4 u.size, 0)) := Lib.hid fun h0 h4 hq => by unfold openR; rw [hT, if_pos h0, if_neg h4, hc, if_pos hq]
  have HC : Hid (e1 = 0 → ¬ u.size < 4 → ¬ (u.extract 0 4).data.toList = fourL c → openR s = (ByteArray.empty, ByteArray.empty, 6)) := Lib.hid fun h0 h4 hq => by unfold openR; rw [hT, if_pos h0, if_neg h4, hc, if_neg hq]
  have HD : Hid (e1 ≠ 0 → openR s = (ByteArray.empty, ByteArray.empty, e1)) := Lib.hid fun h0 => by unfold openR; rw [hT, if_neg h0]
  clear hc hx
  clear hT
  go_enter Try.func9, Try.ntmps9
  go_wp2_with fail
  refine (from_new s _).mono ?_
  rintro e w1 ⟨g, rfl, hg, R, B⟩
  go_wp2_with fail
  refine (P.out _ _ R).mono ?_
  rintro e w2 ⟨rfl, R2, G2⟩
  have C2 : Below w.heap.size w w2 := B.grown G2 B.size (by simp; omega)
  clear R B G2
  by_cases h0 : e1 = 0
  · subst h0
    by_cases h4 : u.size < 4
    · have H := Lib.hid (HA.out rfl h4)
      go_wp2_with (first
        | (go_at_call 18; refine (err_any R2).mono ?_; rintro e w' ⟨rfl, rfl⟩)
        | (go_at_call 19; refine (left_any R2).mono ?_; rintro e w' ⟨rfl, rfl⟩))
      go_ret3
      exact ⟨by rw [H.out]; rfl, C2⟩
    · have h4' : 4 ≤ u.size := by omega
      by_cases hq : (u.extract 0 4).data.toList = fourL c
      · have H := Lib.hid (HB.out rfl h4 hq)
        have q1 : ((u.extract 0 4).toList == (fourS c).toList) = true := by rw [ByteArray.toList_eq, ByteArray.toList_eq, hq]; simp [fourS]
        clear hq
        go_wp2_with (first
          | (go_at_call 18; refine (err_any R2).mono ?_; rintro e w' ⟨rfl, rfl⟩)
          | (go_at_call 19; refine (left_any R2).mono ?_; rintro e w' ⟨rfl, rfl⟩))
        go_region_with ((go_at_call 20; refine (HS.out _).mono ?_; rintro e w3 ⟨rfl, B3⟩))
        all_goals
          go_wp2_with fail
          go_quiet (fail)
          go_wp2
          go_ret3
          exact ⟨by rw [H.out]; rfl, below_drewN' (below_next C2.drew B3) _⟩
      · have H := Lib.hid (HC.out rfl h4 hq)
        have q1 : ((u.extract 0 4).toList == (fourS c).toList) = false := by rw [ByteArray.toList_eq, ByteArray.toList_eq]; simpa [fourS] using hq
        clear hq
        go_wp2_with (first
          | (go_at_call 18; refine (err_any R2).mono ?_; rintro e w' ⟨rfl, rfl⟩)
          | (go_at_call 19; refine (left_any R2).mono ?_; rintro e w' ⟨rfl, rfl⟩))
        go_region_with ((go_at_call 20; refine (HS.out _).mono ?_; rintro e w3 ⟨rfl, B3⟩))
        all_goals
          go_wp2
          go_ret3
          exact ⟨by rw [H.out]; rfl, below_next C2.drew B3⟩
  · have H := Lib.hid (HD.out h0)
    have d0 : (e1 != 0) = true := by simpa using h0
    clear h0
    go_wp2_with (first
      | (go_at_call 18; refine (err_any R2).mono ?_; rintro e w' ⟨rfl, rfl⟩))
    go_ret3
    exact ⟨by rw [H.out]; rfl, C2⟩
end Go.Proofs.Ytjeeplacolbihab
