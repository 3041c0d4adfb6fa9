/-
  CONTRACTS of more methods of vint's reader: whole numbers, flags, lengths, texts.
-/
import Derived.Test.YtjeeplacolbihaaMethods
namespace Go.Proofs.Ytjeeplacolbihaa
open Go.RowKit

set_option maxHeartbeats 400000 in
theorem rwhole_any {w : World} {g : Nat} {s : ByteArray} {e : Int} (h : Rd w g s e) (hs : (s.size : Int) ≤ 9000000000000000000) :
    Calls Try.prog 30 #[.pointer (some ⟨g, 0, none⟩)] w (RdPost w g (.int .i64 (rWhole s e).1) (rWhole s e).2) := by
  obtain ⟨v0, v1⟩ := rNum_val s e
  go_enter Try.func30, Try.ntmps30
  go_wp2_with (first | (go_at_call 28; refine (rnum_any h hs).mono ?_; rintro e w' ⟨rfl, R, G⟩) | (go_at_call 54; refine (unfold_any _ _ v0 v1).mono ?_; rintro e w' ⟨rfl, rfl⟩))
  go_ret
  exact ⟨rfl, R, G⟩

theorem rd_grown {w w' : World} {g : Nat} {s : ByteArray} {e : Int} {row : Option Nat} (h : Rd w g s e) (hg : w.grownBy w' row) (hne : some g ≠ row) : Rd w' g s e := h.same (hg.block g h.lt hne)

theorem rFlag_end {s : ByteArray} (h : s.size = 0) : rFlag s 0 = (false, ByteArray.empty, 5) := by
  unfold rFlag
  have : s.data.toList = [] := List.eq_nil_of_length_eq_zero (by simpa using h)
  rw [if_pos rfl, this]
theorem rFlag_at {s : ByteArray} (h : 0 < s.size) : rFlag s 0 = if s[0].toNat ≤ 1 then (s[0].toNat == 1, s.extract 1 s.size, 0) else (false, ByteArray.empty, 3) := by
  have := drop_bytes s 0 h
  rw [List.drop_zero] at this
  unfold rFlag
  rw [if_pos rfl, this]

set_option maxHeartbeats 400000 in
theorem rflag_any {w : World} {g : Nat} {s : ByteArray} {e : Int} (h : Rd w g s e) :
    Calls Try.prog 32 #[.pointer (some ⟨g, 0, none⟩)] w (RdPost w g (.bool (rFlag s e).1) (rFlag s e).2) := by
  have h0 := h.cell0
  by_cases he : e = 0
  · subst he
    by_cases hz : s.size = 0
    · have hs2 : s.toList.isEmpty = true := by rw [ByteArray.toList_eq]; simpa using (List.eq_nil_of_length_eq_zero (by simpa using hz) : s.data.toList = [])
      have H := Lib.hid (rFlag_end hz)
      clear hz
      go_enter Try.func32, Try.ntmps32
      go_wp2_with (first | (go_at_call 39; refine (err_any h).mono ?_; rintro e w' ⟨rfl, rfl⟩) | (go_at_call 53; refine (fail_any 5 h).mono ?_; rintro e w' ⟨rfl, R, G⟩))
      go_ret
      exact ⟨by rw [H.out]; rfl, by rw [H.out]; exact R, G⟩
    · have hz' : 0 < s.size := by omega
      have hs2 : s.toList.isEmpty = false := by rw [ByteArray.toList_eq]; have := drop_bytes s 0 hz'; rw [List.drop_zero] at this; rw [this]; rfl
      by_cases hc : s[0].toNat ≤ 1
      · have H := Lib.hid (rFlag_at hz')
        rw [if_pos hc] at H
        have f0 := h.free 0
        have R := h.setLeft (s.extract 1 s.size)
        have G := grown_setCell w ⟨g, 0, none⟩ (.string (s.extract 1 s.size))
        have hq : ((s[0].toNat : Int) == 1) = (s[0].toNat == 1) := by rw [Bool.eq_iff_iff]; simp; omega
        have HQ := Lib.hid hq
        clear hq
        go_enter Try.func32, Try.ntmps32
        go_wp2_with (first | (go_at_call 39; refine (err_any h).mono ?_; rintro e w' ⟨rfl, rfl⟩))
        go_ret
        exact ⟨by rw [H.out, ← HQ.out]; rfl, by rw [H.out]; exact R, G⟩
      · have H := Lib.hid (rFlag_at hz')
        rw [if_neg hc] at H
        go_enter Try.func32, Try.ntmps32
        go_wp2_with (first | (go_at_call 39; refine (err_any h).mono ?_; rintro e w' ⟨rfl, rfl⟩) | (go_at_call 53; refine (fail_any 3 h).mono ?_; rintro e w' ⟨rfl, R, G⟩))
        go_ret
        exact ⟨by rw [H.out]; rfl, by rw [H.out]; exact R, G⟩
  · have H := Lib.hid (show rFlag s e = (false, s, e) by unfold rFlag; rw [if_neg he])
    have hd : (e == 0) = false := by simpa using he
    clear he
    go_enter Try.func32, Try.ntmps32
    go_wp2_with (go_at_call 39; refine (err_any h).mono ?_; rintro e w' ⟨rfl, rfl⟩)
    go_ret
    exact ⟨by rw [H.out]; rfl, by rw [H.out]; exact h, World.grownBy.refl _ _⟩

set_option maxHeartbeats 400000 in
theorem rlen_any {w : World} {g : Nat} {s : ByteArray} {e : Int} (most : Int) (h : Rd w g s e) (hs : (s.size : Int) ≤ 9000000000000000000) :
    Calls Try.prog 55 #[.pointer (some ⟨g, 0, none⟩), .int .i64 most] w (RdPost w g (.int .i64 (rLen s e most).1) (rLen s e most).2) := by
  obtain ⟨v0, v1⟩ := rNum_val s e
  by_cases he : (rNum s e).2.2 = 0
  · by_cases hm : most < (rNum s e).1
    · have H := Lib.hid (show rLen s e most = (0, ByteArray.empty, 2) by unfold rLen; rw [if_pos ⟨he, hm⟩])
      have hd : ((rNum s e).2.2 == 0) = true := by simpa using he
      clear he
      go_enter Try.func55, Try.ntmps55
      go_wp2_with (first | (go_at_call 28; refine (rnum_any h hs).mono ?_; rintro e w' ⟨rfl, R, G⟩) | (go_at_call 39; refine (err_any R).mono ?_; rintro e w' ⟨rfl, rfl⟩) | (go_at_call 53; refine (fail_any 2 R).mono ?_; rintro e w' ⟨rfl, R1, G1⟩))
      go_ret
      exact ⟨by rw [H.out]; rfl, by rw [H.out]; exact R1, grown_trans G G1⟩
    · have H := Lib.hid (show rLen s e most = rNum s e by unfold rLen; rw [if_neg (fun h => hm h.2)])
      have hd : ((rNum s e).2.2 == 0) = true := by simpa using he
      clear he
      go_enter Try.func55, Try.ntmps55
      go_wp2_with (first | (go_at_call 28; refine (rnum_any h hs).mono ?_; rintro e w' ⟨rfl, R, G⟩) | (go_at_call 39; refine (err_any R).mono ?_; rintro e w' ⟨rfl, rfl⟩))
      go_ret
      exact ⟨by rw [H.out]; rfl, by rw [H.out]; exact R, G⟩
  · have H := Lib.hid (show rLen s e most = rNum s e by unfold rLen; rw [if_neg (fun h => he h.1)])
    have hd : ((rNum s e).2.2 == 0) = false := by simpa using he
    clear he
    go_enter Try.func55, Try.ntmps55
    go_wp2_with (first | (go_at_call 28; refine (rnum_any h hs).mono ?_; rintro e w' ⟨rfl, R, G⟩) | (go_at_call 39; refine (err_any R).mono ?_; rintro e w' ⟨rfl, rfl⟩))
    go_ret
    exact ⟨by rw [H.out]; rfl, by rw [H.out]; exact R, G⟩
end Go.Proofs.Ytjeeplacolbihaa
