/-
  CONTRACTS of more methods of vint's reader: whole numbers, flags, lengths, texts.
-/
import Derived.Test.YtjeeplacolbihabMethods
namespace Go.Proofs.Ytjeeplacolbihab
open Go.RowKit

theorem rd_grown {w w' : World} {g : Nat} {s : ByteArray} {e : Int} {row : Option Nat} (h : Rd w g s e) (hg : w.grownBy w' row) (hne : some g ≠ row) : Rd w' g s e := h.same (hg.block g h.lt hne)

theorem rFlag_end {s : ByteArray} (h : s.size = 0) : rFlag s 0 = (false, ByteArray.empty, 5) := by
  unfold rFlag
  have : s.data.toList = [] := List.eq_nil_of_length_eq_zero (by simpa using h)
  rw [if_pos rfl, this]
theorem rFlag_at {s : ByteArray} (h : 0 < s.size) : rFlag s 0 = if s[0].toNat ≤ 1 then (s[0].toNat == 1, s.extract 1 s.size, 0) else (false, ByteArray.empty, 3) := by
  have := drop_bytes s 0 h
  rw [List.drop_zero] at this
  unfold rFlag
  rw [if_pos rfl, this]

set_option maxHeartbeats 400000 in
theorem rlen_any {w : World} {g : Nat} {s : ByteArray} {e : Int} (most : Int) (h : Rd w g s e) (hs : (s.size : Int) ≤ 9000000000000000000) :
    Calls Try.prog 24 #[.pointer (some ⟨g, 0, none⟩), .int .i64 most] w (RdPost w g (.int .i64 (rLen s e most).1) (rLen s e most).2) := by
  obtain ⟨v0, v1⟩ := rNum_val s e
  by_cases he : (rNum s e).2.2 = 0
  · by_cases hm : most < (rNum s e).1
    · have H := Lib.hid (show rLen s e most = (0, ByteArray.empty, 2) by unfold rLen; rw [if_pos ⟨he, hm⟩])
      have hd : ((rNum s e).2.2 == 0) = true := by simpa using he
      clear he
      go_enter Try.func24, Try.ntmps24
      go_wp2_with (first | (go_at_call 32; refine (rnum_any h hs).mono ?_; rintro e w' ⟨rfl, R, G⟩) | (go_at_call 18; refine (err_any R).mono ?_; rintro e w' ⟨rfl, rfl⟩) | (go_at_call 25; refine (fail_any 2 R).mono ?_; rintro e w' ⟨rfl, R1, G1⟩))
      go_ret
      exact ⟨by rw [H.out]; rfl, by rw [H.out]; exact R1, grown_trans G G1⟩
    · have H := Lib.hid (show rLen s e most = rNum s e by unfold rLen; rw [if_neg (fun h => hm h.2)])
      have hd : ((rNum s e).2.2 == 0) = true := by simpa using he
      clear he
      go_enter Try.func24, Try.ntmps24
      go_wp2_with (first | (go_at_call 32; refine (rnum_any h hs).mono ?_; rintro e w' ⟨rfl, R, G⟩) | (go_at_call 18; refine (err_any R).mono ?_; rintro e w' ⟨rfl, rfl⟩))
      go_ret
      exact ⟨by rw [H.out]; rfl, by rw [H.out]; exact R, G⟩
  · have H := Lib.hid (show rLen s e most = rNum s e by unfold rLen; rw [if_neg (fun h => he h.1)])
    have hd : ((rNum s e).2.2 == 0) = false := by simpa using he
    clear he
    go_enter Try.func24, Try.ntmps24
    go_wp2_with (first | (go_at_call 32; refine (rnum_any h hs).mono ?_; rintro e w' ⟨rfl, R, G⟩) | (go_at_call 18; refine (err_any R).mono ?_; rintro e w' ⟨rfl, rfl⟩))
    go_ret
    exact ⟨by rw [H.out]; rfl, by rw [H.out]; exact R, G⟩
end Go.Proofs.Ytjeeplacolbihab
