/-
  CONTRACTS of more methods of vint's reader: whole numbers, flags, lengths, texts.
-/
import Derived.Test.YtfnjadiibiedgaaMethods
namespace Go.Proofs.Ytfnjadiibiedgaa
open Go.RowKit

set_option maxHeartbeats 400000 in
theorem rwhole_any {w : World} {g : Nat} {s : ByteArray} {e : Int} (h : Rd w g s e) (hs : (s.size : Int) ≤ 9000000000000000000) :
    Calls Try.prog 71 #[.pointer (some ⟨g, 0, none⟩)] w (RdPost w g (.int .i64 (rWhole s e).1) (rWhole s e).2) := by
  obtain ⟨v0, v1⟩ := rNum_val s e
  go_enter Try.func71, Try.ntmps71
  go_wp2_with (first | (go_at_call 69; refine (rnum_any h hs).mono ?_; rintro e w' ⟨rfl, R, G⟩) | (go_at_call 113; refine (unfold_any _ _ v0 v1).mono ?_; rintro e w' ⟨rfl, rfl⟩))
  go_ret
  exact ⟨rfl, R, G⟩

theorem rd_grown {w w' : World} {g : Nat} {s : ByteArray} {e : Int} {row : Option Nat} (h : Rd w g s e) (hg : w.grownBy w' row) (hne : some g ≠ row) : Rd w' g s e := h.same (hg.block g h.lt hne)

theorem rFlag_end {s : ByteArray} (h : s.size = 0) : rFlag s 0 = (false, ByteArray.empty, 5) := by
  unfold rFlag
  have : s.data.toList = [] := List.eq_nil_of_length_eq_zero (by simpa using h)
  rw [if_pos rfl, this]
theorem rFlag_at {s : ByteArray} (h : 0 < s.size) : rFlag s 0 = if s[0].toNat ≤ 1 then (s[0].toNat == 1, s.extract 1 s.size, 0) else (false, ByteArray.empty, 3) := by
  have := drop_bytes s 0 h
  rw [List.drop_zero] at this
  unfold rFlag
  rw [if_pos rfl, this]

end Go.Proofs.Ytfnjadiibiedgaa
