/-
  CONTRACTS of vint's reader: one that stands, and the nil one.
-/
import Derived.Test.YtfnjadiibiedgaaTexts
namespace Go.Proofs.Ytfnjadiibiedgaa
open Go.RowKit

/-- Block g is a reader with s left and the error e. -/
def Rd (w : World) (g : Nat) (s : ByteArray) (e : Int) : Prop := w.heap[g]? = some (.cells #[.string s, .int .i64 e] 149 (0, 0))

theorem Rd.lt {w : World} {g : Nat} {s : ByteArray} {e : Int} (h : Rd w g s e) : g < w.heap.size := by
  rcases Nat.lt_or_ge g w.heap.size with hlt | hge
  · exact hlt
  · unfold Rd at h; rw [Array.getElem?_eq_none hge] at h; cases h

theorem from_any (s : ByteArray) (w : World) :
    Calls Try.prog 68 #[.string s] w fun e w' => e = .returned (.pointer (some ⟨w.heap.size, 0, none⟩)) ∧ w.alloc (.cells #[.string s, .int .i64 0] 149) = w' := by
  go_enter Try.func68, Try.ntmps68
  go_wp2
  go_ret
  exact ⟨rfl, rfl⟩

/-- What 'number' answers. -/
def numberV : Except Int (Nat × Nat) → Value
  | .error e => .tuple #[.int .i64 0, .int .i64 0, .int .i64 e]
  | .ok (n, m) => .tuple #[.int .i64 (n : Int), .int .i64 (m : Int), .int .i64 0]


theorem orShift (x c j : Nat) (hj : j < 9) (hx : x < 128 ^ j) (hc : c < 128) : bits .or .i64 (x : Int) (wrap64 ((c : Int) * 2 ^ (7 * j))) = ((x + 128 ^ j * c : Nat) : Int) ∧ x + 128 ^ j * c < 128 ^ (j + 1) := by
  have h1 : 128 ^ (j + 1) ≤ 9223372036854775808 := pow_128_le (by omega)
  have h2 : x + 128 ^ j * c < 128 ^ (j + 1) := by
    rw [Nat.pow_succ]
    have : 128 ^ j * c ≤ 128 ^ j * 127 := Nat.mul_le_mul_left _ (by omega)
    omega
  refine ⟨?_, h2⟩
  have e : ((c : Int) * 2 ^ (7 * j)) = ((128 ^ j * c : Nat) : Int) := by
    rw [pow_128, Int.natCast_mul, Int.mul_comm]; simp
  have hw : wrap64 ((128 ^ j * c : Nat) : Int) = ((128 ^ j * c : Nat) : Int) := by
    generalize 128 ^ j * c = y at *
    unfold wrap64; omega
  rw [e, hw]
  have hor : 128 ^ j * c ||| x = x + 128 ^ j * c := by
    rw [pow_128] at hx ⊢
    rw [← Nat.two_pow_add_eq_or_of_lt hx c, Nat.add_comm]
  show IntKind.i64.wrap ((BitVec.ofInt 64 (x : Int) ||| BitVec.ofInt 64 ((128 ^ j * c : Nat) : Int)).toNat : Int) = _
  have ha : (BitVec.ofInt 64 (x : Int)).toNat = x := by rw [BitVec.ofInt_natCast, BitVec.toNat_ofNat]; exact Nat.mod_eq_of_lt (by omega)
  have hb : (BitVec.ofInt 64 ((128 ^ j * c : Nat) : Int)).toNat = 128 ^ j * c := by rw [BitVec.ofInt_natCast, BitVec.toNat_ofNat]; exact Nat.mod_eq_of_lt (by omega)
  rw [BitVec.toNat_or, ha, hb, Nat.or_comm, hor]
  generalize x + 128 ^ j * c = y at *
  simp only [IntKind.wrap, IntKind.bits, IntKind.signed]
  simp
  omega

section
variable {s : ByteArray} {j x : Nat} (HE : Hid (liftN j x (scanN j (s.data.toList.drop j)) = scanN 0 s.data.toList))
include HE
theorem fin_short (h : s.size ≤ j) : scanN 0 s.data.toList = .error 5 := by
  rw [← HE.out, List.drop_eq_nil_of_le (by simpa using h)]; rfl
theorem fin_nine (h : j < s.size) (h9 : j = 9) : scanN 0 s.data.toList = .error 3 := by
  rw [← HE.out, drop_bytes s j h]; subst h9; rw [scanN_nine]; rfl
theorem fin_form (h : j < s.size) (h0 : 0 < j) (ht : ((s[j].toNat : Int) == 0) = true) : scanN 0 s.data.toList = .error 3 := by
  rw [← HE.out, drop_bytes s j h, scanN_zero h0 (by simpa using ht)]; rfl
theorem fin_last (h : j < s.size) (h9 : j < 9) (HX : Hid (x < 128 ^ j)) (hc : (s[j].toNat : Int) < 128) (h0 : j = 0 ∨ ((s[j].toNat : Int) == 0) = false) :
    Value.tuple #[.int .i64 (bits .or .i64 (x : Int) (wrap64 ((s[j].toNat : Int) * 2 ^ (7 * j)))), .int .i64 ((j : Int) + 1), .int .i64 0] = numberV (scanN 0 s.data.toList) := by
  rw [← HE.out, drop_bytes s j h, scanN_last (by omega) (by omega) (by simpa using h0), (orShift x _ j h9 HX.out (by omega)).1]
  rfl
theorem fin_round (h : j < s.size) (h9 : j < 9) (HX : Hid (x < 128 ^ j)) (hc : 128 ≤ (s[j].toNat : Int)) :
    bits .or .i64 (x : Int) (wrap64 (((s[j].toNat : Int) - 128) % 256 * 2 ^ (7 * j))) = ((x + 128 ^ j * (s[j].toNat - 128) : Nat) : Int) ∧
    x + 128 ^ j * (s[j].toNat - 128) < 128 ^ (j + 1) ∧ liftN (j + 1) (x + 128 ^ j * (s[j].toNat - 128)) (scanN (j + 1) (s.data.toList.drop (j + 1))) = scanN 0 s.data.toList := by
  have hu : s[j].toNat < 256 := UInt8.toNat_lt _
  have e : ((s[j].toNat : Int) - 128) % 256 = ((s[j].toNat - 128 : Nat) : Int) := by omega
  have ho := orShift x (s[j].toNat - 128) j h9 HX.out (by omega)
  rw [e]
  exact ⟨ho.1, ho.2, by rw [← HE.out, drop_bytes s j h, scanN_more (by omega) (by omega)]⟩
end

set_option maxRecDepth 100000 in
set_option maxHeartbeats 1000000 in
theorem number_any (s : ByteArray) (w : World) (hs : (s.size : Int) ≤ 9000000000000000000) :
    Calls Try.prog 111 #[.string s] w fun e w' => e = .returned (numberV (scanN 0 s.data.toList)) ∧ w = w' := by
  go_enter Try.func111, Try.ntmps111
  go_wp2
  go_step3
  go_wp2
  go_step3
  go_wp2
  go_loop [2, 3] (fun a t => ∃ (x j : Nat), a = .int .i64 (x : Int) ∧ t = .int .i64 (j : Int) ∧ j ≤ s.size ∧ j ≤ 9 ∧ x < 128 ^ j ∧ liftN j x (scanN j (s.data.toList.drop j)) = scanN 0 s.data.toList)
    (fun _ t => s.size - (intOf t).toNat)
  case atStart => exact ⟨0, 0, rfl, rfl, by omega, by omega, by simp, by rw [liftN_zero]; rfl⟩
  case round =>
    obtain ⟨x, j, rfl, rfl, hj, hj9, hx, heq⟩ := hrel
    have HE := Lib.hid heq
    have HX := Lib.hid hx
    clear heq hx
    by_cases h1 : j < s.size
    · by_cases h9 : j < 9
      · go_wp2
        all_goals first
          | (have ht : ((s[j].toNat : Int) == 0) = true := by assumption
             have h0 : 0 < j := by assumption
             have F := Lib.hid (fin_form HE h1 h0 ht)
             go_ret3
             exact ⟨by rw [F.out]; rfl, rfl⟩)
          | (have hc : (s[j].toNat : Int) < 128 := by assumption
             have h0 : j = 0 ∨ ((s[j].toNat : Int) == 0) = false := by first | exact .inr (by assumption) | exact .inl (by omega)
             have F := Lib.hid (fin_last HE h1 h9 HX hc h0)
             go_ret3
             exact ⟨by rw [← F.out]; rfl, rfl⟩)
          | (have hc : 128 ≤ (s[j].toNat : Int) := by assumption
             obtain ⟨F1, F2, F3⟩ := fin_round HE h1 h9 HX hc
             go_round
             case rel => exact ⟨_, j + 1, by rw [F1], by go_num, by omega, by omega, F2, F3⟩
             case measure => simp [intOf]; omega)
      · have F := Lib.hid (fin_nine HE h1 (by omega))
        go_wp2
        go_ret3
        exact ⟨by rw [F.out]; rfl, rfl⟩
    · have F := Lib.hid (fin_short HE (Nat.le_of_not_lt h1))
      have hjs : ((j : Int) == (s.size : Int)) = true := by simp; omega
      go_wp2
      go_ret3
      exact ⟨by rw [F.out]; rfl, rfl⟩
end Go.Proofs.Ytfnjadiibiedgaa
