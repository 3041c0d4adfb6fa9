/-
  CONTRACT of the document's Sum.
-/
import Derived.Test.YtjeeplacolbihabSum
namespace Go.Proofs.Ytjeeplacolbihab
open Go.RowKit

theorem lsb_toNat (d : BitVec 32) : d.getLsbD 0 = decide (d.toNat % 2 = 1) := by rw [BitVec.getLsbD, Nat.testBit_zero]
theorem crcBit_xor (r m : BitVec 32) : crcBit (r ^^^ m) = ((r >>> 1) ^^^ (if r.getLsbD 0 != m.getLsbD 0 then 0xedb88320#32 else 0#32)) ^^^ (m >>> 1) := by
  unfold crcBit
  rw [BitVec.ushiftRight_xor_distrib, BitVec.getLsbD_xor, BitVec.xor_assoc, BitVec.xor_assoc, BitVec.xor_comm (m >>> 1)]
theorem lsb_shift (b : UInt8) (j : Nat) : (byteW b >>> j).toNat = b.toNat / 2 ^ j := by
  rw [BitVec.toNat_ushiftRight, Nat.shiftRight_eq_div_pow]
  unfold byteW
  have : b.toNat < 256 := UInt8.toNat_lt b
  simp
theorem cast_bit (b : UInt8) (j : Nat) : ((b.toNat : Int) / 2 ^ j % 2) = ((b.toNat / 2 ^ j % 2 : Nat) : Int) := by simp
theorem step_ne {r : BitVec 32} {b : UInt8} {j : Nat} (h : (regI r % 2 != (b.toNat : Int) / 2 ^ j % 2) = true) :
    crcBit (r ^^^ (byteW b >>> j)) = ((r >>> 1) ^^^ 0xedb88320#32) ^^^ (byteW b >>> (j + 1)) := by
  rw [cast_bit] at h
  have hd : (r.getLsbD 0 != (byteW b >>> j).getLsbD 0) = true := by
    rw [lsb_toNat, lsb_toNat, lsb_shift]
    unfold regI at h
    generalize b.toNat / 2 ^ j = y at *
    simp at h ⊢
    omega
  rw [crcBit_xor, hd, if_pos rfl, BitVec.shiftRight_add]
theorem step_eq {r : BitVec 32} {b : UInt8} {j : Nat} (h : (regI r % 2 != (b.toNat : Int) / 2 ^ j % 2) = false) :
    crcBit (r ^^^ (byteW b >>> j)) = (r >>> 1) ^^^ (byteW b >>> (j + 1)) := by
  rw [cast_bit] at h
  have hd : (r.getLsbD 0 != (byteW b >>> j).getLsbD 0) = false := by
    rw [lsb_toNat, lsb_toNat, lsb_shift]
    unfold regI at h
    generalize b.toNat / 2 ^ j = y at *
    simp at h ⊢
    omega
  rw [crcBit_xor, hd, if_neg (by decide), BitVec.shiftRight_add, BitVec.xor_zero]
theorem shift8 (b : UInt8) : byteW b >>> 8 = 0#32 := by
  apply BitVec.eq_of_toNat_eq
  rw [lsb_shift]
  have : b.toNat < 256 := UInt8.toNat_lt b
  show b.toNat / 256 = 0
  omega
theorem not_sub (c : BitVec 32) : (4294967295 - regI c) % 4294967296 = regI (~~~ c) := by
  have := c.isLt
  unfold regI
  rw [BitVec.toNat_not]
  omega

set_option maxRecDepth 100000 in
set_option maxHeartbeats 1000000 in
theorem refSum_any (s : ByteArray) (w : World) (hs : (s.size : Int) ≤ 9000000000000000000) :
    Calls Try.prog 30 #[.string s] w fun e w' => e = .returned (.int .u32 (regI (sumL s.data.toList))) ∧ w = w' := by
  go_enter Try.func30, Try.ntmps30
  go_wp2
  go_loop [3, 4] (fun c i => ∃ k : Nat, i = .int .i64 (k : Int) ∧ k ≤ s.size ∧ c = .int .u32 (regI (crcReg (BitVec.allOnes 32) (s.data.toList.take k))))
    (fun _ i => s.size - (intOf i).toNat)
  case atStart => exact ⟨0, rfl, by omega, rfl⟩
  case round =>
    obtain ⟨k, rfl, hk, rfl⟩ := hrel
    by_cases hlt : k < s.size
    · obtain ⟨c, hc⟩ : ∃ c, crcReg (BitVec.allOnes 32) (s.data.toList.take k) = c := ⟨_, rfl⟩
      rw [hc]
      have HC := Lib.hid hc
      clear hc
      go_wp2
      go_loop [3, 5] (fun v i => ∃ (j : Nat) (r : BitVec 32), i = .int .i64 (j : Int) ∧ j ≤ 8 ∧ v = .int .u32 (regI r) ∧ r ^^^ (byteW s[k] >>> j) = crcBits j (c ^^^ byteW s[k])) (fun _ i => 8 - (intOf i).toNat)
      case atStart => exact ⟨0, c, rfl, by omega, rfl, by simp [crcBits]⟩
      case round =>
        obtain ⟨j, r, rfl, hj, rfl, hr⟩ := hrel
        obtain ⟨b3, b4⟩ := regI_bd r
        have HR := Lib.hid hr
        clear hr
        by_cases hj8 : j < 8
        · go_wp2
          · have ht : (regI r % 2 != (s[k].toNat : Int) / 2 ^ j % 2) = true := by assumption
            have hst := step_ne ht
            go_round
            case rel => exact ⟨j + 1, _, by go_num, by omega, by rw [half_regI, show (3988292384 : Int) = regI 0xedb88320#32 from rfl, xor_regI], by rw [← hst, crcBits_succ, HR.out]⟩
            case measure => simp [intOf]; omega
          · have ht : (regI r % 2 != (s[k].toNat : Int) / 2 ^ j % 2) = false := by assumption
            have hst := step_eq ht
            go_round
            case rel => exact ⟨j + 1, _, by go_num, by omega, by rw [half_regI], by rw [← hst, crcBits_succ, HR.out]⟩
            case measure => simp [intOf]; omega
        · have hj : j = 8 := by omega
          subst hj
          go_wp2
          go_round
          case rel => exact ⟨k + 1, by go_num, by omega, by rw [take_byte hlt, crcReg_snoc, HC.out, ← HR.out, shift8, BitVec.xor_zero]⟩
          case measure => simp [intOf]; omega
    · have HK := Lib.hid (show s.data.toList.take k = s.data.toList from List.take_of_length_le (by simp; omega))
      obtain ⟨b1, b2⟩ := regI_bd (crcReg (BitVec.allOnes 32) (s.data.toList.take k))
      go_wp2
      go_ret
      rw [HK.out]
      exact ⟨congrArg (fun x => Ending.returned (Value.int .u32 x)) (not_sub _), rfl⟩
end Go.Proofs.Ytjeeplacolbihab
