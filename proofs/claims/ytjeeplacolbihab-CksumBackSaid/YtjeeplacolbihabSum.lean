/-
  CONTRACTS of the sums: cksum.Sum and the document's.
-/
import Derived.Test.YtjeeplacolbihabBase
namespace Go.Proofs.Ytjeeplacolbihab
open Go.RowKit

/-- One bit's step of the register. -/
def crcBit (c : BitVec 32) : BitVec 32 := (c >>> 1) ^^^ (if c.getLsbD 0 then 0xedb88320#32 else 0#32)
/-- k bits' steps. -/
def crcBits : Nat → BitVec 32 → BitVec 32
  | 0, c => c
  | k + 1, c => crcBits k (crcBit c)
theorem crcBits_succ (k : Nat) : ∀ c, crcBits (k + 1) c = crcBit (crcBits k c) := by
  induction k with
  | zero => intro c; rfl
  | succ k ih => intro c; rw [crcBits, ih]; rfl
/-- A byte as a register. -/
def byteW (b : UInt8) : BitVec 32 := b.toBitVec.setWidth 32
def crcByte (c : BitVec 32) (b : UInt8) : BitVec 32 := crcBits 8 (c ^^^ byteW b)
def crcReg (c : BitVec 32) (l : List UInt8) : BitVec 32 := l.foldl crcByte c
def sumL (l : List UInt8) : BitVec 32 := ~~~ crcReg (BitVec.allOnes 32) l
/-- The register as a number. -/
def regI (c : BitVec 32) : Int := (c.toNat : Int)
theorem regI_bd (c : BitVec 32) : 0 ≤ regI c ∧ regI c ≤ 4294967295 := by have := c.isLt; unfold regI; omega

theorem take_byte {s : ByteArray} {k : Nat} (h : k < s.size) : s.data.toList.take (k + 1) = s.data.toList.take k ++ [s[k]] := by
  rw [List.take_succ_eq_append_getElem (by simpa using h)]; rfl
theorem crcReg_snoc (c : BitVec 32) (l : List UInt8) (b : UInt8) : crcReg c (l ++ [b]) = crcBits 8 (crcReg c l ^^^ byteW b) := by
  unfold crcReg; rw [List.foldl_append]; rfl

theorem ofInt_regI (c : BitVec 32) : BitVec.ofInt 32 (regI c) = c := by
  unfold regI; rw [BitVec.ofInt_natCast]; simp
theorem wrap_u32 (x : BitVec 32) : IntKind.u32.wrap (x.toNat : Int) = regI x := by
  have := x.isLt
  unfold regI
  simp only [IntKind.wrap, IntKind.bits, IntKind.signed]
  simp
  omega
theorem xor_byte (c : BitVec 32) (b : UInt8) : bits .xor .u32 (regI c) ((b.toNat : Int) % 4294967296) = regI (c ^^^ byteW b) := by
  show IntKind.u32.wrap ((BitVec.ofInt 32 (regI c) ^^^ BitVec.ofInt 32 ((b.toNat : Int) % 4294967296)).toNat : Int) = _
  have hb : BitVec.ofInt 32 ((b.toNat : Int) % 4294967296) = byteW b := by
    have h : b.toNat < 256 := UInt8.toNat_lt b
    rw [show ((b.toNat : Int) % 4294967296) = (b.toNat : Int) by omega, BitVec.ofInt_natCast]
    apply BitVec.eq_of_toNat_eq
    unfold byteW
    simp
  rw [ofInt_regI, hb, wrap_u32]

theorem lsb_and (d : BitVec 32) : d &&& 1#32 = if d.getLsbD 0 then 1#32 else 0#32 := by
  apply BitVec.eq_of_toNat_eq
  have h : d.getLsbD 0 = decide (d.toNat % 2 = 1) := by
    rw [BitVec.getLsbD, Nat.testBit_zero]
  rw [BitVec.toNat_and, h, show (1#32).toNat = 1 from rfl, Nat.and_one_is_mod]
  rcases Nat.mod_two_eq_zero_or_one d.toNat with e | e <;> rw [e] <;> rfl
theorem half_regI (d : BitVec 32) : (regI d) / (2 : Int) = regI (d >>> 1) := by
  unfold regI
  rw [BitVec.toNat_ushiftRight, Nat.shiftRight_eq_div_pow]
  omega
theorem and_one (d : BitVec 32) : bits .and .u32 (regI d) 1 = if d.getLsbD 0 then 1 else 0 := by
  show IntKind.u32.wrap ((BitVec.ofInt 32 (regI d) &&& BitVec.ofInt 32 1).toNat : Int) = _
  rw [ofInt_regI, show BitVec.ofInt 32 1 = 1#32 from rfl, lsb_and, wrap_u32]
  split <;> rfl
theorem xor_regI (a b : BitVec 32) : bits .xor .u32 (regI a) (regI b) = regI (a ^^^ b) := by
  show IntKind.u32.wrap ((BitVec.ofInt 32 (regI a) ^^^ BitVec.ofInt 32 (regI b)).toNat : Int) = _
  rw [ofInt_regI, ofInt_regI, wrap_u32]
theorem crcBit_go (d : BitVec 32) : bits .xor .u32 (regI d / 2) (3988292384 * bits .and .u32 (regI d) 1 % 4294967296) = regI (crcBit d) := by
  have h : (3988292384 * bits .and .u32 (regI d) 1 % 4294967296 : Int) = regI (if d.getLsbD 0 then 0xedb88320#32 else 0#32) := by
    rw [and_one]; split <;> rfl
  rw [h, half_regI, xor_regI]
  rfl
theorem not_regI (d : BitVec 32) : bits .xor .u32 4294967295 (regI d) = regI (~~~ d) := by
  rw [show (4294967295 : Int) = regI (BitVec.allOnes 32) from rfl, xor_regI, BitVec.allOnes_xor]

set_option maxRecDepth 100000 in
set_option maxHeartbeats 1000000 in
theorem sum_any (s : ByteArray) (w : World) (hs : (s.size : Int) ≤ 9000000000000000000) :
    Calls Try.prog 15 #[.string s] w fun e w' => e = .returned (.int .u32 (regI (sumL s.data.toList))) ∧ w = w' := by
  go_enter Try.func15, Try.ntmps15
  go_wp2
  go_loop [3, 7] (fun c i => ∃ k : Nat, i = .int .i64 (k : Int) ∧ k ≤ s.size ∧ c = .int .u32 (regI (crcReg (BitVec.allOnes 32) (s.data.toList.take k))))
    (fun _ i => s.size - (intOf i).toNat)
  case atStart => exact ⟨0, rfl, by omega, rfl⟩
  case round =>
    obtain ⟨k, rfl, hk, rfl⟩ := hrel
    by_cases hlt : k < s.size
    · obtain ⟨c, hc⟩ : ∃ c, crcReg (BitVec.allOnes 32) (s.data.toList.take k) = c := ⟨_, rfl⟩
      rw [hc]
      obtain ⟨b1, b2⟩ := regI_bd c
      have HC := Lib.hid hc
      clear hc
      have hx := xor_byte c s[k]
      obtain ⟨c0, hc0⟩ : ∃ c0, c ^^^ byteW s[k] = c0 := ⟨_, rfl⟩
      rw [hc0] at hx
      have HC0 := Lib.hid hc0
      clear hc0
      go_wp2
      go_loop [3, 16] (fun v i => ∃ j : Nat, i = .int .i64 (j : Int) ∧ j ≤ 8 ∧ v = .int .u32 (regI (crcBits j c0))) (fun _ i => 8 - (intOf i).toNat)
      case atStart => exact ⟨0, rfl, by omega, rfl⟩
      case round =>
        obtain ⟨j, rfl, hj, rfl⟩ := hrel
        obtain ⟨d, hd⟩ : ∃ d, crcBits j c0 = d := ⟨_, rfl⟩
        rw [hd]
        obtain ⟨b3, b4⟩ := regI_bd d
        have HD := Lib.hid hd
        clear hd hx
        by_cases hj8 : j < 8
        · go_wp2
          go_round
          case rel => exact ⟨j + 1, by go_num, by omega, by rw [crcBits_succ, HD.out, crcBit_go]⟩
          case measure => simp [intOf]; omega
        · have hj : j = 8 := by omega
          subst hj
          go_wp2
          go_round
          case rel => exact ⟨k + 1, by go_num, by omega, by rw [take_byte hlt, crcReg_snoc, HC.out, HC0.out, HD.out]⟩
          case measure => simp [intOf]; omega
    · have HK := Lib.hid (show s.data.toList.take k = s.data.toList from List.take_of_length_le (by simp; omega))
      go_wp2
      go_ret
      rw [HK.out]
      exact ⟨congrArg (fun x => Ending.returned (Value.int .u32 x)) (not_regI _), rfl⟩
end Go.Proofs.Ytjeeplacolbihab
