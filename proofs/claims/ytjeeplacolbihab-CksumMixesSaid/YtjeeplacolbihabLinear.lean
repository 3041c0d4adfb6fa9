/-
  PLAIN MATHEMATICS of the register: it is linear; no bit is lost; what a turned bit does to it.
-/
import Derived.Test.YtjeeplacolbihabAwakeB
namespace Go.Proofs.Ytjeeplacolbihab

theorem xlc (a b c : BitVec 32) : a ^^^ (b ^^^ c) = b ^^^ (a ^^^ c) := by rw [← BitVec.xor_assoc, BitVec.xor_comm a b, BitVec.xor_assoc]
theorem xor_four (a b p q : BitVec 32) : a ^^^ b ^^^ (p ^^^ q) = a ^^^ p ^^^ (b ^^^ q) := by
  rw [BitVec.xor_assoc, BitVec.xor_assoc, xlc b p q]
theorem crcBit_add (a b : BitVec 32) : crcBit (a ^^^ b) = crcBit a ^^^ crcBit b := by
  unfold crcBit
  rw [BitVec.ushiftRight_xor_distrib, BitVec.getLsbD_xor, ← xor_four]
  congr 1
  cases a.getLsbD 0 <;> cases b.getLsbD 0 <;> decide
theorem crcBit_zero : crcBit 0#32 = 0#32 := rfl
theorem crcBits_add (k : Nat) : ∀ a b, crcBits k (a ^^^ b) = crcBits k a ^^^ crcBits k b := by
  induction k with
  | zero => intro a b; rfl
  | succ k ih => intro a b; rw [crcBits, crcBit_add, ih]; rfl
theorem crcBits_zero (k : Nat) : crcBits k 0#32 = 0#32 := by
  induction k with
  | zero => rfl
  | succ k ih => rw [crcBits, crcBit_zero, ih]
theorem crcBits_more (j k : Nat) : ∀ c, crcBits (j + k) c = crcBits k (crcBits j c) := by
  induction j with
  | zero => intro c; rw [Nat.zero_add]; rfl
  | succ j ih => intro c; rw [Nat.succ_add, crcBits, ih]; rfl

/-- The highest bit tells which way a step went. -/
theorem crcBit_msb (c : BitVec 32) : (crcBit c).getLsbD 31 = c.getLsbD 0 := by
  unfold crcBit
  rw [BitVec.getLsbD_xor, BitVec.getLsbD_ushiftRight]
  have h : c.getLsbD (1 + 31) = false := BitVec.getLsbD_of_ge c 32 (by omega)
  rw [h]
  cases c.getLsbD 0 <;> decide
theorem crcBit_eq_zero {c : BitVec 32} (h : crcBit c = 0#32) : c = 0#32 := by
  have h0 : c.getLsbD 0 = false := by rw [← crcBit_msb, h]; rfl
  unfold crcBit at h
  rw [h0, if_neg (by decide), BitVec.xor_zero] at h
  apply BitVec.eq_of_toNat_eq
  have h1 := congrArg BitVec.toNat h
  rw [BitVec.toNat_ushiftRight, Nat.shiftRight_eq_div_pow] at h1
  have h2 : decide (c.toNat % 2 = 1) = false := by rw [← lsb_toNat]; exact h0
  simp at h1 h2 ⊢
  omega
theorem crcBits_eq_zero (k : Nat) : ∀ {c}, crcBits k c = 0#32 → c = 0#32 := by
  induction k with
  | zero => intro c h; exact h
  | succ k ih => intro c h; exact crcBit_eq_zero (ih h)

theorem crcReg_cons (c : BitVec 32) (b : UInt8) (l : List UInt8) : crcReg c (b :: l) = crcReg (crcBits 8 (c ^^^ byteW b)) l := rfl
theorem crcReg_append (c : BitVec 32) (l m : List UInt8) : crcReg c (l ++ m) = crcReg (crcReg c l) m := by unfold crcReg; rw [List.foldl_append]
/-- What is added to the register goes through all that follows. -/
theorem crcReg_add (l : List UInt8) : ∀ c d, crcReg (c ^^^ d) l = crcReg c l ^^^ crcBits (8 * l.length) d := by
  induction l with
  | nil => intro c d; rfl
  | cons b r ih =>
    intro c d
    rw [crcReg_cons, crcReg_cons, BitVec.xor_assoc, BitVec.xor_comm d, ← BitVec.xor_assoc, crcBits_add, ih]
    rw [List.length_cons, show 8 * (r.length + 1) = 8 + 8 * r.length by omega, crcBits_more]

theorem byteW_xor (a b : UInt8) : byteW (a ^^^ b) = byteW a ^^^ byteW b := by
  unfold byteW
  rw [UInt8.toBitVec_xor, BitVec.setWidth_xor]
theorem bit8 : ∀ q, q < 8 → crcBits 8 (byteW (1 <<< UInt8.ofNat q)) = crcBits (8 - q) 1#32 := by
  intro q hq
  match q, hq with
  | 0, _ => decide
  | 1, _ => decide
  | 2, _ => decide
  | 3, _ => decide
  | 4, _ => decide
  | 5, _ => decide
  | 6, _ => decide
  | 7, _ => decide
/-- A bit is turned: the register behind all bytes differs by what the bit becomes on its way. -/
theorem turned {b : List UInt8} {i q : Nat} (hi : i < b.length) (hq : q < 8) (c : BitVec 32) :
    crcReg c (b.set i (b[i] ^^^ (1 <<< UInt8.ofNat q))) = crcReg c b ^^^ crcBits (8 * (b.length - i) - q) 1#32 := by
  have h1 : b = b.take i ++ b[i] :: b.drop (i + 1) := by rw [← List.drop_eq_getElem_cons hi, List.take_append_drop]
  have h2 : b.set i (b[i] ^^^ (1 <<< UInt8.ofNat q)) = b.take i ++ (b[i] ^^^ (1 <<< UInt8.ofNat q)) :: b.drop (i + 1) := by
    rw [List.set_eq_take_append_cons_drop, if_pos hi]
  rw [h2]
  conv => rhs; rw [h1]
  rw [crcReg_append, crcReg_append, crcReg_cons, crcReg_cons, byteW_xor, ← BitVec.xor_assoc, crcBits_add, crcReg_add, bit8 q hq]
  congr 1
  rw [List.length_drop]
  have e : 8 * ((b.take i ++ b[i] :: b.drop (i + 1)).length - i) - q = (8 - q) + 8 * (b.length - (i + 1)) := by
    rw [← h1]; omega
  rw [e, crcBits_more]

theorem crcBits_shift (k : Nat) : ∀ (y : BitVec 32), y.toNat % 2 ^ k = 0 → crcBits k y = y >>> k := by
  induction k with
  | zero => intro y _; rw [BitVec.ushiftRight_zero]; rfl
  | succ k ih =>
    intro y h
    rw [Nat.pow_succ] at h
    have h2 : y.toNat % 2 = 0 := by
      have := Nat.mod_mul_left_mod y.toNat (2 ^ k) 2
      rw [h] at this
      simpa using this.symm
    have h0 : y.getLsbD 0 = false := by rw [lsb_toNat, h2]; rfl
    have hb : crcBit y = y >>> 1 := by unfold crcBit; rw [h0, if_neg (by decide), BitVec.xor_zero]
    rw [crcBits, hb, ih, ← BitVec.shiftRight_add, Nat.add_comm]
    rw [BitVec.toNat_ushiftRight, Nat.shiftRight_eq_div_pow, Nat.pow_one]
    have h3 : y.toNat = 2 ^ k * 2 * (y.toNat / (2 ^ k * 2)) := by
      have := Nat.div_add_mod y.toNat (2 ^ k * 2); omega
    rw [h3, Nat.mul_comm (2 ^ k) 2, Nat.mul_assoc, Nat.mul_div_cancel_left _ (by decide), Nat.mul_mod_right]

/-- A byte of a word goes in; what is left of the word is still to come. -/
theorem word_step (r t : BitVec 32) : crcBits 8 (r ^^^ t) = crcBits 8 (r ^^^ byteW (UInt8.ofNat (t.toNat % 256))) ^^^ (t >>> 8) := by
  have hT : (byteW (UInt8.ofNat (t.toNat % 256))).toNat = t.toNat % 256 := by unfold byteW; simp; omega
  have hs : (t ^^^ byteW (UInt8.ofNat (t.toNat % 256))) >>> 8 = t >>> 8 := by rw [BitVec.ushiftRight_xor_distrib, shift8, BitVec.xor_zero]
  have hm : (t ^^^ byteW (UInt8.ofNat (t.toNat % 256))).toNat % 2 ^ 8 = 0 := by
    rw [BitVec.toNat_xor, hT, Nat.xor_mod_two_pow, show (2 : Nat) ^ 8 = 256 from rfl, Nat.mod_mod, Nat.xor_self]
  have he : r ^^^ t = (r ^^^ byteW (UInt8.ofNat (t.toNat % 256))) ^^^ (t ^^^ byteW (UInt8.ofNat (t.toNat % 256))) := by
    rw [BitVec.xor_assoc, BitVec.xor_comm t, ← BitVec.xor_assoc (byteW _), BitVec.xor_self, BitVec.zero_xor]
  rw [he, crcBits_add, crcBits_shift 8 _ hm, hs]
theorem four_reg (r t : BitVec 32) : crcReg r (fourL t) = crcBits 32 (r ^^^ t) := by
  have h1 : (t >>> 8).toNat = t.toNat / 256 := by rw [BitVec.toNat_ushiftRight, Nat.shiftRight_eq_div_pow]
  have h2 : (t >>> 16).toNat = t.toNat / 65536 := by rw [BitVec.toNat_ushiftRight, Nat.shiftRight_eq_div_pow]
  have h3 : (t >>> 24).toNat = t.toNat / 16777216 := by rw [BitVec.toNat_ushiftRight, Nat.shiftRight_eq_div_pow]
  have h4 : t >>> 24 >>> 8 = 0#32 := by
    apply BitVec.eq_of_toNat_eq
    rw [BitVec.toNat_ushiftRight, h3, Nat.shiftRight_eq_div_pow]
    have := t.isLt
    show t.toNat / 16777216 / 256 = 0
    omega
  have e32 : ∀ c, crcBits 32 c = crcBits 8 (crcBits 8 (crcBits 8 (crcBits 8 c))) := fun c => rfl
  rw [e32, word_step, word_step, word_step, word_step]
  rw [← BitVec.shiftRight_add, ← BitVec.shiftRight_add, h1, h2, h3, h4, BitVec.xor_zero]
  have h5 : t.toNat / 16777216 % 256 = t.toNat / 16777216 := by have := t.isLt; omega
  rw [h5]
  rfl
/-- Bytes with their sum behind them come to one and the same register. -/
theorem codeword (m : List UInt8) : crcReg (BitVec.allOnes 32) (m ++ fourL (sumL m)) = crcBits 32 (BitVec.allOnes 32) := by
  rw [crcReg_append, four_reg]
  unfold sumL
  congr 1
  generalize crcReg (BitVec.allOnes 32) m = r
  rw [← BitVec.allOnes_xor, BitVec.xor_comm (BitVec.allOnes 32) r, ← BitVec.xor_assoc, BitVec.xor_self, BitVec.zero_xor]
end Go.Proofs.Ytjeeplacolbihab
