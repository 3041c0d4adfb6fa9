/-
  THE SUMS (Sum, RefSum, Linear in one text): contracts of cksum.Sum and the document's; the register is linear, no bit of it is lost.
-/
import Derived.Test.YtjjadappjapjhaaDlA
namespace Go.Proofs.Ytjjadappjapjhaa
open Go.RowKit

/-- One bit's step of the register. -/
def crcBit (c : BitVec 32) : BitVec 32 := (c >>> 1) ^^^ (if c.getLsbD 0 then 0xedb88320#32 else 0#32)
/-- k bits' steps. -/
def crcBits : Nat → BitVec 32 → BitVec 32
  | 0, c => c
  | k + 1, c => crcBits k (crcBit c)
theorem crcBits_succ (k : Nat) : ∀ c, crcBits (k + 1) c = crcBit (crcBits k c) := by
  induction k with
  | zero => intro c; rfl
  | succ k ih => intro c; rw [crcBits, ih]; rfl
/-- A byte as a register. -/
def byteW (b : UInt8) : BitVec 32 := b.toBitVec.setWidth 32
def crcByte (c : BitVec 32) (b : UInt8) : BitVec 32 := crcBits 8 (c ^^^ byteW b)
def crcReg (c : BitVec 32) (l : List UInt8) : BitVec 32 := l.foldl crcByte c
def sumL (l : List UInt8) : BitVec 32 := ~~~ crcReg (BitVec.allOnes 32) l
/-- The register as a number. -/
def regI (c : BitVec 32) : Int := (c.toNat : Int)
theorem regI_bd (c : BitVec 32) : 0 ≤ regI c ∧ regI c ≤ 4294967295 := by have := c.isLt; unfold regI; omega

theorem take_byte {s : ByteArray} {k : Nat} (h : k < s.size) : s.data.toList.take (k + 1) = s.data.toList.take k ++ [s[k]] := by
  rw [List.take_succ_eq_append_getElem (by simpa using h)]; rfl
theorem crcReg_snoc (c : BitVec 32) (l : List UInt8) (b : UInt8) : crcReg c (l ++ [b]) = crcBits 8 (crcReg c l ^^^ byteW b) := by
  unfold crcReg; rw [List.foldl_append]; rfl

theorem ofInt_regI (c : BitVec 32) : BitVec.ofInt 32 (regI c) = c := by
  unfold regI; rw [BitVec.ofInt_natCast]; simp
theorem wrap_u32 (x : BitVec 32) : IntKind.u32.wrap (x.toNat : Int) = regI x := by
  have := x.isLt
  unfold regI
  simp only [IntKind.wrap, IntKind.bits, IntKind.signed]
  simp
  omega
theorem xor_byte (c : BitVec 32) (b : UInt8) : bits .xor .u32 (regI c) ((b.toNat : Int) % 4294967296) = regI (c ^^^ byteW b) := by
  show IntKind.u32.wrap ((BitVec.ofInt 32 (regI c) ^^^ BitVec.ofInt 32 ((b.toNat : Int) % 4294967296)).toNat : Int) = _
  have hb : BitVec.ofInt 32 ((b.toNat : Int) % 4294967296) = byteW b := by
    have h : b.toNat < 256 := UInt8.toNat_lt b
    rw [show ((b.toNat : Int) % 4294967296) = (b.toNat : Int) by omega, BitVec.ofInt_natCast]
    apply BitVec.eq_of_toNat_eq
    unfold byteW
    simp
  rw [ofInt_regI, hb, wrap_u32]

theorem lsb_and (d : BitVec 32) : d &&& 1#32 = if d.getLsbD 0 then 1#32 else 0#32 := by
  apply BitVec.eq_of_toNat_eq
  have h : d.getLsbD 0 = decide (d.toNat % 2 = 1) := by
    rw [BitVec.getLsbD, Nat.testBit_zero]
  rw [BitVec.toNat_and, h, show (1#32).toNat = 1 from rfl, Nat.and_one_is_mod]
  rcases Nat.mod_two_eq_zero_or_one d.toNat with e | e <;> rw [e] <;> rfl
theorem half_regI (d : BitVec 32) : (regI d) / (2 : Int) = regI (d >>> 1) := by
  unfold regI
  rw [BitVec.toNat_ushiftRight, Nat.shiftRight_eq_div_pow]
  omega
theorem and_one (d : BitVec 32) : bits .and .u32 (regI d) 1 = if d.getLsbD 0 then 1 else 0 := by
  show IntKind.u32.wrap ((BitVec.ofInt 32 (regI d) &&& BitVec.ofInt 32 1).toNat : Int) = _
  rw [ofInt_regI, show BitVec.ofInt 32 1 = 1#32 from rfl, lsb_and, wrap_u32]
  split <;> rfl
theorem xor_regI (a b : BitVec 32) : bits .xor .u32 (regI a) (regI b) = regI (a ^^^ b) := by
  show IntKind.u32.wrap ((BitVec.ofInt 32 (regI a) ^^^ BitVec.ofInt 32 (regI b)).toNat : Int) = _
  rw [ofInt_regI, ofInt_regI, wrap_u32]
theorem crcBit_go (d : BitVec 32) : bits .xor .u32 (regI d / 2) (3988292384 * bits .and .u32 (regI d) 1 % 4294967296) = regI (crcBit d) := by
  have h : (3988292384 * bits .and .u32 (regI d) 1 % 4294967296 : Int) = regI (if d.getLsbD 0 then 0xedb88320#32 else 0#32) := by
    rw [and_one]; split <;> rfl
  rw [h, half_regI, xor_regI]
  rfl
theorem not_regI (d : BitVec 32) : bits .xor .u32 4294967295 (regI d) = regI (~~~ d) := by
  rw [show (4294967295 : Int) = regI (BitVec.allOnes 32) from rfl, xor_regI, BitVec.allOnes_xor]

set_option maxRecDepth 100000 in
set_option maxHeartbeats 1000000 in
theorem sum_any (s : ByteArray) (w : World) (hs : (s.size : Int) ≤ 9000000000000000000) :
    Calls Try.prog 35 #[.string s] w fun e w' => e = .returned (.int .u32 (regI (sumL s.data.toList))) ∧ w = w' := by
  go_enter Try.func35, Try.ntmps35
  go_wp2
  go_loop [3, 7] (fun c i => ∃ k : Nat, i = .int .i64 (k : Int) ∧ k ≤ s.size ∧ c = .int .u32 (regI (crcReg (BitVec.allOnes 32) (s.data.toList.take k))))
    (fun _ i => s.size - (intOf i).toNat)
  case atStart => exact ⟨0, rfl, by omega, rfl⟩
  case round =>
    obtain ⟨k, rfl, hk, rfl⟩ := hrel
    by_cases hlt : k < s.size
    · obtain ⟨c, hc⟩ : ∃ c, crcReg (BitVec.allOnes 32) (s.data.toList.take k) = c := ⟨_, rfl⟩
      rw [hc]
      obtain ⟨b1, b2⟩ := regI_bd c
      have HC := Lib.hid hc
      clear hc
      have hx := xor_byte c s[k]
      obtain ⟨c0, hc0⟩ : ∃ c0, c ^^^ byteW s[k] = c0 := ⟨_, rfl⟩
      rw [hc0] at hx
      have HC0 := Lib.hid hc0
      clear hc0
      go_wp2
      go_loop [3, 16] (fun v i => ∃ j : Nat, i = .int .i64 (j : Int) ∧ j ≤ 8 ∧ v = .int .u32 (regI (crcBits j c0))) (fun _ i => 8 - (intOf i).toNat)
      case atStart => exact ⟨0, rfl, by omega, rfl⟩
      case round =>
        obtain ⟨j, rfl, hj, rfl⟩ := hrel
        obtain ⟨d, hd⟩ : ∃ d, crcBits j c0 = d := ⟨_, rfl⟩
        rw [hd]
        obtain ⟨b3, b4⟩ := regI_bd d
        have HD := Lib.hid hd
        clear hd hx
        by_cases hj8 : j < 8
        · go_wp2
          go_round
          case rel => exact ⟨j + 1, by go_num, by omega, by rw [crcBits_succ, HD.out, crcBit_go]⟩
          case measure => simp [intOf]; omega
        · have hj : j = 8 := by omega
          subst hj
          go_wp2
          go_round
          case rel => exact ⟨k + 1, by go_num, by omega, by rw [take_byte hlt, crcReg_snoc, HC.out, HC0.out, HD.out]⟩
          case measure => simp [intOf]; omega
    · have HK := Lib.hid (show s.data.toList.take k = s.data.toList from List.take_of_length_le (by simp; omega))
      go_wp2
      go_ret
      rw [HK.out]
      exact ⟨congrArg (fun x => Ending.returned (Value.int .u32 x)) (not_regI _), rfl⟩


theorem lsb_toNat (d : BitVec 32) : d.getLsbD 0 = decide (d.toNat % 2 = 1) := by rw [BitVec.getLsbD, Nat.testBit_zero]
theorem crcBit_xor (r m : BitVec 32) : crcBit (r ^^^ m) = ((r >>> 1) ^^^ (if r.getLsbD 0 != m.getLsbD 0 then 0xedb88320#32 else 0#32)) ^^^ (m >>> 1) := by
  unfold crcBit
  rw [BitVec.ushiftRight_xor_distrib, BitVec.getLsbD_xor, BitVec.xor_assoc, BitVec.xor_assoc, BitVec.xor_comm (m >>> 1)]
theorem lsb_shift (b : UInt8) (j : Nat) : (byteW b >>> j).toNat = b.toNat / 2 ^ j := by
  rw [BitVec.toNat_ushiftRight, Nat.shiftRight_eq_div_pow]
  unfold byteW
  have : b.toNat < 256 := UInt8.toNat_lt b
  simp
theorem cast_bit (b : UInt8) (j : Nat) : ((b.toNat : Int) / 2 ^ j % 2) = ((b.toNat / 2 ^ j % 2 : Nat) : Int) := by simp
theorem step_ne {r : BitVec 32} {b : UInt8} {j : Nat} (h : (regI r % 2 != (b.toNat : Int) / 2 ^ j % 2) = true) :
    crcBit (r ^^^ (byteW b >>> j)) = ((r >>> 1) ^^^ 0xedb88320#32) ^^^ (byteW b >>> (j + 1)) := by
  rw [cast_bit] at h
  have hd : (r.getLsbD 0 != (byteW b >>> j).getLsbD 0) = true := by
    rw [lsb_toNat, lsb_toNat, lsb_shift]
    unfold regI at h
    generalize b.toNat / 2 ^ j = y at *
    simp at h ⊢
    omega
  rw [crcBit_xor, hd, if_pos rfl, BitVec.shiftRight_add]
theorem step_eq {r : BitVec 32} {b : UInt8} {j : Nat} (h : (regI r % 2 != (b.toNat : Int) / 2 ^ j % 2) = false) :
    crcBit (r ^^^ (byteW b >>> j)) = (r >>> 1) ^^^ (byteW b >>> (j + 1)) := by
  rw [cast_bit] at h
  have hd : (r.getLsbD 0 != (byteW b >>> j).getLsbD 0) = false := by
    rw [lsb_toNat, lsb_toNat, lsb_shift]
    unfold regI at h
    generalize b.toNat / 2 ^ j = y at *
    simp at h ⊢
    omega
  rw [crcBit_xor, hd, if_neg (by decide), BitVec.shiftRight_add, BitVec.xor_zero]
theorem shift8 (b : UInt8) : byteW b >>> 8 = 0#32 := by
  apply BitVec.eq_of_toNat_eq
  rw [lsb_shift]
  have : b.toNat < 256 := UInt8.toNat_lt b
  show b.toNat / 256 = 0
  omega
theorem not_sub (c : BitVec 32) : (4294967295 - regI c) % 4294967296 = regI (~~~ c) := by
  have := c.isLt
  unfold regI
  rw [BitVec.toNat_not]
  omega

set_option maxRecDepth 100000 in
set_option maxHeartbeats 1000000 in
theorem refSum_any (s : ByteArray) (w : World) (hs : (s.size : Int) ≤ 9000000000000000000) :
    Calls Try.prog 36 #[.string s] w fun e w' => e = .returned (.int .u32 (regI (sumL s.data.toList))) ∧ w = w' := by
  go_enter Try.func36, Try.ntmps36
  go_wp2
  go_loop [3, 4] (fun c i => ∃ k : Nat, i = .int .i64 (k : Int) ∧ k ≤ s.size ∧ c = .int .u32 (regI (crcReg (BitVec.allOnes 32) (s.data.toList.take k))))
    (fun _ i => s.size - (intOf i).toNat)
  case atStart => exact ⟨0, rfl, by omega, rfl⟩
  case round =>
    obtain ⟨k, rfl, hk, rfl⟩ := hrel
    by_cases hlt : k < s.size
    · obtain ⟨c, hc⟩ : ∃ c, crcReg (BitVec.allOnes 32) (s.data.toList.take k) = c := ⟨_, rfl⟩
      rw [hc]
      have HC := Lib.hid hc
      clear hc
      go_wp2
      go_loop [3, 5] (fun v i => ∃ (j : Nat) (r : BitVec 32), i = .int .i64 (j : Int) ∧ j ≤ 8 ∧ v = .int .u32 (regI r) ∧ r ^^^ (byteW s[k] >>> j) = crcBits j (c ^^^ byteW s[k])) (fun _ i => 8 - (intOf i).toNat)
      case atStart => exact ⟨0, c, rfl, by omega, rfl, by simp [crcBits]⟩
      case round =>
        obtain ⟨j, r, rfl, hj, rfl, hr⟩ := hrel
        obtain ⟨b3, b4⟩ := regI_bd r
        have HR := Lib.hid hr
        clear hr
        by_cases hj8 : j < 8
        · go_wp2
          · have ht : (regI r % 2 != (s[k].toNat : Int) / 2 ^ j % 2) = true := by assumption
            have hst := step_ne ht
            go_round
            case rel => exact ⟨j + 1, _, by go_num, by omega, by rw [half_regI, show (3988292384 : Int) = regI 0xedb88320#32 from rfl, xor_regI], by rw [← hst, crcBits_succ, HR.out]⟩
            case measure => simp [intOf]; omega
          · have ht : (regI r % 2 != (s[k].toNat : Int) / 2 ^ j % 2) = false := by assumption
            have hst := step_eq ht
            go_round
            case rel => exact ⟨j + 1, _, by go_num, by omega, by rw [half_regI], by rw [← hst, crcBits_succ, HR.out]⟩
            case measure => simp [intOf]; omega
        · have hj : j = 8 := by omega
          subst hj
          go_wp2
          go_round
          case rel => exact ⟨k + 1, by go_num, by omega, by rw [take_byte hlt, crcReg_snoc, HC.out, ← HR.out, shift8, BitVec.xor_zero]⟩
          case measure => simp [intOf]; omega
    · have HK := Lib.hid (show s.data.toList.take k = s.data.toList from List.take_of_length_le (by simp; omega))
      obtain ⟨b1, b2⟩ := regI_bd (crcReg (BitVec.allOnes 32) (s.data.toList.take k))
      go_wp2
      go_ret
      rw [HK.out]
      exact ⟨congrArg (fun x => Ending.returned (Value.int .u32 x)) (not_sub _), rfl⟩

/-- A sum in bytes. -/
def fourL (c : BitVec 32) : List UInt8 := [UInt8.ofNat (c.toNat % 256), UInt8.ofNat (c.toNat / 256 % 256), UInt8.ofNat (c.toNat / 65536 % 256), UInt8.ofNat (c.toNat / 16777216)]


theorem xlc (a b c : BitVec 32) : a ^^^ (b ^^^ c) = b ^^^ (a ^^^ c) := by rw [← BitVec.xor_assoc, BitVec.xor_comm a b, BitVec.xor_assoc]
theorem xor_four (a b p q : BitVec 32) : a ^^^ b ^^^ (p ^^^ q) = a ^^^ p ^^^ (b ^^^ q) := by
  rw [BitVec.xor_assoc, BitVec.xor_assoc, xlc b p q]
theorem crcBit_add (a b : BitVec 32) : crcBit (a ^^^ b) = crcBit a ^^^ crcBit b := by
  unfold crcBit
  rw [BitVec.ushiftRight_xor_distrib, BitVec.getLsbD_xor, ← xor_four]
  congr 1
  cases a.getLsbD 0 <;> cases b.getLsbD 0 <;> decide
theorem crcBit_zero : crcBit 0#32 = 0#32 := rfl
theorem crcBits_add (k : Nat) : ∀ a b, crcBits k (a ^^^ b) = crcBits k a ^^^ crcBits k b := by
  induction k with
  | zero => intro a b; rfl
  | succ k ih => intro a b; rw [crcBits, crcBit_add, ih]; rfl
theorem crcBits_zero (k : Nat) : crcBits k 0#32 = 0#32 := by
  induction k with
  | zero => rfl
  | succ k ih => rw [crcBits, crcBit_zero, ih]
theorem crcBits_more (j k : Nat) : ∀ c, crcBits (j + k) c = crcBits k (crcBits j c) := by
  induction j with
  | zero => intro c; rw [Nat.zero_add]; rfl
  | succ j ih => intro c; rw [Nat.succ_add, crcBits, ih]; rfl

/-- The highest bit tells which way a step went. -/
theorem crcBit_msb (c : BitVec 32) : (crcBit c).getLsbD 31 = c.getLsbD 0 := by
  unfold crcBit
  rw [BitVec.getLsbD_xor, BitVec.getLsbD_ushiftRight]
  have h : c.getLsbD (1 + 31) = false := BitVec.getLsbD_of_ge c 32 (by omega)
  rw [h]
  cases c.getLsbD 0 <;> decide
theorem crcBit_eq_zero {c : BitVec 32} (h : crcBit c = 0#32) : c = 0#32 := by
  have h0 : c.getLsbD 0 = false := by rw [← crcBit_msb, h]; rfl
  unfold crcBit at h
  rw [h0, if_neg (by decide), BitVec.xor_zero] at h
  apply BitVec.eq_of_toNat_eq
  have h1 := congrArg BitVec.toNat h
  rw [BitVec.toNat_ushiftRight, Nat.shiftRight_eq_div_pow] at h1
  have h2 : decide (c.toNat % 2 = 1) = false := by rw [← lsb_toNat]; exact h0
  simp at h1 h2 ⊢
  omega
theorem crcBits_eq_zero (k : Nat) : ∀ {c}, crcBits k c = 0#32 → c = 0#32 := by
  induction k with
  | zero => intro c h; exact h
  | succ k ih => intro c h; exact crcBit_eq_zero (ih h)

theorem crcReg_cons (c : BitVec 32) (b : UInt8) (l : List UInt8) : crcReg c (b :: l) = crcReg (crcBits 8 (c ^^^ byteW b)) l := rfl
theorem crcReg_append (c : BitVec 32) (l m : List UInt8) : crcReg c (l ++ m) = crcReg (crcReg c l) m := by unfold crcReg; rw [List.foldl_append]
/-- What is added to the register goes through all that follows. -/
theorem crcReg_add (l : List UInt8) : ∀ c d, crcReg (c ^^^ d) l = crcReg c l ^^^ crcBits (8 * l.length) d := by
  induction l with
  | nil => intro c d; rfl
  | cons b r ih =>
    intro c d
    rw [crcReg_cons, crcReg_cons, BitVec.xor_assoc, BitVec.xor_comm d, ← BitVec.xor_assoc, crcBits_add, ih]
    rw [List.length_cons, show 8 * (r.length + 1) = 8 + 8 * r.length by omega, crcBits_more]

theorem byteW_xor (a b : UInt8) : byteW (a ^^^ b) = byteW a ^^^ byteW b := by
  unfold byteW
  rw [UInt8.toBitVec_xor, BitVec.setWidth_xor]
theorem bit8 : ∀ q, q < 8 → crcBits 8 (byteW (1 <<< UInt8.ofNat q)) = crcBits (8 - q) 1#32 := by
  intro q hq
  match q, hq with
  | 0, _ => decide
  | 1, _ => decide
  | 2, _ => decide
  | 3, _ => decide
  | 4, _ => decide
  | 5, _ => decide
  | 6, _ => decide
  | 7, _ => decide
/-- A bit is turned: the register behind all bytes differs by what the bit becomes on its way. -/
theorem turned {b : List UInt8} {i q : Nat} (hi : i < b.length) (hq : q < 8) (c : BitVec 32) :
    crcReg c (b.set i (b[i] ^^^ (1 <<< UInt8.ofNat q))) = crcReg c b ^^^ crcBits (8 * (b.length - i) - q) 1#32 := by
  have h1 : b = b.take i ++ b[i] :: b.drop (i + 1) := by rw [← List.drop_eq_getElem_cons hi, List.take_append_drop]
  have h2 : b.set i (b[i] ^^^ (1 <<< UInt8.ofNat q)) = b.take i ++ (b[i] ^^^ (1 <<< UInt8.ofNat q)) :: b.drop (i + 1) := by
    rw [List.set_eq_take_append_cons_drop, if_pos hi]
  rw [h2]
  conv => rhs; rw [h1]
  rw [crcReg_append, crcReg_append, crcReg_cons, crcReg_cons, byteW_xor, ← BitVec.xor_assoc, crcBits_add, crcReg_add, bit8 q hq]
  congr 1
  rw [List.length_drop]
  have e : 8 * ((b.take i ++ b[i] :: b.drop (i + 1)).length - i) - q = (8 - q) + 8 * (b.length - (i + 1)) := by
    rw [← h1]; omega
  rw [e, crcBits_more]

theorem crcBits_shift (k : Nat) : ∀ (y : BitVec 32), y.toNat % 2 ^ k = 0 → crcBits k y = y >>> k := by
  induction k with
  | zero => intro y _; rw [BitVec.ushiftRight_zero]; rfl
  | succ k ih =>
    intro y h
    rw [Nat.pow_succ] at h
    have h2 : y.toNat % 2 = 0 := by
      have := Nat.mod_mul_left_mod y.toNat (2 ^ k) 2
      rw [h] at this
      simpa using this.symm
    have h0 : y.getLsbD 0 = false := by rw [lsb_toNat, h2]; rfl
    have hb : crcBit y = y >>> 1 := by unfold crcBit; rw [h0, if_neg (by decide), BitVec.xor_zero]
    rw [crcBits, hb, ih, ← BitVec.shiftRight_add, Nat.add_comm]
    rw [BitVec.toNat_ushiftRight, Nat.shiftRight_eq_div_pow, Nat.pow_one]
    have h3 : y.toNat = 2 ^ k * 2 * (y.toNat / (2 ^ k * 2)) := by
      have := Nat.div_add_mod y.toNat (2 ^ k * 2); omega
    rw [h3, Nat.mul_comm (2 ^ k) 2, Nat.mul_assoc, Nat.mul_div_cancel_left _ (by decide), Nat.mul_mod_right]

/-- A byte of a word goes in; what is left of the word is still to come. -/
theorem word_step (r t : BitVec 32) : crcBits 8 (r ^^^ t) = crcBits 8 (r ^^^ byteW (UInt8.ofNat (t.toNat % 256))) ^^^ (t >>> 8) := by
  have hT : (byteW (UInt8.ofNat (t.toNat % 256))).toNat = t.toNat % 256 := by unfold byteW; simp; omega
  have hs : (t ^^^ byteW (UInt8.ofNat (t.toNat % 256))) >>> 8 = t >>> 8 := by rw [BitVec.ushiftRight_xor_distrib, shift8, BitVec.xor_zero]
  have hm : (t ^^^ byteW (UInt8.ofNat (t.toNat % 256))).toNat % 2 ^ 8 = 0 := by
    rw [BitVec.toNat_xor, hT, Nat.xor_mod_two_pow, show (2 : Nat) ^ 8 = 256 from rfl, Nat.mod_mod, Nat.xor_self]
  have he : r ^^^ t = (r ^^^ byteW (UInt8.ofNat (t.toNat % 256))) ^^^ (t ^^^ byteW (UInt8.ofNat (t.toNat % 256))) := by
    rw [BitVec.xor_assoc, BitVec.xor_comm t, ← BitVec.xor_assoc (byteW _), BitVec.xor_self, BitVec.zero_xor]
  rw [he, crcBits_add, crcBits_shift 8 _ hm, hs]
theorem four_reg (r t : BitVec 32) : crcReg r (fourL t) = crcBits 32 (r ^^^ t) := by
  have h1 : (t >>> 8).toNat = t.toNat / 256 := by rw [BitVec.toNat_ushiftRight, Nat.shiftRight_eq_div_pow]
  have h2 : (t >>> 16).toNat = t.toNat / 65536 := by rw [BitVec.toNat_ushiftRight, Nat.shiftRight_eq_div_pow]
  have h3 : (t >>> 24).toNat = t.toNat / 16777216 := by rw [BitVec.toNat_ushiftRight, Nat.shiftRight_eq_div_pow]
  have h4 : t >>> 24 >>> 8 = 0#32 := by
    apply BitVec.eq_of_toNat_eq
    rw [BitVec.toNat_ushiftRight, h3, Nat.shiftRight_eq_div_pow]
    have := t.isLt
    show t.toNat / 16777216 / 256 = 0
    omega
  have e32 : ∀ c, crcBits 32 c = crcBits 8 (crcBits 8 (crcBits 8 (crcBits 8 c))) := fun c => rfl
  rw [e32, word_step, word_step, word_step, word_step]
  rw [← BitVec.shiftRight_add, ← BitVec.shiftRight_add, h1, h2, h3, h4, BitVec.xor_zero]
  have h5 : t.toNat / 16777216 % 256 = t.toNat / 16777216 := by have := t.isLt; omega
  rw [h5]
  rfl
end Go.Proofs.Ytjjadappjapjhaa
