/-
  PLAIN MATHEMATICS of trees of sums: the bytes of numbers, what a leaf and a node have; where four bytes side by side differ the sums differ.
-/
import Derived.Test.YtjjadappjapjhaaMkS
namespace Go.Proofs.Ytjjadappjapjhaa

def byI (x : Int) : UInt8 := UInt8.ofNat (x % 256).toNat
theorem byte_ofM {x : Nat} (h : x < 256) : ((UInt8.ofNat x).toNat : Int) = (x : Int) := by simp; omega
theorem byI_int (x : Int) : ((byI x).toNat : Int) = x % 256 := by
  unfold byI
  have h1 := Int.emod_nonneg x (show (256 : Int) ≠ 0 by decide)
  have h2 := Int.emod_lt_of_pos x (show (0 : Int) < 256 by decide)
  rw [byte_ofM (by omega)]
  omega
/-- The four bytes of a number, the highest first. -/
def be4 (x : Int) : List UInt8 := [byI (x / 16777216), byI (x / 65536), byI (x / 256), byI x]
def be8 (v : Int) : List UInt8 := be4 (v / 4294967296) ++ be4 v
theorem be4_len (x : Int) : (be4 x).length = 4 := rfl
theorem be8_len (x : Int) : (be8 x).length = 8 := rfl
def numV (v : Int) : BitVec 32 := sumL (1 :: be8 v)
/-- The number of a leaf. -/
def numO : Option Int → BitVec 32
  | none => 0#32
  | some v => numV v
/-- The number of a node over children. -/
def overN (l : List (BitVec 32)) : BitVec 32 := sumL (l.flatMap fun x => be4 (regI x))
def kidsF (f : Nat → BitVec 32) (i : Nat) : List (BitVec 32) := (List.range 16).map fun j => f (i * 16 + j)
def upN (f : Nat → BitVec 32) (i : Nat) : BitVec 32 := overN (kidsF f i)
/-- All numbers, from the leaves on. -/
def lvN (C : Nat → Option Int) : Nat → Nat → BitVec 32
  | 0, k => numO (C k)
  | n + 1, i => upN (lvN C n) i

/-- A word of four bytes. -/
def word4 (a b c d : UInt8) : BitVec 32 := BitVec.ofNat 32 (a.toNat + 256 * b.toNat + 65536 * c.toNat + 16777216 * d.toNat)
theorem word4_toNat (a b c d : UInt8) : (word4 a b c d).toNat = a.toNat + 256 * b.toNat + 65536 * c.toNat + 16777216 * d.toNat := by
  have := UInt8.toNat_lt a; have := UInt8.toNat_lt b; have := UInt8.toNat_lt c; have := UInt8.toNat_lt d
  unfold word4
  rw [BitVec.toNat_ofNat, Nat.mod_eq_of_lt (by omega)]
theorem fourL_word (a b c d : UInt8) : fourL (word4 a b c d) = [a, b, c, d] := by
  have ha := UInt8.toNat_lt a; have hb := UInt8.toNat_lt b; have hc := UInt8.toNat_lt c; have hd := UInt8.toNat_lt d
  unfold fourL
  rw [word4_toNat]
  have e1 : (a.toNat + 256 * b.toNat + 65536 * c.toNat + 16777216 * d.toNat) % 256 = a.toNat := by omega
  have e2 : (a.toNat + 256 * b.toNat + 65536 * c.toNat + 16777216 * d.toNat) / 256 % 256 = b.toNat := by omega
  have e3 : (a.toNat + 256 * b.toNat + 65536 * c.toNat + 16777216 * d.toNat) / 65536 % 256 = c.toNat := by omega
  have e4 : (a.toNat + 256 * b.toNat + 65536 * c.toNat + 16777216 * d.toNat) / 16777216 = d.toNat := by omega
  rw [e1, e2, e3, e4]
  simp
theorem four_all {w : List UInt8} (h : w.length = 4) : ∃ t, fourL t = w := by
  match w, h with
  | [a, b, c, d], _ => exact ⟨word4 a b c d, fourL_word a b c d⟩
/-- Where four bytes side by side differ, the sums do. -/
theorem sum_apart {p s a b : List UInt8} (ha : a.length = 4) (hb : b.length = 4) (h : sumL (p ++ a ++ s) = sumL (p ++ b ++ s)) : a = b := by
  obtain ⟨x, rfl⟩ := four_all ha
  obtain ⟨y, rfl⟩ := four_all hb
  unfold sumL at h
  rw [crcReg_append, crcReg_append, crcReg_append, crcReg_append, four_reg, four_reg] at h
  generalize crcReg (BitVec.allOnes 32) p = r at h
  have h1 : crcReg (crcBits 32 (r ^^^ x)) s = crcReg (crcBits 32 (r ^^^ y)) s := by
    have := congrArg (fun z => ~~~ z) h
    simpa using this
  have h2 : crcBits 32 (r ^^^ y) = crcBits 32 (r ^^^ x) ^^^ crcBits 32 (x ^^^ y) := by
    rw [← crcBits_add]
    congr 1
    rw [BitVec.xor_assoc, ← BitVec.xor_assoc x x y, BitVec.xor_self, BitVec.zero_xor]
  rw [h2, crcReg_add] at h1
  have h3 : crcBits (8 * s.length) (crcBits 32 (x ^^^ y)) = 0#32 := by
    have := congrArg (fun z => crcReg (crcBits 32 (r ^^^ x)) s ^^^ z) h1
    simpa [← BitVec.xor_assoc] using this.symm
  have h4 := crcBits_eq_zero _ (crcBits_eq_zero _ h3)
  have h5 : x = y := by
    have := congrArg (fun z => z ^^^ y) h4
    simpa [BitVec.xor_assoc] using this
  rw [h5]
theorem byI_inj {x y : Int} (h : byI x = byI y) : x % 256 = y % 256 := by rw [← byI_int, ← byI_int, h]
theorem be4_inj {x y : Int} (h : be4 x = be4 y) : x % 4294967296 = y % 4294967296 := by
  unfold be4 at h
  injection h with h1 h
  injection h with h2 h
  injection h with h3 h
  injection h with h4 _
  have e1 := byI_inj h1; have e2 := byI_inj h2; have e3 := byI_inj h3; have e4 := byI_inj h4
  omega
theorem regI_inj {a b : BitVec 32} (h : regI a = regI b) : a = b := by
  unfold regI at h
  exact BitVec.eq_of_toNat_eq (by omega)
theorem be4_reg {a b : BitVec 32} (h : be4 (regI a) = be4 (regI b)) : a = b := by
  have := be4_inj h
  obtain ⟨a1, a2⟩ := regI_bd a
  obtain ⟨b1, b2⟩ := regI_bd b
  exact regI_inj (by omega)
/-- One child that differs is seen. -/
theorem over_apart {p s : List (BitVec 32)} {a b : BitVec 32} (h : overN (p ++ a :: s) = overN (p ++ b :: s)) : a = b := by
  unfold overN at h
  rw [List.flatMap_append, List.flatMap_append, List.flatMap_cons, List.flatMap_cons, ← List.append_assoc, ← List.append_assoc] at h
  exact be4_reg (sum_apart rfl rfl h)
end Go.Proofs.Ytjjadappjapjhaa
