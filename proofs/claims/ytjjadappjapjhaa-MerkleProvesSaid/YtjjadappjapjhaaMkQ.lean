/-
  PLAIN: what is proved is verified; a forged value is not.
-/
import Derived.Test.YtjjadappjapjhaaMkO
namespace Go.Proofs.Ytjjadappjapjhaa
open Go.RowKit

theorem blk_proof (C : Nat → Option Int) (k m : Nat) (hm : m < 3) : blkP (proofT C k 3) m = sibs (lvN C m) (k / 16 ^ m) := by
  have l0 := sibs_len (lvN C 0) (k / 16 ^ 0)
  have l1 := sibs_len (lvN C 1) (k / 16 ^ 1)
  have l2 := sibs_len (lvN C 2) (k / 16 ^ 2)
  have e : proofT C k 3 = sibs (lvN C 0) (k / 16 ^ 0) ++ (sibs (lvN C 1) (k / 16 ^ 1) ++ sibs (lvN C 2) (k / 16 ^ 2)) := by
    show [] ++ _ ++ _ ++ _ = _
    simp
  unfold blkP
  rw [e]
  match m, hm with
  | 0, _ => rw [Nat.zero_mul, List.drop_zero, List.take_left' l0]
  | 1, _ => rw [Nat.one_mul, List.drop_left' l0, List.take_left' l1]
  | 2, _ =>
    rw [show 2 * 15 = 15 + 15 from rfl, ← List.drop_drop, List.drop_left' l0, List.drop_left' l1, List.take_of_length_le (by rw [l2]; decide)]
theorem inK_sibs (f : Nat → BitVec 32) (a : Nat) : inK (sibs f a) (a % 16) (f a) = kidsF f (a / 16) := by
  have hl := kidsF_len f (a / 16)
  have hs : a % 16 < 16 := by omega
  have ht : ((kidsF f (a / 16)).take (a % 16)).length = a % 16 := by rw [List.length_take, hl]; omega
  have hg := kidsF_get f (a / 16) (a % 16) hs
  rw [show a / 16 * 16 + a % 16 = a by omega, List.getElem?_eq_getElem (by rw [hl]; exact hs)] at hg
  injection hg with hg
  unfold inK sibs
  rw [List.take_left' ht, List.drop_left' ht]
  conv => rhs; rw [← List.take_append_drop (a % 16) (kidsF f (a / 16)), List.drop_eq_getElem_cons (by rw [hl]; exact hs), hg]
/-- What is proved leads to the root. -/
theorem ver_up (C : Nat → Option Int) (k : Nat) : ∀ m, m ≤ 3 → verN (proofT C k 3) k (lvN C 0 k) m = lvN C m (k / 16 ^ m)
  | 0, _ => by rw [Nat.pow_zero, Nat.div_one]; rfl
  | m + 1, hm => by
    show overN (inK (blkP (proofT C k 3) m) (k / 16 ^ m % 16) (verN (proofT C k 3) k (lvN C 0 k) m)) = _
    rw [ver_up C k m (by omega), blk_proof C k m (by omega), inK_sibs, Nat.pow_succ, ← Nat.div_div_eq_div_mul]
    rfl
theorem ver_inj (pf : List (BitVec 32)) (k : Nat) (x y : BitVec 32) : ∀ m, verN pf k x m = verN pf k y m → x = y
  | 0, h => h
  | m + 1, h => ver_inj pf k x y m (over_apart h)
/-- A proof leads to the root just from the number that is there. -/
theorem ver_root (C : Nat → Option Int) (k : Nat) (hk : k < 4096) (x : BitVec 32) : (verN (proofT C k 3) k x 3 == lvN C 3 0) = (x == lvN C 0 k) := by
  have h0 := ver_up C k 3 (by decide)
  rw [show k / 16 ^ 3 = 0 from Nat.div_eq_of_lt (by omega)] at h0
  rw [← h0]
  by_cases h : x = lvN C 0 k
  · subst h
    rw [beq_self_eq_true, beq_self_eq_true]
  · rw [beq_eq_false_iff_ne.2 h, beq_eq_false_iff_ne.2 (fun e => h (ver_inj _ k _ _ 3 e))]

/-- The bytes of a number out of a word of 64 bits. -/
def byW (V : BitVec 64) (i : Nat) : UInt8 := UInt8.ofNat (V.toNat / 256 ^ i % 256)
theorem ofInt_nat64 (v : Int) : ((BitVec.ofInt 64 v).toNat : Int) = v % 18446744073709551616 := by
  rw [BitVec.toNat_ofInt]
  have := Int.emod_nonneg v (show (18446744073709551616 : Int) ≠ 0 by decide)
  show (((v % 18446744073709551616).toNat : Nat) : Int) = _
  omega
theorem be8_W (v : Int) : be8 v = [byW (BitVec.ofInt 64 v) 7, byW (BitVec.ofInt 64 v) 6, byW (BitVec.ofInt 64 v) 5, byW (BitVec.ofInt 64 v) 4, byW (BitVec.ofInt 64 v) 3, byW (BitVec.ofInt 64 v) 2, byW (BitVec.ofInt 64 v) 1, byW (BitVec.ofInt 64 v) 0] := by
  have h := ofInt_nat64 v
  unfold be8 be4 byW byI
  generalize (BitVec.ofInt 64 v).toNat = n at h
  have e7 : (v / 4294967296 / 16777216 % 256).toNat = n / 256 ^ 7 % 256 := by omega
  have e6 : (v / 4294967296 / 65536 % 256).toNat = n / 256 ^ 6 % 256 := by omega
  have e5 : (v / 4294967296 / 256 % 256).toNat = n / 256 ^ 5 % 256 := by omega
  have e4 : (v / 4294967296 % 256).toNat = n / 256 ^ 4 % 256 := by omega
  have e3 : (v / 16777216 % 256).toNat = n / 256 ^ 3 % 256 := by omega
  have e2 : (v / 65536 % 256).toNat = n / 256 ^ 2 % 256 := by omega
  have e1 : (v / 256 % 256).toNat = n / 256 ^ 1 % 256 := by omega
  have e0 : (v % 256).toNat = n / 256 ^ 0 % 256 := by omega
  rw [e7, e6, e5, e4, e3, e2, e1, e0]
  rfl
theorem byW_same (V Y : BitVec 64) (i : Nat) (h : Y.toNat / 256 ^ i % 256 = 0) : byW (V ^^^ Y) i = byW V i := by
  unfold byW
  congr 1
  rw [BitVec.toNat_xor, show (256 : Nat) ^ i = 2 ^ (8 * i) by rw [Nat.pow_mul], Nat.xor_div_two_pow, show (256 : Nat) = 2 ^ 8 from rfl, Nat.xor_mod_two_pow]
  rw [show (256 : Nat) ^ i = 2 ^ (8 * i) by rw [Nat.pow_mul], show (256 : Nat) = 2 ^ 8 from rfl] at h
  rw [h, Nat.xor_zero]
theorem be8_inj {v v' : Int} (h1 : -9223372036854775808 ≤ v) (h2 : v ≤ 9223372036854775807) (h3 : -9223372036854775808 ≤ v') (h4 : v' ≤ 9223372036854775807) (h : be8 v = be8 v') : v = v' := by
  unfold be8 at h
  obtain ⟨ha, hb⟩ := List.append_inj h rfl
  have := be4_inj ha
  have := be4_inj hb
  omega
/-- Within four bytes side by side. -/
theorem numV_four {v v' : Int} {Y : BitVec 64} {j B : Nat} (hj : j < 5) (hB : B < 4294967296) (hY : Y.toNat = B * 256 ^ j) (hv : BitVec.ofInt 64 v' = BitVec.ofInt 64 v ^^^ Y)
    (h1 : -9223372036854775808 ≤ v) (h2 : v ≤ 9223372036854775807) (h3 : -9223372036854775808 ≤ v') (h4 : v' ≤ 9223372036854775807) (h : numV v' = numV v) : v' = v := by
  refine be8_inj h3 h4 h1 h2 ?_
  unfold numV at h
  have e := be8_W v
  have e' := be8_W v'
  rw [hv] at e'
  generalize BitVec.ofInt 64 v = V at e e'
  have z : ∀ i, i < j ∨ j + 4 ≤ i → i < 8 → byW (V ^^^ Y) i = byW V i := fun i hi hi8 => by
    refine byW_same V Y i ?_
    rw [hY]
    have hj2 : j = 0 ∨ j = 1 ∨ j = 2 ∨ j = 3 ∨ j = 4 := by omega
    have hi2 : i = 0 ∨ i = 1 ∨ i = 2 ∨ i = 3 ∨ i = 4 ∨ i = 5 ∨ i = 6 ∨ i = 7 := by omega
    rcases hj2 with rfl | rfl | rfl | rfl | rfl <;> rcases hi2 with rfl | rfl | rfl | rfl | rfl | rfl | rfl | rfl <;> omega
  generalize V ^^^ Y = U at e' z
  rw [e, e'] at h
  rw [e, e']
  have hj2 : j = 0 ∨ j = 1 ∨ j = 2 ∨ j = 3 ∨ j = 4 := by omega
  rcases hj2 with rfl | rfl | rfl | rfl | rfl
  · rw [z 7 (by omega) (by omega), z 6 (by omega) (by omega), z 5 (by omega) (by omega), z 4 (by omega) (by omega)] at h ⊢
    have := sum_apart (p := [1, byW V 7, byW V 6, byW V 5, byW V 4]) (s := []) (a := [byW U 3, byW U 2, byW U 1, byW U 0]) (b := [byW V 3, byW V 2, byW V 1, byW V 0]) rfl rfl h
    simp_all
  · rw [z 7 (by omega) (by omega), z 6 (by omega) (by omega), z 5 (by omega) (by omega), z 0 (by omega) (by omega)] at h ⊢
    have := sum_apart (p := [1, byW V 7, byW V 6, byW V 5]) (s := [byW V 0]) (a := [byW U 4, byW U 3, byW U 2, byW U 1]) (b := [byW V 4, byW V 3, byW V 2, byW V 1]) rfl rfl h
    simp_all
  · rw [z 7 (by omega) (by omega), z 6 (by omega) (by omega), z 1 (by omega) (by omega), z 0 (by omega) (by omega)] at h ⊢
    have := sum_apart (p := [1, byW V 7, byW V 6]) (s := [byW V 1, byW V 0]) (a := [byW U 5, byW U 4, byW U 3, byW U 2]) (b := [byW V 5, byW V 4, byW V 3, byW V 2]) rfl rfl h
    simp_all
  · rw [z 7 (by omega) (by omega), z 2 (by omega) (by omega), z 1 (by omega) (by omega), z 0 (by omega) (by omega)] at h ⊢
    have := sum_apart (p := [1, byW V 7]) (s := [byW V 2, byW V 1, byW V 0]) (a := [byW U 6, byW U 5, byW U 4, byW U 3]) (b := [byW V 6, byW V 5, byW V 4, byW V 3]) rfl rfl h
    simp_all
  · rw [z 3 (by omega) (by omega), z 2 (by omega) (by omega), z 1 (by omega) (by omega), z 0 (by omega) (by omega)] at h ⊢
    have := sum_apart (p := [1]) (s := [byW V 3, byW V 2, byW V 1, byW V 0]) (a := [byW U 7, byW U 6, byW U 5, byW U 4]) (b := [byW V 7, byW V 6, byW V 5, byW V 4]) rfl rfl h
    simp_all
end Go.Proofs.Ytjjadappjapjhaa
