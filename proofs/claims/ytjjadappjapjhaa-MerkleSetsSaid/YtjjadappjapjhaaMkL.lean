/-
  PLAIN: a table one value of which is changed.
-/
import Derived.Test.YtjjadappjapjhaaMkK
namespace Go.Proofs.Ytjjadappjapjhaa
open Go.RowKit

/-- A value some of whose ten low bits are turned. -/
def lowX (v b : Int) : Int := IntKind.i64.wrap (bits .xor .u64 (IntKind.u64.wrap v) (b % 1024))
theorem wrap64_toInt (X : BitVec 64) : IntKind.i64.wrap (X.toNat : Int) = X.toInt := by
  have := X.isLt
  simp only [IntKind.wrap, IntKind.bits, IntKind.signed]
  rw [BitVec.toInt_eq_toNat_cond]
  simp
  split <;> split <;> omega
theorem wrapu64_nat (X : BitVec 64) : IntKind.u64.wrap (X.toNat : Int) = (X.toNat : Int) := by
  have := X.isLt
  simp only [IntKind.wrap, IntKind.bits, IntKind.signed]
  simp
  omega
theorem ofInt_wrap (v : Int) : BitVec.ofInt 64 (IntKind.u64.wrap v) = BitVec.ofInt 64 v := by
  apply BitVec.eq_of_toInt_eq
  rw [BitVec.toInt_ofInt, BitVec.toInt_ofInt]
  simp only [IntKind.wrap, IntKind.bits, IntKind.signed]
  simp [Int.bmod_def]
theorem lowX_bv (v b : Int) : lowX v b = (BitVec.ofInt 64 v ^^^ BitVec.ofInt 64 (b % 1024)).toInt := by
  unfold lowX
  show IntKind.i64.wrap (IntKind.u64.wrap (((BitVec.ofInt 64 (IntKind.u64.wrap v)) ^^^ BitVec.ofInt 64 (b % 1024)).toNat : Int)) = _
  rw [ofInt_wrap, wrapu64_nat, wrap64_toInt]
theorem toInt_v {v : Int} (h1 : -9223372036854775808 ≤ v) (h2 : v ≤ 9223372036854775807) : (BitVec.ofInt 64 v).toInt = v := by
  rw [BitVec.toInt_ofInt, Int.bmod_def]
  simp
  split <;> omega
theorem shr_toInt (X Y : BitVec 64) (h : X.toNat / 1024 = Y.toNat / 1024) : X.toInt / 1024 = Y.toInt / 1024 := by
  have := X.isLt
  have := Y.isLt
  rw [BitVec.toInt_eq_toNat_cond, BitVec.toInt_eq_toNat_cond]
  split <;> split <;> omega
theorem lowX_high {v b : Int} (h1 : -9223372036854775808 ≤ v) (h2 : v ≤ 9223372036854775807) : lowX v b / 4294967296 = v / 4294967296 ∧ (lowX v b = v ↔ b % 1024 = 0) := by
  rw [lowX_bv]
  have hB : (BitVec.ofInt 64 (b % 1024)).toNat = (b % 1024).toNat := by
    rw [BitVec.toNat_ofInt]
    omega
  have hq : ((BitVec.ofInt 64 v ^^^ BitVec.ofInt 64 (b % 1024))).toNat / 1024 = (BitVec.ofInt 64 v).toNat / 1024 := by
    have h : ((BitVec.ofInt 64 v ^^^ BitVec.ofInt 64 (b % 1024)) >>> 10) = (BitVec.ofInt 64 v) >>> 10 := by
      rw [BitVec.ushiftRight_xor_distrib]
      have : BitVec.ofInt 64 (b % 1024) >>> 10 = 0#64 := by
        apply BitVec.eq_of_toNat_eq
        rw [BitVec.toNat_ushiftRight, hB, Nat.shiftRight_eq_div_pow]
        show (b % 1024).toNat / 1024 = 0
        omega
      rw [this, BitVec.xor_zero]
    have := congrArg BitVec.toNat h
    rw [BitVec.toNat_ushiftRight, BitVec.toNat_ushiftRight, Nat.shiftRight_eq_div_pow, Nat.shiftRight_eq_div_pow] at this
    exact this
  have h3 := shr_toInt _ _ hq
  rw [toInt_v h1 h2] at h3
  refine ⟨by omega, fun e => ?_, fun e => ?_⟩
  · have e2 : BitVec.ofInt 64 v ^^^ BitVec.ofInt 64 (b % 1024) = BitVec.ofInt 64 v := BitVec.eq_of_toInt_eq (by rw [e, toInt_v h1 h2])
    have e3 : BitVec.ofInt 64 (b % 1024) = 0#64 := by
      have := congrArg (fun z => BitVec.ofInt 64 v ^^^ z) e2
      simpa [← BitVec.xor_assoc] using this
    have := congrArg BitVec.toNat e3
    rw [hB] at this
    have : (b % 1024).toNat = 0 := this
    omega
  · rw [e, show BitVec.ofInt 64 0 = 0#64 from rfl, BitVec.xor_zero, toInt_v h1 h2]
/-- A table with one value changed. -/
def putL (l : List Pr) (i : Nat) (v : Int) : List Pr := l.set i (l[i]!.1, v)
theorem tblF_put : ∀ (l : List Pr) (e : Int) (i : Nat) (v : Int), tblF e l = true → i < l.length → tblF e (putL l i v) = (decide (-1099511627776 ≤ v ∧ v ≤ 1099511627776))
  | p :: t, e, 0, v, h, _ => by
    simp only [tblF, Bool.and_eq_true, decide_eq_true_eq] at h
    show tblF e ((p.1, v) :: t) = _
    simp only [tblF]
    rw [h.2, Bool.and_true, decide_eq_true h.1.1, Bool.true_and]
  | p :: t, e, i + 1, v, h, hi => by
    simp only [tblF, Bool.and_eq_true, decide_eq_true_eq] at h
    have := tblF_put t p.1 i v h.2 (by simpa using hi)
    show tblF e (p :: putL t i v) = _
    simp only [tblF]
    rw [this, decide_eq_true h.1.1, decide_eq_true h.1.2]
    simp
theorem tab_low {l : List Pr} {e : Int} (h : tblF e l = true) (he : -1 ≤ e) : ∀ (C : Nat → Option Int) (k : Nat), (k : Int) ≤ e → l.foldl (fun C p => updF C p.1.toNat (some p.2)) C k = C k := by
  induction l generalizing e with
  | nil => intro C k hk; rfl
  | cons p t ih =>
    intro C k hk
    simp only [tblF, Bool.and_eq_true, decide_eq_true_eq] at h
    rw [List.foldl_cons, ih h.2 (by omega) _ k (by omega)]
    unfold updF
    rw [if_neg (by omega)]
theorem tab_put : ∀ (l : List Pr) (e : Int), -1 ≤ e → tblF e l = true → ∀ (i : Nat), i < l.length → ∀ (v : Int) (C : Nat → Option Int) (k : Nat),
    (putL l i v).foldl (fun C p => updF C p.1.toNat (some p.2)) C k = if (k : Int) = l[i]!.1 then some v else l.foldl (fun C p => updF C p.1.toNat (some p.2)) C k
  | p :: t, e, he, h, 0, _, v, C, k => by
    simp only [tblF, Bool.and_eq_true, decide_eq_true_eq] at h
    show ((p.1, v) :: t).foldl _ C k = if (k : Int) = p.1 then _ else (p :: t).foldl _ C k
    rw [List.foldl_cons, List.foldl_cons]
    by_cases hk : (k : Int) = p.1
    · rw [if_pos hk, tab_low h.2 (by omega) _ k (by omega)]
      unfold updF
      rw [if_pos (by omega)]
    · rw [if_neg hk]
      have : updF C p.1.toNat (some v) k = updF C p.1.toNat (some p.2) k := by unfold updF; rw [if_neg (by omega), if_neg (by omega)]
      have key : ∀ (t : List Pr) (A B : Nat → Option Int), A k = B k → t.foldl (fun C p => updF C p.1.toNat (some p.2)) A k = t.foldl (fun C p => updF C p.1.toNat (some p.2)) B k := by
        intro t
        induction t with
        | nil => intro A B h; exact h
        | cons q t ih =>
          intro A B h
          rw [List.foldl_cons, List.foldl_cons]
          refine ih _ _ ?_
          unfold updF
          split
          · rfl
          · exact h
      exact key t _ _ this
  | p :: t, e, he, h, i + 1, hi, v, C, k => by
    simp only [tblF, Bool.and_eq_true, decide_eq_true_eq] at h
    have := tab_put t p.1 (by omega) h.2 i (by simpa using hi) v (updF C p.1.toNat (some p.2)) k
    show (p :: putL t i v).foldl _ C k = _
    rw [List.foldl_cons, this, List.foldl_cons]
    simp only [List.getElem!_cons_succ]
theorem tabC_put {l : List Pr} (h : tblB l = true) {i : Nat} (hi : i < l.length) (v : Int) (k : Nat) : tabC (putL l i v) k = if (k : Int) = l[i]!.1 then some v else tabC l k := tab_put l (-1) (by omega) h i hi v _ k
theorem putL_self {l : List Pr} {i : Nat} (hi : i < l.length) : putL l i l[i]!.2 = l := by
  unfold putL
  apply List.ext_getElem?
  intro j
  rw [List.getElem?_set]
  by_cases h : i = j
  · subst h
    rw [if_pos rfl, if_pos hi, getElem!_pos l i hi, List.getElem?_eq_getElem hi]
  · rw [if_neg h]
theorem tabC_at {l : List Pr} (h : tblB l = true) {i : Nat} (hi : i < l.length) {k : Nat} (hk : (k : Int) = l[i]!.1) : tabC l k = some l[i]!.2 := by
  have := tabC_put h hi l[i]!.2 k
  rw [putL_self hi, if_pos hk] at this
  exact this
theorem tbl_val : ∀ {l : List Pr} {e : Int}, tblF e l = true → ∀ {k : Nat}, k < l.length → -1099511627776 ≤ l[k]!.2 ∧ l[k]!.2 ≤ 1099511627776
  | p :: t, e, h, 0, _ => by
    simp only [tblF, Bool.and_eq_true, decide_eq_true_eq] at h
    exact h.1.2
  | p :: t, e, h, k + 1, hk => by
    simp only [tblF, Bool.and_eq_true, decide_eq_true_eq] at h
    have := tbl_val h.2 (k := k) (by simpa using hk)
    simpa only [List.getElem!_cons_succ] using this
end Go.Proofs.Ytjjadappjapjhaa
