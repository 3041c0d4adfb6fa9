/-
  DELTA: how long texts are; the document's Same of two mutations that are nothing; DeltaBack's walk.
-/
import Derived.Test.YtnjlbgnojlmmlaaDeN
import Derived.Test.YtnjlbgnojlmmlaaDeF
namespace Go.Proofs.Ytnjlbgnojlmmlaa
open Go.RowKit Go.Deep Go.Shelf Go.ChangeShapes Go.WideShapes Go.ChangeAt

theorem bl_size (s : ByteArray) : (bl s).length = s.size := Array.length_toList
theorem ofL_size (l : List UInt8) : (ofL l).size = l.length := by rw [ba_size]; simp [ofL]
theorem turnT_lo (z : Int) (t : Tn) : 1 ≤ (turnT z t).length := by
  obtain ⟨k, ⟨v, a⟩, ⟨u, b⟩⟩ := t
  have h : 1 ≤ (bl (numS (kindT (k, (v, a), (u, b))))).length := by
    have hk : 0 ≤ kindT (k, (v, a), (u, b)) ∧ kindT (k, (v, a), (u, b)) ≤ 3 := by unfold kindT; cases a <;> cases b <;> simp
    have h1 := rNum_back hk.1 (by omega) ByteArray.empty
    have h2 := rNum_less (s := numS (kindT (k, (v, a), (u, b))) ++ ByteArray.empty) (e := 0) (by rw [h1])
    rw [h1] at h2
    rw [bl_size]
    have h3 : (numS (kindT (k, (v, a), (u, b))) ++ ByteArray.empty).size = (numS (kindT (k, (v, a), (u, b)))).size + ByteArray.empty.size := by rw [ByteArray.size_append]
    dsimp only at h2
    omega
  unfold turnT
  simp only [List.length_append]
  omega
theorem turnT_hi {z : Int} {t : Tn} (hz : -1 ≤ z) (h2 : t.1 < 4096) : (turnT z t).length ≤ 36 := by
  obtain ⟨k, ⟨v, a⟩, ⟨u, b⟩⟩ := t
  dsimp only at h2
  have h1 := numS_size (n := k - z - 1) (by omega)
  have h2 := numS_size (n := kindT (k, (v, a), (u, b))) (by unfold kindT; cases a <;> cases b <;> simp)
  have h3 := wholeS_size v
  have h4 := wholeS_size (u - v)
  unfold turnT
  simp only [List.length_append, bl_size]
  cases a <;> cases b <;> simp only [if_true, Bool.false_eq_true, if_false, bl_size, List.length_nil] <;> omega
theorem turnsT_hi : ∀ (l : List Tn) (z : Int), -1 ≤ z → chkF z l = true → (turnsT z l).length ≤ 36 * l.length
  | [], _, _, _ => by simp [turnsT]
  | t :: r, z, hz, h => by
    obtain ⟨h1, h2, _, _, _, h6⟩ := chkF_cons h
    have := turnsT_hi r _ (by omega) h6
    have := turnT_hi (z := z) (t := t) hz h2
    show (turnT z t ++ turnsT t.1 r).length ≤ _
    rw [List.length_append, List.length_cons]
    omega
theorem textD_hi {l : List Tn} (h : chkB l = true) (hl : l.length ≤ 100000) : (textD l).length ≤ 36 * l.length + 9 := by
  rw [show textD l = bl (numS (l.length : Int)) ++ turnsT (-1) l from if_pos h, List.length_append, bl_size]
  have := numS_size (n := (l.length : Int)) (by omega)
  have := turnsT_hi l (-1) (by omega) h
  omega
theorem turnsT_lo : ∀ (l : List Tn) (z : Int), l.length ≤ (turnsT z l).length
  | [], _ => by simp
  | t :: r, z => by
    have := turnsT_lo r t.1
    have := turnT_lo z t
    show _ ≤ (turnT z t ++ turnsT t.1 r).length
    rw [List.length_append, List.length_cons]
    omega
theorem readD_len {s : ByteArray} (h : (readD s).2 = 0) : (readD s).1.length ≤ s.size := by
  obtain ⟨h1, h2⟩ := readD_once h
  have h3 := congrArg ByteArray.size h2
  rw [ofL_size, show textD (readD s).1 = bl (numS ((readD s).1.length : Int)) ++ turnsT (-1) (readD s).1 from if_pos h1, List.length_append] at h3
  have := turnsT_lo (readD s).1 (-1)
  omega
theorem fewL_any (ab : Option Addr) (nb cb : Nat) (w : World) (hb : (nb : Int) ≤ 9223372036854775807) :
    Calls Try.prog 4 #[.slice none 0 0, .slice none 0 0, .slice ab nb cb, .slice none 0 0] w (Gives w (.bool (decide (nb ≤ 100)))) := by
  by_cases h2 : nb ≤ 100
  · have z2 : (nb : Int) ≤ 100 := by omega
    go_enter Try.func4, Try.ntmps4
    go_wp2
    go_ret
    exact ⟨by simp [h2], Below.refl _ _⟩
  · have z2 : ¬ (nb : Int) ≤ 100 := by omega
    go_enter Try.func4, Try.ntmps4
    go_wp2
    go_ret
    exact ⟨by simp, Below.refl _ _⟩
def zM : Value := .agg #[.int .i64 0, .int .i64 0, .int .i64 0, .slice none 0 0, .int .i64 0, .int .i64 0, .int .i64 0]
theorem textD_ne {l : List Tn} (h : chkB l = true) : (ofL (textD l)).toList.isEmpty = false := by
  have h1 := readD_back (l := l) h
  rw [ByteArray.toList_eq]
  cases hq : (ofL (textD l)).data.toList with
  | cons a t => rfl
  | nil =>
    exfalso
    have h2 : (ofL (textD l)).data.toList.length = 0 := by rw [hq]; rfl
    have h3 : (textD l).length = 0 := by simpa [ofL] using h2
    rw [show textD l = bl (numS (l.length : Int)) ++ turnsT (-1) l from if_pos h, List.length_append, bl_size] at h3
    have h4 := turnsT_lo l (-1)
    have h5 : l.length = 0 := by omega
    rw [h5] at h3
    have h6 := rNum_back (n := 0) (by omega) (by omega) ByteArray.empty
    have h7 := rNum_less (s := numS 0 ++ ByteArray.empty) (e := 0) (by rw [h6])
    rw [h6, ByteArray.size_append] at h7
    dsimp only at h7
    have : (numS ((0 : Nat) : Int)).size = (numS 0).size := rfl
    omega
theorem fewL_no {m : Nat} (hs : ¬ m ≤ 100) : decide (m ≤ 100) = false := decide_eq_false hs
end Go.Proofs.Ytnjlbgnojlmmlaa
