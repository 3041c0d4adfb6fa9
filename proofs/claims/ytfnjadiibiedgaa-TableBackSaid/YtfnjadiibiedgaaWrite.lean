/-
  CONTRACTS of the functions that write whole numbers, flags and texts (packages vint and spliceref01), and of the document's own Num.
-/
import Derived.Test.YtfnjadiibiedgaaNum
namespace Go.Proofs.Ytfnjadiibiedgaa
open Go.RowKit

set_option maxRecDepth 100000 in
set_option maxHeartbeats 800000 in
theorem refNum_any (n : Int) (w : World) (h1 : n ≤ 9223372036854775807) :
    Calls Try.prog 66 #[.int .i64 n] w (StrPost (numS n) w) := by
  by_cases h0 : n < 0
  · go_enter Try.func66, Try.ntmps66
    go_wp2
    go_ret
    exact ⟨by rw [numS_neg h0]; rfl, Below.refl _ _⟩
  · have h0' : 0 ≤ n := by omega
    have HS := Lib.hid (numS_nat h0')
    obtain ⟨i0, hi, hz0, hz1, hz2⟩ := info_parts Try.infoByte
    go_enter Try.func66, Try.ntmps66
    go_wp2
    go_loopw [0, 3] (fun t b wr => ∃ (ys : List UInt8) (k : Nat), t = .int .i64 (k : Int) ∧ (k : Int) ≤ 9223372036854775807 ∧ ys.length + (numL k).length ≤ 9 ∧ OwnsB wr w.heap.size b ys ∧ ys ++ numL k = numL n.toNat ∧ Below w.heap.size w wr)
      (fun t _ _ => (intOf t).toNat)
    case atStart => exact ⟨[], n.toNat, by rw [Int.toNat_of_nonneg h0'], by omega, by have := numL_len9 (n := n.toNat) (by omega); simpa using this, OwnsB.nil _ _, rfl, Below.refl _ _⟩
    case round =>
      obtain ⟨ys, k, rfl, hk, hys, hownr, heq, hb⟩ := hrel
      have hsz := hb.size
      have HE := Lib.hid heq
      clear heq
      by_cases hlt : 128 ≤ k
      · go_wp2_with ((at_builtin; refine wpList_append_own _ rfl _ _ 102 rfl w.heap.size 5 i0 (.int .u8 0) 1 1 Try.underlying102 hi hz0 hz1 hz2 rfl (by decide) _ _ _ rfl (hownr.alloc _) ⟨wr.heap.size, 0, none⟩ 1 1 [.int .u8 (128 + (k : Int) % 128)] rfl rfl ?c1 ?c2 ?c3 ?c4 ?c5 ?_))
        case c1 => exact cell_one_new _ _ _
        case c2 => intro u hu; simp at hu; subst hu; rfl
        case c3 => unfold maxLen; omega
        case c4 => omega
        case c5 => simp; omega
        intro v' w1 hown1 hgrow1 _
        have ho := OwnsB.push (c := UInt8.ofNat (k % 128 + 128)) hown1 (by simp; omega)
        have hb1 : Below w.heap.size w w1 := (hb.alloc hsz _).grown hgrow1 (by simp; omega) (fun g hg => (hownr.lt g hg).1)
        clear hown1 hgrow1 hownr
        go_wp2
        go_roundw
        case rel => exact ⟨ys ++ [UInt8.ofNat (k % 128 + 128)], k / 128, by go_num, by omega, by rw [numL_hi hlt, List.length_cons] at hys; rw [List.length_append]; simp; omega, ho, by rw [← HE.out, numL_hi hlt]; simp, hb1⟩
        case measure => simp [intOf]; omega
      · have hk8 : k < 128 := by omega
        go_wp2_with ((at_builtin; refine wpList_append_own _ rfl _ _ 102 rfl w.heap.size 5 i0 (.int .u8 0) 1 1 Try.underlying102 hi hz0 hz1 hz2 rfl (by decide) _ _ _ rfl (hownr.alloc _) ⟨wr.heap.size, 0, none⟩ 1 1 [.int .u8 (k : Int)] rfl rfl ?d1 ?d2 ?d3 ?d4 ?d5 ?_))
        case d1 => exact cell_one_new _ _ _
        case d2 => intro u hu; simp at hu; subst hu; rfl
        case d3 => unfold maxLen; omega
        case d4 => omega
        case d5 => simp; omega
        intro v' w1 hown1 hgrow1 _
        have ho := OwnsB.push (c := UInt8.ofNat k) hown1 (by simp; omega)
        have hb1 : Below w.heap.size w w1 := (hb.alloc hsz _).grown hgrow1 (by simp; omega) (fun g hg => (hownr.lt g hg).1)
        rw [show ys ++ [UInt8.ofNat k] = numL n.toNat by rw [← HE.out, numL_lo hk8]] at ho
        clear hown1 hgrow1 hownr
        have hc := ho.str
        clear ho
        go_wp2
        go_ret
        exact ⟨by rw [HS.out]; rfl, hb1⟩

theorem inRange_any (z : Int) (w : World) :
    Calls Try.prog 107 #[.int .i64 z] w fun e w' => e = .returned (.bool (mayZ z)) ∧ w = w' := by
  by_cases h1 : -4611686018427387904 ≤ z
  · by_cases h2 : z ≤ 4611686018427387903
    · have H := Lib.hid (show mayZ z = true by unfold mayZ; simp; omega)
      go_enter Try.func107, Try.ntmps107
      go_wp2
      go_ret
      exact ⟨by rw [H.out]; rfl, rfl⟩
    · have H := Lib.hid (show mayZ z = false by unfold mayZ; simp; omega)
      go_enter Try.func107, Try.ntmps107
      go_wp2
      go_ret
      exact ⟨by rw [H.out]; rfl, rfl⟩
  · have H := Lib.hid (show mayZ z = false by unfold mayZ; simp; omega)
    go_enter Try.func107, Try.ntmps107
    go_wp2
    go_ret
    exact ⟨by rw [H.out]; rfl, rfl⟩

theorem may_any (z : Int) (w : World) :
    Calls Try.prog 109 #[.int .i64 z] w fun e w' => e = .returned (.bool (mayZ z)) ∧ w = w' := by
  by_cases h1 : -4611686018427387904 ≤ z
  · by_cases h2 : z ≤ 4611686018427387903
    · have H := Lib.hid (show mayZ z = true by unfold mayZ; simp; omega)
      go_enter Try.func109, Try.ntmps109
      go_wp2
      go_ret
      exact ⟨by rw [H.out]; rfl, rfl⟩
    · have H := Lib.hid (show mayZ z = false by unfold mayZ; simp; omega)
      go_enter Try.func109, Try.ntmps109
      go_wp2
      go_ret
      exact ⟨by rw [H.out]; rfl, rfl⟩
  · have H := Lib.hid (show mayZ z = false by unfold mayZ; simp; omega)
    go_enter Try.func109, Try.ntmps109
    go_wp2
    go_ret
    exact ⟨by rw [H.out]; rfl, rfl⟩

theorem not_i64 (z : Int) (h1 : -9223372036854775808 ≤ z) (h2 : z ≤ 9223372036854775807) : bits .xor .i64 (-1) z = -z - 1 := by
  show IntKind.i64.wrap ((BitVec.ofInt 64 (-1) ^^^ BitVec.ofInt 64 z).toNat : Int) = _
  rw [show BitVec.ofInt 64 (-1) = BitVec.allOnes 64 from rfl, BitVec.allOnes_xor, BitVec.toNat_not, BitVec.toNat_ofInt]
  simp only [IntKind.wrap, IntKind.bits, IntKind.signed]
  simp
  omega

theorem fold_any (z : Int) (w : World) (hz : mayZ z = true) :
    Calls Try.prog 108 #[.int .i64 z] w fun e w' => e = .returned (.int .i64 (foldZ z)) ∧ w = w' := by
  have hz' : -4611686018427387904 ≤ z ∧ z ≤ 4611686018427387903 := by unfold mayZ at hz; simpa using hz
  obtain ⟨z1, z2⟩ := hz'
  clear hz
  by_cases h : z < 0
  · have H := Lib.hid (show foldZ z = -(2 * z) - 1 by unfold foldZ; rw [if_pos h])
    have hx := not_i64 z (by omega) (by omega)
    go_enter Try.func108, Try.ntmps108
    go_wp2
    go_ret
    exact ⟨by rw [H.out]; simp [wrap64]; omega, rfl⟩
  · have H := Lib.hid (show foldZ z = 2 * z by unfold foldZ; rw [if_neg h])
    go_enter Try.func108, Try.ntmps108
    go_wp2
    go_ret
    exact ⟨by rw [H.out]; rfl, rfl⟩

set_option maxHeartbeats 400000 in
theorem unfold_any (n : Int) (w : World) (h0 : 0 ≤ n) (h1 : n ≤ 9223372036854775807) :
    Calls Try.prog 113 #[.int .i64 n] w fun e w' => e = .returned (.int .i64 (unfoldN n)) ∧ w = w' := by
  by_cases h : n % 2 = 1
  · have H := Lib.hid (show unfoldN n = -(n / 2) - 1 by unfold unfoldN; rw [if_pos h])
    have hx := not_i64 (n / 2) (by omega) (by omega)
    go_enter Try.func113, Try.ntmps113
    go_wp2
    go_ret
    exact ⟨by rw [H.out]; rfl, rfl⟩
  · have H := Lib.hid (show unfoldN n = n / 2 by unfold unfoldN; rw [if_neg h])
    go_enter Try.func113, Try.ntmps113
    go_wp2
    go_ret
    exact ⟨by rw [H.out]; rfl, rfl⟩

theorem wholeS_yes {z : Int} (h : mayZ z = true) : wholeS z = ⟨(numL (foldZ z).toNat).toArray⟩ := by
  unfold wholeS; rw [if_pos h, numS_nat (foldZ_nonneg z)]
theorem wholeS_no {z : Int} (h : mayZ z = false) : wholeS z = ByteArray.empty := by
  unfold wholeS; rw [if_neg (by rw [h]; decide)]

set_option maxHeartbeats 400000 in
theorem whole_any (z : Int) (w : World) :
    Calls Try.prog 64 #[.int .i64 z] w (StrPost (wholeS z) w) := by
  cases hz : mayZ z
  · have H := Lib.hid (wholeS_no hz)
    have HZ := Lib.hid hz
    clear hz
    go_enter Try.func64, Try.ntmps64
    go_wp2_with (go_at_call 107; refine (inRange_any z _).mono ?_; rw [HZ.out]; rintro e w' ⟨rfl, rfl⟩)
    go_ret
    exact ⟨by rw [H.out]; rfl, Below.refl _ _⟩
  · have H := Lib.hid (wholeS_yes hz)
    have HZ := Lib.hid hz
    clear hz
    go_enter Try.func64, Try.ntmps64
    go_wp2_with (first | (go_at_call 107; refine (inRange_any z _).mono ?_; rw [HZ.out]; rintro e w' ⟨rfl, rfl⟩) | (go_at_call 108; refine (fold_any z _ HZ.out).mono ?_; rintro e w' ⟨rfl, rfl⟩) | (go_at_call 106; refine (appendNum_any w.heap.size _ [] (foldZ z) _ (foldZ_nonneg z) (foldZ_le HZ.out) (OwnsB.nil _ _) (by simp) (Nat.le_refl _)).mono ?_))
    intro e w' ⟨v', he, ho, hb⟩
    subst he
    have hc := ho.str
    clear ho
    go_wp2
    go_ret
    exact ⟨by rw [H.out]; rfl, hb⟩
end Go.Proofs.Ytfnjadiibiedgaa
