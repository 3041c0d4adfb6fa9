/-
  CONTRACTS of the functions that write whole numbers, flags and texts (packages vint and spliceref01), and of the document's own Num.
-/
import Derived.Test.YtfnjadiibiedgabNum
namespace Go.Proofs.Ytfnjadiibiedgab
open Go.RowKit

theorem not_i64 (z : Int) (h1 : -9223372036854775808 ≤ z) (h2 : z ≤ 9223372036854775807) : bits .xor .i64 (-1) z = -z - 1 := by
  show IntKind.i64.wrap ((BitVec.ofInt 64 (-1) ^^^ BitVec.ofInt 64 z).toNat : Int) = _
  rw [show BitVec.ofInt 64 (-1) = BitVec.allOnes 64 from rfl, BitVec.allOnes_xor, BitVec.toNat_not, BitVec.toNat_ofInt]
  simp only [IntKind.wrap, IntKind.bits, IntKind.signed]
  simp
  omega

theorem wholeS_yes {z : Int} (h : mayZ z = true) : wholeS z = ⟨(numL (foldZ z).toNat).toArray⟩ := by
  unfold wholeS; rw [if_pos h, numS_nat (foldZ_nonneg z)]
theorem wholeS_no {z : Int} (h : mayZ z = false) : wholeS z = ByteArray.empty := by
  unfold wholeS; rw [if_neg (by rw [h]; decide)]

end Go.Proofs.Ytfnjadiibiedgab
