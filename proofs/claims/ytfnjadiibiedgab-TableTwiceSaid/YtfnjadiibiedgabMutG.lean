/-
  CONTRACT of Text (of a mutation).
-/
import Derived.Test.YtfnjadiibiedgabMutF
namespace Go.Proofs.Ytfnjadiibiedgab
open Go.RowKit Go.Shelf

def bl (s : ByteArray) : List UInt8 := s.data.toList
def numsT (ns : List Int) : List UInt8 := ns.flatMap fun n => bl (numS n)
def pairsT (l : List Sp) : List UInt8 := l.flatMap fun p => bl (numS p.1) ++ bl (wholeS p.2)
def tailT (k lo hi old : Int) : List UInt8 := if k = 2 then bl (numS lo) ++ bl (numS hi) else if k = 4 then bl (wholeS old) else []
def bodyT (c s k : Int) (l : List Sp) (lo hi old : Int) : List UInt8 := numsT [c, s, k, (l.length : Int)] ++ pairsT l ++ tailT k lo hi old
def textT (c s k : Int) (l : List Sp) (lo hi old : Int) : List UInt8 := if chkM c s k l lo hi old = true then bodyT c s k l lo hi old else []
theorem numsT_snoc (l : List Int) (x : Int) : numsT (l ++ [x]) = numsT l ++ bl (numS x) := by simp [numsT]
theorem pairsT_snoc (l : List Sp) (p : Sp) : pairsT (l ++ [p]) = pairsT l ++ bl (numS p.1) ++ bl (wholeS p.2) := by simp [pairsT]
theorem numS_size {n : Int} (h : n ≤ 9223372036854775807) : (numS n).size ≤ 9 := by
  unfold numS
  split
  · show (0 : Nat) ≤ 9; omega
  · have := numL_len9 (n := n.toNat) (by omega)
    show (numL n.toNat).toArray.size ≤ 9
    simpa using this
theorem wholeS_size (z : Int) : (wholeS z).size ≤ 9 := by
  cases h : mayZ z
  · rw [wholeS_no h]; show (0 : Nat) ≤ 9; omega
  · rw [wholeS_yes h]
    have h1 := foldZ_le h
    have h2 := foldZ_nonneg z
    have := numL_len9 (n := (foldZ z).toNat) (by omega)
    show (numL (foldZ z).toNat).toArray.size ≤ 9
    simpa using this

theorem cellsLow {W4 W : World} {B g i : Nat} {v : Value} (h : Below B W4 W) (hg : g < B) (e : W4.cell? ⟨g, i, none⟩ = some v) : W.cell? ⟨g, i, none⟩ = some v := (h.cell (p := ⟨g, i, none⟩) hg).trans e
theorem ret_str {a b : List UInt8} (h : a = b) : Ending.returned (.string ⟨a.toArray⟩) = .returned (.string ⟨b.toArray⟩) := by rw [h]
end Go.Proofs.Ytfnjadiibiedgab
