/-
  CONTRACTS of strings.Builder as the program writes it: a builder that the call itself has made.
-/
import Derived.Test.YtfnjadiibiedgabMutE
import Derived.Test.YtfnjadiibiedgabWrite
import Derived.Shelf.Strings.Builder1
namespace Go.Proofs.Ytfnjadiibiedgab
open Go.RowKit Go.Shelf

theorem row_bytes {B n : Nat} {w : World} {v : Value} {xs : List Value} (h : w.ownsRow B 5 1 v n xs) {g : Nat} {cs : Array Value} {t : TypeId} {fz : Nat × Nat} (e : w.heap[g]? = some (.cells cs t fz)) (ht : t ≠ 5) : some g ≠ v.ownBlock := by
  rcases h.2 with ⟨rfl, _⟩ | ⟨g', cap', cur', rfl, _, hg, _⟩
  · simp [Value.ownBlock]
  · intro he
    have : g = g' := by simpa [Value.ownBlock] using he
    subst this
    rw [hg] at e
    cases e
    exact ht rfl
theorem strCells_bytes (l : List UInt8) (s : ByteArray) : Lib.byteCells l ++ Lib.strCells s = Lib.byteCells (l ++ s.data.toList) := by simp [Lib.byteCells, Lib.strCells]

end Go.Proofs.Ytfnjadiibiedgab
