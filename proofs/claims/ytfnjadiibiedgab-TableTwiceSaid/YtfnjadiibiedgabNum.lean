/-
  CONTRACTS of the functions that write numbers (packages vint and spliceref01).
-/
import Derived.Test.YtfnjadiibiedgabRows
import Derived.Test.YtfnjadiibiedgabPlain
import Derived.WalkKit
import Derived.WalkSpells
import Derived.WalkLawsBesides
import Derived.Lib.Hide
import Derived.Laws.IdiomStrings
import Derived.Lib.BufferRead
namespace Go.Proofs.Ytfnjadiibiedgab
open Go.RowKit

theorem Try.infoByte : (Try.prog.info? 5).map (fun i => (i.zero, i.size, i.bytes)) = some (some (.int .u8 0), 1, 1) := by kernel_rfl

/-- The cells of bytes. -/
def cellsB (l : List UInt8) : List Value := l.map fun c => Value.int .u8 (c.toNat : Int)
/-- The value v is a row of bytes of the call's own. -/
def OwnsB (w : World) (base : Nat) (v : Value) (l : List UInt8) : Prop := w.ownsRow base 5 1 v l.length (cellsB l)

theorem OwnsB.push {w : World} {base : Nat} {v : Value} {l : List UInt8} {x : Int} {c : UInt8} (h : w.ownsRow base 5 1 v (l.length + 1) (cellsB l ++ [.int .u8 x])) (hx : x = c.toNat) : OwnsB w base v (l ++ [c]) := by
  unfold OwnsB cellsB at *
  rw [List.length_append, List.map_append]
  subst hx
  exact h

def AppendPost (base : Nat) (w : World) (l : List UInt8) (e : Ending) (w' : World) : Prop :=
  ∃ v', e = .returned v' ∧ OwnsB w' base v' l ∧ Below base w w'

theorem OwnsB.nil (w : World) (base : Nat) : OwnsB w base (.slice none 0 0) [] := World.ownsRow_nil w base _ 1

def StrPost (s : ByteArray) (w : World) (e : Ending) (w' : World) : Prop := e = .returned (.string s) ∧ Below w.heap.size w w'

theorem numS_neg {n : Int} (h : n < 0) : numS n = ByteArray.empty := by unfold numS; rw [if_pos h]
theorem numS_nat {n : Int} (h : 0 ≤ n) : numS n = ⟨(numL n.toNat).toArray⟩ := by unfold numS; rw [if_neg (by omega)]

end Go.Proofs.Ytfnjadiibiedgab
