/-
  CONTRACTS over lists of whole numbers: vint's List (written), the reader's List (read), the document's List.
-/
import Derived.Test.YtfnjadiibiedgaaLists
namespace Go.Proofs.Ytfnjadiibiedgaa
open Go.RowKit

theorem Try.infoInt : (Try.prog.info? 3).map (fun i => (i.zero, i.size, i.bytes)) = some (some (.int .i64 0), 1, 8) := by kernel_rfl

/-- The value v is a row of whole numbers of the call's own. -/
def OwnsI (w : World) (base : Nat) (v : Value) (l : List Int) : Prop := w.ownsRow base 3 1 v l.length (l.map (Value.int .i64))
theorem OwnsI.nil (w : World) (base : Nat) : OwnsI w base (.slice none 0 0) [] := World.ownsRow_nil w base _ 1
theorem OwnsI.push {w : World} {base : Nat} {v : Value} {l : List Int} {x : Int} (h : w.ownsRow base 3 1 v (l.length + 1) (l.map (Value.int .i64) ++ [.int .i64 x])) : OwnsI w base v (l ++ [x]) := by
  unfold OwnsI
  rw [List.length_append, List.map_append]
  exact h

theorem grown_over {w0 w1 w2 : World} {g : Nat} {row : Option Nat} (h : w0.grownBy w1 (some g)) (h2 : w1.grownBy w2 row) (hr : ∀ k, row = some k → w0.heap.size ≤ k) : w0.grownBy w2 (some g) :=
  ⟨h2.os.trans h.os, h2.tape.trans h.tape, h2.output.trans h.output, Nat.le_trans h.size h2.size, fun k hk hg =>
    (h2.block k (by have := h.size; omega) (fun e => by have := hr k e.symm; omega)).trans (h.block k hk hg)⟩

def ListPost (w : World) (g : Nat) (l : List Int) (r : ByteArray × Int) (e : Ending) (w' : World) : Prop :=
  ∃ v', e = .returned v' ∧ OwnsI w' w.heap.size v' l ∧ Rd w' g r.1 r.2 ∧ w.grownBy w' (some g)

theorem rWhole_size (s : ByteArray) (e : Int) : (rWhole s e).2.1.size ≤ s.size := rNum_size s e
theorem rWhole_less {s : ByteArray} {e : Int} (h : (rWhole s e).2.2 = 0) : (rWhole s e).2.1.size + 1 ≤ s.size := rNum_less h

theorem rInts_go {n : Nat} {acc : List Int} {s : ByteArray} {e : Int} (h : (rWhole s e).2.2 = 0) : rInts (n + 1) acc s e = rInts n (acc ++ [(rWhole s e).1]) (rWhole s e).2.1 (rWhole s e).2.2 := by
  rw [rInts, if_pos h]
theorem rInts_stop {n : Nat} {acc : List Int} {s : ByteArray} {e : Int} (h : (rWhole s e).2.2 ≠ 0) : rInts (n + 1) acc s e = ([], (rWhole s e).2) := by
  rw [rInts, if_neg h]

/-- The whole numbers zs lie where the slice value leads. -/
def IntsIn (w : World) (a : Option Addr) (zs : List Int) : Prop :=
  zs = [] ∨ ∃ b off, a = some ⟨b, off, none⟩ ∧ b < w.heap.size ∧ ∀ k, k < zs.length → w.cell? ⟨b, off + k, none⟩ = some (.int .i64 (zs.getD k 0))

/-- The bytes of a list, behind its length. -/
def wholesL : List Int → List UInt8
  | [] => []
  | z :: r => numL (foldZ z).toNat ++ wholesL r
def listS (l : List Int) : ByteArray := if l.all mayZ then ⟨(numL l.length ++ wholesL l).toArray⟩ else ByteArray.empty
end Go.Proofs.Ytfnjadiibiedgaa
