/-
  SMALL WORDS: what a law's walk ends in; worlds one behind the other; a slice of integers that came in.
-/
import Derived.Test.YtjeeplacolbihabListW
import Derived.ProofKit
import Derived.OpenShut
namespace Go.Proofs.Ytjeeplacolbihab
open Go.RowKit

def TruePost (w : World) (e : Ending) (w' : World) : Prop := e = .returned (.bool true) ∧ Below w.heap.size w w'

theorem Rd.below {w w' : World} {g : Nat} {s : ByteArray} {e : Int} (h : Rd w g s e) (hb : Below w.heap.size w w') : Rd w' g s e := h.same (hb.block g h.lt)
theorem below_add {B : Nat} {w w1 w2 : World} (h : Below B w w1) (hB : B ≤ w1.heap.size) (h2 : Below w1.heap.size w1 w2) : Below B w w2 := h.trans (h2.mono hB)
/-- One step more, from the world's own size. -/
theorem below_next {w w1 w2 : World} (h : Below w.heap.size w w1) (h2 : Below w1.heap.size w1 w2) : Below w.heap.size w w2 := h.trans (h2.mono h.size)

/-- What a walk is told of a slice of integers that came in: its len elements are zs. -/
def IntsArg (w : World) (a : Option Addr) (len : Nat) (zs : List Int) : Prop :=
  zs.length = len ∧ IntsIn w a zs ∧ (∀ z ∈ zs, -9223372036854775808 ≤ z ∧ z ≤ 9223372036854775807) ∧ (zs.length : Int) ≤ 9223372036854775807
theorem IntsArg.nil (w : World) (a : Option Addr) : IntsArg w a 0 [] := ⟨rfl, .inl rfl, by simp, by simp⟩
theorem IntsArg.of_row {w : World} {x : Addr} {len cap : Nat} {zs : List Int} (hl : len ≤ cap) (hm : cap ≤ maxLen) (hz : zs.length = cap)
    (hcell : ∀ i, i < zs.length → w.cell? (x.add i) = some (.int .i64 (zs.getD i 0))) (hwz : ∀ n ∈ zs, (Lit.int .i64 n).wf = true) : IntsArg w (some x) len (zs.take len) := by
  refine ⟨by rw [List.length_take]; omega, ?_, fun z h => bounds_i64 (hwz z (List.mem_of_mem_take h)), by rw [List.length_take]; unfold maxLen at hm; omega⟩
  by_cases h0 : len = 0
  · subst h0; exact .inl (by simp)
  · refine .inr ?_
    obtain ⟨b, off, spot⟩ := x
    have hc := hcell 0 (by omega)
    have hspot : spot = none := by simpa [Addr.add] using World.cell?_spot hc
    subst hspot
    refine ⟨b, off, rfl, World.block_lt_of_cell? w _ (by simpa [Addr.add] using hc), fun k hk => ?_⟩
    rw [List.length_take] at hk
    have h1 := hcell k (by omega)
    have h2 : (zs.take len).getD k 0 = zs.getD k 0 := by
      simp only [List.getD, List.getElem?_take]
      rw [if_pos (by omega)]
    rw [h2, ← h1]
    by_cases hk0 : k = 0
    · subst hk0; simp [Addr.add]
    · simp [Addr.add, hk0]

theorem IntsIn.below {w w' : World} {a : Option Addr} {zs : List Int} (h : IntsIn w a zs) (hb : Below w.heap.size w w') : IntsIn w' a zs := by
  rcases h with h | ⟨b, off, ha, hlt, hc⟩
  · exact .inl h
  · exact .inr ⟨b, off, ha, Nat.lt_of_lt_of_le hlt hb.size, fun k hk => (hb.cell (by exact hlt)).trans (hc k hk)⟩

end Go.Proofs.Ytjeeplacolbihab
