/-
  THE WALKS of the laws VintNums, VintTexts, VintRises, VintFolds: each returns true, and writes nothing that was there.
-/
import Derived.Test.YtjeeplacolbihaaRefList
import Derived.ProofKit
import Derived.OpenShut
namespace Go.Proofs.Ytjeeplacolbihaa
open Go.RowKit

theorem below_add {B : Nat} {w w1 w2 : World} (h : Below B w w1) (hB : B ≤ w1.heap.size) (h2 : Below w1.heap.size w1 w2) : Below B w w2 := h.trans (h2.mono hB)
/-- One step more, from the world's own size. -/
theorem below_next {w w1 w2 : World} (h : Below w.heap.size w w1) (h2 : Below w1.heap.size w1 w2) : Below w.heap.size w w2 := h.trans (h2.mono h.size)

/-- What a walk is told of a slice of integers that came in: its len elements are zs. -/
def IntsArg (w : World) (a : Option Addr) (len : Nat) (zs : List Int) : Prop :=
  zs.length = len ∧ IntsIn w a zs ∧ ∀ z ∈ zs, -9223372036854775808 ≤ z ∧ z ≤ 9223372036854775807
theorem IntsArg.nil (w : World) (a : Option Addr) : IntsArg w a 0 [] := ⟨rfl, .inl rfl, by simp⟩
theorem IntsArg.of_row {w : World} {x : Addr} {len cap : Nat} {zs : List Int} (hl : len ≤ cap) (_hm : cap ≤ maxLen) (hz : zs.length = cap)
    (hcell : ∀ i, i < zs.length → w.cell? (x.add i) = some (.int .i64 (zs.getD i 0))) (hwz : ∀ n ∈ zs, (Lit.int .i64 n).wf = true) : IntsArg w (some x) len (zs.take len) := by
  refine ⟨by rw [List.length_take]; omega, ?_, fun z h => bounds_i64 (hwz z (List.mem_of_mem_take h))⟩
  by_cases h0 : len = 0
  · subst h0; exact .inl (by simp)
  · refine .inr ?_
    obtain ⟨b, off, spot⟩ := x
    have hc := hcell 0 (by omega)
    have hspot : spot = none := by simpa [Addr.add] using World.cell?_spot hc
    subst hspot
    refine ⟨b, off, rfl, World.block_lt_of_cell? w _ (by simpa [Addr.add] using hc), fun k hk => ?_⟩
    rw [List.length_take] at hk
    have h1 := hcell k (by omega)
    have h2 : (zs.take len).getD k 0 = zs.getD k 0 := by
      simp only [List.getD, List.getElem?_take]
      rw [if_pos (by omega)]
    rw [h2, ← h1]
    by_cases hk0 : k = 0
    · subst hk0; simp [Addr.add]
    · simp [Addr.add, hk0]

set_option maxHeartbeats 1000000 in
theorem vintNums_walk (n z : Int) (b : Bool) (w : World) (n1 : (Lit.int .i64 n).wf = true) (_z1 : (Lit.int .i64 z).wf = true) :
    Calls Try.prog 3 #[.int .i64 n, .int .i64 z, .bool b] w fun e w' => e = .returned (.bool true) ∧ Below w.heap.size w w' := by
  have n2 := (bounds_i64 n1).2
  clear n1
  go_enter Try.func3, Try.ntmps3
  go_wp2_with (first
    | (go_at_call 15; refine (awake1_any _).mono ?_; rintro e w0 ⟨rfl, B0⟩)
    | (go_at_call 16; refine (num_any n _ n2).mono ?_; rintro e w1 ⟨rfl, B1⟩)
    | (go_at_call 17; refine (refNum_any n _ n2).mono ?_; rintro e w2 ⟨rfl, B2⟩)
    | (go_at_call 18; refine (whole_any z _).mono ?_; rintro e w3 ⟨rfl, B3⟩)
    | (go_at_call 19; refine (refWhole_any z _).mono ?_; rintro e w4 ⟨rfl, B4⟩)
    | (go_at_call 20; refine (flag_any b _).mono ?_; rintro e w5 ⟨rfl, rfl⟩)
    | (go_at_call 21; refine (refFlag_any b _).mono ?_; rintro e w6 ⟨rfl, rfl⟩))
  go_ret
  exact ⟨rfl, below_next (below_next (below_next (below_next B0 B1) B2) B3) B4⟩
end Go.Proofs.Ytjeeplacolbihaa
