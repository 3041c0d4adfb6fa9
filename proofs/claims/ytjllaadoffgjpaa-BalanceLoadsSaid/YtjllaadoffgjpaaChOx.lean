/-
  CONTRACTS: Same of ints; the statements' one.
-/
import Derived.Test.YtjllaadoffgjpaaChOw
import Derived.Deep.RegionHeld3
namespace Go.Proofs.Ytjllaadoffgjpaa
open Go.RowKit Go.Shelf Go.ChangeShapes Go.WideShapes Go.Deep

theorem RArg.int {w : World} {a : Option Addr} {n c : Nat} {l : List Int} (h : RArg encI 1 w a n c l) {k : Nat} (hk : k < l.length) :
    ∃ b off, a = some ⟨b, off, none⟩ ∧ b < w.heap.size ∧ w.cell? ⟨b, off + k, none⟩ = some (.int .i64 l[k]!) := by
  obtain ⟨b, off, e, hb, hc⟩ := h.2.2.2.2 k hk
  have := hc 0 _ rfl
  rw [Nat.mul_one, Nat.add_zero] at this
  exact ⟨b, off, e, hb, this⟩
set_option maxRecDepth 100000 in
set_option maxHeartbeats 1000000 in
theorem sameZ_any (a b : Option Addr) (n m c d : Nat) (l : List Int) (w : World) (hA : RArg encI 1 w a n c l) (hB : RArg encI 1 w b m d l) :
    Calls Try.prog 16 #[.slice a n c, .slice b m d] w (Gives w (.bool true)) := by
  have hp := Lib.hid hA
  have hq := Lib.hid hB
  obtain ⟨rfl, zn, hc1, hc2, _⟩ := hA
  obtain ⟨rfl, zm, hd1, hd2, _⟩ := hB
  go_enter Try.func16, Try.ntmps16
  go_wp2_with fail
  go_loopw [5] (fun i wr => ∃ (j : Nat), i = .int .i64 (j : Int) ∧ j ≤ l.length ∧ Below w.heap.size w wr)
    (fun i _ => l.length - (intOf i).toNat)
  case atStart => exact ⟨0, rfl, by omega, Below.refl _ _⟩
  case round =>
    obtain ⟨j, rfl, hj, hbl⟩ := hrel
    by_cases hlt : j < l.length
    · obtain ⟨b1, o1, e1, _, x0⟩ := (hp.out.below hbl).int hlt
      obtain ⟨b2, o2, e2, _, y0⟩ := (hq.out.below hbl).int hlt
      subst e1
      subst e2
      generalize l[j]! = s at x0 y0
      have hltz : (j : Int) < (l.length : Int) := by omega
      go_wp2_with fail
      go_quiet (fail)
      go_wp2
      go_roundw
      case rel => exact ⟨j + 1, by go_num, by omega, below_drewN hbl _⟩
      case measure => simp [intOf]; omega
    · have hltz : ¬ (j : Int) < (l.length : Int) := by omega
      go_wp2
      go_ret
      exact ⟨rfl, hbl⟩
theorem shard_new (w : World) (i lo hi nd : Int) (t : TypeId) : RArg encS 4 (w.alloc (.cells #[.int .i64 i, .int .i64 lo, .int .i64 hi, .int .i64 nd] t)) (some ⟨w.heap.size, 0, none⟩) 1 1 [(i, lo, hi, nd)] := by
  refine ⟨rfl, by simp, by simp, by unfold maxLen; omega, fun j hj => ?_⟩
  have hj0 : j = 0 := by simpa using hj
  subst hj0
  refine ⟨w.heap.size, 0, rfl, by simp, fun q v hv => ?_⟩
  have hh := heap_alloc_new w (.cells #[.int .i64 i, .int .i64 lo, .int .i64 hi, .int .i64 nd] t)
  match q, hv with
  | 0, hv => simp [encS] at hv; subst hv; exact cell_of_row _ _ 0 _ _ _ hh
  | 1, hv => simp [encS] at hv; subst hv; exact cell_of_row _ _ 1 _ _ _ hh
  | 2, hv => simp [encS] at hv; subst hv; exact cell_of_row _ _ 2 _ _ _ hh
  | 3, hv => simp [encS] at hv; subst hv; exact cell_of_row _ _ 3 _ _ _ hh
theorem RArg.one {w : World} {b off n c : Nat} {l : List Sd} (h : RArg encS 4 w (some ⟨b, off, none⟩) n c l) {k : Nat} (hk : k < l.length) {s : Sd} (hs : l[k]! = s) : RArg encS 4 w (some ⟨b, off + k * 4, none⟩) 1 (c - k) [s] := by
  obtain ⟨h1, h2, h3, h4, h5⟩ := h
  refine ⟨rfl, by simp, by simp; omega, by omega, fun j hj => ?_⟩
  have hj0 : j = 0 := by simpa using hj
  subst hj0
  obtain ⟨b', off', e, hb, hc⟩ := h5 k hk
  cases e
  refine ⟨b, off + k * 4, rfl, hb, fun q v hv => ?_⟩
  rw [Nat.zero_mul, Nat.add_zero]
  exact hc q v (by rw [hs]; exact hv)
end Go.Proofs.Ytjllaadoffgjpaa
