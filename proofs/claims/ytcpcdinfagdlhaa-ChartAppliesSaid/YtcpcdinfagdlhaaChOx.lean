/-
  CONTRACTS: Same of ints; the statements' one.
-/
import Derived.Test.YtcpcdinfagdlhaaChOw
import Derived.Deep.RegionHeld3
namespace Go.Proofs.Ytcpcdinfagdlhaa
open Go.RowKit Go.Shelf Go.ChangeShapes Go.WideShapes Go.Deep

theorem RArg.int {w : World} {a : Option Addr} {n c : Nat} {l : List Int} (h : RArg encI 1 w a n c l) {k : Nat} (hk : k < l.length) :
    ∃ b off, a = some ⟨b, off, none⟩ ∧ b < w.heap.size ∧ w.cell? ⟨b, off + k, none⟩ = some (.int .i64 l[k]!) := by
  obtain ⟨b, off, e, hb, hc⟩ := h.2.2.2.2 k hk
  have := hc 0 _ rfl
  rw [Nat.mul_one, Nat.add_zero] at this
  exact ⟨b, off, e, hb, this⟩
set_option maxRecDepth 100000 in
set_option maxHeartbeats 1000000 in
theorem sameZ_any (a b : Option Addr) (n m c d : Nat) (l : List Int) (w : World) (hA : RArg encI 1 w a n c l) (hB : RArg encI 1 w b m d l) :
    Calls Try.prog 21 #[.slice a n c, .slice b m d] w (Gives w (.bool true)) := by
  have hp := Lib.hid hA
  have hq := Lib.hid hB
  obtain ⟨rfl, zn, hc1, hc2, _⟩ := hA
  obtain ⟨rfl, zm, hd1, hd2, _⟩ := hB
  go_enter Try.func21, Try.ntmps21
  go_wp2_with fail
  go_loopw [5] (fun i wr => ∃ (j : Nat), i = .int .i64 (j : Int) ∧ j ≤ l.length ∧ Below w.heap.size w wr)
    (fun i _ => l.length - (intOf i).toNat)
  case atStart => exact ⟨0, rfl, by omega, Below.refl _ _⟩
  case round =>
    obtain ⟨j, rfl, hj, hbl⟩ := hrel
    by_cases hlt : j < l.length
    · obtain ⟨b1, o1, e1, _, x0⟩ := (hp.out.below hbl).int hlt
      obtain ⟨b2, o2, e2, _, y0⟩ := (hq.out.below hbl).int hlt
      subst e1
      subst e2
      generalize l[j]! = s at x0 y0
      have hltz : (j : Int) < (l.length : Int) := by omega
      go_wp2_with fail
      go_quiet (fail)
      go_wp2
      go_roundw
      case rel => exact ⟨j + 1, by go_num, by omega, below_drewN hbl _⟩
      case measure => simp [intOf]; omega
    · have hltz : ¬ (j : Int) < (l.length : Int) := by omega
      go_wp2
      go_ret
      exact ⟨rfl, hbl⟩
theorem shard_new (w : World) (i lo hi nd : Int) (t : TypeId) : RArg encS 4 (w.alloc (.cells #[.int .i64 i, .int .i64 lo, .int .i64 hi, .int .i64 nd] t)) (some ⟨w.heap.size, 0, none⟩) 1 1 [(i, lo, hi, nd)] := by
  refine ⟨rfl, by simp, by simp, by unfold maxLen; omega, fun j hj => ?_⟩
  have hj0 : j = 0 := by simpa using hj
  subst hj0
  refine ⟨w.heap.size, 0, rfl, by simp, fun q v hv => ?_⟩
  have hh := heap_alloc_new w (.cells #[.int .i64 i, .int .i64 lo, .int .i64 hi, .int .i64 nd] t)
  match q, hv with
  | 0, hv => simp [encS] at hv; subst hv; exact cell_of_row _ _ 0 _ _ _ hh
  | 1, hv => simp [encS] at hv; subst hv; exact cell_of_row _ _ 1 _ _ _ hh
  | 2, hv => simp [encS] at hv; subst hv; exact cell_of_row _ _ 2 _ _ _ hh
  | 3, hv => simp [encS] at hv; subst hv; exact cell_of_row _ _ 3 _ _ _ hh
theorem RArg.one {w : World} {b off n c : Nat} {l : List Sd} (h : RArg encS 4 w (some ⟨b, off, none⟩) n c l) {k : Nat} (hk : k < l.length) {s : Sd} (hs : l[k]! = s) : RArg encS 4 w (some ⟨b, off + k * 4, none⟩) 1 (c - k) [s] := by
  obtain ⟨h1, h2, h3, h4, h5⟩ := h
  refine ⟨rfl, by simp, by simp; omega, by omega, fun j hj => ?_⟩
  have hj0 : j = 0 := by simpa using hj
  subst hj0
  obtain ⟨b', off', e, hb, hc⟩ := h5 k hk
  cases e
  refine ⟨b, off + k * 4, rfl, hb, fun q v hv => ?_⟩
  rw [Nat.zero_mul, Nat.add_zero]
  exact hc q v (by rw [hs]; exact hv)
set_option maxRecDepth 100000 in
set_option maxHeartbeats 2000000 in
theorem one_none (ep nx : Int) (a : Option Addr) (n c : Nat) (w : World) :
    Calls Try.prog 16 #[.agg #[.int .i64 0, .int .i64 0, .int .i64 0, .int .i64 0], .bool false, .agg #[.int .i64 ep, .int .i64 nx, .slice a n c], .int .i64 (-1)] w (Gives w (.bool true)) := by
  have EQ := fun W => eqSd (0, 0, 0, 0) (0, 0, 0, 0) W
  rw [show eqSB (0, 0, 0, 0) (0, 0, 0, 0) = true from rfl] at EQ
  dsimp only at EQ
  go_enter Try.func16, Try.ntmps16
  go_wp2_with fail
  go_ret
  exact ⟨rfl, ((Below.refl _ _).alloc (Nat.le_refl _) _).alloc (by simp) _⟩
set_option maxRecDepth 100000 in
set_option maxHeartbeats 4000000 in
theorem one_some (ep nx i lo hi nd : Int) (k : Nat) (a : Option Addr) (n c : Nat) (l : List Sd) (w : World) (h : RArg encS 4 w a n c l) (hk : k < l.length) (hs : l[k]! = (i, lo, hi, nd)) :
    Calls Try.prog 16 #[.agg #[.int .i64 i, .int .i64 lo, .int .i64 hi, .int .i64 nd], .bool true, .agg #[.int .i64 ep, .int .i64 nx, .slice a n c], .int .i64 (k : Int)] w (Gives w (.bool true)) := by
  obtain ⟨b, off, e, hb, _⟩ := h.2.2.2.2 k hk
  subst e
  have hn := Lib.hid h.1
  have hlz : (l.length : Int) ≤ 9223372036854775807 := h.2.1
  have hlc : l.length ≤ c := h.2.2.1
  have hcm : c ≤ maxLen := h.2.2.2.1
  have hcm2 : (c : Int) ≤ 9223372036854775807 := by unfold maxLen at hcm; omega
  obtain ⟨W1, hW1⟩ : ∃ W1, w.alloc (.cells #[.int .i64 i, .int .i64 lo, .int .i64 hi, .int .i64 nd] 35) = W1 := ⟨_, rfl⟩
  have b1 : Below w.heap.size w W1 := by rw [← hW1]; exact (Below.refl _ _).alloc (Nat.le_refl _) _
  have g1 : w.heap.size < W1.heap.size := by rw [← hW1]; simp
  have hr1 : W1.heap[w.heap.size]? = some (.cells #[.int .i64 i, .int .i64 lo, .int .i64 hi, .int .i64 nd] 35) := by rw [← hW1]; exact heap_alloc_new _ _
  obtain ⟨W2, hW2⟩ : ∃ W2, W1.alloc (.cells #[.int .i64 ep, .int .i64 nx, .slice (some ⟨b, off, none⟩) n c] 30) = W2 := ⟨_, rfl⟩
  have b2 : Below W1.heap.size W1 W2 := by rw [← hW2]; exact (Below.refl _ _).alloc (Nat.le_refl _) _
  have g2 : W1.heap.size < W2.heap.size := by rw [← hW2]; simp
  have hr2 : W2.heap[W1.heap.size]? = some (.cells #[.int .i64 ep, .int .i64 nx, .slice (some ⟨b, off, none⟩) n c] 30) := by rw [← hW2]; exact heap_alloc_new _ _
  have hr12 := (b2.block _ g1).trans hr1
  have B2 := below_next b1 b2
  have KD := Lib.hid (fun W (hb : Below W2.heap.size W2 W) => (show (W.cell? ⟨w.heap.size, 0, none⟩ = some (.int .i64 i) ∧ W.cell? ⟨w.heap.size, 1, none⟩ = some (.int .i64 lo) ∧ W.cell? ⟨w.heap.size, 2, none⟩ = some (.int .i64 hi) ∧ W.cell? ⟨w.heap.size, 3, none⟩ = some (.int .i64 nd)) ∧ W.cell? ⟨W1.heap.size, 2, none⟩ = some (.slice (some ⟨b, off, none⟩) n c) from
    have h1 := (hb.block _ (Nat.lt_trans g1 g2)).trans hr12
    ⟨⟨cell_of_row _ _ 0 _ _ _ h1, cell_of_row _ _ 1 _ _ _ h1, cell_of_row _ _ 2 _ _ _ h1, cell_of_row _ _ 3 _ _ _ h1⟩, cell_of_row _ _ 2 _ _ _ ((hb.block _ g2).trans hr2)⟩))
  have HR := Lib.hid (fun W (hb : Below W2.heap.size W2 W) => ((h.below B2).below hb).one hk hs)
  have hkz : ¬ (k : Int) < 0 := by omega
  have e1 : decide ((k : Int) < 0) = false := decide_eq_false hkz
  have e2 : (0 : Int) ≤ (k : Int) := by omega
  have e3 : (k : Int) + 1 ≤ (c : Int) := by omega
  have e4 : (k : Int) ≤ (k : Int) + 1 := by omega
  have e5 : IntKind.i64.wrap ((k : Int) + 1) = (k : Int) + 1 := IntWalk.i64_in _ (by omega)
  have e6 : ¬ c = k := by omega
  have HB := Lib.hid (Below.refl W2.heap.size W2)
  clear h hr1 hr2 hr12 hs
  go_enter Try.func16, Try.ntmps16
  go_wp2_with fail
  replace hW1 := Lib.hid hW1
  replace hW2 := Lib.hid hW2
  (first | go_region_held3 (fun W => (W.cell? ⟨w.heap.size, 0, none⟩ = some (.int .i64 i) ∧ W.cell? ⟨w.heap.size, 1, none⟩ = some (.int .i64 lo) ∧ W.cell? ⟨w.heap.size, 2, none⟩ = some (.int .i64 hi) ∧ W.cell? ⟨w.heap.size, 3, none⟩ = some (.int .i64 nd)) ∧ W.cell? ⟨W1.heap.size, 2, none⟩ = some (.slice (some ⟨b, off, none⟩) n c)) (exact KD.out _ (below_next HB.out (by repeat (first | with_reducible exact Below.refl _ _ | with_reducible refine toDK ?_ | with_reducible refine Below.alloc ?_ (by first | exact Nat.le_refl _ | omega | (simp; omega)) _ | with_reducible refine Below.setCell ?_ (by first | with_reducible exact Nat.le_refl _ | (dsimp only; omega)) _)))) ((first
    | (go_at_call 29; (with_reducible refine (refs8_any (some ⟨W2.heap.size, 0, none⟩) 1 1 [(i, lo, hi, nd)] _ (by simp) ((shard_new _ i lo hi nd _).below (toDK (Below.refl _ _)))).mono ?_); rintro e w8 ⟨a8, n8, c8, rfl, h8, _, b8⟩; have HA8 := Lib.hid (fun W (hq : Below w8.heap.size w8 W) => h8.below hq); replace HB := Lib.hid (below_next (below_next HB.out (by repeat (first | with_reducible exact Below.refl _ _ | with_reducible refine toDK ?_ | with_reducible refine Below.alloc ?_ (by first | exact Nat.le_refl _ | omega | (simp; omega)) _ | with_reducible refine Below.setCell ?_ (by first | with_reducible exact Nat.le_refl _ | (dsimp only; omega)) _))) b8); clear h8 b8)
    | (go_at_call 28; (with_reducible refine (samel8_any a8 (some ⟨b, off + k * 4, none⟩) n8 1 c8 (c - k) [(i, lo, hi, nd)] _ (HA8.out _ (by repeat (first | with_reducible exact Below.refl _ _ | with_reducible refine toDK ?_ | with_reducible refine Below.alloc ?_ (by first | exact Nat.le_refl _ | omega | (simp; omega)) _ | with_reducible refine Below.setCell ?_ (by first | with_reducible exact Nat.le_refl _ | (dsimp only; omega)) _))) (HR.out _ (below_next HB.out (by repeat (first | with_reducible exact Below.refl _ _ | with_reducible refine toDK ?_ | with_reducible refine Below.alloc ?_ (by first | exact Nat.le_refl _ | omega | (simp; omega)) _ | with_reducible refine Below.setCell ?_ (by first | with_reducible exact Nat.le_refl _ | (dsimp only; omega)) _))))).mono ?_); rintro e w9 ⟨rfl, b9⟩; replace HB := Lib.hid (below_next (below_next HB.out (by repeat (first | with_reducible exact Below.refl _ _ | with_reducible refine toDK ?_ | with_reducible refine Below.alloc ?_ (by first | exact Nat.le_refl _ | omega | (simp; omega)) _ | with_reducible refine Below.setCell ?_ (by first | with_reducible exact Nat.le_refl _ | (dsimp only; omega)) _))) b9); clear b9))) | fail)
  all_goals
    go_wp2_with fail
    go_ret
    exact ⟨rfl, below_next B2 (below_next HB.out (by repeat (first | with_reducible exact Below.refl _ _ | with_reducible refine toDK ?_ | with_reducible refine Below.alloc ?_ (by first | exact Nat.le_refl _ | omega | (simp; omega)) _ | with_reducible refine Below.setCell ?_ (by first | with_reducible exact Nat.le_refl _ | (dsimp only; omega)) _)))⟩
end Go.Proofs.Ytcpcdinfagdlhaa
