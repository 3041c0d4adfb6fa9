/-
  A TREE IN MEMORY: cells, leaves, nodes in one block; contracts of number, kids.
-/
import Derived.Test.YtjjadappjapjhaaMkB
import Derived.Laws.Tables
import Derived.Laws.CopyOwn
namespace Go.Proofs.Ytjjadappjapjhaa
open Go.RowKit

/-- What a tree's block holds. -/
structure TrA (A : Array Value) (C : Nat → Option Int) (L : Nat → BitVec 32) (N : Nat → Nat → BitVec 32) : Prop where
  sz : A.size = 13056
  c0 : ∀ k, k < 4096 → A[2 * k]? = some (.int .i64 ((C k).getD 0))
  c1 : ∀ k, k < 4096 → A[2 * k + 1]? = some (.bool (C k).isSome)
  lf : ∀ k, k < 4096 → A[8192 + k]? = some (.int .u32 (regI (L k)))
  nd : ∀ l i, l < 3 → i < 256 → A[12288 + l * 256 + i]? = some (.int .u32 (regI (N l i)))
def TreeAt (w : World) (b : Nat) (C : Nat → Option Int) (L : Nat → BitVec 32) (N : Nat → Nat → BitVec 32) : Prop :=
  ∃ A, w.heap[b]? = some (.cells A 89 (0, 0)) ∧ TrA A C L N
theorem TreeAt.lt {w : World} {b : Nat} {C : Nat → Option Int} {L : Nat → BitVec 32} {N : Nat → Nat → BitVec 32} (h : TreeAt w b C L N) : b < w.heap.size := by
  obtain ⟨A, h, _⟩ := h
  rcases Nat.lt_or_ge b w.heap.size with hlt | hge
  · exact hlt
  · rw [Array.getElem?_eq_none hge] at h; cases h
theorem TreeAt.same {w w' : World} {b : Nat} {C : Nat → Option Int} {L : Nat → BitVec 32} {N : Nat → Nat → BitVec 32} (h : TreeAt w b C L N) (he : w'.heap[b]? = w.heap[b]?) : TreeAt w' b C L N := by
  obtain ⟨A, h, t⟩ := h
  exact ⟨A, he.trans h, t⟩
theorem TreeAt.below {w w' : World} {b : Nat} {C : Nat → Option Int} {L : Nat → BitVec 32} {N : Nat → Nat → BitVec 32} (h : TreeAt w b C L N) (hb : Below w.heap.size w w') : TreeAt w' b C L N := h.same (hb.block b h.lt)
theorem TreeAt.leaf {w : World} {b : Nat} {C : Nat → Option Int} {L : Nat → BitVec 32} {N : Nat → Nat → BitVec 32} (h : TreeAt w b C L N) {k : Nat} (hk : k < 4096) : w.cell? ⟨b, 8192 + k, none⟩ = some (.int .u32 (regI (L k))) := by
  obtain ⟨A, h, t⟩ := h
  rw [cell_of_row w b _ A _ _ h]; exact t.lf k hk
theorem TreeAt.node {w : World} {b : Nat} {C : Nat → Option Int} {L : Nat → BitVec 32} {N : Nat → Nat → BitVec 32} (h : TreeAt w b C L N) {l i : Nat} (hl : l < 3) (hi : i < 256) : w.cell? ⟨b, 12288 + l * 256 + i, none⟩ = some (.int .u32 (regI (N l i))) := by
  obtain ⟨A, h, t⟩ := h
  rw [cell_of_row w b _ A _ _ h]; exact t.nd l i hl hi
theorem TreeAt.cells {w : World} {b : Nat} {C : Nat → Option Int} {L : Nat → BitVec 32} {N : Nat → Nat → BitVec 32} (h : TreeAt w b C L N) {k : Nat} (hk : k < 4096) : w.cell? ⟨b, k * 2, none⟩ = some (.int .i64 ((C k).getD 0)) ∧ w.cell? ⟨b, k * 2 + 1, none⟩ = some (.bool (C k).isSome) := by
  obtain ⟨A, h, t⟩ := h
  rw [cell_of_row w b _ A _ _ h, cell_of_row w b _ A _ _ h, Nat.mul_comm k 2]
  exact ⟨t.c0 k hk, t.c1 k hk⟩
/-- The number of a node, or of a leaf. -/
def nmF (L : Nat → BitVec 32) (N : Nat → Nat → BitVec 32) (l k : Nat) : BitVec 32 := match l with
  | 0 => L k
  | l + 1 => N l k
theorem numberL_any (b k : Nat) (C : Nat → Option Int) (L : Nat → BitVec 32) (N : Nat → Nat → BitVec 32) (w : World) (h : TreeAt w b C L N) (hk : k < 4096) :
    Calls Try.prog 51 #[.pointer (some ⟨b, 0, none⟩), .int .i64 (-1), .int .i64 (k : Int)] w fun e w' => e = .returned (.int .u32 (regI (L k))) ∧ w = w' := by
  have hc := h.leaf hk
  go_enter Try.func51, Try.ntmps51
  go_wp2_with fail
  go_ret
  exact ⟨rfl, rfl⟩
theorem numberN_any (b l k : Nat) (C : Nat → Option Int) (L : Nat → BitVec 32) (N : Nat → Nat → BitVec 32) (w : World) (h : TreeAt w b C L N) (hl : l < 3) (hk : k < 256) :
    Calls Try.prog 51 #[.pointer (some ⟨b, 0, none⟩), .int .i64 (l : Int), .int .i64 (k : Int)] w fun e w' => e = .returned (.int .u32 (regI (N l k))) ∧ w = w' := by
  have hc := h.node hl hk
  have hn : ((l : Int) == -1) = false := by simp
  go_enter Try.func51, Try.ntmps51
  go_wp2_with fail
  go_ret
  exact ⟨rfl, rfl⟩
theorem numberLK_any (b a i : Nat) (C : Nat → Option Int) (L : Nat → BitVec 32) (N : Nat → Nat → BitVec 32) (w : World) (h : TreeAt w b C L N) (hk : a * 16 + i < 4096) :
    Calls Try.prog 51 #[.pointer (some ⟨b, 0, none⟩), .int .i64 (-1), .int .i64 ((a : Int) * 16 + (i : Int))] w fun e w' => e = .returned (.int .u32 (regI (nmF L N 0 (a * 16 + i)))) ∧ w = w' := by
  have := numberL_any b (a * 16 + i) C L N w h hk
  rwa [Int.natCast_add, Int.natCast_mul] at this
theorem numberNK_any (b l a i : Nat) (C : Nat → Option Int) (L : Nat → BitVec 32) (N : Nat → Nat → BitVec 32) (w : World) (h : TreeAt w b C L N) (hl : l < 3) (hk : a * 16 + i < 256) :
    Calls Try.prog 51 #[.pointer (some ⟨b, 0, none⟩), .int .i64 (l : Int), .int .i64 ((a : Int) * 16 + (i : Int))] w fun e w' => e = .returned (.int .u32 (regI (nmF L N (l + 1) (a * 16 + i)))) ∧ w = w' := by
  have := numberN_any b l (a * 16 + i) C L N w h hl hk
  rwa [Int.natCast_add, Int.natCast_mul] at this
theorem below_grown {w w' : World} {row : Option Nat} (h : Below w.heap.size w w') : w.grownBy w' row := ⟨h.os, h.tape, h.output, h.size, fun k hk _ => h.block k hk⟩
theorem grown_setRow (w : World) (g : Nat) (cs : Array Value) : w.grownBy (w.setRow g cs) (some g) :=
  ⟨rfl, rfl, rfl, by simp, fun k _ hne => setRow_other w g k cs (fun e => hne (by rw [e]))⟩
/-- Kids, as far as they are filled in. -/
def fillK (f : Nat → BitVec 32) (k : Nat) : List (BitVec 32) := (List.range 16).map fun j => if j < k then f j else 0#32
theorem fillK_len (f : Nat → BitVec 32) (k : Nat) : (fillK f k).length = 16 := by simp [fillK]
theorem fillK_zero (f : Nat → BitVec 32) : fillK f 0 = List.replicate 16 0#32 := by simp [fillK]; rfl
theorem fillK_all (f : Nat → BitVec 32) : fillK f 16 = (List.range 16).map f := by
  unfold fillK
  apply List.map_congr_left
  intro j hj
  rw [if_pos (List.mem_range.1 hj)]
theorem fillK_set (f : Nat → BitVec 32) (k : Nat) (h : k < 16) : (arrK (fillK f k)).setIfInBounds k (.int .u32 (regI (f k))) = arrK (fillK f (k + 1)) := by
  unfold arrK fillK
  rw [← Array.toList_inj]
  simp only [Array.toList_setIfInBounds, List.map_map]
  apply List.ext_getElem?
  intro j
  rw [List.getElem?_set]
  by_cases hj : k = j
  · subst hj
    simp [h]
  · rw [if_neg hj]
    by_cases hj2 : j < 16
    · simp [hj2, show (j < k + 1) = (j < k) from propext ⟨fun _ => by omega, fun _ => by omega⟩]
    · simp [hj2]
theorem arrK_one (l : List (BitVec 32)) : (arrK l).all (·.oneCell') = true := by
  rw [Array.all_eq_true_iff_forall_mem]
  intro v hv
  simp [arrK] at hv
  obtain ⟨a, _, rfl⟩ := hv
  rfl
abbrev zero16 : Array Value := #[.int .u32 0, .int .u32 0, .int .u32 0, .int .u32 0, .int .u32 0, .int .u32 0, .int .u32 0, .int .u32 0, .int .u32 0, .int .u32 0, .int .u32 0, .int .u32 0, .int .u32 0, .int .u32 0, .int .u32 0, .int .u32 0]
theorem zero16_is (f : Nat → BitVec 32) : zero16 = arrK (fillK f 0) := by rw [fillK_zero]; rfl
theorem Try.size16 : (Try.prog.info? 101).map (·.size) = some 16 := by kernel_rfl
theorem Try.under16 : Try.prog.underlying 101 = some (.array 16 28) := by kernel_rfl
set_option maxRecDepth 100000 in
set_option maxHeartbeats 1000000 in
theorem kids_any (b l a : Nat) (C : Nat → Option Int) (L : Nat → BitVec 32) (N : Nat → Nat → BitVec 32) (w : World) (h : TreeAt w b C L N) (hl : l < 3) (ha : a < szM l) :
    Calls Try.prog 47 #[.pointer (some ⟨b, 0, none⟩), .int .i64 (l : Int), .int .i64 (a : Int)] w (Gives w (.agg (arrK (kidsF (nmF L N l) a)))) := by
  obtain ⟨f, hf⟩ : ∃ f : Nat → BitVec 32, (fun j => nmF L N l (a * 16 + j)) = f := ⟨_, rfl⟩
  have hfj : ∀ j, nmF L N l (a * 16 + j) = f j := fun j => by rw [← hf]
  have hkf : kidsF (nmF L N l) a = (List.range 16).map f := by unfold kidsF; rw [← hf]
  rw [hkf]
  obtain ⟨W1, hW1⟩ : ∃ W1, w.alloc (.cells zero16 101) = W1 := ⟨_, rfl⟩
  have b1 : Below w.heap.size w W1 := by rw [← hW1]; exact (Below.refl _ _).alloc (Nat.le_refl _) _
  have g1 : w.heap.size < W1.heap.size := by rw [← hW1]; simp
  have e1 : w.heap.size + 1 = W1.heap.size := by rw [← hW1]; simp
  have r1 : W1.heap[w.heap.size]? = some (.cells zero16 101 (0, 0)) := by rw [← hW1]; exact heap_alloc_new _ _
  obtain ⟨W2, hW2⟩ : ∃ W2, W1.alloc (.cells zero16 101) = W2 := ⟨_, rfl⟩
  have b2 : Below W1.heap.size W1 W2 := by rw [← hW2]; exact (Below.refl _ _).alloc (Nat.le_refl _) _
  have g2 : W1.heap.size < W2.heap.size := by rw [← hW2]; simp
  have r2 : W2.heap[W1.heap.size]? = some (.cells zero16 101 (0, 0)) := by rw [← hW2]; exact heap_alloc_new _ _
  have bw := below_next b1 b2
  have HT := Lib.hid (fun W (hg : W2.grownBy W (some W1.heap.size)) => (h.below bw).same (hg.block b (Nat.lt_of_lt_of_le h.lt bw.size) (fun e => by have := h.lt; injection e with e; omega)))
  have HR := Lib.hid (fun W (hg : W2.grownBy W (some W1.heap.size)) => (hg.block w.heap.size (Nat.lt_trans g1 g2) (fun e => by injection e with e; omega)).trans ((b2.block _ g1).trans r1))
  have HB := Lib.hid (fun W (hg : W2.grownBy W (some W1.heap.size)) => bw.grown hg bw.size (fun k hk => by injection hk with hk; omega))
  have R2 := Lib.hid r2
  have HF := Lib.hid hfj
  have HA := Lib.hid ha
  have ha256 : a < 256 := Nat.lt_of_lt_of_le ha (szM_le l)
  have G2 := Lib.hid g2
  clear h hf hfj hkf r1 r2 b1 b2 bw ha
  have hl3 : l = 0 ∨ l = 1 ∨ l = 2 := by omega
  rcases hl3 with rfl | rfl | rfl
  · show Calls Try.prog 47 #[.pointer (some ⟨b, 0, none⟩), .int .i64 0, .int .i64 (a : Int)] w _
    go_enter Try.func47, Try.ntmps47
    go_wp2_with fail
    go_loopw [9] (fun i wr => ∃ k : Nat, i = .int .i64 (k : Int) ∧ k ≤ 16 ∧ Hid (wr.heap[W1.heap.size]? = some (.cells (arrK (fillK f k)) 101 (0, 0))) ∧ W2.grownBy wr (some W1.heap.size))
      (fun i _ => 16 - (intOf i).toNat)
    case atStart => exact ⟨0, rfl, by omega, Lib.hid (by rw [← zero16_is f]; exact R2.out), below_grown (Below.refl _ _)⟩
    case round =>
      obtain ⟨k, rfl, hk, HX, hg⟩ := hrel
      by_cases hlt : k < 16
      · have hc : wr.cell? ⟨W1.heap.size, k, none⟩ = some (.int .u32 (regI (fillK f k)[k]!)) := by rw [cell_of_row wr _ _ _ _ _ HX.out]; exact arrK_get (by rw [fillK_len]; exact hlt)
        have hfr : wr.frozen? ⟨W1.heap.size, k, none⟩ = false := frozen_of_row wr _ _ _ _ HX.out
        have HS := Lib.hid (fillK_set f k hlt)
        have NK : ∀ W' : World, Calls Try.prog 51 #[.pointer (some ⟨b, 0, none⟩), .int .i64 (-1), .int .i64 ((a : Int) * 16 + (k : Int))] wr fun e w' => e = .returned (.int .u32 (regI (f k))) ∧ wr = w' := fun _ => by
          have hq := HA.out
          simp only [szM] at hq
          rw [← HF.out k]
          exact numberLK_any b a k C L N wr (HT.out wr hg) (by omega)
        obtain ⟨x, hx⟩ : ∃ x, f k = x := ⟨_, rfl⟩
        rw [hx] at NK HS
        have NK := Lib.hid NK
        clear hx
        go_wp2_with (first | (go_at_call 51; (with_reducible refine (NK.out wr).mono ?_); rintro e w3 ⟨rfl, rfl⟩) | fail)
        go_roundw
        case rel => exact ⟨k + 1, by go_num, by omega, Lib.hid (by rw [← HS.out]; exact heap_setCell_same _ _ _ _ _ _ HX.out), grown_trans hg (grown_setCell _ ⟨W1.heap.size, k, none⟩ _)⟩
        case measure => simp [intOf]; omega
      · obtain rfl : k = 16 := by omega
        have HX2 := Lib.hid (show wr.heap[W1.heap.size]? = some (.cells (arrK ((List.range 16).map f)) 101 (0, 0)) by rw [← fillK_all]; exact HX.out)
        have hs := (arrK_size ((List.range 16).map f)).trans (by simp : _ = 16)
        have HZ := Lib.hid (Try.size16.trans (congrArg some hs.symm))
        have HZ2 := Lib.hid (show zero16.size = (arrK ((List.range 16).map f)).size from hs.symm)
        clear hs
        go_wp2_with (first | (refine wpList_load_row rfl 101 _ rfl W1.heap.size rfl _ (arrK ((List.range 16).map f)) (0, 0) _ HX2.out Try.under16 rfl HZ.out ?_) | (refine wpList_store_row rfl 101 _ _ rfl w.heap.size (arrK ((List.range 16).map f)) rfl rfl _ zero16 (HR.out wr hg) HZ.out HZ2.out (arrK_one _) ?_) | fail)
        refine bodyPost_ret (v := .agg (arrK ((List.range 16).map f))) (results_cell_row rfl _ _ w.heap.size _ _ (0, 0) _ rfl (setRow_heap _ _ _ _ _ _ (HR.out wr hg)) Try.under16 rfl HZ.out) rfl ⟨rfl, below_setRow (HB.out wr hg) (Nat.le_refl _) _⟩
  · show Calls Try.prog 47 #[.pointer (some ⟨b, 0, none⟩), .int .i64 1, .int .i64 (a : Int)] w _
    go_enter Try.func47, Try.ntmps47
    go_wp2_with fail
    go_loopw [9] (fun i wr => ∃ k : Nat, i = .int .i64 (k : Int) ∧ k ≤ 16 ∧ Hid (wr.heap[W1.heap.size]? = some (.cells (arrK (fillK f k)) 101 (0, 0))) ∧ W2.grownBy wr (some W1.heap.size))
      (fun i _ => 16 - (intOf i).toNat)
    case atStart => exact ⟨0, rfl, by omega, Lib.hid (by rw [← zero16_is f]; exact R2.out), below_grown (Below.refl _ _)⟩
    case round =>
      obtain ⟨k, rfl, hk, HX, hg⟩ := hrel
      by_cases hlt : k < 16
      · have hc : wr.cell? ⟨W1.heap.size, k, none⟩ = some (.int .u32 (regI (fillK f k)[k]!)) := by rw [cell_of_row wr _ _ _ _ _ HX.out]; exact arrK_get (by rw [fillK_len]; exact hlt)
        have hfr : wr.frozen? ⟨W1.heap.size, k, none⟩ = false := frozen_of_row wr _ _ _ _ HX.out
        have HS := Lib.hid (fillK_set f k hlt)
        have NK : ∀ W' : World, Calls Try.prog 51 #[.pointer (some ⟨b, 0, none⟩), .int .i64 0, .int .i64 ((a : Int) * 16 + (k : Int))] wr fun e w' => e = .returned (.int .u32 (regI (f k))) ∧ wr = w' := fun _ => by
          have hq := HA.out
          simp only [szM] at hq
          rw [← HF.out k]
          exact numberNK_any b 0 a k C L N wr (HT.out wr hg) (by omega) (by omega)
        obtain ⟨x, hx⟩ : ∃ x, f k = x := ⟨_, rfl⟩
        rw [hx] at NK HS
        have NK := Lib.hid NK
        clear hx
        go_wp2_with (first | (go_at_call 51; (with_reducible refine (NK.out wr).mono ?_); rintro e w3 ⟨rfl, rfl⟩) | fail)
        go_roundw
        case rel => exact ⟨k + 1, by go_num, by omega, Lib.hid (by rw [← HS.out]; exact heap_setCell_same _ _ _ _ _ _ HX.out), grown_trans hg (grown_setCell _ ⟨W1.heap.size, k, none⟩ _)⟩
        case measure => simp [intOf]; omega
      · obtain rfl : k = 16 := by omega
        have HX2 := Lib.hid (show wr.heap[W1.heap.size]? = some (.cells (arrK ((List.range 16).map f)) 101 (0, 0)) by rw [← fillK_all]; exact HX.out)
        have hs := (arrK_size ((List.range 16).map f)).trans (by simp : _ = 16)
        have HZ := Lib.hid (Try.size16.trans (congrArg some hs.symm))
        have HZ2 := Lib.hid (show zero16.size = (arrK ((List.range 16).map f)).size from hs.symm)
        clear hs
        go_wp2_with (first | (refine wpList_load_row rfl 101 _ rfl W1.heap.size rfl _ (arrK ((List.range 16).map f)) (0, 0) _ HX2.out Try.under16 rfl HZ.out ?_) | (refine wpList_store_row rfl 101 _ _ rfl w.heap.size (arrK ((List.range 16).map f)) rfl rfl _ zero16 (HR.out wr hg) HZ.out HZ2.out (arrK_one _) ?_) | fail)
        refine bodyPost_ret (v := .agg (arrK ((List.range 16).map f))) (results_cell_row rfl _ _ w.heap.size _ _ (0, 0) _ rfl (setRow_heap _ _ _ _ _ _ (HR.out wr hg)) Try.under16 rfl HZ.out) rfl ⟨rfl, below_setRow (HB.out wr hg) (Nat.le_refl _) _⟩
  · show Calls Try.prog 47 #[.pointer (some ⟨b, 0, none⟩), .int .i64 2, .int .i64 (a : Int)] w _
    go_enter Try.func47, Try.ntmps47
    go_wp2_with fail
    go_loopw [9] (fun i wr => ∃ k : Nat, i = .int .i64 (k : Int) ∧ k ≤ 16 ∧ Hid (wr.heap[W1.heap.size]? = some (.cells (arrK (fillK f k)) 101 (0, 0))) ∧ W2.grownBy wr (some W1.heap.size))
      (fun i _ => 16 - (intOf i).toNat)
    case atStart => exact ⟨0, rfl, by omega, Lib.hid (by rw [← zero16_is f]; exact R2.out), below_grown (Below.refl _ _)⟩
    case round =>
      obtain ⟨k, rfl, hk, HX, hg⟩ := hrel
      by_cases hlt : k < 16
      · have hc : wr.cell? ⟨W1.heap.size, k, none⟩ = some (.int .u32 (regI (fillK f k)[k]!)) := by rw [cell_of_row wr _ _ _ _ _ HX.out]; exact arrK_get (by rw [fillK_len]; exact hlt)
        have hfr : wr.frozen? ⟨W1.heap.size, k, none⟩ = false := frozen_of_row wr _ _ _ _ HX.out
        have HS := Lib.hid (fillK_set f k hlt)
        have NK : ∀ W' : World, Calls Try.prog 51 #[.pointer (some ⟨b, 0, none⟩), .int .i64 1, .int .i64 ((a : Int) * 16 + (k : Int))] wr fun e w' => e = .returned (.int .u32 (regI (f k))) ∧ wr = w' := fun _ => by
          have hq := HA.out
          simp only [szM] at hq
          rw [← HF.out k]
          exact numberNK_any b 1 a k C L N wr (HT.out wr hg) (by omega) (by omega)
        obtain ⟨x, hx⟩ : ∃ x, f k = x := ⟨_, rfl⟩
        rw [hx] at NK HS
        have NK := Lib.hid NK
        clear hx
        go_wp2_with (first | (go_at_call 51; (with_reducible refine (NK.out wr).mono ?_); rintro e w3 ⟨rfl, rfl⟩) | fail)
        go_roundw
        case rel => exact ⟨k + 1, by go_num, by omega, Lib.hid (by rw [← HS.out]; exact heap_setCell_same _ _ _ _ _ _ HX.out), grown_trans hg (grown_setCell _ ⟨W1.heap.size, k, none⟩ _)⟩
        case measure => simp [intOf]; omega
      · obtain rfl : k = 16 := by omega
        have HX2 := Lib.hid (show wr.heap[W1.heap.size]? = some (.cells (arrK ((List.range 16).map f)) 101 (0, 0)) by rw [← fillK_all]; exact HX.out)
        have hs := (arrK_size ((List.range 16).map f)).trans (by simp : _ = 16)
        have HZ := Lib.hid (Try.size16.trans (congrArg some hs.symm))
        have HZ2 := Lib.hid (show zero16.size = (arrK ((List.range 16).map f)).size from hs.symm)
        clear hs
        go_wp2_with (first | (refine wpList_load_row rfl 101 _ rfl W1.heap.size rfl _ (arrK ((List.range 16).map f)) (0, 0) _ HX2.out Try.under16 rfl HZ.out ?_) | (refine wpList_store_row rfl 101 _ _ rfl w.heap.size (arrK ((List.range 16).map f)) rfl rfl _ zero16 (HR.out wr hg) HZ.out HZ2.out (arrK_one _) ?_) | fail)
        refine bodyPost_ret (v := .agg (arrK ((List.range 16).map f))) (results_cell_row rfl _ _ w.heap.size _ _ (0, 0) _ rfl (setRow_heap _ _ _ _ _ _ (HR.out wr hg)) Try.under16 rfl HZ.out) rfl ⟨rfl, below_setRow (HB.out wr hg) (Nat.le_refl _) _⟩
end Go.Proofs.Ytjjadappjapjhaa
