/-
  CONTRACTS of a tree's small methods: made, Root, Node, Leaf, Get.
-/
import Derived.Test.YtjjadappjapjhaaMkE
namespace Go.Proofs.Ytjjadappjapjhaa
open Go.RowKit Go.Deep

theorem made_any (b : Nat) (w : World) : Calls Try.prog 42 #[.pointer (some ⟨b, 0, none⟩)] w fun e w' => e = .returned (.pointer (some ⟨b, 0, none⟩)) ∧ w = w' := by
  go_enter Try.func42, Try.ntmps42
  go_wp2_with fail
  go_ret
  exact ⟨rfl, rfl⟩
def MadePost (w : World) (e : Ending) (w' : World) : Prop := ∃ b, e = .returned (.pointer (some ⟨b, 0, none⟩)) ∧ TreeOf w' b (tabC []) ∧ w.heap.size ≤ b ∧ Below w.heap.size w w'
theorem made_nil (w : World) : Calls Try.prog 42 #[.pointer none] w (MadePost w) := by
  have NW := Lib.hid (new_any none 0 0 [] w (RArg.nil _ _ _))
  go_enter Try.func42, Try.ntmps42
  go_wp2_with (first | (go_at_call 14; (with_reducible refine NW.out.mono ?_); rintro e w1 ⟨b, rfl, ht, hb, hbl⟩) | fail)
  go_ret
  exact ⟨b, rfl, ht, hb, hbl⟩
theorem TreeOf.root {w : World} {b : Nat} {C : Nat → Option Int} (h : TreeOf w b C) : w.cell? ⟨b, 12800, none⟩ = some (.int .u32 (regI (lvN C 3 0))) := by
  obtain ⟨N, h, hn⟩ := h
  have := h.node (l := 2) (i := 0) (by omega) (by omega)
  rw [hn 2 (by omega) 0 (by decide)] at this
  exact this
theorem TreeOf.node {w : World} {b : Nat} {C : Nat → Option Int} (h : TreeOf w b C) {l i : Nat} (hl : l < 3) (hi : i < szM l) : w.cell? ⟨b, 12288 + l * 256 + i, none⟩ = some (.int .u32 (regI (lvN C (l + 1) i))) := by
  obtain ⟨N, h, hn⟩ := h
  have := h.node (l := l) (i := i) hl (Nat.lt_of_lt_of_le hi (szM_le l))
  rw [hn l hl i hi] at this
  exact this
theorem TreeOf.leaf {w : World} {b : Nat} {C : Nat → Option Int} (h : TreeOf w b C) {k : Nat} (hk : k < 4096) : w.cell? ⟨b, 8192 + k, none⟩ = some (.int .u32 (regI (lvN C 0 k))) := by
  obtain ⟨N, h, hn⟩ := h
  exact h.leaf hk
theorem TreeOf.cells {w : World} {b : Nat} {C : Nat → Option Int} (h : TreeOf w b C) {k : Nat} (hk : k < 4096) : w.cell? ⟨b, k * 2, none⟩ = some (.int .i64 ((C k).getD 0)) ∧ w.cell? ⟨b, k * 2 + 1, none⟩ = some (.bool (C k).isSome) := by
  obtain ⟨N, h, hn⟩ := h
  exact h.cells hk
theorem root20_any (b : Nat) (C : Nat → Option Int) (w : World) (h : TreeOf w b C) : Calls Try.prog 20 #[.pointer (some ⟨b, 0, none⟩)] w fun e w' => e = .returned (.int .u32 (regI (lvN C 3 0))) ∧ w = w' := by
  have hr := h.root
  go_enter Try.func20, Try.ntmps20
  go_wp2_with (first | (go_at_call 42; (with_reducible refine (made_any _ _).mono ?_); rintro e w1 ⟨rfl, rfl⟩) | fail)
  go_ret
  exact ⟨rfl, rfl⟩
theorem root20_nil (w : World) : Calls Try.prog 20 #[.pointer none] w (Gives w (.int .u32 (regI (lvN (tabC []) 3 0)))) := by
  go_enter Try.func20, Try.ntmps20
  go_wp2_with (first | (go_at_call 42; (with_reducible refine (made_nil _).mono ?_); rintro e w1 ⟨b, rfl, ht, hb, hbl⟩; have hr := ht.root) | fail)
  go_ret
  exact ⟨rfl, hbl⟩
def NodeP (C : Nat → Option Int) (l i : Int) : Int × Int := if 0 ≤ l ∧ l < 3 ∧ 0 ≤ i ∧ i < szM l.toNat then (regI (lvN C (l.toNat + 1) i.toNat), 0) else (0, 1)
theorem node20_any (b : Nat) (C : Nat → Option Int) (l i : Int) (w : World) (h : TreeOf w b C) : Calls Try.prog 18 #[.pointer (some ⟨b, 0, none⟩), .int .i64 l, .int .i64 i] w fun e w' => e = .returned (.tuple #[.int .u32 (NodeP C l i).1, .int .i64 (NodeP C l i).2]) ∧ w = w' := by
  by_cases h0 : 0 ≤ l
  · by_cases h3 : l < 3
    · obtain ⟨m, rfl⟩ : ∃ m : Nat, l = (m : Int) := ⟨l.toNat, by omega⟩
      have SZ := Lib.hid (fun W => sizeM_any m W (by omega))
      obtain ⟨z, hz⟩ : ∃ z, szM m = z := ⟨_, rfl⟩
      have hz2 := szM_le m
      rw [hz] at SZ hz2
      by_cases hi : 0 ≤ i
      · obtain ⟨j, rfl⟩ : ∃ j : Nat, i = (j : Int) := ⟨i.toNat, by omega⟩
        by_cases hj : j < z
        · have hc := h.node (l := m) (i := j) (by omega) (by rw [hz]; exact hj)
          have HP := Lib.hid (show NodeP C (m : Int) (j : Int) = (regI (lvN C (m + 1) j), 0) by
            unfold NodeP
            rw [if_pos ⟨h0, h3, hi, by rw [Int.toNat_natCast, hz]; omega⟩, Int.toNat_natCast, Int.toNat_natCast])
          have hm2 : ¬ 2 < (m : Int) := by omega
          clear hz
          go_enter Try.func18, Try.ntmps18
          go_wp2_with (first | (go_at_call 38; (with_reducible refine (SZ.out _).mono ?_); rintro e w4 ⟨rfl, rfl⟩) | fail)
          go_ret2
          rw [HP.out]
          exact ⟨rfl, rfl⟩
        · have HP := Lib.hid (show NodeP C (m : Int) (j : Int) = (0, 1) by
            unfold NodeP
            rw [if_neg (by rw [Int.toNat_natCast, hz]; omega)])
          have hm2 : ¬ 2 < (m : Int) := by omega
          clear hz
          go_enter Try.func18, Try.ntmps18
          go_wp2_with (first | (go_at_call 38; (with_reducible refine (SZ.out _).mono ?_); rintro e w4 ⟨rfl, rfl⟩) | fail)
          go_ret2
          rw [HP.out]
          exact ⟨rfl, rfl⟩
      · have HP := Lib.hid (show NodeP C (m : Int) i = (0, 1) by
          unfold NodeP
          rw [if_neg (by omega)])
        have hm2 : ¬ 2 < (m : Int) := by omega
        have hi2 : i < 0 := by omega
        clear hz
        go_enter Try.func18, Try.ntmps18
        go_wp2_with fail
        go_ret2
        rw [HP.out]
        exact ⟨rfl, rfl⟩
    · have HP := Lib.hid (show NodeP C l i = (0, 1) by
        unfold NodeP
        rw [if_neg (by omega)])
      have hm2 : 2 < l := by omega
      go_enter Try.func18, Try.ntmps18
      go_wp2_with fail
      go_ret2
      rw [HP.out]
      exact ⟨rfl, rfl⟩
  · have HP := Lib.hid (show NodeP C l i = (0, 1) by
      unfold NodeP
      rw [if_neg (by omega)])
    have h0' : l < 0 := by omega
    go_enter Try.func18, Try.ntmps18
    go_wp2_with fail
    go_ret2
    rw [HP.out]
    exact ⟨rfl, rfl⟩
theorem node20_nil (l i : Int) (w : World) : Calls Try.prog 18 #[.pointer none, .int .i64 l, .int .i64 i] w fun e w' => e = .returned (.tuple #[.int .u32 0, .int .i64 1]) ∧ w = w' := by
  go_enter Try.func18, Try.ntmps18
  go_wp2_with fail
  go_ret2
  exact ⟨rfl, rfl⟩
def keyB (k : Int) : Bool := decide (0 ≤ k) && decide (k < 4096)
theorem isKeyT_any (k : Int) (w : World) (h : keyB k = true) : Calls Try.prog 41 #[.int .i64 k] w fun e w' => e = .returned (.bool true) ∧ w = w' := by
  have := isKey_any k w
  rw [show (decide (0 ≤ k) && decide (k < 4096)) = true from h] at this
  exact this
theorem isKeyF_any (k : Int) (w : World) (h : keyB k = false) : Calls Try.prog 41 #[.int .i64 k] w fun e w' => e = .returned (.bool false) ∧ w = w' := by
  have := isKey_any k w
  rw [show (decide (0 ≤ k) && decide (k < 4096)) = false from h] at this
  exact this
theorem keyB_nat {k : Int} (h : keyB k = true) : ∃ q : Nat, k = (q : Int) ∧ q < 4096 := by
  unfold keyB at h
  simp only [Bool.and_eq_true, decide_eq_true_eq] at h
  exact ⟨k.toNat, by omega, by omega⟩
theorem leaf20_any (b : Nat) (C : Nat → Option Int) (q : Nat) (w : World) (h : TreeOf w b C) (hq : q < 4096) : Calls Try.prog 19 #[.pointer (some ⟨b, 0, none⟩), .int .i64 (q : Int)] w fun e w' => e = .returned (.tuple #[.int .u32 (regI (lvN C 0 q)), .int .i64 0]) ∧ w = w' := by
  have hk : keyB (q : Int) = true := by unfold keyB; simp; omega
  have hc := h.leaf hq
  have KY := Lib.hid (fun W => isKeyT_any (q : Int) W hk)
  clear hk
  go_enter Try.func19, Try.ntmps19
  go_wp2_with (first | (go_at_call 41; (with_reducible refine (KY.out _).mono ?_); rintro e w4 ⟨rfl, rfl⟩) | fail)
  go_ret2
  exact ⟨rfl, rfl⟩
theorem leaf20_bad (p : Value) (k : Int) (w : World) (hp : p = .pointer none ∨ ∃ b, p = .pointer (some ⟨b, 0, none⟩)) (hk : keyB k = false ∨ p = .pointer none) : Calls Try.prog 19 #[p, .int .i64 k] w fun e w' => e = .returned (.tuple #[.int .u32 0, .int .i64 1]) ∧ w = w' := by
  rcases hp with rfl | ⟨b, rfl⟩
  · clear hk
    go_enter Try.func19, Try.ntmps19
    go_wp2_with fail
    go_ret2
    exact ⟨rfl, rfl⟩
  · have hk := hk.resolve_right (by simp)
    have KY := Lib.hid (fun W => isKeyF_any k W hk)
    clear hk
    go_enter Try.func19, Try.ntmps19
    go_wp2_with (first | (go_at_call 41; (with_reducible refine (KY.out _).mono ?_); rintro e w4 ⟨rfl, rfl⟩) | fail)
    go_ret2
    exact ⟨rfl, rfl⟩
def GetP (v : Value) (w : World) (e : Ending) (w' : World) : Prop := e = .returned v ∧ Below w.heap.size w w'
theorem get20_any (b : Nat) (C : Nat → Option Int) (q : Nat) (w : World) (h : TreeOf w b C) (hq : q < 4096) : Calls Try.prog 22 #[.pointer (some ⟨b, 0, none⟩), .int .i64 (q : Int)] w (GetP (.agg #[.int .i64 ((C q).getD 0), .bool (C q).isSome]) w) := by
  have hk : keyB (q : Int) = true := by unfold keyB; simp; omega
  have hqi : (q : Int) < 4096 := by omega
  obtain ⟨c0, c1⟩ := (h.below ((Below.refl _ _).alloc (Nat.le_refl _) (.cells #[.int .i64 0, .bool false] 25))).cells hq
  have KY := Lib.hid (fun W => isKeyT_any (q : Int) W hk)
  clear hk
  have hb := h.lt
  go_enter Try.func22, Try.ntmps22
  go_wp2_with (first | (go_at_call 41; (with_reducible refine (KY.out _).mono ?_); rintro e w4 ⟨rfl, rfl⟩) | fail)
  refine bodyPost_ret (v := .agg #[.int .i64 ((C q).getD 0), .bool (C q).isSome]) (by simp [results, Try.results22, go_sem]) rfl ⟨rfl, ?_⟩
  exact (Below.refl _ _).alloc (Nat.le_refl _) _
theorem get20_bad (p : Value) (k : Int) (w : World) (hp : p = .pointer none ∨ ∃ b, p = .pointer (some ⟨b, 0, none⟩)) (hk : keyB k = false ∨ p = .pointer none) : Calls Try.prog 22 #[p, .int .i64 k] w (GetP (.agg #[.int .i64 0, .bool false]) w) := by
  rcases hp with rfl | ⟨b, rfl⟩
  · clear hk
    go_enter Try.func22, Try.ntmps22
    go_wp2_with fail
    refine bodyPost_ret (v := .agg #[.int .i64 0, .bool false]) (by simp [results, Try.results22, go_sem]) rfl ⟨rfl, ?_⟩
    exact (Below.refl _ _).alloc (Nat.le_refl _) _
  · have hk := hk.resolve_right (by simp)
    have KY := Lib.hid (fun W => isKeyF_any k W hk)
    clear hk
    go_enter Try.func22, Try.ntmps22
    go_wp2_with (first | (go_at_call 41; (with_reducible refine (KY.out _).mono ?_); rintro e w4 ⟨rfl, rfl⟩) | fail)
    refine bodyPost_ret (v := .agg #[.int .i64 0, .bool false]) (by simp [results, Try.results22, go_sem]) rfl ⟨rfl, ?_⟩
    exact (Below.refl _ _).alloc (Nat.le_refl _) _
end Go.Proofs.Ytjjadappjapjhaa
