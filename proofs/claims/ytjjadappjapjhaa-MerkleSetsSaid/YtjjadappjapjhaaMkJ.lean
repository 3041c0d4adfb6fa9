/-
  PLAIN: one key that differs is seen at every level, and nothing else is.
-/
import Derived.Test.YtjjadappjapjhaaMkI
namespace Go.Proofs.Ytjjadappjapjhaa

theorem over_at {x y : List (BitVec 32)} {r : Nat} (hr : r < x.length) (hl : x.length = y.length) (h : ∀ i, i ≠ r → x[i]? = y[i]?) (ho : overN x = overN y) : x[r]? = y[r]? := by
  have hy : r < y.length := by omega
  have ex : x = x.take r ++ x[r] :: x.drop (r + 1) := by rw [← List.drop_eq_getElem_cons hr, List.take_append_drop]
  have ey : y = y.take r ++ y[r] :: y.drop (r + 1) := by rw [← List.drop_eq_getElem_cons hy, List.take_append_drop]
  have h1 : x.take r = y.take r := by
    apply List.ext_getElem?
    intro i
    rw [List.getElem?_take, List.getElem?_take]
    split
    · exact h i (by omega)
    · rfl
  have h2 : x.drop (r + 1) = y.drop (r + 1) := by
    apply List.ext_getElem?
    intro i
    rw [List.getElem?_drop, List.getElem?_drop]
    exact h _ (by omega)
  rw [ex, ey, h1, h2] at ho
  rw [List.getElem?_eq_getElem hr, List.getElem?_eq_getElem hy, over_apart ho]
theorem kidsF_get (f : Nat → BitVec 32) (i j : Nat) (hj : j < 16) : (kidsF f i)[j]? = some (f (i * 16 + j)) := by
  unfold kidsF
  simp [hj]
theorem kidsF_len (f : Nat → BitVec 32) (i : Nat) : (kidsF f i).length = 16 := by simp [kidsF]
/-- Two that differ at one place alone: so do those above. -/
theorem up_ne {f g : Nat → BitVec 32} {k : Nat} (h : ∀ j, f j = g j ↔ j ≠ k) : ∀ i, upN f i = upN g i ↔ i ≠ k / 16 := by
  intro i
  constructor
  · rintro ho rfl
    have hx := over_at (r := k % 16) (x := kidsF f (k / 16)) (y := kidsF g (k / 16)) (by rw [kidsF_len]; omega) (by rw [kidsF_len, kidsF_len]) (fun j hj => by
      by_cases hj16 : j < 16
      · rw [kidsF_get _ _ _ hj16, kidsF_get _ _ _ hj16, (h _).2 (by omega)]
      · rw [List.getElem?_eq_none (by rw [kidsF_len]; omega), List.getElem?_eq_none (by rw [kidsF_len]; omega)]) ho
    rw [kidsF_get _ _ _ (by omega), kidsF_get _ _ _ (by omega)] at hx
    injection hx with hx
    exact (h _).1 hx (by omega)
  · intro hi
    show overN _ = overN _
    congr 1
    apply List.map_congr_left
    intro j hj
    have hj := List.mem_range.1 hj
    exact (h _).2 (by omega)
theorem lv_ne {C1 C2 : Nat → Option Int} {k : Nat} (h : ∀ j, j ≠ k → C1 j = C2 j) (hk : numO (C1 k) ≠ numO (C2 k)) : ∀ m j, lvN C1 m j = lvN C2 m j ↔ j ≠ k / 16 ^ m
  | 0, j => by
    rw [Nat.pow_zero, Nat.div_one]
    constructor
    · rintro e rfl; exact hk e
    · intro hj; show numO _ = numO _; rw [h j hj]
  | m + 1, j => by
    have := up_ne (lv_ne h hk m) j
    rw [Nat.div_div_eq_div_mul, ← Nat.pow_succ] at this
    exact this
theorem dif_one {C1 C2 : Nat → Option Int} {k : Nat} (h : ∀ j, j ≠ k → C1 j = C2 j) (hk : numO (C1 k) ≠ numO (C2 k)) (m j : Nat) : difB C1 C2 m j = (j == k / 16 ^ m) := by
  have := lv_ne h hk m j
  unfold difB
  by_cases hj : j = k / 16 ^ m
  · have hn : lvN C1 m j ≠ lvN C2 m j := fun e => this.1 e hj
    rw [bne_iff_ne.2 hn, beq_iff_eq.2 hj]
  · rw [this.2 hj, bne_self_eq_false, beq_eq_false_iff_ne.2 hj]
theorem filter_kid (q : Nat) : (kidsL (q / 16)).filter (fun j => j == q) = [q] := by
  unfold kidsL
  have hq : q = q / 16 * 16 + q % 16 := by omega
  have hr : q % 16 < 16 := by omega
  rw [List.filter_map]
  generalize q / 16 = a at *
  generalize q % 16 = r at *
  subst hq
  have : ((fun j => j == a * 16 + r) ∘ fun i => a * 16 + i) = fun i => i == r := by
    funext i
    simp only [Function.comp]
    by_cases h : i = r
    · subst h; simp
    · rw [beq_eq_false_iff_ne.2 h, beq_eq_false_iff_ne.2 (by omega)]
  rw [this]
  have : (List.range 16).filter (fun i => i == r) = [r] := by
    have hr2 : r = 0 ∨ r = 1 ∨ r = 2 ∨ r = 3 ∨ r = 4 ∨ r = 5 ∨ r = 6 ∨ r = 7 ∨ r = 8 ∨ r = 9 ∨ r = 10 ∨ r = 11 ∨ r = 12 ∨ r = 13 ∨ r = 14 ∨ r = 15 := by omega
    rcases hr2 with rfl | rfl | rfl | rfl | rfl | rfl | rfl | rfl | rfl | rfl | rfl | rfl | rfl | rfl | rfl | rfl <;> rfl
  rw [this]
  rfl
theorem difL_one {C1 C2 : Nat → Option Int} {k : Nat} (hk4 : k < 4096) (h : ∀ j, j ≠ k → C1 j = C2 j) (hk : numO (C1 k) ≠ numO (C2 k)) : ∀ d, d ≤ 3 → difL C1 C2 d = [k / 16 ^ (3 - d)]
  | 0, _ => by
    have h0 : k / 16 ^ 3 = 0 := Nat.div_eq_of_lt (by omega)
    show [0].filter (difB C1 C2 3) = _
    rw [show (3 : Nat) - 0 = 3 from rfl, h0, List.filter_cons, dif_one h hk 3 0, h0]
    rfl
  | d + 1, hd => by
    show ((difL C1 C2 d).flatMap kidsL).filter (difB C1 C2 (2 - d)) = _
    rw [difL_one hk4 h hk d (by omega), List.flatMap_cons, List.flatMap_nil, List.append_nil]
    rw [show 3 - (d + 1) = 2 - d by omega, show 3 - d = (2 - d) + 1 by omega, Nat.pow_succ, ← Nat.div_div_eq_div_mul]
    rw [show difB C1 C2 (2 - d) = fun j => j == k / 16 ^ (2 - d) from funext (dif_one h hk (2 - d))]
    exact filter_kid _
theorem root_ne {C1 C2 : Nat → Option Int} {k : Nat} (hk4 : k < 4096) (h : ∀ j, j ≠ k → C1 j = C2 j) (hk : numO (C1 k) ≠ numO (C2 k)) : lvN C1 3 0 ≠ lvN C2 3 0 := fun e => (lv_ne h hk 3 0).1 e (Nat.div_eq_of_lt (by omega)).symm
theorem numV_low {v v' : Int} (h : v / 4294967296 = v' / 4294967296) (hn : numV v = numV v') : v = v' := by
  unfold numV be8 at hn
  rw [h] at hn
  have := sum_apart (p := 1 :: be4 (v' / 4294967296)) (s := []) (a := be4 v) (b := be4 v') rfl rfl (by simpa using hn)
  have := be4_inj this
  omega
theorem difL_same (C : Nat → Option Int) : ∀ d, difL C C d = []
  | 0 => by
    show [0].filter _ = []
    rw [List.filter_eq_nil_iff]
    intro a _
    simp [difB]
  | d + 1 => by
    show ((difL C C d).flatMap kidsL).filter _ = []
    rw [difL_same C d]
    rfl
end Go.Proofs.Ytjjadappjapjhaa
