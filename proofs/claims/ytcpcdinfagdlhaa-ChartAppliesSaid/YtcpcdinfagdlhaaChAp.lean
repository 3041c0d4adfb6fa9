/-
  CONTRACT of the document's Apply, of charts.
-/
import Derived.Test.YtcpcdinfagdlhaaChRd
import Derived.Deep.RegionLaw
import Derived.Deep.AppendLies
import Derived.Deep.Cut
namespace Go.Proofs.Ytcpcdinfagdlhaa
open Go.RowKit Go.Shelf Go.ChangeShapes Go.WideShapes Go.Deep

/-- The shards of the new chart, one by one. -/
def bld (l F : List Sd) (i r : Nat) : Nat → List Sd
  | 0 => []
  | k + 1 => bld l F i r k ++ (if k = i then F else []) ++ (if k < i ∨ i + r ≤ k then [l[k]!] else [])
theorem bld_lo (l F : List Sd) (i r : Nat) : ∀ k, k ≤ i → k ≤ l.length → bld l F i r k = l.take k
  | 0, _, _ => by simp [bld]
  | k + 1, h, hl => by
    rw [bld, bld_lo l F i r k (by omega) (by omega), if_neg (by omega), if_pos (.inl (by omega)), take_moreG (by omega), List.append_nil]
theorem bld_mid (l F : List Sd) (i r : Nat) (hi : i < l.length) : ∀ k, i < k → k ≤ i + r → k ≤ l.length → bld l F i r k = l.take i ++ F
  | 0, h, _, _ => absurd h (by omega)
  | k + 1, h, h2, hl => by
    rw [bld]
    by_cases hk : k = i
    · subst hk
      rw [bld_lo l F k r k (by omega) (by omega), if_pos rfl, if_neg (by omega), List.append_nil]
    · rw [bld_mid l F i r hi k (by omega) (by omega) (by omega), if_neg hk, if_neg (by omega), List.append_nil, List.append_nil]
theorem bld_hi (l F : List Sd) (i r : Nat) (hi : i < l.length) (hr : 1 ≤ r) : ∀ k, i + r ≤ k → k ≤ l.length → bld l F i r k = l.take i ++ (F ++ (l.drop (i + r)).take (k - (i + r)))
  | 0, h, _ => absurd h (by omega)
  | k + 1, h, hl => by
    by_cases hk : i + r = k + 1
    · rw [bld_mid l F i r hi (k + 1) (by omega) (by omega) hl, hk, Nat.sub_self, List.take_zero, List.append_nil]
    · rw [bld, bld_hi l F i r hi hr k (by omega) (by omega), if_neg (by omega), if_pos (.inr (by omega)), List.append_nil]
      rw [show k + 1 - (i + r) = (k - (i + r)) + 1 by omega]
      have hlen : k - (i + r) < (l.drop (i + r)).length := by rw [List.length_drop]; omega
      rw [take_moreG hlen]
      have he : (l.drop (i + r))[k - (i + r)]! = l[k]! := by
        rw [getElem!_pos (l.drop (i + r)) (k - (i + r)) hlen, getElem!_pos l k (by omega), List.getElem_drop]
        congr 1; omega
      rw [he, List.append_assoc, List.append_assoc]
theorem bld_all {l F : List Sd} {i r : Nat} (hi : i + r ≤ l.length) (hr : 1 ≤ r) : bld l F i r l.length = l.take i ++ (F ++ l.drop (i + r)) := by
  rw [bld_hi l F i r (by omega) hr l.length hi (Nat.le_refl _), List.take_of_length_le (l := l.drop (i + r)) (by rw [List.length_drop]; omega)]
theorem bld_len (l F : List Sd) (i r : Nat) : ∀ k, (bld l F i r k).length ≤ k + F.length ∧ (k ≤ i → (bld l F i r k).length ≤ k)
  | 0 => by simp [bld]
  | k + 1 => by
    obtain ⟨h1, h2⟩ := bld_len l F i r k
    have h3 : (if k < i ∨ i + r ≤ k then [l[k]!] else []).length ≤ 1 := by split <;> simp
    rw [bld, List.length_append, List.length_append]
    by_cases hk : k = i
    · rw [if_pos hk]
      have := h2 (by omega)
      exact ⟨by omega, fun q => by omega⟩
    · rw [if_neg hk, List.length_nil]
      have h4 : (if k < i ∨ i + r ≤ k then [l[k]!] else []).length ≤ 1 := by split <;> simp
      exact ⟨by omega, fun q => by have := h2 (by omega); omega⟩
theorem RIn.at {B : Nat} {w w' : World} {a : Option Addr} {l : List Sd} (h : RIn encS 4 w B a l) (hb : Below B w w') : RIn encS 4 w' B a l := fun j hj => by
  obtain ⟨b, off, e, hlt, hc⟩ := h j hj
  exact ⟨b, off, e, hlt, fun i v hi => (hb.cell (p := ⟨b, off + j * 4 + i, none⟩) hlt).trans (hc i v hi)⟩
theorem shards2_new (w : World) (i lo hi nd i' lo' hi' nd' : Int) (t : TypeId) : RArg encS 4 (w.alloc (.cells #[.int .i64 i, .int .i64 lo, .int .i64 hi, .int .i64 nd, .int .i64 i', .int .i64 lo', .int .i64 hi', .int .i64 nd'] t)) (some ⟨w.heap.size, 0, none⟩) 2 2 [(i, lo, hi, nd), (i', lo', hi', nd')] := by
  refine ⟨rfl, by simp, by simp, by unfold maxLen; omega, fun j hj => ?_⟩
  refine ⟨w.heap.size, 0, rfl, by simp, fun q v hv => ?_⟩
  have hh := heap_alloc_new w (.cells #[.int .i64 i, .int .i64 lo, .int .i64 hi, .int .i64 nd, .int .i64 i', .int .i64 lo', .int .i64 hi', .int .i64 nd'] t)
  match j, hj with
  | 0, _ =>
    match q, hv with
    | 0, hv => simp [encS] at hv; subst hv; exact cell_of_row _ _ 0 _ _ _ hh
    | 1, hv => simp [encS] at hv; subst hv; exact cell_of_row _ _ 1 _ _ _ hh
    | 2, hv => simp [encS] at hv; subst hv; exact cell_of_row _ _ 2 _ _ _ hh
    | 3, hv => simp [encS] at hv; subst hv; exact cell_of_row _ _ 3 _ _ _ hh
  | 1, _ =>
    match q, hv with
    | 0, hv => simp [encS] at hv; subst hv; exact cell_of_row _ _ 4 _ _ _ hh
    | 1, hv => simp [encS] at hv; subst hv; exact cell_of_row _ _ 5 _ _ _ hh
    | 2, hv => simp [encS] at hv; subst hv; exact cell_of_row _ _ 6 _ _ _ hh
    | 3, hv => simp [encS] at hv; subst hv; exact cell_of_row _ _ 7 _ _ _ hh
/-- The new chart in its box, the row of its shards. -/
structure StA (B : Nat) (WO : World) (O : Nat) (ep nf : Int) (v : Value) (acc : List Sd) (W : World) : Prop where
  box : W.heap[O]? = some (.cells #[.int .i64 ep, .int .i64 nf, v] 30)
  row : OwnsR encS 4 113 W B v acc
  low : Below O WO W
  big : B ≤ W.heap.size
def RMadePost (r : Made) (w : World) (e : Ending) (w' : World) : Prop := ∃ a n c a2 n2 c2 a3 n3 c3,
  e = .returned (.agg #[.int .i64 r.ep, .int .i64 r.nx, .slice a n c, .slice a2 n2 c2, .slice a3 n3 c3, .int .i64 r.e]) ∧ RArg encS 4 w' a n c r.l ∧ RArg encS 4 w' a2 n2 c2 r.old ∧ RArg encS 4 w' a3 n3 c3 r.fresh ∧ Below w.heap.size w w'
theorem RMadePost.bad {r : Made} {e : Int} {w w' : World} (h : r = badM e) (hb : Below w.heap.size w w') : RMadePost r w (.returned (.agg #[.int .i64 0, .int .i64 0, .slice none 0 0, .slice none 0 0, .slice none 0 0, .int .i64 e])) w' := by
  subst h
  exact ⟨none, 0, 0, none, 0, 0, none, 0, 0, rfl, RArg.nil _ _ _, RArg.nil _ _ _, RArg.nil _ _ _, hb⟩
theorem cell4H {W : World} {b : Nat} {x y z u : Value} {t : TypeId} (h : W.heap[b]? = some (.cells #[x, y, z, u] t)) : W.cell? ⟨b, 0, none⟩ = some x ∧ W.cell? ⟨b, 1, none⟩ = some y ∧ W.cell? ⟨b, 2, none⟩ = some z ∧ W.cell? ⟨b, 3, none⟩ = some u :=
  ⟨cell_of_row _ _ 0 _ _ _ h, cell_of_row _ _ 1 _ _ _ h, cell_of_row _ _ 2 _ _ _ h, cell_of_row _ _ 3 _ _ _ h⟩
theorem c6K {W : World} {b : Nat} {x y z u v q : Value} {t : TypeId} (h : W.heap[b]? = some (.cells #[x, y, z, u, v, q] t)) : (W.cell? ⟨b, 0, none⟩ = some x ∧ W.cell? ⟨b, 1, none⟩ = some y ∧ W.cell? ⟨b, 2, none⟩ = some z ∧ W.cell? ⟨b, 3, none⟩ = some u ∧ W.cell? ⟨b, 4, none⟩ = some v ∧ W.cell? ⟨b, 5, none⟩ = some q) ∧
    (W.frozen? ⟨b, 0, none⟩ = false ∧ W.frozen? ⟨b, 1, none⟩ = false ∧ W.frozen? ⟨b, 2, none⟩ = false ∧ W.frozen? ⟨b, 3, none⟩ = false ∧ W.frozen? ⟨b, 4, none⟩ = false ∧ W.frozen? ⟨b, 5, none⟩ = false) :=
  ⟨⟨cell_of_row _ _ 0 _ _ _ h, cell_of_row _ _ 1 _ _ _ h, cell_of_row _ _ 2 _ _ _ h, cell_of_row _ _ 3 _ _ _ h, cell_of_row _ _ 4 _ _ _ h, cell_of_row _ _ 5 _ _ _ h⟩, frozen_of_row _ _ 0 _ _ h, frozen_of_row _ _ 1 _ _ h, frozen_of_row _ _ 2 _ _ h, frozen_of_row _ _ 3 _ _ h, frozen_of_row _ _ 4 _ _ h, frozen_of_row _ _ 5 _ _ h⟩
set_option maxRecDepth 100000 in
set_option maxHeartbeats 4000000 in
theorem apply8_arg (ep nx : Int) (a : Option Addr) (n c : Nat) (l : List Sd) (k id x : Int) (w : World) (h : RArg encS 4 w a n c l) (hbad : ¬ (chkC ep nx l = true ∧ chgB k x = true)) {R : Made} (hR : R = badM 1) :
    Calls Try.prog 26 #[.agg #[.int .i64 ep, .int .i64 nx, .slice a n c], .int .i64 k, .int .i64 id, .int .i64 x] w (RMadePost R w) := by
  obtain ⟨W1, hW1⟩ : ∃ W1, w.alloc (.cells #[.int .i64 ep, .int .i64 nx, .slice a n c] 30) = W1 := ⟨_, rfl⟩
  obtain ⟨W2, hW2⟩ : ∃ W2, W1.alloc (.cells #[.int .i64 0, .int .i64 0, .slice none 0 0, .slice none 0 0, .slice none 0 0, .int .i64 0] 54) = W2 := ⟨_, rfl⟩
  have m1 : W1.heap.size = w.heap.size + 1 := by rw [← hW1]; simp
  have m2 : W2.heap.size = W1.heap.size + 1 := by rw [← hW2]; simp
  have b1 : Below w.heap.size w W1 := by rw [← hW1]; exact (Below.refl _ _).alloc (Nat.le_refl _) _
  have b2 : Below w.heap.size w W2 := by rw [← hW2]; exact b1.alloc b1.size _
  have hr1 : W2.heap[w.heap.size]? = some (.cells #[.int .i64 ep, .int .i64 nx, .slice a n c] 30) := by rw [← hW2]; exact ((World.grownBy_alloc W1 _ none).block _ (by omega) (by simp)).trans (by rw [← hW1]; exact heap_alloc_new _ _)
  have hr2 : W2.heap[W1.heap.size]? = some (.cells #[.int .i64 0, .int .i64 0, .slice none 0 0, .slice none 0 0, .slice none 0 0, .int .i64 0] 54) := by rw [← hW2]; exact heap_alloc_new _ _
  have K3 := Lib.hid (fun W (h : Below W2.heap.size W2 W) => c3K ((h.block _ (by omega)).trans hr1))
  have K6 := Lib.hid (fun W (h : Below W2.heap.size W2 W) => c6K ((h.block _ (by omega)).trans hr2))
  have CC := Lib.hid (fun W (hb : Below W2.heap.size W2 W) => rcheck8_any ep nx a n c l W ((h.below b2).below hb))
  have CF := Lib.hid (fun W (hb : Below W2.heap.size W2 W) => rfind8_any ep nx id a n c l W ((h.below b2).below hb))
  obtain ⟨q0, q1, q2⟩ := K3.out _ (Below.refl _ _)
  obtain ⟨⟨z0, z1, z2, z3, z4, z5⟩, ⟨y0, y1, y2, y3, y4, y5⟩⟩ := K6.out _ (Below.refl _ _)
  replace m1 := Lib.hid m1
  replace m2 := Lib.hid m2
  have lw := b1.size
  cases hc : chkC ep nx l with
  | false =>
    rw [hc] at CC
    clear h hr1 hr2 hbad hc
    go_enter Try.func26, Try.ntmps26
    go_wp2_with (go_at_call 20; (with_reducible refine (CC.out _ (Below.refl _ _)).mono ?_); rintro e w3 ⟨rfl, b3⟩; have B3 := b3; obtain ⟨q0, q1, q2⟩ := K3.out _ B3; obtain ⟨⟨z0, z1, z2, z3, z4, z5⟩, ⟨y0, y1, y2, y3, y4, y5⟩⟩ := K6.out _ B3)
    exact bodyPost_ret (v := .agg #[.int .i64 0, .int .i64 0, .slice none 0 0, .slice none 0 0, .slice none 0 0, .int .i64 1]) (by simp [results, Try.results26, go_sem, z0, z1, z2, z3, z4, z5]) rfl (RMadePost.bad hR (by repeat (first | with_reducible exact below_next b2 B3 | with_reducible refine toDK ?_ | with_reducible refine Below.setCell ?_ (by first | with_reducible exact Nat.le_refl _ | (dsimp only; omega)) _)))
  | true =>
    rw [hc] at CC
    have hcase : k < 1 ∨ (¬ k < 1 ∧ 3 < k) ∨ (k = 3 ∧ x < 0) ∨ (k = 3 ∧ ¬ x < 0 ∧ 4 < x) := by
      have h2 : ¬ chgB k x = true := fun q => hbad ⟨hc, q⟩
      unfold chgB at h2
      rw [Bool.or_eq_true, Bool.or_eq_true, Bool.and_eq_true, btwC_iff] at h2
      simp only [beq_iff_eq] at h2
      omega
    clear h hr1 hr2 hbad hc
    rcases hcase with h1 | ⟨h1, h2⟩ | ⟨rfl, h1⟩ | ⟨rfl, h1, h2⟩
    · have d1 : decide (k < 1) = true := decide_eq_true h1
      clear h1
      go_enter Try.func26, Try.ntmps26
      go_wp2_with (go_at_call 20; (with_reducible refine (CC.out _ (Below.refl _ _)).mono ?_); rintro e w3 ⟨rfl, b3⟩; have B3 := b3; obtain ⟨q0, q1, q2⟩ := K3.out _ B3; obtain ⟨⟨z0, z1, z2, z3, z4, z5⟩, ⟨y0, y1, y2, y3, y4, y5⟩⟩ := K6.out _ B3)
      exact bodyPost_ret (v := .agg #[.int .i64 0, .int .i64 0, .slice none 0 0, .slice none 0 0, .slice none 0 0, .int .i64 1]) (by simp [results, Try.results26, go_sem, z0, z1, z2, z3, z4, z5]) rfl (RMadePost.bad hR (by repeat (first | with_reducible exact below_next b2 B3 | with_reducible refine toDK ?_ | with_reducible refine Below.setCell ?_ (by first | with_reducible exact Nat.le_refl _ | (dsimp only; omega)) _)))
    · have d1 : decide (k < 1) = false := decide_eq_false h1
      have d2 : decide (3 < k) = true := decide_eq_true h2
      clear h1 h2
      go_enter Try.func26, Try.ntmps26
      go_wp2_with (go_at_call 20; (with_reducible refine (CC.out _ (Below.refl _ _)).mono ?_); rintro e w3 ⟨rfl, b3⟩; have B3 := b3; obtain ⟨q0, q1, q2⟩ := K3.out _ B3; obtain ⟨⟨z0, z1, z2, z3, z4, z5⟩, ⟨y0, y1, y2, y3, y4, y5⟩⟩ := K6.out _ B3)
      exact bodyPost_ret (v := .agg #[.int .i64 0, .int .i64 0, .slice none 0 0, .slice none 0 0, .slice none 0 0, .int .i64 1]) (by simp [results, Try.results26, go_sem, z0, z1, z2, z3, z4, z5]) rfl (RMadePost.bad hR (by repeat (first | with_reducible exact below_next b2 B3 | with_reducible refine toDK ?_ | with_reducible refine Below.setCell ?_ (by first | with_reducible exact Nat.le_refl _ | (dsimp only; omega)) _)))
    · have d1 : decide (x < 0) = true := decide_eq_true h1
      clear h1
      go_enter Try.func26, Try.ntmps26
      go_wp2_with (go_at_call 20; (with_reducible refine (CC.out _ (Below.refl _ _)).mono ?_); rintro e w3 ⟨rfl, b3⟩; have B3 := b3; obtain ⟨q0, q1, q2⟩ := K3.out _ B3; obtain ⟨⟨z0, z1, z2, z3, z4, z5⟩, ⟨y0, y1, y2, y3, y4, y5⟩⟩ := K6.out _ B3)
      exact bodyPost_ret (v := .agg #[.int .i64 0, .int .i64 0, .slice none 0 0, .slice none 0 0, .slice none 0 0, .int .i64 1]) (by simp [results, Try.results26, go_sem, z0, z1, z2, z3, z4, z5]) rfl (RMadePost.bad hR (by repeat (first | with_reducible exact below_next b2 B3 | with_reducible refine toDK ?_ | with_reducible refine Below.setCell ?_ (by first | with_reducible exact Nat.le_refl _ | (dsimp only; omega)) _)))
    · have d1 : decide (x < 0) = false := decide_eq_false h1
      have d2 : decide (4 < x) = true := decide_eq_true h2
      clear h1 h2
      go_enter Try.func26, Try.ntmps26
      go_wp2_with (go_at_call 20; (with_reducible refine (CC.out _ (Below.refl _ _)).mono ?_); rintro e w3 ⟨rfl, b3⟩; have B3 := b3; obtain ⟨q0, q1, q2⟩ := K3.out _ B3; obtain ⟨⟨z0, z1, z2, z3, z4, z5⟩, ⟨y0, y1, y2, y3, y4, y5⟩⟩ := K6.out _ B3)
      exact bodyPost_ret (v := .agg #[.int .i64 0, .int .i64 0, .slice none 0 0, .slice none 0 0, .slice none 0 0, .int .i64 1]) (by simp [results, Try.results26, go_sem, z0, z1, z2, z3, z4, z5]) rfl (RMadePost.bad hR (by repeat (first | with_reducible exact below_next b2 B3 | with_reducible refine toDK ?_ | with_reducible refine Below.setCell ?_ (by first | with_reducible exact Nat.le_refl _ | (dsimp only; omega)) _)))
set_option maxRecDepth 100000 in
set_option maxHeartbeats 4000000 in
theorem apply8_none1 (ep nx : Int) (a : Option Addr) (n c : Nat) (l : List Sd) (id x : Int) (w : World) (h : RArg encS 4 w a n c l) (hc : chkC ep nx l = true) (hi : idxC (fun x => x.1 == id) l = -1) {R : Made} (hR : R = badM 4) :
    Calls Try.prog 26 #[.agg #[.int .i64 ep, .int .i64 nx, .slice a n c], .int .i64 1, .int .i64 id, .int .i64 x] w (RMadePost R w) := by
  obtain ⟨W1, hW1⟩ : ∃ W1, w.alloc (.cells #[.int .i64 ep, .int .i64 nx, .slice a n c] 30) = W1 := ⟨_, rfl⟩
  obtain ⟨W2, hW2⟩ : ∃ W2, W1.alloc (.cells #[.int .i64 0, .int .i64 0, .slice none 0 0, .slice none 0 0, .slice none 0 0, .int .i64 0] 54) = W2 := ⟨_, rfl⟩
  have m1 : W1.heap.size = w.heap.size + 1 := by rw [← hW1]; simp
  have m2 : W2.heap.size = W1.heap.size + 1 := by rw [← hW2]; simp
  have b1 : Below w.heap.size w W1 := by rw [← hW1]; exact (Below.refl _ _).alloc (Nat.le_refl _) _
  have b2 : Below w.heap.size w W2 := by rw [← hW2]; exact b1.alloc b1.size _
  have hr1 : W2.heap[w.heap.size]? = some (.cells #[.int .i64 ep, .int .i64 nx, .slice a n c] 30) := by rw [← hW2]; exact ((World.grownBy_alloc W1 _ none).block _ (by omega) (by simp)).trans (by rw [← hW1]; exact heap_alloc_new _ _)
  have hr2 : W2.heap[W1.heap.size]? = some (.cells #[.int .i64 0, .int .i64 0, .slice none 0 0, .slice none 0 0, .slice none 0 0, .int .i64 0] 54) := by rw [← hW2]; exact heap_alloc_new _ _
  have K3 := Lib.hid (fun W (h : Below W2.heap.size W2 W) => c3K ((h.block _ (by omega)).trans hr1))
  have K6 := Lib.hid (fun W (h : Below W2.heap.size W2 W) => c6K ((h.block _ (by omega)).trans hr2))
  have CC := Lib.hid (fun W (hb : Below W2.heap.size W2 W) => rcheck8_any ep nx a n c l W ((h.below b2).below hb))
  have CF := Lib.hid (fun W (hb : Below W2.heap.size W2 W) => rfind8_any ep nx id a n c l W ((h.below b2).below hb))
  obtain ⟨q0, q1, q2⟩ := K3.out _ (Below.refl _ _)
  obtain ⟨⟨z0, z1, z2, z3, z4, z5⟩, ⟨y0, y1, y2, y3, y4, y5⟩⟩ := K6.out _ (Below.refl _ _)
  replace m1 := Lib.hid m1
  replace m2 := Lib.hid m2
  have lw := b1.size
  rw [hc] at CC
  rw [show plcC (fun x => x.1 == id) ep nx l = -1 by unfold plcC; rw [if_pos hc]; exact hi] at CF
  clear h hr1 hr2 hc hi
  go_enter Try.func26, Try.ntmps26
  go_wp2_with (first
    | (go_at_call 20; (with_reducible refine (CC.out _ (Below.refl _ _)).mono ?_); rintro e w3 ⟨rfl, b3⟩; have B3 := b3; obtain ⟨q0, q1, q2⟩ := K3.out _ B3; obtain ⟨⟨z0, z1, z2, z3, z4, z5⟩, ⟨y0, y1, y2, y3, y4, y5⟩⟩ := K6.out _ B3)
    | (go_at_call 18; (with_reducible refine (CF.out _ B3).mono ?_); rintro e w4 ⟨rfl, b4⟩; have B4 := below_next B3 b4; obtain ⟨q0, q1, q2⟩ := K3.out _ B4; obtain ⟨⟨z0, z1, z2, z3, z4, z5⟩, ⟨y0, y1, y2, y3, y4, y5⟩⟩ := K6.out _ B4))
  exact bodyPost_ret (v := .agg #[.int .i64 0, .int .i64 0, .slice none 0 0, .slice none 0 0, .slice none 0 0, .int .i64 4]) (by simp [results, Try.results26, go_sem, z0, z1, z2, z3, z4, z5]) rfl (RMadePost.bad hR (by repeat (first | with_reducible exact below_next b2 B4 | with_reducible refine toDK ?_ | with_reducible refine Below.setCell ?_ (by first | with_reducible exact Nat.le_refl _ | (dsimp only; omega)) _)))
set_option maxRecDepth 100000 in
set_option maxHeartbeats 4000000 in
theorem apply8_none2 (ep nx : Int) (a : Option Addr) (n c : Nat) (l : List Sd) (id x : Int) (w : World) (h : RArg encS 4 w a n c l) (hc : chkC ep nx l = true) (hi : idxC (fun x => x.1 == id) l = -1) {R : Made} (hR : R = badM 4) :
    Calls Try.prog 26 #[.agg #[.int .i64 ep, .int .i64 nx, .slice a n c], .int .i64 2, .int .i64 id, .int .i64 x] w (RMadePost R w) := by
  obtain ⟨W1, hW1⟩ : ∃ W1, w.alloc (.cells #[.int .i64 ep, .int .i64 nx, .slice a n c] 30) = W1 := ⟨_, rfl⟩
  obtain ⟨W2, hW2⟩ : ∃ W2, W1.alloc (.cells #[.int .i64 0, .int .i64 0, .slice none 0 0, .slice none 0 0, .slice none 0 0, .int .i64 0] 54) = W2 := ⟨_, rfl⟩
  have m1 : W1.heap.size = w.heap.size + 1 := by rw [← hW1]; simp
  have m2 : W2.heap.size = W1.heap.size + 1 := by rw [← hW2]; simp
  have b1 : Below w.heap.size w W1 := by rw [← hW1]; exact (Below.refl _ _).alloc (Nat.le_refl _) _
  have b2 : Below w.heap.size w W2 := by rw [← hW2]; exact b1.alloc b1.size _
  have hr1 : W2.heap[w.heap.size]? = some (.cells #[.int .i64 ep, .int .i64 nx, .slice a n c] 30) := by rw [← hW2]; exact ((World.grownBy_alloc W1 _ none).block _ (by omega) (by simp)).trans (by rw [← hW1]; exact heap_alloc_new _ _)
  have hr2 : W2.heap[W1.heap.size]? = some (.cells #[.int .i64 0, .int .i64 0, .slice none 0 0, .slice none 0 0, .slice none 0 0, .int .i64 0] 54) := by rw [← hW2]; exact heap_alloc_new _ _
  have K3 := Lib.hid (fun W (h : Below W2.heap.size W2 W) => c3K ((h.block _ (by omega)).trans hr1))
  have K6 := Lib.hid (fun W (h : Below W2.heap.size W2 W) => c6K ((h.block _ (by omega)).trans hr2))
  have CC := Lib.hid (fun W (hb : Below W2.heap.size W2 W) => rcheck8_any ep nx a n c l W ((h.below b2).below hb))
  have CF := Lib.hid (fun W (hb : Below W2.heap.size W2 W) => rfind8_any ep nx id a n c l W ((h.below b2).below hb))
  obtain ⟨q0, q1, q2⟩ := K3.out _ (Below.refl _ _)
  obtain ⟨⟨z0, z1, z2, z3, z4, z5⟩, ⟨y0, y1, y2, y3, y4, y5⟩⟩ := K6.out _ (Below.refl _ _)
  replace m1 := Lib.hid m1
  replace m2 := Lib.hid m2
  have lw := b1.size
  rw [hc] at CC
  rw [show plcC (fun x => x.1 == id) ep nx l = -1 by unfold plcC; rw [if_pos hc]; exact hi] at CF
  clear h hr1 hr2 hc hi
  go_enter Try.func26, Try.ntmps26
  go_wp2_with (first
    | (go_at_call 20; (with_reducible refine (CC.out _ (Below.refl _ _)).mono ?_); rintro e w3 ⟨rfl, b3⟩; have B3 := b3; obtain ⟨q0, q1, q2⟩ := K3.out _ B3; obtain ⟨⟨z0, z1, z2, z3, z4, z5⟩, ⟨y0, y1, y2, y3, y4, y5⟩⟩ := K6.out _ B3)
    | (go_at_call 18; (with_reducible refine (CF.out _ B3).mono ?_); rintro e w4 ⟨rfl, b4⟩; have B4 := below_next B3 b4; obtain ⟨q0, q1, q2⟩ := K3.out _ B4; obtain ⟨⟨z0, z1, z2, z3, z4, z5⟩, ⟨y0, y1, y2, y3, y4, y5⟩⟩ := K6.out _ B4))
  exact bodyPost_ret (v := .agg #[.int .i64 0, .int .i64 0, .slice none 0 0, .slice none 0 0, .slice none 0 0, .int .i64 4]) (by simp [results, Try.results26, go_sem, z0, z1, z2, z3, z4, z5]) rfl (RMadePost.bad hR (by repeat (first | with_reducible exact below_next b2 B4 | with_reducible refine toDK ?_ | with_reducible refine Below.setCell ?_ (by first | with_reducible exact Nat.le_refl _ | (dsimp only; omega)) _)))
set_option maxRecDepth 100000 in
set_option maxHeartbeats 4000000 in
theorem apply8_none3 (ep nx : Int) (a : Option Addr) (n c : Nat) (l : List Sd) (id x : Int) (w : World) (h : RArg encS 4 w a n c l) (hc : chkC ep nx l = true) (hx : 0 ≤ x ∧ x ≤ 4) (hi : idxC (fun x => x.1 == id) l = -1) {R : Made} (hR : R = badM 4) :
    Calls Try.prog 26 #[.agg #[.int .i64 ep, .int .i64 nx, .slice a n c], .int .i64 3, .int .i64 id, .int .i64 x] w (RMadePost R w) := by
  obtain ⟨W1, hW1⟩ : ∃ W1, w.alloc (.cells #[.int .i64 ep, .int .i64 nx, .slice a n c] 30) = W1 := ⟨_, rfl⟩
  obtain ⟨W2, hW2⟩ : ∃ W2, W1.alloc (.cells #[.int .i64 0, .int .i64 0, .slice none 0 0, .slice none 0 0, .slice none 0 0, .int .i64 0] 54) = W2 := ⟨_, rfl⟩
  have m1 : W1.heap.size = w.heap.size + 1 := by rw [← hW1]; simp
  have m2 : W2.heap.size = W1.heap.size + 1 := by rw [← hW2]; simp
  have b1 : Below w.heap.size w W1 := by rw [← hW1]; exact (Below.refl _ _).alloc (Nat.le_refl _) _
  have b2 : Below w.heap.size w W2 := by rw [← hW2]; exact b1.alloc b1.size _
  have hr1 : W2.heap[w.heap.size]? = some (.cells #[.int .i64 ep, .int .i64 nx, .slice a n c] 30) := by rw [← hW2]; exact ((World.grownBy_alloc W1 _ none).block _ (by omega) (by simp)).trans (by rw [← hW1]; exact heap_alloc_new _ _)
  have hr2 : W2.heap[W1.heap.size]? = some (.cells #[.int .i64 0, .int .i64 0, .slice none 0 0, .slice none 0 0, .slice none 0 0, .int .i64 0] 54) := by rw [← hW2]; exact heap_alloc_new _ _
  have K3 := Lib.hid (fun W (h : Below W2.heap.size W2 W) => c3K ((h.block _ (by omega)).trans hr1))
  have K6 := Lib.hid (fun W (h : Below W2.heap.size W2 W) => c6K ((h.block _ (by omega)).trans hr2))
  have CC := Lib.hid (fun W (hb : Below W2.heap.size W2 W) => rcheck8_any ep nx a n c l W ((h.below b2).below hb))
  have CF := Lib.hid (fun W (hb : Below W2.heap.size W2 W) => rfind8_any ep nx id a n c l W ((h.below b2).below hb))
  obtain ⟨q0, q1, q2⟩ := K3.out _ (Below.refl _ _)
  obtain ⟨⟨z0, z1, z2, z3, z4, z5⟩, ⟨y0, y1, y2, y3, y4, y5⟩⟩ := K6.out _ (Below.refl _ _)
  replace m1 := Lib.hid m1
  replace m2 := Lib.hid m2
  have lw := b1.size
  rw [hc] at CC
  rw [show plcC (fun x => x.1 == id) ep nx l = -1 by unfold plcC; rw [if_pos hc]; exact hi] at CF
  have d1 : decide (x < 0) = false := decide_eq_false (by omega)
  have d2 : decide (4 < x) = false := decide_eq_false (by omega)
  clear h hr1 hr2 hc hi
  go_enter Try.func26, Try.ntmps26
  go_wp2_with (first
    | (go_at_call 20; (with_reducible refine (CC.out _ (Below.refl _ _)).mono ?_); rintro e w3 ⟨rfl, b3⟩; have B3 := b3; obtain ⟨q0, q1, q2⟩ := K3.out _ B3; obtain ⟨⟨z0, z1, z2, z3, z4, z5⟩, ⟨y0, y1, y2, y3, y4, y5⟩⟩ := K6.out _ B3)
    | (go_at_call 18; (with_reducible refine (CF.out _ B3).mono ?_); rintro e w4 ⟨rfl, b4⟩; have B4 := below_next B3 b4; obtain ⟨q0, q1, q2⟩ := K3.out _ B4; obtain ⟨⟨z0, z1, z2, z3, z4, z5⟩, ⟨y0, y1, y2, y3, y4, y5⟩⟩ := K6.out _ B4))
  exact bodyPost_ret (v := .agg #[.int .i64 0, .int .i64 0, .slice none 0 0, .slice none 0 0, .slice none 0 0, .int .i64 4]) (by simp [results, Try.results26, go_sem, z0, z1, z2, z3, z4, z5]) rfl (RMadePost.bad hR (by repeat (first | with_reducible exact below_next b2 B4 | with_reducible refine toDK ?_ | with_reducible refine Below.setCell ?_ (by first | with_reducible exact Nat.le_refl _ | (dsimp only; omega)) _)))
set_option maxRecDepth 100000 in
set_option maxHeartbeats 4000000 in
theorem apply8_last (ep nx : Int) (a : Option Addr) (n c : Nat) (l : List Sd) (id x : Int) (w : World) (h : RArg encS 4 w a n c l) (hc : chkC ep nx l = true) (i : Nat) (hi : idxC (fun x => x.1 == id) l = (i : Int)) (hl : i + 1 = l.length) {R : Made} (hR : R = badM 4) :
    Calls Try.prog 26 #[.agg #[.int .i64 ep, .int .i64 nx, .slice a n c], .int .i64 2, .int .i64 id, .int .i64 x] w (RMadePost R w) := by
  have hn := h.1
  have hz := h.2.1
  obtain ⟨W1, hW1⟩ : ∃ W1, w.alloc (.cells #[.int .i64 ep, .int .i64 nx, .slice a n c] 30) = W1 := ⟨_, rfl⟩
  obtain ⟨W2, hW2⟩ : ∃ W2, W1.alloc (.cells #[.int .i64 0, .int .i64 0, .slice none 0 0, .slice none 0 0, .slice none 0 0, .int .i64 0] 54) = W2 := ⟨_, rfl⟩
  have m1 : W1.heap.size = w.heap.size + 1 := by rw [← hW1]; simp
  have m2 : W2.heap.size = W1.heap.size + 1 := by rw [← hW2]; simp
  have b1 : Below w.heap.size w W1 := by rw [← hW1]; exact (Below.refl _ _).alloc (Nat.le_refl _) _
  have b2 : Below w.heap.size w W2 := by rw [← hW2]; exact b1.alloc b1.size _
  have hr1 : W2.heap[w.heap.size]? = some (.cells #[.int .i64 ep, .int .i64 nx, .slice a n c] 30) := by rw [← hW2]; exact ((World.grownBy_alloc W1 _ none).block _ (by omega) (by simp)).trans (by rw [← hW1]; exact heap_alloc_new _ _)
  have hr2 : W2.heap[W1.heap.size]? = some (.cells #[.int .i64 0, .int .i64 0, .slice none 0 0, .slice none 0 0, .slice none 0 0, .int .i64 0] 54) := by rw [← hW2]; exact heap_alloc_new _ _
  have K3 := Lib.hid (fun W (h : Below W2.heap.size W2 W) => c3K ((h.block _ (by omega)).trans hr1))
  have K6 := Lib.hid (fun W (h : Below W2.heap.size W2 W) => c6K ((h.block _ (by omega)).trans hr2))
  have CC := Lib.hid (fun W (hb : Below W2.heap.size W2 W) => rcheck8_any ep nx a n c l W ((h.below b2).below hb))
  have CF := Lib.hid (fun W (hb : Below W2.heap.size W2 W) => rfind8_any ep nx id a n c l W ((h.below b2).below hb))
  obtain ⟨q0, q1, q2⟩ := K3.out _ (Below.refl _ _)
  obtain ⟨⟨z0, z1, z2, z3, z4, z5⟩, ⟨y0, y1, y2, y3, y4, y5⟩⟩ := K6.out _ (Below.refl _ _)
  replace m1 := Lib.hid m1
  replace m2 := Lib.hid m2
  have lw := b1.size
  rw [hc] at CC
  rw [show plcC (fun x => x.1 == id) ep nx l = (i : Int) by unfold plcC; rw [if_pos hc]; exact hi] at CF
  have e1 : decide ((i : Int) < 0) = false := decide_eq_false (by omega)
  have e2 : ((i : Int) + 1 == (n : Int)) = true := by simp; omega
  have e3 : IntKind.i64.wrap ((i : Int) + 1) = (i : Int) + 1 := IntWalk.i64_in _ (by omega)
  replace hn := Lib.hid hn
  clear h hr1 hr2 hc hi hl hz
  go_enter Try.func26, Try.ntmps26
  go_wp2_with (first
    | (go_at_call 20; (with_reducible refine (CC.out _ (Below.refl _ _)).mono ?_); rintro e w3 ⟨rfl, b3⟩; have B3 := b3; obtain ⟨q0, q1, q2⟩ := K3.out _ B3; obtain ⟨⟨z0, z1, z2, z3, z4, z5⟩, ⟨y0, y1, y2, y3, y4, y5⟩⟩ := K6.out _ B3)
    | (go_at_call 18; (with_reducible refine (CF.out _ B3).mono ?_); rintro e w4 ⟨rfl, b4⟩; have B4 := below_next B3 b4; obtain ⟨q0, q1, q2⟩ := K3.out _ B4; obtain ⟨⟨z0, z1, z2, z3, z4, z5⟩, ⟨y0, y1, y2, y3, y4, y5⟩⟩ := K6.out _ B4))
  exact bodyPost_ret (v := .agg #[.int .i64 0, .int .i64 0, .slice none 0 0, .slice none 0 0, .slice none 0 0, .int .i64 4]) (by simp [results, Try.results26, go_sem, z0, z1, z2, z3, z4, z5]) rfl (RMadePost.bad hR (by repeat (first | with_reducible exact below_next b2 B4 | with_reducible refine toDK ?_ | with_reducible refine Below.setCell ?_ (by first | with_reducible exact Nat.le_refl _ | (dsimp only; omega)) _)))
set_option maxRecDepth 100000 in
set_option maxHeartbeats 4000000 in
theorem apply8_at (ep nx : Int) (a : Option Addr) (n c : Nat) (l : List Sd) (id x : Int) (w : World) (h : RArg encS 4 w a n c l) (hc : chkC ep nx l = true) (i : Nat) (hil : i < l.length) (hi : idxC (fun x => x.1 == id) l = (i : Int)) (i0 lo hi' nd : Int) (hs : l[i]! = (i0, lo, hi', nd)) (hbad : x ≤ lo ∨ (¬ x ≤ lo ∧ hi' ≤ x)) {R : Made} (hR : R = badM 1) :
    Calls Try.prog 26 #[.agg #[.int .i64 ep, .int .i64 nx, .slice a n c], .int .i64 1, .int .i64 id, .int .i64 x] w (RMadePost R w) := by
  have hn := Lib.hid h.1
  have hz : (n : Int) ≤ 24 := by have := (chkC_parts hc).2.2.1.2; have := hn.out; omega
  have hil' : i < n := by have := hn.out; omega
  have hnx := (chkC_parts hc).2.1
  have hep := (chkC_parts hc).1
  have HP := Lib.hid (fun W (hb : Below w.heap.size w W) => (h.below hb).2.2.2.2)
  obtain ⟨W1, hW1⟩ : ∃ W1, w.alloc (.cells #[.int .i64 ep, .int .i64 nx, .slice a n c] 30) = W1 := ⟨_, rfl⟩
  obtain ⟨W2, hW2⟩ : ∃ W2, W1.alloc (.cells #[.int .i64 0, .int .i64 0, .slice none 0 0, .slice none 0 0, .slice none 0 0, .int .i64 0] 54) = W2 := ⟨_, rfl⟩
  have m1 : W1.heap.size = w.heap.size + 1 := by rw [← hW1]; simp
  have m2 : W2.heap.size = W1.heap.size + 1 := by rw [← hW2]; simp
  have b1 : Below w.heap.size w W1 := by rw [← hW1]; exact (Below.refl _ _).alloc (Nat.le_refl _) _
  have b2 : Below w.heap.size w W2 := by rw [← hW2]; exact b1.alloc b1.size _
  have hr1 : W2.heap[w.heap.size]? = some (.cells #[.int .i64 ep, .int .i64 nx, .slice a n c] 30) := by rw [← hW2]; exact ((World.grownBy_alloc W1 _ none).block _ (by omega) (by simp)).trans (by rw [← hW1]; exact heap_alloc_new _ _)
  have hr2 : W2.heap[W1.heap.size]? = some (.cells #[.int .i64 0, .int .i64 0, .slice none 0 0, .slice none 0 0, .slice none 0 0, .int .i64 0] 54) := by rw [← hW2]; exact heap_alloc_new _ _
  have K3 := Lib.hid (fun W (h : Below W2.heap.size W2 W) => c3K ((h.block _ (by omega)).trans hr1))
  have K6 := Lib.hid (fun W (h : Below W2.heap.size W2 W) => c6K ((h.block _ (by omega)).trans hr2))
  have CC := Lib.hid (fun W (hb : Below W2.heap.size W2 W) => rcheck8_any ep nx a n c l W ((h.below b2).below hb))
  have CF := Lib.hid (fun W (hb : Below W2.heap.size W2 W) => rfind8_any ep nx id a n c l W ((h.below b2).below hb))
  obtain ⟨q0, q1, q2⟩ := K3.out _ (Below.refl _ _)
  obtain ⟨⟨z0, z1, z2, z3, z4, z5⟩, ⟨y0, y1, y2, y3, y4, y5⟩⟩ := K6.out _ (Below.refl _ _)
  replace m1 := Lib.hid m1
  replace m2 := Lib.hid m2
  have lw := b1.size
  rw [hc] at CC
  rw [show plcC (fun x => x.1 == id) ep nx l = (i : Int) by unfold plcC; rw [if_pos hc]; exact hi] at CF
  have e1 : decide ((i : Int) < 0) = false := decide_eq_false (by omega)
  have e4 : (i : Int) < (n : Int) := by omega
  have e5 : (0 : Int) ≤ (i : Int) := by omega
  have e6 : ¬ (i : Int) < 0 := by omega
  clear h hr1 hr2 hc hi
  have hla : ∀ b, a = some b → True := fun _ _ => trivial
  clear hla
  rcases hbad with h1 | ⟨h1, h2⟩
  · have d1 : decide (x ≤ lo) = true := decide_eq_true h1
    clear h1
    go_enter Try.func26, Try.ntmps26
    go_wp2_with (first
      | (go_at_call 20; (with_reducible refine (CC.out _ (Below.refl _ _)).mono ?_); rintro e w3 ⟨rfl, b3⟩; have B3 := b3; obtain ⟨q0, q1, q2⟩ := K3.out _ B3; obtain ⟨⟨z0, z1, z2, z3, z4, z5⟩, ⟨y0, y1, y2, y3, y4, y5⟩⟩ := K6.out _ B3)
      | (go_at_call 18; (with_reducible refine (CF.out _ B3).mono ?_); rintro e w4 ⟨rfl, b4⟩; have B4 := below_next B3 b4; obtain ⟨q0, q1, q2⟩ := K3.out _ B4; obtain ⟨⟨z0, z1, z2, z3, z4, z5⟩, ⟨y0, y1, y2, y3, y4, y5⟩⟩ := K6.out _ B4; obtain ⟨bL, oL, eL, hbL, c0, c1, c2, c3⟩ := (HP.out _ (below_next b2 B4)).shard i hil; rw [hs] at c0 c1 c2 c3; dsimp only at c0 c1 c2 c3; subst eL; obtain ⟨W5, hW5⟩ : ∃ W5, w4.alloc (.cells #[.int .i64 i0, .int .i64 lo, .int .i64 hi', .int .i64 nd] 113) = W5 := ⟨_, rfl⟩; have b5 : Below w4.heap.size w4 W5 := (by rw [← hW5]; exact (Below.refl _ _).alloc (Nat.le_refl _) _); have B5 := below_next B4 b5; have hS5 : W5.heap[w4.heap.size]? = some (.cells #[.int .i64 i0, .int .i64 lo, .int .i64 hi', .int .i64 nd] 113) := (by rw [← hW5]; exact heap_alloc_new _ _); obtain ⟨W6, hW6⟩ : ∃ W6, W5.alloc (.cells #[.int .i64 i0, .int .i64 lo, .int .i64 hi', .int .i64 nd] 113) = W6 := ⟨_, rfl⟩; have b6 : Below W5.heap.size W5 W6 := (by rw [← hW6]; exact (Below.refl _ _).alloc (Nat.le_refl _) _); have B6 := below_next B5 b6; obtain ⟨W7, hW7⟩ : ∃ W7, W6.alloc (.cells #[.int .i64 nx, .int .i64 lo, .int .i64 hi', .int .i64 x] 113) = W7 := ⟨_, rfl⟩; have b7 : Below W6.heap.size W6 W7 := (by rw [← hW7]; exact (Below.refl _ _).alloc (Nat.le_refl _) _); have B7 := below_next B6 b7; have g5 : w4.heap.size < W5.heap.size := (Array.getElem?_eq_some_iff.1 hS5).1; have KS := Lib.hid (fun W (hq : Below W5.heap.size W5 W) => cell4H ((hq.block _ g5).trans hS5)); obtain ⟨s0, s1, s2, s3⟩ := KS.out _ (Below.refl _ _); obtain ⟨t0, t1, t2, t3⟩ := KS.out _ b6; obtain ⟨u0, u1, u2, u3⟩ := KS.out _ (below_next b6 b7); obtain ⟨p0, p1, p2⟩ := K3.out _ B5; obtain ⟨q0, q1, q2⟩ := K3.out _ B6; obtain ⟨r0, r1, r2⟩ := K3.out _ B7; obtain ⟨⟨z0, z1, z2, z3, z4, z5⟩, ⟨y0, y1, y2, y3, y4, y5⟩⟩ := K6.out _ B7; replace hS5 := Lib.hid hS5))
    exact bodyPost_ret (v := .agg #[.int .i64 0, .int .i64 0, .slice none 0 0, .slice none 0 0, .slice none 0 0, .int .i64 1]) (by simp [results, Try.results26, go_sem, z0, z1, z2, z3, z4, z5]) rfl (RMadePost.bad hR (by repeat (first | with_reducible exact below_next b2 B7 | with_reducible refine toDK ?_ | with_reducible refine Below.setCell ?_ (by first | with_reducible exact Nat.le_refl _ | (dsimp only; omega)) _)))
  · have d1 : decide (x ≤ lo) = false := decide_eq_false h1
    have d2 : decide (hi' ≤ x) = true := decide_eq_true h2
    clear h1 h2
    go_enter Try.func26, Try.ntmps26
    go_wp2_with (first
      | (go_at_call 20; (with_reducible refine (CC.out _ (Below.refl _ _)).mono ?_); rintro e w3 ⟨rfl, b3⟩; have B3 := b3; obtain ⟨q0, q1, q2⟩ := K3.out _ B3; obtain ⟨⟨z0, z1, z2, z3, z4, z5⟩, ⟨y0, y1, y2, y3, y4, y5⟩⟩ := K6.out _ B3)
      | (go_at_call 18; (with_reducible refine (CF.out _ B3).mono ?_); rintro e w4 ⟨rfl, b4⟩; have B4 := below_next B3 b4; obtain ⟨q0, q1, q2⟩ := K3.out _ B4; obtain ⟨⟨z0, z1, z2, z3, z4, z5⟩, ⟨y0, y1, y2, y3, y4, y5⟩⟩ := K6.out _ B4; obtain ⟨bL, oL, eL, hbL, c0, c1, c2, c3⟩ := (HP.out _ (below_next b2 B4)).shard i hil; rw [hs] at c0 c1 c2 c3; dsimp only at c0 c1 c2 c3; subst eL; obtain ⟨W5, hW5⟩ : ∃ W5, w4.alloc (.cells #[.int .i64 i0, .int .i64 lo, .int .i64 hi', .int .i64 nd] 113) = W5 := ⟨_, rfl⟩; have b5 : Below w4.heap.size w4 W5 := (by rw [← hW5]; exact (Below.refl _ _).alloc (Nat.le_refl _) _); have B5 := below_next B4 b5; have hS5 : W5.heap[w4.heap.size]? = some (.cells #[.int .i64 i0, .int .i64 lo, .int .i64 hi', .int .i64 nd] 113) := (by rw [← hW5]; exact heap_alloc_new _ _); obtain ⟨W6, hW6⟩ : ∃ W6, W5.alloc (.cells #[.int .i64 i0, .int .i64 lo, .int .i64 hi', .int .i64 nd] 113) = W6 := ⟨_, rfl⟩; have b6 : Below W5.heap.size W5 W6 := (by rw [← hW6]; exact (Below.refl _ _).alloc (Nat.le_refl _) _); have B6 := below_next B5 b6; obtain ⟨W7, hW7⟩ : ∃ W7, W6.alloc (.cells #[.int .i64 nx, .int .i64 lo, .int .i64 hi', .int .i64 x] 113) = W7 := ⟨_, rfl⟩; have b7 : Below W6.heap.size W6 W7 := (by rw [← hW7]; exact (Below.refl _ _).alloc (Nat.le_refl _) _); have B7 := below_next B6 b7; have g5 : w4.heap.size < W5.heap.size := (Array.getElem?_eq_some_iff.1 hS5).1; have KS := Lib.hid (fun W (hq : Below W5.heap.size W5 W) => cell4H ((hq.block _ g5).trans hS5)); obtain ⟨s0, s1, s2, s3⟩ := KS.out _ (Below.refl _ _); obtain ⟨t0, t1, t2, t3⟩ := KS.out _ b6; obtain ⟨u0, u1, u2, u3⟩ := KS.out _ (below_next b6 b7); obtain ⟨p0, p1, p2⟩ := K3.out _ B5; obtain ⟨q0, q1, q2⟩ := K3.out _ B6; obtain ⟨r0, r1, r2⟩ := K3.out _ B7; obtain ⟨⟨z0, z1, z2, z3, z4, z5⟩, ⟨y0, y1, y2, y3, y4, y5⟩⟩ := K6.out _ B7; replace hS5 := Lib.hid hS5))
    exact bodyPost_ret (v := .agg #[.int .i64 0, .int .i64 0, .slice none 0 0, .slice none 0 0, .slice none 0 0, .int .i64 1]) (by simp [results, Try.results26, go_sem, z0, z1, z2, z3, z4, z5]) rfl (RMadePost.bad hR (by repeat (first | with_reducible exact below_next b2 B7 | with_reducible refine toDK ?_ | with_reducible refine Below.setCell ?_ (by first | with_reducible exact Nat.le_refl _ | (dsimp only; omega)) _)))
end Go.Proofs.Ytcpcdinfagdlhaa
