/-
  CONTRACTS of the library's functions as span calls them; Has, Make, Within.
-/
import Derived.Test.YtfnjadiibiedgaaSpanE
import Derived.Test.YtfnjadiibiedgaaShelf
import Derived.Laws.StructEq
namespace Go.Proofs.Ytfnjadiibiedgaa
open Go.RowKit Go.Shelf
open Go.Sort (HoldsK PermIn SortedIn SWO grow putRowK putRow)

theorem getE_eq {l : List Sp} {j : Nat} (h : j < l.length) : l[j]! = l.getD j (0, 0) := by
  rw [getElem!_pos l j h]; simp [List.getD, List.getElem?_eq_getElem h]
theorem spC_hc {w : World} {B : Nat} {b off : Nat} {l : List Sp} (h : PIn w B (some ⟨b, off, none⟩) l) (j : Nat) (hj : j < l.length) (i : Nat) (v : Value) (hi : (spC l[j]!)[i]? = some v) : w.cell? ⟨b, off + j * 2 + i, none⟩ = some v := by
  obtain ⟨b', off', e, _, c0, c1⟩ := h j hj
  cases e
  rw [getE_eq hj] at hi
  match i, hi with
  | 0, hi => simp [spC] at hi; rw [← hi]; exact c0
  | 1, hi => simp [spC] at hi; rw [← hi]; exact c1
  | i + 2, hi => simp [spC] at hi
theorem PIn.some' {w : World} {B : Nat} {a : Option Addr} {l : List Sp} (h : PIn w B a l) (hl : l ≠ []) : ∃ b off, a = some ⟨b, off, none⟩ ∧ b < B := by
  obtain ⟨b, off, e, hb, _⟩ := h 0 (List.length_pos_iff.2 hl)
  exact ⟨b, off, e, hb⟩

/-! slices.ContainsFunc -/
theorem indexFunc_none (a : Option Addr) (c : Nat) (fv : Value) (w : World) : Calls Try.prog 102 #[.slice a 0 c, fv] w fun e w' => e = .returned (.int .i64 (-1)) ∧ w = w' := by
  go_enter Try.func102, Try.ntmps102
  go_wp2
  refine wp_loop_rounds 1 ?_
  rw [rounds_succ]
  go_wp2
  go_ret
  exact ⟨rfl, rfl⟩
theorem containsFunc_none (a : Option Addr) (c : Nat) (fv : Value) (w : World) : Calls Try.prog 59 #[.slice a 0 c, fv] w (Gives w (.bool false)) := by
  go_enter Try.func59, Try.ntmps59
  go_wp2_with (go_at_call 102; refine (indexFunc_none _ _ _ _).mono ?_; rintro e w' ⟨rfl, rfl⟩)
  go_ret
  exact ⟨rfl, Below.refl _ _⟩
theorem contains_any (p : Sp → Bool) (g : Nat) (lb : Array Value) (eg : ∀ args w, (callFunc g args).run Try.prog w = .ok (.enter g args) w) (a : Option Addr) (c : Nat) (l : List Sp) (w : World)
    (hp : PredBelow Try.prog g lb (fun x => .agg (spC x).toArray) p w) (hz : (l.length : Int) ≤ 9223372036854775807) (h : PIn w w.heap.size a l) :
    Calls Try.prog 59 #[.slice a l.length c, .func (.func g) #[] lb] w (Gives w (.bool (l.any p))) := by
  by_cases hl : l = []
  · subst hl; exact containsFunc_none a c _ w
  · obtain ⟨b, off, rfl, hb⟩ := h.some' hl
    have := AnyQ.slices_ContainsFunc Try.lContainsSpan 2 Try.isAgg24 Try.sizeOf24 spC (fun _ => rfl) p g lb eg b off l.length c l w hp (Nat.le_refl _) (by omega) hb (fun j hj i v hi => spC_hc h j hj i v hi)
    rw [List.take_length] at this
    exact this

/-- Has's closure: is the key, in its box, in a span? -/
theorem has1 (key : Int) (B : Nat) (w : World) (hB : B < w.heap.size) (hc : w.cell? ⟨B, 0, none⟩ = some (.int .i64 key)) :
    PredBelow Try.prog 60 #[.pointer (some ⟨B, 0, none⟩)] (fun x => .agg (spC x).toArray) (fun x => inB x key) w := fun W x hb => by
  have hcW : W.cell? ⟨B, 0, none⟩ = some (.int .i64 key) := (hb.cell (p := ⟨B, 0, none⟩) hB).trans hc
  have hBW : B < W.heap.size := Nat.lt_of_lt_of_le hB hb.size
  obtain ⟨p, q⟩ := x
  show Calls Try.prog 60 #[.agg #[.int .i64 p, .int .i64 q], .pointer (some ⟨B, 0, none⟩)] W fun e w' => e = .returned (.bool (inB (p, q) key)) ∧ Below w.heap.size w w'
  obtain ⟨W1, hW1⟩ : ∃ W1, W.alloc (.cells #[.int .i64 p, .int .i64 q] 24) = W1 := ⟨_, rfl⟩
  have e0 : W1.cell? ⟨W.heap.size, 0, none⟩ = some (.int .i64 p) := by rw [← hW1]; simp
  have e1 : W1.cell? ⟨W.heap.size, 1, none⟩ = some (.int .i64 q) := by rw [← hW1]; simp
  have hc1 : W1.cell? ⟨B, 0, none⟩ = some (.int .i64 key) := by rw [← hW1]; exact (World.cell?_alloc_lt W _ ⟨B, 0, none⟩ hBW).trans hcW
  have b1 : Below w.heap.size w W1 := by rw [← hW1]; exact hb.alloc hb.size _
  have s1 : W.heap.size < W1.heap.size ∧ B < W1.heap.size := by rw [← hW1]; simp; omega
  obtain ⟨s1, s2⟩ := s1
  have hi := Lib.hid (show inB (p, q) key = (oneB (p, q) && decide (p ≤ key ∧ key < q)) from rfl)
  generalize inB (p, q) key = r at hi
  cases ho : oneB (p, q)
  all_goals
    replace ho := Lib.hid ho
    go_enter Try.func60, Try.ntmps60
    go_wp2_with (go_at_call 58; (with_reducible refine (one_any (p, q) _).mono ?_); rw [ho.out]; rintro e w2 ⟨rfl, b2⟩; have f0 := (b2.cell (p := ⟨W.heap.size, 0, none⟩) s1).trans e0; have f1 := (b2.cell (p := ⟨W.heap.size, 1, none⟩) s1).trans e1; have f2 := (b2.cell (p := ⟨B, 0, none⟩) s2).trans hc1)
    all_goals
      go_ret
      exact ⟨ret_bool (by rw [hi.out, ho.out]; first | rfl | (simp [*]; done) | (simp; omega) | (simp [*]; omega)), b1.trans (b2.mono b1.size)⟩

set_option maxHeartbeats 400000 in
theorem has_any (a : Option Addr) (c : Nat) (l : List Sp) (key : Int) (w : World) (hz : (l.length : Int) ≤ 9223372036854775807) (h : PIn w w.heap.size a l) :
    Calls Try.prog 20 #[.slice a l.length c, .int .i64 key] w (Gives w (.bool (hasB l key))) := by
  obtain ⟨W, hW⟩ : ∃ W, w.alloc (.cells #[.int .i64 key] 3) = W := ⟨_, rfl⟩
  have b1 : Below w.heap.size w W := by rw [← hW]; exact (Below.refl _ _).alloc (Nat.le_refl _) _
  have C := Lib.hid (contains_any (fun x => inB x key) 60 #[.pointer (some ⟨w.heap.size, 0, none⟩)] (enters_of Try.func60 (by kernel_rfl) rfl) a c l W
    (has1 key w.heap.size W (by rw [← hW]; simp) (by rw [← hW]; simp)) hz (h.belowMore b1))
  clear h
  go_enter Try.func20, Try.ntmps20
  go_wp2_with (go_at_call 59; (with_reducible refine C.out.mono ?_); rintro e w2 ⟨rfl, b2⟩)
  go_ret
  exact ⟨rfl, below_next b1 b2⟩

/-- Make's first closure: may a span not be? -/
theorem make1 (w : World) : PredBelow Try.prog 96 #[] (fun x => .agg (spC x).toArray) (fun x => !oneB x) w := fun W x hb => by
  obtain ⟨p, q⟩ := x
  show Calls Try.prog 96 #[.agg #[.int .i64 p, .int .i64 q]] W fun e w' => e = .returned (.bool (!oneB (p, q))) ∧ Below w.heap.size w w'
  have C := fun w' => one_any (p, q) w'
  generalize oneB (p, q) = r at C
  have b1 : Below w.heap.size w (W.alloc (.cells #[.int .i64 p, .int .i64 q] 24)) := hb.alloc hb.size _
  replace C := Lib.hid C
  go_enter Try.func96, Try.ntmps96
  go_wp2_with (go_at_call 58; (with_reducible refine (C.out _).mono ?_); rintro e w2 ⟨rfl, b2⟩)
  go_ret
  exact ⟨rfl, b1.trans (b2.mono b1.size)⟩
/-- Make's second closure: how do two spans' starts stand? -/
theorem make2 (x y : Sp) (W : World) : Calls Try.prog 99 #[.agg #[.int .i64 x.1, .int .i64 x.2], .agg #[.int .i64 y.1, .int .i64 y.2]] W fun e w' => e = .returned (.int .i64 (Lib.compareInt x.1 y.1)) ∧ ∃ q os', w' = grow (W.drewN q) os' := by
  have hcon := fun W' => AnyG.cmp_Compare_int Try.lCmpInt x.1 y.1 W'
  change ∀ W', Calls Try.prog 93 _ _ _ at hcon
  generalize Lib.compareInt x.1 y.1 = r at hcon ⊢
  go_enter Try.func99, Try.ntmps99
  go_wp2_with (go_at_call 93; refine (hcon _).mono ?_; rintro e w' ⟨rfl, rfl⟩)
  go_ret
  exact ⟨rfl, 0, _, by rw [Go.Sort.alloc_eq_grow, Go.Sort.alloc_eq_grow, Go.Sort.grow_grow]; rfl⟩
theorem ltLo (x y : Sp) : ltOf (fun x y : Sp => Lib.compareInt x.1 y.1) x y = decide (x.1 < y.1) := by
  unfold ltOf Lib.compareInt
  by_cases h1 : x.1 < y.1
  · simp [h1]
  · by_cases h2 : y.1 < x.1 <;> simp [h1, h2]
theorem swoLo : SWO (ltOf fun x y : Sp => Lib.compareInt x.1 y.1) where
  irrefl x := by rw [ltLo]; simp
  trans x y z h1 h2 := by rw [ltLo] at *; simp at *; omega
  ntrans x y z h1 h2 := by rw [ltLo] at *; simp at *; omega
end Go.Proofs.Ytfnjadiibiedgaa
