/-
  RefB3, RefC3, RefD3, RefE3, RefF3: one text.
-/
import Derived.Test.YtihpojllalnmcaaSA3
import Derived.Shelf.SlSortCmp.QuietGrown
import Derived.IntWalk
/-
  CONTRACTS of the document's Check and Has on spans; of Keys.
-/
namespace Go.Proofs.Ytihpojllalnmcaa
open Go.RowKit Go.Shelf
open Go.Sort (grow)

theorem rone_grow (s : Sp) (W : World) : Calls Try.prog 81 #[.agg #[.int .i64 s.1, .int .i64 s.2]] W fun e w' => e = .returned (.bool (oneB s)) ∧ ∃ q os', w' = grow (W.drewN q) os' := by
  obtain ⟨x, y⟩ := s
  have H := Lib.hid (show oneB (x, y) = decide (0 ≤ x ∧ x < y ∧ y ≤ 4096) from rfl)
  generalize oneB (x, y) = r at H
  go_enter Try.func81, Try.ntmps81
  go_wp2
  all_goals
    go_ret
    exact ⟨ret_bool (by rw [H.out]; first | (simp [*]; done) | (simp [*]; omega)), 0, _, by rw [Go.Sort.alloc_eq_grow]; rfl⟩
theorem rone_is {x y : Int} {r : Bool} (h : oneB (x, y) = r) (W : World) : Calls Try.prog 81 #[.agg #[.int .i64 x, .int .i64 y]] W fun e w' => e = .returned (.bool r) ∧ ∃ q os', w' = grow (W.drewN q) os' := by
  subst h; exact rone_grow (x, y) W
theorem below_growN {B : Nat} {w w' : World} (h : Below B w w') (hB : B ≤ w'.heap.size) (n : Nat) (os : Array Obj) : Below B w (grow (w'.drewN n) os) :=
  h.trans ⟨rfl, rfl, rfl, by simp [grow], fun k hk => by
    rw [Go.Sort.heap_grow_old _ _ (by simp; omega)]; rfl⟩

end Go.Proofs.Ytihpojllalnmcaa


/-
  CONTRACTS of the document's Keys, Count.
-/
namespace Go.Proofs.Ytihpojllalnmcaa
open Go.RowKit Go.Shelf

theorem Try.infoBool : (Try.prog.info? 4).map (fun i => (i.zero, i.size, i.bytes)) = some (some (.bool false), 1, 1) := by kernel_rfl
/-- The Bools that a test gives of the keys below n. -/
def tab (p : Int → Bool) (n : Nat) : List Value := (List.range n).map fun j : Nat => Value.bool (p (j : Int))
theorem tab_len (p : Int → Bool) (n : Nat) : (tab p n).length = n := by simp [tab]
theorem tab_get (p : Int → Bool) (n j : Nat) (h : j < n) : (tab p n)[j]? = some (.bool (p j)) := by simp [tab, h]
theorem tab_succ (p : Int → Bool) (n : Nat) : tab p (n + 1) = tab p n ++ [.bool (p n)] := by simp [tab, List.range_succ]
theorem tab_congr {p q : Int → Bool} {n : Nat} (h : ∀ j : Nat, j < n → p j = q j) : tab p n = tab q n := by
  unfold tab
  exact List.map_congr_left fun j hj => by rw [h j (List.mem_range.1 hj)]
theorem tab_set (p : Int → Bool) (n m : Nat) (h : m < n) : (tab p n).set m (.bool true) = tab (fun j => p j || decide (j = (m : Int))) n := by
  refine List.ext_getElem? fun j => ?_
  rw [List.getElem?_set]
  by_cases hj : j < n
  · have h2 : (tab (fun j => p j || decide (j = (m : Int))) n)[j]? = some (.bool (p j || decide ((j : Int) = (m : Int)))) := tab_get _ _ _ hj
    rw [h2]
    by_cases e : m = j
    · subst e
      rw [if_pos rfl, if_pos (by rw [tab_len]; exact h), decide_eq_true rfl, Bool.or_true]
    · rw [if_neg e, tab_get _ _ _ hj, decide_eq_false (by omega), Bool.or_false]
  · have h1 : (tab p n)[j]? = none := List.getElem?_eq_none (by rw [tab_len]; omega)
    have h2 : (tab (fun j => p j || decide (j = (m : Int))) n)[j]? = none := List.getElem?_eq_none (by rw [tab_len]; omega)
    rw [h2, if_neg (by omega), h1]
theorem row_below {t : TypeId} {size n base : Nat} {w w' : World} {v : Value} {xs : List Value} (h : w.ownsRow base t size v n xs) (hb : Below w.heap.size w w') : w'.ownsRow base t size v n xs :=
  World.ownsRow.kept h (row := none) ⟨hb.os, hb.tape, hb.output, hb.size, fun k hk _ => hb.block k hk⟩ (by cases hv : v.ownBlock <;> simp)
theorem row_form {t : TypeId} {size n base : Nat} {w : World} {v : Value} {xs : List Value} (h : w.ownsRow base t size v n xs) (hn : 0 < n) : ∃ g cap, v = .slice (some ⟨g, 0, none⟩) n cap ∧ base ≤ g ∧ g < w.heap.size := by
  rcases h.2 with ⟨_, h0⟩ | ⟨g, cap, cur, hv, hb, hg, _⟩
  · omega
  · exact ⟨g, cap, hv, hb, (Array.getElem?_eq_some_iff.1 hg).1⟩
/-- 4096 Bools in block g. -/
def KIn (w : World) (g : Nat) (p : Int → Bool) : Prop := g < w.heap.size ∧ ∀ j : Nat, j < 4096 → w.cell? ⟨g, j, none⟩ = some (.bool (p j))
theorem KIn.below {w w' : World} {g : Nat} {p : Int → Bool} (h : KIn w g p) (hb : Below w.heap.size w w') : KIn w' g p := ⟨Nat.lt_of_lt_of_le h.1 hb.size, fun j hj => (hb.cell (p := ⟨g, j, none⟩) h.1).trans (h.2 j hj)⟩
theorem KIn.of_row {w : World} {base g cap n : Nat} {p : Int → Bool} {t : TypeId} (hn : n = 4096) (h : w.ownsRow base t 1 (.slice (some ⟨g, 0, none⟩) n cap) n (tab p n)) : KIn w g p := by
  subst hn
  refine ⟨(h.lt g rfl).2, fun j hj => ?_⟩
  have := World.ownsRow.cellAt h j (by omega)
  rw [this, tab_get _ _ _ hj]
def KeysPost (w : World) (l : List Sp) (e : Ending) (w' : World) : Prop := ∃ g cap, e = .returned (.slice (some ⟨g, 0, none⟩) 4096 cap) ∧ KIn w' g (hasB l) ∧ Below w.heap.size w w'

end Go.Proofs.Ytihpojllalnmcaa


/-
  CONTRACTS of the document's Count, Set, Make.
-/
namespace Go.Proofs.Ytihpojllalnmcaa
open Go.RowKit Go.Shelf

theorem cntB_chk' {l : List Sp} (h : chkB l = true) : cntB l = cardOf (hasB l) := by
  unfold cntB
  rw [if_pos h, sum_of_can (chkB_can h).1]
theorem limP_yes' {L : List Sp} (h : L.length ≤ 64) : limP L = (L, 0) := if_pos h
theorem limP_no' {L : List Sp} (h : ¬ L.length ≤ 64) : limP L = ([], 2) := if_neg h
/-- The set as Set has built it, below the key k. -/
def Runs (p : Int → Bool) (k : Nat) (L : List Sp) : Prop := canB (-1) L = true ∧ (∀ j, hasB L j = (decide (0 ≤ j ∧ j < k) && p j)) ∧ endOf (-1) L ≤ k ∧ (endOf (-1) L < k ∨ k = 4096 ∨ p k = false)
theorem Runs.start (p : Int → Bool) : Runs p 0 [] := ⟨rfl, fun j => by rw [hasB_nil, decide_eq_false (by omega)]; rfl, by show (-1 : Int) ≤ _; omega, .inl (by show (-1 : Int) < _; omega)⟩
theorem Runs.skip {p : Int → Bool} {k : Nat} {L : List Sp} (h : Runs p k L) (hp : p k = false) : Runs p (k + 1) L := by
  refine ⟨h.1, fun j => ?_, by have := h.2.2.1; omega, .inl (by have := h.2.2.1; omega)⟩
  rw [h.2.1]
  by_cases hj : j = k
  · subst hj; rw [hp, Bool.and_false, Bool.and_false]
  · rw [decide_eq_decide.2 (show (0 ≤ j ∧ j < (k : Int)) ↔ (0 ≤ j ∧ j < ((k + 1 : Nat) : Int)) by omega)]
theorem Runs.add {p : Int → Bool} {k m : Nat} {L : List Sp} (h : Runs p k L) (hkm : k < m) (hm : m ≤ 4096) (hall : ∀ i : Nat, k ≤ i → i < m → p i = true) (hend : m = 4096 ∨ p m = false) : Runs p m (L ++ [((k : Int), (m : Int))]) := by
  have hlt : endOf (-1) L < k := by
    rcases h.2.2.2 with h1 | h1 | h1
    · exact h1
    · omega
    · rw [hall k (Nat.le_refl _) hkm] at h1; cases h1
  refine ⟨(canB_snoc _ _ _).2 ⟨h.1, ⟨by dsimp only; omega, by dsimp only; omega, by dsimp only; omega⟩, hlt⟩, fun j => ?_, by rw [endOf_snoc]; exact Int.le_refl _, .inr hend⟩
  rw [hasB_append, h.2.1, hasB_cons, hasB_nil, Bool.or_false]
  by_cases hj : (k : Int) ≤ j ∧ j < m
  · have e := hall j.toNat (by omega) (by omega)
    rw [show ((j.toNat : Nat) : Int) = j by omega] at e
    rw [e, (inB_iff _ j).2 (by dsimp only; omega), Bool.or_true, decide_eq_true (by omega)]; rfl
  · have : inB ((k : Int), (m : Int)) j = false := by
      cases hi' : inB ((k : Int), (m : Int)) j
      · rfl
      · rw [inB_iff] at hi'; dsimp only at hi'; omega
    rw [this, Bool.or_false, decide_eq_decide.2 (show (0 ≤ j ∧ j < (k : Int)) ↔ (0 ≤ j ∧ j < (m : Int)) by omega)]
theorem Runs.done {p : Int → Bool} {L : List Sp} (h : Runs p 4096 L) : L = setOf p := setOf_eq h.1 fun j h0 h1 => by rw [h.2.1, decide_eq_true ⟨h0, h1⟩, Bool.true_and]
theorem Runs.len {p : Int → Bool} {k : Nat} {L : List Sp} (h : Runs p k L) : L.length ≤ 5000 := by
  by_cases hl : L = []
  · subst hl; simp
  · have := canB_len _ _ h.1 hl; omega

end Go.Proofs.Ytihpojllalnmcaa


/-
  CONTRACTS of the document's Mix and Some.
-/
namespace Go.Proofs.Ytihpojllalnmcaa
open Go.RowKit Go.Shelf

theorem new1 (w : World) (v : Value) (t : TypeId) (j : Nat) (u : Value) (hj : [v][j]? = some u) : (w.alloc (.cells #[v] t)).cell? ((⟨w.heap.size, 0, none⟩ : Addr).add j) = some u := by
  match j, hj with
  | 0, hj => simp at hj; subst hj; simp [Addr.add]
theorem one1 {v : Value} (h : v.oneCell' = true) : ∀ u ∈ [v], u.oneCell' = true := fun u hu => by simp at hu; subst hu; exact h

theorem mixP_yes' (f : Bool → Bool → Bool) {A B : List Sp} (hA : chkB A = true) (hB : chkB B = true) : mixP f A B = limP (setOf fun j => f (hasB A j) (hasB B j)) := if_pos ⟨hA, hB⟩
end Go.Proofs.Ytihpojllalnmcaa


/-
  CONTRACTS of the document's Some.
-/
namespace Go.Proofs.Ytihpojllalnmcaa
open Go.RowKit Go.Shelf

/-- Is there a key at which f holds of two sets? -/
def anyB (f : Bool → Bool → Bool) (A B : List Sp) : Bool := decide (∃ k : Nat, k < 4096 ∧ f (hasB A k) (hasB B k) = true)
theorem anyB_yes {f : Bool → Bool → Bool} {A B : List Sp} {k : Nat} (hk : k < 4096) (h : f (hasB A k) (hasB B k) = true) : anyB f A B = true := decide_eq_true ⟨k, hk, h⟩
theorem anyB_no {f : Bool → Bool → Bool} {A B : List Sp} (h : ∀ k : Nat, k < 4096 → f (hasB A k) (hasB B k) = false) : anyB f A B = false := decide_eq_false fun ⟨k, hk, e⟩ => by rw [h k hk] at e; cases e

/-- Within's answer, as Awake3 has it. -/
def withinB' (A B : List Sp) : Bool := decide ((meetP A B).2 = 0) && decide ((meetP A B).1 = A)
theorem touchB_some (A B : List Sp) : touchB A B = ((chkB A && chkB B) && anyB (fun x y => x && y) A B) := rfl
theorem withinB_some (A B : List Sp) : withinB' A B = ((chkB A && chkB B) && !anyB (fun x y => x && !y) A B) := by
  unfold withinB'
  cases kA : chkB A
  · rw [show meetP A B = ([], 1) from if_neg (by rw [kA]; simp), Bool.false_and, Bool.false_and]; simp
  · cases kB : chkB B
    · rw [show meetP A B = ([], 1) from if_neg (by rw [kB]; simp), Bool.and_false, Bool.false_and]; simp
    · rw [show meetP A B = limP (setOf fun j => (fun x y => x && y) (hasB A j) (hasB B j)) from mixP_yes' _ kA kB, Bool.true_and, Bool.true_and]
      have cA := (chkB_can kA).1
      cases hs : anyB (fun x y => x && !y) A B
      · have e : A = setOf fun j => (fun x y => x && y) (hasB A j) (hasB B j) := setOf_eq cA fun j h0 h1 => by
          cases hq : hasB A j && !hasB B j
          · revert hq; cases hasB A j <;> cases hasB B j <;> simp
          · have := anyB_yes (f := fun x y => x && !y) (A := A) (B := B) (k := j.toNat) (by omega) (by rw [show ((j.toNat : Nat) : Int) = j by omega]; exact hq)
            rw [hs] at this; cases this
        rw [← e, limP_yes' (chkB_can kA).2, decide_eq_true rfl, decide_eq_true rfl]; rfl
      · obtain ⟨k, hk, hq⟩ := of_decide_eq_true hs
        have hne : ¬ (setOf fun j => (fun x y => x && y) (hasB A j) (hasB B j)) = A := fun e => by
          have h1 := setOf_has (fun j => (fun x y => x && y) (hasB A j) (hasB B j)) (k : Int)
          rw [e, decide_eq_true (by omega), Bool.true_and] at h1
          revert hq h1
          dsimp only
          cases hasB A (k : Int) <;> cases hasB B (k : Int) <;> simp
        by_cases hl : (setOf fun j => (fun x y => x && y) (hasB A j) (hasB B j)).length ≤ 64
        · rw [limP_yes' hl, decide_eq_false hne, Bool.and_false]; rfl
        · rw [limP_no' hl]; rfl
end Go.Proofs.Ytihpojllalnmcaa
