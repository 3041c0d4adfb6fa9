/-
  Keys, SpanA, SpanB, SpanC: one text.
-/
import Derived.WalkKit
import Derived.Test.YtihpojllalnmcaaProg
import Derived.ProofKit
import Derived.OpenShut
import Derived.Below
import Derived.Lib.Hide
import Derived.Laws.OwnMore
import Derived.Deep.QuietTactic
import Derived.BigQuiet
import Derived.Deep.Draws
import Derived.Shelf.Abstract
/-
  SETS OF KEYS, plain: spans as pairs of integers; which are a set; the keys of spans; one set only for the same keys; a span added at the end; how many keys.
-/
namespace Go.Proofs.Ytihpojllalnmcaa

abbrev Sp := Int × Int
def oneB (s : Sp) : Bool := decide (0 ≤ s.1 ∧ s.1 < s.2 ∧ s.2 ≤ 4096)
theorem oneB_iff (s : Sp) : oneB s = true ↔ 0 ≤ s.1 ∧ s.1 < s.2 ∧ s.2 ≤ 4096 := by unfold oneB; exact decide_eq_true_iff
def inB (s : Sp) (k : Int) : Bool := oneB s && decide (s.1 ≤ k ∧ k < s.2)
def hasB (l : List Sp) (k : Int) : Bool := l.any fun s => inB s k
/-- Spans that may be, each behind the one ahead of it, the first behind e. -/
def canB (e : Int) : List Sp → Bool
  | [] => true
  | s :: t => oneB s && decide (e < s.1) && canB s.2 t
def chkB (l : List Sp) : Bool := canB (-1) l && decide (l.length ≤ 64)
/-- The end of the last span, or e. -/
def endOf (e : Int) (l : List Sp) : Int := match l.getLast? with | some s => s.2 | none => e

theorem inB_iff (s : Sp) (k : Int) : inB s k = true ↔ 0 ≤ s.1 ∧ s.1 < s.2 ∧ s.2 ≤ 4096 ∧ s.1 ≤ k ∧ k < s.2 := by
  unfold inB; rw [Bool.and_eq_true, oneB_iff, decide_eq_true_iff]; constructor
  · rintro ⟨⟨a, b, c⟩, d, e⟩; exact ⟨a, b, c, d, e⟩
  · rintro ⟨a, b, c, d, e⟩; exact ⟨⟨a, b, c⟩, d, e⟩
theorem hasB_iff (l : List Sp) (k : Int) : hasB l k = true ↔ ∃ s ∈ l, inB s k = true := by unfold hasB; simp
theorem hasB_nil (k : Int) : hasB [] k = false := rfl
theorem hasB_cons (s : Sp) (l : List Sp) (k : Int) : hasB (s :: l) k = (inB s k || hasB l k) := rfl
theorem hasB_append (l m : List Sp) (k : Int) : hasB (l ++ m) k = (hasB l k || hasB m k) := by unfold hasB; exact List.any_append
theorem hasB_range {l : List Sp} {k : Int} (h : hasB l k = true) : 0 ≤ k ∧ k < 4096 := by
  obtain ⟨s, _, hs⟩ := (hasB_iff l k).1 h
  rw [inB_iff] at hs; omega
theorem canB_cons (e : Int) (s : Sp) (t : List Sp) : canB e (s :: t) = true ↔ (0 ≤ s.1 ∧ s.1 < s.2 ∧ s.2 ≤ 4096) ∧ e < s.1 ∧ canB s.2 t = true := by
  show (oneB s && decide (e < s.1) && canB s.2 t) = true ↔ _
  rw [Bool.and_eq_true, Bool.and_eq_true, oneB_iff, decide_eq_true_iff, and_assoc]
theorem canB_weak {e e' : Int} (he : e' ≤ e) {l : List Sp} (h : canB e l = true) : canB e' l = true := by
  cases l with
  | nil => rfl
  | cons s t => rw [canB_cons] at h ⊢; exact ⟨h.1, by omega, h.2.2⟩
theorem canB_low {e k : Int} {l : List Sp} (h : canB e l = true) (hk : k ≤ e) : hasB l k = false := by
  induction l generalizing e with
  | nil => rfl
  | cons s t ih =>
    rw [canB_cons] at h
    rw [hasB_cons, ih h.2.2 (by omega), Bool.or_false]
    cases hi : inB s k
    · rfl
    · rw [inB_iff] at hi; omega
theorem canB_all {e : Int} {l : List Sp} (h : canB e l = true) : ∀ s ∈ l, oneB s = true := by
  induction l generalizing e with
  | nil => simp
  | cons s t ih =>
    rw [canB_cons] at h
    intro x hx
    rcases List.mem_cons.1 hx with rfl | hx
    · exact (oneB_iff _).2 h.1
    · exact ih h.2.2 x hx
/-- ONE SET ONLY for the same keys. -/
theorem can_ext : ∀ (l m : List Sp) (e e' : Int), canB e l = true → canB e' m = true → (∀ k, hasB l k = hasB m k) → l = m
  | [], [], _, _, _, _, _ => rfl
  | [], s :: t, e, e', _, hm, h => by
    have := h s.1
    rw [canB_cons] at hm
    rw [hasB_nil, hasB_cons, (inB_iff s s.1).2 (by omega)] at this
    simp at this
  | s :: t, [], e, e', hl, _, h => by
    have := h s.1
    rw [canB_cons] at hl
    rw [hasB_nil, hasB_cons, (inB_iff s s.1).2 (by omega)] at this
    simp at this
  | (a, b) :: t, (c, d) :: u, e, e', hl, hm, h => by
    rw [canB_cons] at hl hm
    dsimp only at hl hm
    obtain ⟨h1, h2, h3⟩ := hl
    obtain ⟨g1, g2, g3⟩ := hm
    have hk := fun k => h k
    simp only [hasB_cons] at hk
    have eqA : a = c := by
      rcases Int.lt_trichotomy a c with hlt | heq | hgt
      · have := hk a
        rw [(inB_iff (a, b) a).2 ⟨h1.1, h1.2.1, h1.2.2, by dsimp only; omega, by dsimp only; omega⟩, canB_low g3 (by omega), Bool.true_or, Bool.or_false] at this
        have := (inB_iff (c, d) a).1 this.symm
        dsimp only at this; omega
      · exact heq
      · have := hk c
        rw [(inB_iff (c, d) c).2 ⟨g1.1, g1.2.1, g1.2.2, by dsimp only; omega, by dsimp only; omega⟩, canB_low h3 (by omega), Bool.true_or, Bool.or_false] at this
        have := (inB_iff (a, b) c).1 this
        dsimp only at this; omega
    subst eqA
    have eqB : b = d := by
      rcases Int.lt_trichotomy b d with hlt | heq | hgt
      · have := hk b
        rw [(inB_iff (a, d) b).2 ⟨g1.1, g1.2.1, g1.2.2, by dsimp only; omega, by dsimp only; omega⟩, canB_low h3 (by omega), Bool.true_or, Bool.or_false] at this
        have := (inB_iff (a, b) b).1 this
        dsimp only at this; omega
      · exact heq
      · have := hk d
        rw [(inB_iff (a, b) d).2 ⟨h1.1, h1.2.1, h1.2.2, by dsimp only; omega, by dsimp only; omega⟩, canB_low g3 (by omega), Bool.true_or, Bool.or_false] at this
        have := (inB_iff (a, d) d).1 this.symm
        dsimp only at this; omega
    subst eqB
    rw [can_ext t u b b h3 g3 fun k => ?_]
    by_cases hkb : k ≤ b
    · rw [canB_low h3 hkb, canB_low g3 hkb]
    · have := hk k
      have hf : inB (a, b) k = false := by
        cases hi : inB (a, b) k
        · rfl
        · rw [inB_iff] at hi; dsimp only at hi; omega
      rw [hf] at this
      simpa using this

/-! A span at the end. -/
theorem endOf_snoc (e : Int) (l : List Sp) (s : Sp) : endOf e (l ++ [s]) = s.2 := by unfold endOf; rw [List.getLast?_append]; rfl
theorem endOf_nil (e : Int) : endOf e [] = e := rfl
theorem endOf_cons (e : Int) (s : Sp) (t : List Sp) : endOf e (s :: t) = endOf s.2 t := by
  unfold endOf
  cases t with
  | nil => rfl
  | cons x y => rw [List.getLast?_cons_cons]; cases hq : (x :: y).getLast? with
    | none => simp at hq
    | some z => rfl
theorem canB_snoc (e : Int) (l : List Sp) (s : Sp) : canB e (l ++ [s]) = true ↔ canB e l = true ∧ (0 ≤ s.1 ∧ s.1 < s.2 ∧ s.2 ≤ 4096) ∧ endOf e l < s.1 := by
  induction l generalizing e with
  | nil =>
    show canB e [s] = true ↔ _
    rw [canB_cons, endOf_nil]
    constructor
    · rintro ⟨a, b, _⟩; exact ⟨rfl, a, b⟩
    · rintro ⟨_, a, b⟩; exact ⟨a, b, rfl⟩
  | cons x t ih =>
    rw [List.cons_append, canB_cons, canB_cons, ih, endOf_cons]
    constructor
    · rintro ⟨a, b, c, d, f⟩; exact ⟨⟨a, b, c⟩, d, f⟩
    · rintro ⟨⟨a, b, c⟩, d, f⟩; exact ⟨a, b, c, d, f⟩
/-- 'extend': a span behind the set, or joined to its last one. -/
def ext (l : List Sp) (s : Sp) : List Sp :=
  match l.getLast? with
  | some x => if s.1 ≤ x.2 then l.dropLast ++ [(x.1, max x.2 s.2)] else l ++ [s]
  | none => [s]
theorem ext_nil (s : Sp) : ext [] s = [s] := rfl
theorem ext_snoc (l : List Sp) (x s : Sp) : ext (l ++ [x]) s = if s.1 ≤ x.2 then l ++ [(x.1, max x.2 s.2)] else l ++ [x] ++ [s] := by
  unfold ext; rw [List.getLast?_append]; simp
/-- Where the last span starts, or 0. -/
def loOf (l : List Sp) : Int := match l.getLast? with | some s => s.1 | none => 0
theorem loOf_snoc (l : List Sp) (s : Sp) : loOf (l ++ [s]) = s.1 := by unfold loOf; rw [List.getLast?_append]; rfl
theorem ext_can {l : List Sp} {s : Sp} (h : canB (-1) l = true) (hs : oneB s = true) (ho : loOf l ≤ s.1) :
    canB (-1) (ext l s) = true ∧ (∀ k, hasB (ext l s) k = (hasB l k || inB s k)) ∧ loOf (ext l s) ≤ s.1 := by
  have hs' := (oneB_iff s).1 hs
  rcases List.eq_nil_or_concat l with rfl | ⟨m, x, rfl⟩
  · rw [ext_nil]
    refine ⟨(canB_cons _ _ _).2 ⟨hs', by omega, rfl⟩, fun k => by rw [hasB_cons, hasB_nil, Bool.or_false, Bool.false_or], by rw [← List.nil_append [s], loOf_snoc]; omega⟩
  · rw [List.concat_eq_append] at h ho ⊢
    rw [loOf_snoc] at ho
    have h' := (canB_snoc _ _ _).1 h
    rw [ext_snoc]
    by_cases hle : s.1 ≤ x.2
    · rw [if_pos hle]
      refine ⟨(canB_snoc _ _ _).2 ⟨h'.1, ⟨by dsimp only; omega, by dsimp only; omega, by dsimp only; omega⟩, by dsimp only; omega⟩, fun k => ?_, by rw [loOf_snoc]; dsimp only; omega⟩
      rw [hasB_append, hasB_append, Bool.or_assoc]
      congr 1
      rw [hasB_cons, hasB_nil, Bool.or_false, hasB_cons, hasB_nil, Bool.or_false, Bool.eq_iff_iff, Bool.or_eq_true, inB_iff, inB_iff, inB_iff]
      dsimp only
      omega
    · rw [if_neg hle]
      refine ⟨(canB_snoc _ _ _).2 ⟨h, hs', by rw [endOf_snoc]; omega⟩, fun k => by rw [hasB_append _ [s], hasB_cons s, hasB_nil, Bool.or_false], by rw [loOf_snoc]; omega⟩
theorem ext_ne (l : List Sp) (s : Sp) : ext l s ≠ [] := by
  unfold ext; split
  · split <;> simp
  · simp
theorem ext_len (l : List Sp) (s : Sp) : (ext l s).length ≤ l.length + 1 := by
  rcases List.eq_nil_or_concat l with rfl | ⟨m, x, rfl⟩
  · simp [ext_nil]
  · rw [List.concat_eq_append, ext_snoc]; split <;> simp
/-- Spans whose starts rise, one behind the other: a set with their keys. -/
theorem fold_ext : ∀ (d l : List Sp), canB (-1) l = true → (∀ s ∈ d, oneB s = true) → (∀ s ∈ d, loOf l ≤ s.1) → d.Pairwise (fun x y => x.1 ≤ y.1) →
    canB (-1) (d.foldl ext l) = true ∧ ∀ k, hasB (d.foldl ext l) k = (hasB l k || hasB d k)
  | [], l, h, _, _, _ => ⟨h, fun k => by simp [hasB_nil]⟩
  | s :: d, l, h, ho, hl, hp => by
    obtain ⟨e1, e2, e3⟩ := ext_can h (ho s (by simp)) (hl s (by simp))
    have hp' := List.pairwise_cons.1 hp
    obtain ⟨f1, f2⟩ := fold_ext d (ext l s) e1 (fun x hx => ho x (by simp [hx])) (fun x hx => by have := hp'.1 x hx; omega) hp'.2
    exact ⟨f1, fun k => by rw [List.foldl_cons, f2, e2, hasB_cons, Bool.or_assoc]⟩
theorem hasB_perm {l m : List Sp} (h : l.Perm m) (k : Int) : hasB l k = hasB m k := by
  unfold hasB; rw [Bool.eq_iff_iff, List.any_eq_true, List.any_eq_true]
  exact ⟨fun ⟨x, hx, e⟩ => ⟨x, h.mem_iff.1 hx, e⟩, fun ⟨x, hx, e⟩ => ⟨x, h.mem_iff.2 hx, e⟩⟩

/-! The set of keys that a test gives. -/
def setN (p : Int → Bool) : Nat → List Sp
  | 0 => []
  | n + 1 => if p n then ext (setN p n) (n, n + 1) else setN p n
def cntN (p : Int → Bool) : Nat → Int
  | 0 => 0
  | n + 1 => cntN p n + if p n then 1 else 0
def lenSum (l : List Sp) : Int := (l.map fun s => s.2 - s.1).sum
theorem lenSum_snoc (l : List Sp) (s : Sp) : lenSum (l ++ [s]) = lenSum l + (s.2 - s.1) := by unfold lenSum; simp
theorem setN_ok (p : Int → Bool) : ∀ n : Nat, n ≤ 4096 → canB (-1) (setN p n) = true ∧ (∀ k, hasB (setN p n) k = (decide (0 ≤ k ∧ k < n) && p k)) ∧ (setN p n = [] ∨ endOf (-1) (setN p n) ≤ n) ∧ lenSum (setN p n) = cntN p n
  | 0, _ => ⟨rfl, fun k => by rw [show setN p 0 = [] from rfl, hasB_nil, decide_eq_false (by omega)]; rfl, .inl rfl, rfl⟩
  | n + 1, hn => by
    obtain ⟨h1, h2, h3, h4⟩ := setN_ok p n (by omega)
    show canB (-1) (if p n then ext (setN p n) (n, n + 1) else setN p n) = true ∧ (∀ k, hasB (if p n then ext (setN p n) (n, n + 1) else setN p n) k = _) ∧ ((if p n then ext (setN p n) (n, n + 1) else setN p n) = [] ∨ endOf (-1) (if p n then ext (setN p n) (n, n + 1) else setN p n) ≤ _) ∧ lenSum (if p n then ext (setN p n) (n, n + 1) else setN p n) = cntN p n + if p n then 1 else 0
    generalize setN p n = l at h1 h2 h3 h4
    cases hp : p n
    · rw [if_neg (by simp)]
      refine ⟨h1, fun k => ?_, ?_, by simp [h4]⟩
      · rw [h2, Bool.eq_iff_iff]
        simp only [Bool.and_eq_true, decide_eq_true_eq]
        constructor
        · rintro ⟨a, b⟩; exact ⟨by omega, b⟩
        · rintro ⟨a, b⟩
          refine ⟨?_, b⟩
          by_cases hk : k = n
          · subst hk; rw [hp] at b; cases b
          · omega
      · rcases h3 with h3 | h3
        · exact .inl h3
        · right; omega
    · rw [if_pos rfl]
      have ho : oneB ((n : Int), (n : Int) + 1) = true := (oneB_iff _).2 (by dsimp only; omega)
      have hlo : loOf l ≤ n := by
        rcases List.eq_nil_or_concat l with rfl | ⟨m, x, rfl⟩
        · show (0 : Int) ≤ n; omega
        · rw [List.concat_eq_append] at h1 h3 ⊢
          rw [loOf_snoc]
          have := (canB_snoc _ _ _).1 h1
          rcases h3 with h3 | h3
          · simp at h3
          · rw [endOf_snoc] at h3; omega
      obtain ⟨e1, e2, _⟩ := ext_can (s := ((n : Int), (n : Int) + 1)) h1 ho hlo
      refine ⟨e1, fun k => ?_, .inr ?_, ?_⟩
      · rw [e2, h2, Bool.eq_iff_iff]
        simp only [Bool.and_eq_true, Bool.or_eq_true, decide_eq_true_eq, inB_iff]
        constructor
        · rintro (⟨a, b⟩ | a)
          · exact ⟨by omega, b⟩
          · have : k = n := by omega
            subst this; exact ⟨by omega, hp⟩
        · rintro ⟨a, b⟩
          by_cases hk : k = n
          · subst hk; right; omega
          · left; exact ⟨by omega, b⟩
      · rcases List.eq_nil_or_concat l with rfl | ⟨m, x, rfl⟩
        · rw [ext_nil]; show (n : Int) + 1 ≤ _; omega
        · rw [List.concat_eq_append] at h1 h3 ⊢
          rw [ext_snoc]
          have h3' : x.2 ≤ n := by
            rcases h3 with h3 | h3
            · simp at h3
            · rw [endOf_snoc] at h3; exact h3
          split
          · rw [endOf_snoc]; dsimp only; omega
          · rw [endOf_snoc]; dsimp only; omega
      · rw [if_pos rfl]
        rcases List.eq_nil_or_concat l with rfl | ⟨m, x, rfl⟩
        · rw [ext_nil, ← h4]; simp [lenSum]; omega
        · rw [List.concat_eq_append] at h1 h3 h4 ⊢
          rw [ext_snoc]
          have h3' : x.2 ≤ n := by
            rcases h3 with h3 | h3
            · simp at h3
            · rw [endOf_snoc] at h3; exact h3
          rw [lenSum_snoc] at h4
          split
          · rename_i hle
            dsimp only at hle
            rw [lenSum_snoc]; dsimp only; omega
          · rw [lenSum_snoc, lenSum_snoc]; dsimp only; omega
def setOf (p : Int → Bool) : List Sp := setN p 4096
def cardOf (p : Int → Bool) : Int := cntN p 4096
theorem setOf_can (p : Int → Bool) : canB (-1) (setOf p) = true := (setN_ok p 4096 (by omega)).1
theorem setOf_has (p : Int → Bool) (k : Int) : hasB (setOf p) k = (decide (0 ≤ k ∧ k < 4096) && p k) := (setN_ok p 4096 (by omega)).2.1 k
theorem setOf_sum (p : Int → Bool) : lenSum (setOf p) = cardOf p := (setN_ok p 4096 (by omega)).2.2.2
theorem setOf_eq {l : List Sp} {p : Int → Bool} (h : canB (-1) l = true) (hk : ∀ k, 0 ≤ k → k < 4096 → hasB l k = p k) : l = setOf p := by
  refine can_ext _ _ _ _ h (setOf_can p) fun k => ?_
  rw [setOf_has]
  by_cases hr : 0 ≤ k ∧ k < 4096
  · rw [hk k hr.1 hr.2, decide_eq_true hr, Bool.true_and]
  · rw [decide_eq_false hr, Bool.false_and]
    cases hb : hasB l k
    · rfl
    · exact absurd (hasB_range hb) hr
theorem setOf_congr {p q : Int → Bool} (h : ∀ k, 0 ≤ k → k < 4096 → p k = q k) : setOf p = setOf q :=
  setOf_eq (setOf_can p) fun k h0 h1 => by rw [setOf_has, decide_eq_true ⟨h0, h1⟩, Bool.true_and, h k h0 h1]
theorem setOf_of_can {l : List Sp} (h : canB (-1) l = true) : setOf (hasB l) = l := (setOf_eq h fun _ _ _ => rfl).symm
theorem sum_of_can {l : List Sp} (h : canB (-1) l = true) : lenSum l = cardOf (hasB l) := by rw [← setOf_sum, setOf_of_can h]
theorem cntN_add {p q r s : Int → Bool} : ∀ n : Nat, (∀ k : Nat, k < n → (if p k then (1 : Int) else 0) + (if q k then 1 else 0) = (if r k then 1 else 0) + (if s k then 1 else 0)) → cntN p n + cntN q n = cntN r n + cntN s n
  | 0, _ => rfl
  | n + 1, h => by
    have h1 := cntN_add n fun k hk => h k (by omega)
    have h2 := h n (by omega)
    show cntN p n + _ + (cntN q n + _) = cntN r n + _ + (cntN s n + _)
    omega
theorem cntN_nonneg (p : Int → Bool) : ∀ n : Nat, 0 ≤ cntN p n ∧ cntN p n ≤ n
  | 0 => ⟨Int.le_refl _, Int.le_refl _⟩
  | n + 1 => by
    have := cntN_nonneg p n
    show 0 ≤ cntN p n + (if p n then 1 else 0) ∧ cntN p n + (if p n then 1 else 0) ≤ ((n + 1 : Nat) : Int)
    split <;> omega
theorem cntN_pos (p : Int → Bool) : ∀ n : Nat, 0 < cntN p n ↔ ∃ k : Nat, k < n ∧ p k = true
  | 0 => ⟨fun h => absurd h (by show ¬ (0 : Int) < 0; omega), fun ⟨k, h, _⟩ => absurd h (by omega)⟩
  | n + 1 => by
    have h0 := cntN_nonneg p n
    have ih := cntN_pos p n
    show 0 < cntN p n + (if p n then 1 else 0) ↔ _
    cases hp : p n
    · rw [if_neg (by simp), Int.add_zero, ih]
      constructor
      · rintro ⟨k, hk, e⟩; exact ⟨k, by omega, e⟩
      · rintro ⟨k, hk, e⟩
        by_cases hkn : k = n
        · subst hkn; rw [hp] at e; cases e
        · exact ⟨k, by omega, e⟩
    · rw [if_pos rfl]
      exact ⟨fun _ => ⟨n, by omega, hp⟩, fun _ => by omega⟩
theorem canB_len : ∀ (l : List Sp) (e : Int), canB e l = true → l ≠ [] → (l.length : Int) ≤ 4096 - e
  | [], _, _, h => absurd rfl h
  | [s], e, h, _ => by rw [canB_cons] at h; simp; omega
  | s :: x :: t, e, h, _ => by
    have h' := (canB_cons _ _ _).1 h
    have := canB_len (x :: t) s.2 h'.2.2 (by simp)
    simp at this ⊢; omega
end Go.Proofs.Ytihpojllalnmcaa


/-
  SPANS IN MEMORY: a slice of spans that is read; one of the call's own; CONTRACTS of One, Check, and the document's.
-/
namespace Go.Proofs.Ytihpojllalnmcaa
open Go.RowKit

theorem below_next {w w1 w2 : World} (h : Below w.heap.size w w1) (h2 : Below w1.heap.size w1 w2) : Below w.heap.size w w2 := h.trans (h2.mono h.size)
theorem below_alloc {w wr : World} (h : Below w.heap.size w wr) (o : Obj) : Below w.heap.size w (wr.alloc o) := h.alloc h.size o
theorem below_drewN {B : Nat} {a w : World} (h : Below B a w) (n : Nat) : Below B a (w.drewN n) := ⟨h.os, h.tape, h.output, h.size, h.block⟩
/-- A struct of two cells in a box of its own, behind a call. -/
theorem box2 {wr w' : World} {t : TypeId} {x y : Value} (hb : Below (wr.alloc (.cells #[x, y] t)).heap.size (wr.alloc (.cells #[x, y] t)) w') :
    w'.cell? ⟨wr.heap.size, 0, none⟩ = some x ∧ w'.cell? ⟨wr.heap.size, 1, none⟩ = some y := by
  have h0 := hb.cell (p := ⟨wr.heap.size, 0, none⟩) (by simp)
  have h1 := hb.cell (p := ⟨wr.heap.size, 1, none⟩) (by simp)
  rw [h0, h1]
  exact ⟨by simp, by simp⟩
def TruePost (w : World) (e : Ending) (w' : World) : Prop := e = .returned (.bool true) ∧ Below w.heap.size w w'

/-- A slice at a, its elements the spans l, in blocks below B. -/
def PIn (w : World) (B : Nat) (a : Option Addr) (l : List Sp) : Prop :=
  ∀ k, k < l.length → ∃ b off, a = some ⟨b, off, none⟩ ∧ b < B ∧ w.cell? ⟨b, off + k * 2, none⟩ = some (.int .i64 (l.getD k (0, 0)).1) ∧ w.cell? ⟨b, off + k * 2 + 1, none⟩ = some (.int .i64 (l.getD k (0, 0)).2)
theorem PIn.nil (w : World) (B : Nat) (a : Option Addr) : PIn w B a [] := fun _ hk => absurd hk (Nat.not_lt_zero _)
theorem PIn.keep {w w' : World} {B : Nat} {a : Option Addr} {l : List Sp} (h : PIn w B a l) (hk : ∀ p : Addr, p.block < B → w'.cell? p = w.cell? p) : PIn w' B a l := fun k hl => by
  obtain ⟨b, off, e, hb, h1, h2⟩ := h k hl
  exact ⟨b, off, e, hb, (hk _ hb).trans h1, (hk _ hb).trans h2⟩
theorem PIn.below {w w' : World} {B : Nat} {a : Option Addr} {l : List Sp} (h : PIn w B a l) (hb : Below B w w') : PIn w' B a l := h.keep fun _ hp => hb.cell hp
theorem PIn.more {w : World} {B B' : Nat} {a : Option Addr} {l : List Sp} (h : PIn w B a l) (hB : B ≤ B') : PIn w B' a l := fun k hl => by
  obtain ⟨b, off, e, hb, h1, h2⟩ := h k hl
  exact ⟨b, off, e, by omega, h1, h2⟩
theorem PIn.belowMore {w w' : World} {a : Option Addr} {l : List Sp} (h : PIn w w.heap.size a l) (hb : Below w.heap.size w w') : PIn w' w'.heap.size a l := (h.below hb).more hb.size

theorem addr_add (g o i : Nat) : (⟨g, o, none⟩ : Addr).add i = ⟨g, o + i, none⟩ := by
  unfold Addr.add; split
  · rename_i h; subst h; rfl
  · rfl
def spC (s : Sp) : List Value := [.int .i64 s.1, .int .i64 s.2]
def flatP (l : List Sp) : List Value := l.flatMap spC
theorem flatP_append (l m : List Sp) : flatP (l ++ m) = flatP l ++ flatP m := List.flatMap_append
theorem flatP_length (l : List Sp) : (flatP l).length = l.length * 2 := by
  induction l with
  | nil => rfl
  | cons s t ih => rw [show flatP (s :: t) = spC s ++ flatP t from rfl, List.length_append, ih]; simp [spC]; omega
theorem flatP_get (l : List Sp) (k : Nat) (hk : k < l.length) : (flatP l)[k * 2]? = some (.int .i64 (l.getD k (0, 0)).1) ∧ (flatP l)[k * 2 + 1]? = some (.int .i64 (l.getD k (0, 0)).2) := by
  induction l generalizing k with
  | nil => exact absurd hk (Nat.not_lt_zero _)
  | cons s t ih =>
    rw [show flatP (s :: t) = (.int .i64 s.1) :: (.int .i64 s.2) :: flatP t from rfl]
    cases k with
    | zero => exact ⟨rfl, rfl⟩
    | succ k =>
      have := ih k (by simpa using hk)
      rw [show (k + 1) * 2 = k * 2 + 1 + 1 from by omega, show k * 2 + 1 + 1 + 1 = (k * 2 + 1) + 1 + 1 from rfl]
      simpa using this
/-- The spans l lie in a row of the call's own, of elements of type t. -/
def OwnsP (t : TypeId) (w : World) (base : Nat) (v : Value) (l : List Sp) : Prop := w.ownsRow base t 2 v l.length (flatP l)
theorem OwnsP.nil (t : TypeId) (w : World) (base : Nat) : OwnsP t w base (.slice none 0 0) [] := ⟨rfl, .inl ⟨rfl, rfl⟩⟩
theorem OwnsP.arg {t : TypeId} {w : World} {base : Nat} {v : Value} {l : List Sp} (h : OwnsP t w base v l) :
    ∃ a cap, v = .slice a l.length cap ∧ l.length ≤ cap ∧ cap ≤ maxLen ∧ PIn w w.heap.size a l ∧ (l ≠ [] → ∃ g, a = some ⟨g, 0, none⟩ ∧ base ≤ g ∧ g < w.heap.size) := by
  have h2 := h.2
  rcases h2 with ⟨rfl, hn⟩ | ⟨g, cap, cur, rfl, hb, hg, hc, hm, hs, ht⟩
  · have : l = [] := List.eq_nil_of_length_eq_zero hn
    subst this
    exact ⟨none, 0, rfl, Nat.le_refl _, Nat.zero_le _, PIn.nil _ _ _, fun h => absurd rfl h⟩
  · have hlt : g < w.heap.size := (Array.getElem?_eq_some_iff.1 hg).1
    refine ⟨some ⟨g, 0, none⟩, cap, rfl, hc, hm, fun k hk => ?_, fun _ => ⟨g, rfl, hb, hlt⟩⟩
    obtain ⟨c1, c2⟩ := flatP_get l k hk
    have d1 := World.ownsRow.cells (g := g) h rfl (k * 2) _ c1
    have d2 := World.ownsRow.cells (g := g) h rfl (k * 2 + 1) _ c2
    rw [addr_add] at d1 d2
    exact ⟨g, 0, rfl, hlt, d1, d2⟩
theorem OwnsP.below {t : TypeId} {w w' : World} {base : Nat} {v : Value} {l : List Sp} (h : OwnsP t w base v l) (hb : Below w.heap.size w w') : OwnsP t w' base v l :=
  World.ownsRow.kept h (row := none) ⟨hb.os, hb.tape, hb.output, hb.size, fun k hk _ => hb.block k hk⟩ (by cases hv : v.ownBlock <;> simp)
theorem OwnsP.base_le {t : TypeId} {w : World} {base base' : Nat} {v : Value} {l : List Sp} (h : OwnsP t w base v l) (hb : base' ≤ base) : OwnsP t w base' v l := by
  refine ⟨h.1, ?_⟩
  rcases h.2 with h' | ⟨g, cap, cur, h1, h2, h3⟩
  · exact .inl h'
  · exact .inr ⟨g, cap, cur, h1, by omega, h3⟩

/-- A function that makes memory and answers v. -/
def Gives (w : World) (v : Value) (e : Ending) (w' : World) : Prop := e = .returned v ∧ Below w.heap.size w w'
theorem ret_bool {a b : Bool} (h : a = b) : Ending.returned (.bool a) = .returned (.bool b) := by rw [h]

theorem ret_int {k : IntKind} {a b : Int} (h : a = b) : Ending.returned (.int k a) = .returned (.int k b) := by rw [h]
set_option maxHeartbeats 400000 in
theorem one_any (s : Sp) (w : World) : Calls Try.prog 84 #[.agg #[.int .i64 s.1, .int .i64 s.2]] w (Gives w (.bool (oneB s))) := by
  obtain ⟨x, y⟩ := s
  have H := Lib.hid (show oneB (x, y) = decide (0 ≤ x ∧ x < y ∧ y ≤ 4096) from rfl)
  generalize oneB (x, y) = r at H
  go_enter Try.func84, Try.ntmps84
  go_wp2
  all_goals
    go_ret
    exact ⟨ret_bool (by rw [H.out]; first | (simp [*]; done) | (simp [*]; omega)), (Below.refl _ _).alloc (Nat.le_refl _) _⟩

set_option maxHeartbeats 400000 in
theorem rone_any (s : Sp) (w : World) : Calls Try.prog 81 #[.agg #[.int .i64 s.1, .int .i64 s.2]] w (Gives w (.bool (oneB s))) := by
  obtain ⟨x, y⟩ := s
  have H := Lib.hid (show oneB (x, y) = decide (0 ≤ x ∧ x < y ∧ y ≤ 4096) from rfl)
  generalize oneB (x, y) = r at H
  go_enter Try.func81, Try.ntmps81
  go_wp2
  all_goals
    go_ret
    exact ⟨ret_bool (by rw [H.out]; first | (simp [*]; done) | (simp [*]; omega)), (Below.refl _ _).alloc (Nat.le_refl _) _⟩

theorem getD_of {l : List Sp} {k : Nat} (hk : k < l.length) : l[k]? = some (l.getD k (0, 0)) := by simp [List.getD, List.getElem?_eq_getElem hk]
theorem take_more {l : List Sp} {k : Nat} (h : k < l.length) : l.take (k + 1) = l.take k ++ [l.getD k (0, 0)] := by
  rw [List.take_succ_eq_append_getElem h]; simp [List.getD, List.getElem?_eq_getElem h]
theorem canB_prefix {e : Int} {l m : List Sp} (h : canB e (l ++ m) = true) : canB e l = true := by
  induction l generalizing e with
  | nil => rfl
  | cons s t ih => rw [List.cons_append, canB_cons] at h; rw [canB_cons]; exact ⟨h.1, h.2.1, ih h.2.2⟩

set_option maxRecDepth 100000 in
set_option maxHeartbeats 1000000 in
theorem check_any (a : Option Addr) (cap : Nat) (l : List Sp) (w : World) (hz : (l.length : Int) ≤ 9223372036854775807) (h : PIn w w.heap.size a l) :
    Calls Try.prog 79 #[.slice a l.length cap] w (Gives w (.bool (chkB l))) := by
  by_cases hlong : (64 : Int) < l.length
  · have H := Lib.hid (show chkB l = false by unfold chkB; rw [decide_eq_false (by omega), Bool.and_false])
    go_enter Try.func79, Try.ntmps79
    go_wp2
    go_ret
    exact ⟨ret_bool H.out.symm, Below.refl _ _⟩
  · have hlen : l.length ≤ 64 := by omega
    have H := Lib.hid (show chkB l = canB (-1) l by unfold chkB; rw [decide_eq_true hlen, Bool.and_true])
    have HP := Lib.hid h
    clear h
    go_enter Try.func79, Try.ntmps79
    go_wp2_with fail
    go_loopw [3, 5, 11] (fun en _ i wr => ∃ (k : Nat) (z : Int), i = .int .i64 (k : Int) ∧ en = .int .i64 z ∧ k ≤ l.length ∧ Hid (canB (-1) (l.take k) = true ∧ endOf (-1) (l.take k) = z) ∧ -1 ≤ z ∧ z ≤ 4096 ∧ Below w.heap.size w wr)
      (fun _ _ i _ => l.length - (intOf i).toNat)
    case atStart => exact ⟨0, -1, rfl, rfl, by omega, Lib.hid ⟨rfl, rfl⟩, by omega, by omega, Below.refl _ _⟩
    case round =>
      obtain ⟨k, z, rfl, rfl, hk, HC, hz0, hz1, hbl⟩ := hrel
      by_cases hlt : k < l.length
      · obtain ⟨b, off, rfl, hb, c0, c1⟩ := (HP.out.below hbl) k hlt
        obtain ⟨s, hs⟩ : ∃ s, l.getD k (0, 0) = s := ⟨_, rfl⟩
        rw [hs] at c0 c1
        replace hs := Lib.hid hs
        obtain ⟨x, y⟩ := s
        dsimp only at c0 c1
        have hone := (oneB_iff (x, y))
        cases ho : oneB (x, y)
        · replace ho := Lib.hid ho
          clear hone
          go_wp2_with (go_at_call 84; refine (one_any (x, y) _).mono ?_; rw [ho.out]; rintro e w' ⟨rfl, hbw⟩)
          go_ret
          refine ⟨ret_bool ?_, below_next (below_alloc hbl _) hbw⟩
          rw [H.out]
          cases hq : canB (-1) l
          · rfl
          · have := canB_all hq _ (List.mem_iff_getElem?.2 ⟨k, getD_of hlt⟩)
            rw [hs.out, ho.out] at this; cases this
        · have ho' := hone.1 ho
          dsimp only at ho'
          obtain ⟨o1, o2, o3⟩ := ho'
          replace ho := Lib.hid ho
          clear hone
          go_wp2_with (go_at_call 84; refine (one_any (x, y) _).mono ?_; rw [ho.out]; rintro e w' ⟨rfl, hbw⟩; obtain ⟨d0, d1⟩ := box2 hbw)
          · go_ret
            refine ⟨ret_bool ?_, below_next (below_alloc hbl _) hbw⟩
            rw [H.out]
            cases hq : canB (-1) l
            · rfl
            · exfalso
              have h1 : canB (-1) (l.take (k + 1) ++ l.drop (k + 1)) = true := by rw [List.take_append_drop]; exact hq
              have h2 := canB_prefix h1
              rw [take_more hlt, canB_snoc, HC.out.2, hs.out] at h2
              have := h2.2.2
              dsimp only at this
              omega
          · go_roundw
            case rel =>
              refine ⟨k + 1, y, by go_num, rfl, by omega, Lib.hid ?_, by omega, by omega, below_next (below_alloc hbl _) hbw⟩
              rw [take_more hlt, canB_snoc, endOf_snoc, hs.out, HC.out.2]
              exact ⟨⟨HC.out.1, ⟨o1, o2, o3⟩, by dsimp only; omega⟩, rfl⟩
            case measure => simp [intOf]; omega
      · have hkl : l.take k = l := List.take_of_length_le (by omega)
        replace hkl := Lib.hid hkl
        go_wp2
        go_ret
        exact ⟨ret_bool (by rw [H.out, ← HC.out.1, hkl.out]), hbl⟩
end Go.Proofs.Ytihpojllalnmcaa


/-
  CONTRACTS: Count; begun, nextEdge, after (the first span of what is left of a set); limit.
-/
namespace Go.Proofs.Ytihpojllalnmcaa
open Go.RowKit

theorem sum_bd {l : List Sp} (h : canB (-1) l = true) : 0 ≤ lenSum l ∧ lenSum l ≤ 4096 := by
  rw [sum_of_can h]; have := cntN_nonneg (hasB l) 4096; exact this
theorem chkB_can {l : List Sp} (h : chkB l = true) : canB (-1) l = true ∧ l.length ≤ 64 := by
  unfold chkB at h; rw [Bool.and_eq_true, decide_eq_true_eq] at h; exact h
def cntB (l : List Sp) : Int := if chkB l = true then lenSum l else 0

def begB (l : List Sp) (k : Int) : Bool := match l with | [] => false | s :: _ => decide (s.1 ≤ k)
def edgeOf (l : List Sp) (lo : Int) : Int := match l with | [] => 4096 | s :: _ => if s.1 ≤ lo then s.2 else s.1
def aftOf (l : List Sp) (hi : Int) : List Sp := match l with | [] => [] | s :: t => if s.2 = hi then t else s :: t

theorem ret_slice {a b : Option Addr} {n m c d : Nat} (h1 : a = b) (h2 : n = m) (h3 : c = d) : Ending.returned (.slice a n c) = .returned (.slice b m d) := by rw [h1, h2, h3]
/-- What is left of a set, and where. -/
def Left (w : World) (B : Nat) (l : List Sp) (e : Ending) (w' : World) : Prop := w = w' ∧ ∃ a cap, e = .returned (.slice a l.length cap) ∧ l.length ≤ cap ∧ cap ≤ maxLen ∧ PIn w' B a l
theorem PIn.tail {w : World} {B b off : Nat} {s : Sp} {t : List Sp} (h : PIn w B (some ⟨b, off, none⟩) (s :: t)) : PIn w B (some ⟨b, off + 2, none⟩) t := fun k hk => by
  obtain ⟨b', off', e, hb, h1, h2⟩ := h (k + 1) (by simpa using hk)
  cases e
  rw [List.getD_cons_succ, show off + (k + 1) * 2 = off + 2 + k * 2 from by omega] at h1 h2
  exact ⟨b, off + 2, rfl, hb, h1, h2⟩

end Go.Proofs.Ytihpojllalnmcaa


/-
  WHAT IS LEFT OF A SET behind a key, plain; CONTRACT of pieces, whatever it is to visit.
-/
namespace Go.Proofs.Ytihpojllalnmcaa
open Go.RowKit Go.Shelf

/-- l is what is left of the set A behind z. -/
def Suf (A l : List Sp) (z : Int) : Prop :=
  canB (-1) l = true ∧ (∀ j, z ≤ j → hasB A j = hasB l j) ∧ (∀ s t, l = s :: t → z < s.2) ∧ l.length ≤ A.length
theorem Suf.start {A : List Sp} (h : canB (-1) A = true) : Suf A A 0 :=
  ⟨h, fun _ _ => rfl, fun s t e => by subst e; have := (canB_cons _ _ _).1 h; omega, Nat.le_refl _⟩
theorem Suf.edge {A l : List Sp} {z : Int} (h : Suf A l z) (hz : z < 4096) : z < edgeOf l z ∧ edgeOf l z ≤ 4096 := by
  cases l with
  | nil => exact ⟨hz, Int.le_refl _⟩
  | cons s t =>
    have h1 := (canB_cons _ _ _).1 h.1
    have h2 := h.2.2.1 s t rfl
    unfold edgeOf
    dsimp only
    split <;> omega
theorem Suf.lt {A l : List Sp} {z : Int} (h : Suf A l z) (hl : l ≠ []) : z < 4096 := by
  cases l with
  | nil => exact absurd rfl hl
  | cons s t =>
    have h1 := (canB_cons _ _ _).1 h.1
    have h2 := h.2.2.1 s t rfl
    omega
theorem Suf.seg {A l : List Sp} {z j : Int} (h : Suf A l z) (h1 : z ≤ j) (h2 : j < edgeOf l z) : hasB A j = begB l z := by
  rw [h.2.1 j h1]
  cases l with
  | nil => rfl
  | cons s t =>
    have c := (canB_cons _ _ _).1 h.1
    unfold edgeOf at h2
    dsimp only at h2
    unfold begB
    dsimp only
    rw [hasB_cons]
    by_cases hs : s.1 ≤ z
    · rw [if_pos hs] at h2
      rw [(inB_iff s j).2 (by omega), decide_eq_true hs]; rfl
    · rw [if_neg hs] at h2
      rw [canB_low c.2.2 (by omega), decide_eq_false hs, Bool.or_false]
      cases hi : inB s j
      · rfl
      · rw [inB_iff] at hi; omega
theorem Suf.aft {A l : List Sp} {z hi : Int} (h : Suf A l z) (h1 : z < hi) (h2 : hi ≤ edgeOf l z) : Suf A (aftOf l hi) hi := by
  cases l with
  | nil => exact ⟨rfl, fun j hj => h.2.1 j (by omega), fun s t e => by simp [aftOf] at e, Nat.zero_le _⟩
  | cons s t =>
    have c := (canB_cons _ _ _).1 h.1
    have h3 := h.2.2.1 s t rfl
    unfold edgeOf at h2
    dsimp only at h2
    unfold aftOf
    dsimp only
    split
    · rename_i he
      refine ⟨canB_weak (by omega) c.2.2, fun j hj => ?_, fun x y e => ?_, by have := h.2.2.2; simp at this; omega⟩
      · rw [h.2.1 j (by omega), hasB_cons]
        cases hi' : inB s j
        · rfl
        · rw [inB_iff] at hi'; omega
      · subst e
        have := (canB_cons _ _ _).1 c.2.2
        omega
    · refine ⟨h.1, fun j hj => h.2.1 j (by omega), fun x y e => ?_, h.2.2.2⟩
      cases e
      split at h2 <;> omega
theorem Suf.done {A : List Sp} {z j : Int} (h : Suf A [] z) (hj : z ≤ j) : hasB A j = false := h.2.1 j hj

/-- What visit makes of the stretch that ends at hi: it goes on, or not. -/
def Seen (Inv : Int → World → Prop) (Fin : World → Prop) (hi : Int) (c : Bool) (w' : World) : Prop := (c = true → Inv hi w') ∧ (c = false → Fin w')
/-- What is asked of visit. -/
def Vis (g : Nat) (lb : Array Value) (A B : List Sp) (B0 : Nat) (Inv : Int → World → Prop) (Fin : World → Prop) : Prop :=
  ∀ (W : World) (lo hi : Int) (x y : Bool), 0 ≤ lo → lo < hi → hi ≤ 4096 → (∀ j, lo ≤ j → j < hi → hasB A j = x ∧ hasB B j = y) → Inv lo W →
    Calls Try.prog g (#[.agg #[.int .i64 lo, .int .i64 hi], .bool x, .bool y] ++ lb) W fun e w' => ∃ c, e = .returned (.bool c) ∧ Seen Inv Fin hi c w' ∧ Below B0 W w'
def PcPost (A B : List Sp) (Inv : Int → World → Prop) (Fin : World → Prop) (e : Ending) (w' : World) : Prop :=
  e = .returned (.tuple #[]) ∧ (Fin w' ∨ ∃ lo, Inv lo w' ∧ ∀ j, lo ≤ j → hasB A j = false ∧ hasB B j = false)

end Go.Proofs.Ytihpojllalnmcaa
