/-
  SETS OF KEYS, plain: spans as pairs of integers; which are a set; the keys of spans; one set only for the same keys; a span added at the end; how many keys.
-/
import Derived.WalkKit
namespace Go.Proofs.Ytfnjadiibiedgaa

abbrev Sp := Int × Int
def oneB (s : Sp) : Bool := decide (0 ≤ s.1 ∧ s.1 < s.2 ∧ s.2 ≤ 4096)
theorem oneB_iff (s : Sp) : oneB s = true ↔ 0 ≤ s.1 ∧ s.1 < s.2 ∧ s.2 ≤ 4096 := by unfold oneB; exact decide_eq_true_iff
def inB (s : Sp) (k : Int) : Bool := oneB s && decide (s.1 ≤ k ∧ k < s.2)
def hasB (l : List Sp) (k : Int) : Bool := l.any fun s => inB s k
/-- Spans that may be, each behind the one ahead of it, the first behind e. -/
def canB (e : Int) : List Sp → Bool
  | [] => true
  | s :: t => oneB s && decide (e < s.1) && canB s.2 t
def chkB (l : List Sp) : Bool := canB (-1) l && decide (l.length ≤ 64)
/-- The end of the last span, or e. -/
def endOf (e : Int) (l : List Sp) : Int := match l.getLast? with | some s => s.2 | none => e

theorem inB_iff (s : Sp) (k : Int) : inB s k = true ↔ 0 ≤ s.1 ∧ s.1 < s.2 ∧ s.2 ≤ 4096 ∧ s.1 ≤ k ∧ k < s.2 := by
  unfold inB; rw [Bool.and_eq_true, oneB_iff, decide_eq_true_iff]; constructor
  · rintro ⟨⟨a, b, c⟩, d, e⟩; exact ⟨a, b, c, d, e⟩
  · rintro ⟨a, b, c, d, e⟩; exact ⟨⟨a, b, c⟩, d, e⟩
theorem hasB_iff (l : List Sp) (k : Int) : hasB l k = true ↔ ∃ s ∈ l, inB s k = true := by unfold hasB; simp
theorem hasB_nil (k : Int) : hasB [] k = false := rfl
theorem hasB_cons (s : Sp) (l : List Sp) (k : Int) : hasB (s :: l) k = (inB s k || hasB l k) := rfl
theorem hasB_append (l m : List Sp) (k : Int) : hasB (l ++ m) k = (hasB l k || hasB m k) := by unfold hasB; exact List.any_append
theorem hasB_range {l : List Sp} {k : Int} (h : hasB l k = true) : 0 ≤ k ∧ k < 4096 := by
  obtain ⟨s, _, hs⟩ := (hasB_iff l k).1 h
  rw [inB_iff] at hs; omega
theorem canB_cons (e : Int) (s : Sp) (t : List Sp) : canB e (s :: t) = true ↔ (0 ≤ s.1 ∧ s.1 < s.2 ∧ s.2 ≤ 4096) ∧ e < s.1 ∧ canB s.2 t = true := by
  show (oneB s && decide (e < s.1) && canB s.2 t) = true ↔ _
  rw [Bool.and_eq_true, Bool.and_eq_true, oneB_iff, decide_eq_true_iff, and_assoc]
theorem canB_weak {e e' : Int} (he : e' ≤ e) {l : List Sp} (h : canB e l = true) : canB e' l = true := by
  cases l with
  | nil => rfl
  | cons s t => rw [canB_cons] at h ⊢; exact ⟨h.1, by omega, h.2.2⟩
theorem canB_low {e k : Int} {l : List Sp} (h : canB e l = true) (hk : k ≤ e) : hasB l k = false := by
  induction l generalizing e with
  | nil => rfl
  | cons s t ih =>
    rw [canB_cons] at h
    rw [hasB_cons, ih h.2.2 (by omega), Bool.or_false]
    cases hi : inB s k
    · rfl
    · rw [inB_iff] at hi; omega
theorem canB_all {e : Int} {l : List Sp} (h : canB e l = true) : ∀ s ∈ l, oneB s = true := by
  induction l generalizing e with
  | nil => simp
  | cons s t ih =>
    rw [canB_cons] at h
    intro x hx
    rcases List.mem_cons.1 hx with rfl | hx
    · exact (oneB_iff _).2 h.1
    · exact ih h.2.2 x hx
/-- ONE SET ONLY for the same keys. -/
theorem can_ext : ∀ (l m : List Sp) (e e' : Int), canB e l = true → canB e' m = true → (∀ k, hasB l k = hasB m k) → l = m
  | [], [], _, _, _, _, _ => rfl
  | [], s :: t, e, e', _, hm, h => by
    have := h s.1
    rw [canB_cons] at hm
    rw [hasB_nil, hasB_cons, (inB_iff s s.1).2 (by omega)] at this
    simp at this
  | s :: t, [], e, e', hl, _, h => by
    have := h s.1
    rw [canB_cons] at hl
    rw [hasB_nil, hasB_cons, (inB_iff s s.1).2 (by omega)] at this
    simp at this
  | (a, b) :: t, (c, d) :: u, e, e', hl, hm, h => by
    rw [canB_cons] at hl hm
    dsimp only at hl hm
    obtain ⟨h1, h2, h3⟩ := hl
    obtain ⟨g1, g2, g3⟩ := hm
    have hk := fun k => h k
    simp only [hasB_cons] at hk
    have eqA : a = c := by
      rcases Int.lt_trichotomy a c with hlt | heq | hgt
      · have := hk a
        rw [(inB_iff (a, b) a).2 ⟨h1.1, h1.2.1, h1.2.2, by dsimp only; omega, by dsimp only; omega⟩, canB_low g3 (by omega), Bool.true_or, Bool.or_false] at this
        have := (inB_iff (c, d) a).1 this.symm
        dsimp only at this; omega
      · exact heq
      · have := hk c
        rw [(inB_iff (c, d) c).2 ⟨g1.1, g1.2.1, g1.2.2, by dsimp only; omega, by dsimp only; omega⟩, canB_low h3 (by omega), Bool.true_or, Bool.or_false] at this
        have := (inB_iff (a, b) c).1 this
        dsimp only at this; omega
    subst eqA
    have eqB : b = d := by
      rcases Int.lt_trichotomy b d with hlt | heq | hgt
      · have := hk b
        rw [(inB_iff (a, d) b).2 ⟨g1.1, g1.2.1, g1.2.2, by dsimp only; omega, by dsimp only; omega⟩, canB_low h3 (by omega), Bool.true_or, Bool.or_false] at this
        have := (inB_iff (a, b) b).1 this
        dsimp only at this; omega
      · exact heq
      · have := hk d
        rw [(inB_iff (a, b) d).2 ⟨h1.1, h1.2.1, h1.2.2, by dsimp only; omega, by dsimp only; omega⟩, canB_low g3 (by omega), Bool.true_or, Bool.or_false] at this
        have := (inB_iff (a, d) d).1 this.symm
        dsimp only at this; omega
    subst eqB
    rw [can_ext t u b b h3 g3 fun k => ?_]
    by_cases hkb : k ≤ b
    · rw [canB_low h3 hkb, canB_low g3 hkb]
    · have := hk k
      have hf : inB (a, b) k = false := by
        cases hi : inB (a, b) k
        · rfl
        · rw [inB_iff] at hi; dsimp only at hi; omega
      rw [hf] at this
      simpa using this

/-! A span at the end. -/
theorem endOf_snoc (e : Int) (l : List Sp) (s : Sp) : endOf e (l ++ [s]) = s.2 := by unfold endOf; rw [List.getLast?_append]; rfl
theorem endOf_nil (e : Int) : endOf e [] = e := rfl
theorem endOf_cons (e : Int) (s : Sp) (t : List Sp) : endOf e (s :: t) = endOf s.2 t := by
  unfold endOf
  cases t with
  | nil => rfl
  | cons x y => rw [List.getLast?_cons_cons]; cases hq : (x :: y).getLast? with
    | none => simp at hq
    | some z => rfl
theorem canB_snoc (e : Int) (l : List Sp) (s : Sp) : canB e (l ++ [s]) = true ↔ canB e l = true ∧ (0 ≤ s.1 ∧ s.1 < s.2 ∧ s.2 ≤ 4096) ∧ endOf e l < s.1 := by
  induction l generalizing e with
  | nil =>
    show canB e [s] = true ↔ _
    rw [canB_cons, endOf_nil]
    constructor
    · rintro ⟨a, b, _⟩; exact ⟨rfl, a, b⟩
    · rintro ⟨_, a, b⟩; exact ⟨a, b, rfl⟩
  | cons x t ih =>
    rw [List.cons_append, canB_cons, canB_cons, ih, endOf_cons]
    constructor
    · rintro ⟨a, b, c, d, f⟩; exact ⟨⟨a, b, c⟩, d, f⟩
    · rintro ⟨⟨a, b, c⟩, d, f⟩; exact ⟨a, b, c, d, f⟩
/-- 'extend': a span behind the set, or joined to its last one. -/
def ext (l : List Sp) (s : Sp) : List Sp :=
  match l.getLast? with
  | some x => if s.1 ≤ x.2 then l.dropLast ++ [(x.1, max x.2 s.2)] else l ++ [s]
  | none => [s]
theorem ext_nil (s : Sp) : ext [] s = [s] := rfl
theorem ext_snoc (l : List Sp) (x s : Sp) : ext (l ++ [x]) s = if s.1 ≤ x.2 then l ++ [(x.1, max x.2 s.2)] else l ++ [x] ++ [s] := by
  unfold ext; rw [List.getLast?_append]; simp
/-- Where the last span starts, or 0. -/
def loOf (l : List Sp) : Int := match l.getLast? with | some s => s.1 | none => 0
theorem loOf_snoc (l : List Sp) (s : Sp) : loOf (l ++ [s]) = s.1 := by unfold loOf; rw [List.getLast?_append]; rfl
theorem ext_can {l : List Sp} {s : Sp} (h : canB (-1) l = true) (hs : oneB s = true) (ho : loOf l ≤ s.1) :
    canB (-1) (ext l s) = true ∧ (∀ k, hasB (ext l s) k = (hasB l k || inB s k)) ∧ loOf (ext l s) ≤ s.1 := by
  have hs' := (oneB_iff s).1 hs
  rcases List.eq_nil_or_concat l with rfl | ⟨m, x, rfl⟩
  · rw [ext_nil]
    refine ⟨(canB_cons _ _ _).2 ⟨hs', by omega, rfl⟩, fun k => by rw [hasB_cons, hasB_nil, Bool.or_false, Bool.false_or], by rw [← List.nil_append [s], loOf_snoc]; omega⟩
  · rw [List.concat_eq_append] at h ho ⊢
    rw [loOf_snoc] at ho
    have h' := (canB_snoc _ _ _).1 h
    rw [ext_snoc]
    by_cases hle : s.1 ≤ x.2
    · rw [if_pos hle]
      refine ⟨(canB_snoc _ _ _).2 ⟨h'.1, ⟨by dsimp only; omega, by dsimp only; omega, by dsimp only; omega⟩, by dsimp only; omega⟩, fun k => ?_, by rw [loOf_snoc]; dsimp only; omega⟩
      rw [hasB_append, hasB_append, Bool.or_assoc]
      congr 1
      rw [hasB_cons, hasB_nil, Bool.or_false, hasB_cons, hasB_nil, Bool.or_false, Bool.eq_iff_iff, Bool.or_eq_true, inB_iff, inB_iff, inB_iff]
      dsimp only
      omega
    · rw [if_neg hle]
      refine ⟨(canB_snoc _ _ _).2 ⟨h, hs', by rw [endOf_snoc]; omega⟩, fun k => by rw [hasB_append _ [s], hasB_cons s, hasB_nil, Bool.or_false], by rw [loOf_snoc]; omega⟩
theorem ext_ne (l : List Sp) (s : Sp) : ext l s ≠ [] := by
  unfold ext; split
  · split <;> simp
  · simp
theorem ext_len (l : List Sp) (s : Sp) : (ext l s).length ≤ l.length + 1 := by
  rcases List.eq_nil_or_concat l with rfl | ⟨m, x, rfl⟩
  · simp [ext_nil]
  · rw [List.concat_eq_append, ext_snoc]; split <;> simp
/-- Spans whose starts rise, one behind the other: a set with their keys. -/
theorem fold_ext : ∀ (d l : List Sp), canB (-1) l = true → (∀ s ∈ d, oneB s = true) → (∀ s ∈ d, loOf l ≤ s.1) → d.Pairwise (fun x y => x.1 ≤ y.1) →
    canB (-1) (d.foldl ext l) = true ∧ ∀ k, hasB (d.foldl ext l) k = (hasB l k || hasB d k)
  | [], l, h, _, _, _ => ⟨h, fun k => by simp [hasB_nil]⟩
  | s :: d, l, h, ho, hl, hp => by
    obtain ⟨e1, e2, e3⟩ := ext_can h (ho s (by simp)) (hl s (by simp))
    have hp' := List.pairwise_cons.1 hp
    obtain ⟨f1, f2⟩ := fold_ext d (ext l s) e1 (fun x hx => ho x (by simp [hx])) (fun x hx => by have := hp'.1 x hx; omega) hp'.2
    exact ⟨f1, fun k => by rw [List.foldl_cons, f2, e2, hasB_cons, Bool.or_assoc]⟩
theorem hasB_perm {l m : List Sp} (h : l.Perm m) (k : Int) : hasB l k = hasB m k := by
  unfold hasB; rw [Bool.eq_iff_iff, List.any_eq_true, List.any_eq_true]
  exact ⟨fun ⟨x, hx, e⟩ => ⟨x, h.mem_iff.1 hx, e⟩, fun ⟨x, hx, e⟩ => ⟨x, h.mem_iff.2 hx, e⟩⟩

/-! The set of keys that a test gives. -/
def setN (p : Int → Bool) : Nat → List Sp
  | 0 => []
  | n + 1 => if p n then ext (setN p n) (n, n + 1) else setN p n
def cntN (p : Int → Bool) : Nat → Int
  | 0 => 0
  | n + 1 => cntN p n + if p n then 1 else 0
def lenSum (l : List Sp) : Int := (l.map fun s => s.2 - s.1).sum
theorem lenSum_snoc (l : List Sp) (s : Sp) : lenSum (l ++ [s]) = lenSum l + (s.2 - s.1) := by unfold lenSum; simp
theorem setN_ok (p : Int → Bool) : ∀ n : Nat, n ≤ 4096 → canB (-1) (setN p n) = true ∧ (∀ k, hasB (setN p n) k = (decide (0 ≤ k ∧ k < n) && p k)) ∧ (setN p n = [] ∨ endOf (-1) (setN p n) ≤ n) ∧ lenSum (setN p n) = cntN p n
  | 0, _ => ⟨rfl, fun k => by rw [show setN p 0 = [] from rfl, hasB_nil, decide_eq_false (by omega)]; rfl, .inl rfl, rfl⟩
  | n + 1, hn => by
    obtain ⟨h1, h2, h3, h4⟩ := setN_ok p n (by omega)
    show canB (-1) (if p n then ext (setN p n) (n, n + 1) else setN p n) = true ∧ (∀ k, hasB (if p n then ext (setN p n) (n, n + 1) else setN p n) k = _) ∧ ((if p n then ext (setN p n) (n, n + 1) else setN p n) = [] ∨ endOf (-1) (if p n then ext (setN p n) (n, n + 1) else setN p n) ≤ _) ∧ lenSum (if p n then ext (setN p n) (n, n + 1) else setN p n) = cntN p n + if p n then 1 else 0
    generalize setN p n = l at h1 h2 h3 h4
    cases hp : p n
    · rw [if_neg (by simp)]
      refine ⟨h1, fun k => ?_, ?_, by simp [h4]⟩
      · rw [h2, Bool.eq_iff_iff]
        simp only [Bool.and_eq_true, decide_eq_true_eq]
        constructor
        · rintro ⟨a, b⟩; exact ⟨by omega, b⟩
        · rintro ⟨a, b⟩
          refine ⟨?_, b⟩
          by_cases hk : k = n
          · subst hk; rw [hp] at b; cases b
          · omega
      · rcases h3 with h3 | h3
        · exact .inl h3
        · right; omega
    · rw [if_pos rfl]
      have ho : oneB ((n : Int), (n : Int) + 1) = true := (oneB_iff _).2 (by dsimp only; omega)
      have hlo : loOf l ≤ n := by
        rcases List.eq_nil_or_concat l with rfl | ⟨m, x, rfl⟩
        · show (0 : Int) ≤ n; omega
        · rw [List.concat_eq_append] at h1 h3 ⊢
          rw [loOf_snoc]
          have := (canB_snoc _ _ _).1 h1
          rcases h3 with h3 | h3
          · simp at h3
          · rw [endOf_snoc] at h3; omega
      obtain ⟨e1, e2, _⟩ := ext_can (s := ((n : Int), (n : Int) + 1)) h1 ho hlo
      refine ⟨e1, fun k => ?_, .inr ?_, ?_⟩
      · rw [e2, h2, Bool.eq_iff_iff]
        simp only [Bool.and_eq_true, Bool.or_eq_true, decide_eq_true_eq, inB_iff]
        constructor
        · rintro (⟨a, b⟩ | a)
          · exact ⟨by omega, b⟩
          · have : k = n := by omega
            subst this; exact ⟨by omega, hp⟩
        · rintro ⟨a, b⟩
          by_cases hk : k = n
          · subst hk; right; omega
          · left; exact ⟨by omega, b⟩
      · rcases List.eq_nil_or_concat l with rfl | ⟨m, x, rfl⟩
        · rw [ext_nil]; show (n : Int) + 1 ≤ _; omega
        · rw [List.concat_eq_append] at h1 h3 ⊢
          rw [ext_snoc]
          have h3' : x.2 ≤ n := by
            rcases h3 with h3 | h3
            · simp at h3
            · rw [endOf_snoc] at h3; exact h3
          split
          · rw [endOf_snoc]; dsimp only; omega
          · rw [endOf_snoc]; dsimp only; omega
      · rw [if_pos rfl]
        rcases List.eq_nil_or_concat l with rfl | ⟨m, x, rfl⟩
        · rw [ext_nil, ← h4]; simp [lenSum]; omega
        · rw [List.concat_eq_append] at h1 h3 h4 ⊢
          rw [ext_snoc]
          have h3' : x.2 ≤ n := by
            rcases h3 with h3 | h3
            · simp at h3
            · rw [endOf_snoc] at h3; exact h3
          rw [lenSum_snoc] at h4
          split
          · rename_i hle
            dsimp only at hle
            rw [lenSum_snoc]; dsimp only; omega
          · rw [lenSum_snoc, lenSum_snoc]; dsimp only; omega
def setOf (p : Int → Bool) : List Sp := setN p 4096
def cardOf (p : Int → Bool) : Int := cntN p 4096
theorem setOf_can (p : Int → Bool) : canB (-1) (setOf p) = true := (setN_ok p 4096 (by omega)).1
theorem setOf_has (p : Int → Bool) (k : Int) : hasB (setOf p) k = (decide (0 ≤ k ∧ k < 4096) && p k) := (setN_ok p 4096 (by omega)).2.1 k
theorem setOf_sum (p : Int → Bool) : lenSum (setOf p) = cardOf p := (setN_ok p 4096 (by omega)).2.2.2
theorem setOf_eq {l : List Sp} {p : Int → Bool} (h : canB (-1) l = true) (hk : ∀ k, 0 ≤ k → k < 4096 → hasB l k = p k) : l = setOf p := by
  refine can_ext _ _ _ _ h (setOf_can p) fun k => ?_
  rw [setOf_has]
  by_cases hr : 0 ≤ k ∧ k < 4096
  · rw [hk k hr.1 hr.2, decide_eq_true hr, Bool.true_and]
  · rw [decide_eq_false hr, Bool.false_and]
    cases hb : hasB l k
    · rfl
    · exact absurd (hasB_range hb) hr
theorem setOf_congr {p q : Int → Bool} (h : ∀ k, 0 ≤ k → k < 4096 → p k = q k) : setOf p = setOf q :=
  setOf_eq (setOf_can p) fun k h0 h1 => by rw [setOf_has, decide_eq_true ⟨h0, h1⟩, Bool.true_and, h k h0 h1]
theorem setOf_of_can {l : List Sp} (h : canB (-1) l = true) : setOf (hasB l) = l := (setOf_eq h fun _ _ _ => rfl).symm
theorem sum_of_can {l : List Sp} (h : canB (-1) l = true) : lenSum l = cardOf (hasB l) := by rw [← setOf_sum, setOf_of_can h]
theorem cntN_add {p q r s : Int → Bool} : ∀ n : Nat, (∀ k : Nat, k < n → (if p k then (1 : Int) else 0) + (if q k then 1 else 0) = (if r k then 1 else 0) + (if s k then 1 else 0)) → cntN p n + cntN q n = cntN r n + cntN s n
  | 0, _ => rfl
  | n + 1, h => by
    have h1 := cntN_add n fun k hk => h k (by omega)
    have h2 := h n (by omega)
    show cntN p n + _ + (cntN q n + _) = cntN r n + _ + (cntN s n + _)
    omega
theorem cntN_nonneg (p : Int → Bool) : ∀ n : Nat, 0 ≤ cntN p n ∧ cntN p n ≤ n
  | 0 => ⟨Int.le_refl _, Int.le_refl _⟩
  | n + 1 => by
    have := cntN_nonneg p n
    show 0 ≤ cntN p n + (if p n then 1 else 0) ∧ cntN p n + (if p n then 1 else 0) ≤ ((n + 1 : Nat) : Int)
    split <;> omega
theorem cntN_pos (p : Int → Bool) : ∀ n : Nat, 0 < cntN p n ↔ ∃ k : Nat, k < n ∧ p k = true
  | 0 => ⟨fun h => absurd h (by show ¬ (0 : Int) < 0; omega), fun ⟨k, h, _⟩ => absurd h (by omega)⟩
  | n + 1 => by
    have h0 := cntN_nonneg p n
    have ih := cntN_pos p n
    show 0 < cntN p n + (if p n then 1 else 0) ↔ _
    cases hp : p n
    · rw [if_neg (by simp), Int.add_zero, ih]
      constructor
      · rintro ⟨k, hk, e⟩; exact ⟨k, by omega, e⟩
      · rintro ⟨k, hk, e⟩
        by_cases hkn : k = n
        · subst hkn; rw [hp] at e; cases e
        · exact ⟨k, by omega, e⟩
    · rw [if_pos rfl]
      exact ⟨fun _ => ⟨n, by omega, hp⟩, fun _ => by omega⟩
theorem canB_len : ∀ (l : List Sp) (e : Int), canB e l = true → l ≠ [] → (l.length : Int) ≤ 4096 - e
  | [], _, _, h => absurd rfl h
  | [s], e, h, _ => by rw [canB_cons] at h; simp; omega
  | s :: x :: t, e, h, _ => by
    have h' := (canB_cons _ _ _).1 h
    have := canB_len (x :: t) s.2 h'.2.2 (by simp)
    simp at this ⊢; omega
end Go.Proofs.Ytfnjadiibiedgaa
