/-
  TabP, TabQ, TabA, TabB: one text.
-/
import Derived.Test.YtihpojllalnmcaaMA2
/-
  TABLES, plain: which pairs are one, a key's value, a pair put in, what a mutation's pairs make of a table.
-/
namespace Go.Proofs.Ytihpojllalnmcaa
open Go.RowKit Go.Shelf

def tblF (e : Int) : List Sp → Bool
  | [] => true
  | p :: t => (decide (e < p.1 ∧ p.1 < 4096) && isVal p.2) && tblF p.1 t
def tblB (l : List Sp) : Bool := tblF (-1) l
def getT : List Sp → Int → Option Int
  | [], _ => none
  | p :: t, k => if p.1 = k then some p.2 else getT t k
def putT : List Sp → Int → Int → List Sp
  | [], k, v => [(k, v)]
  | p :: t, k, v => if k < p.1 then (k, v) :: p :: t else if p.1 = k then (k, v) :: t else p :: putT t k v
def plc : List Sp → Int → Nat
  | [], _ => 0
  | p :: t, k => if p.1 < k then plc t k + 1 else 0

theorem isVal_iff (n : Int) : isVal n = true ↔ -1099511627776 ≤ n ∧ n ≤ 1099511627776 := by unfold isVal btw; exact decide_eq_true_iff
theorem tblF_cons (e : Int) (p : Sp) (t : List Sp) : tblF e (p :: t) = true ↔ (e < p.1 ∧ p.1 < 4096) ∧ (-1099511627776 ≤ p.2 ∧ p.2 ≤ 1099511627776) ∧ tblF p.1 t = true := by
  show ((decide (e < p.1 ∧ p.1 < 4096) && isVal p.2) && tblF p.1 t) = true ↔ _
  rw [Bool.and_eq_true, Bool.and_eq_true, decide_eq_true_iff, isVal_iff]
  exact ⟨fun h => ⟨h.1.1, h.1.2, h.2⟩, fun h => ⟨⟨h.1, h.2.1⟩, h.2.2⟩⟩
theorem tblF_weak {e e' : Int} (he : e' ≤ e) {l : List Sp} (h : tblF e l = true) : tblF e' l = true := by
  cases l with
  | nil => rfl
  | cons p t => rw [tblF_cons] at h ⊢; exact ⟨by omega, h.2⟩
theorem getT_low : ∀ (l : List Sp) (e k : Int), tblF e l = true → k ≤ e → getT l k = none
  | [], _, _, _, _ => rfl
  | p :: t, e, k, h, hk => by
    rw [tblF_cons] at h
    unfold getT
    rw [if_neg (by omega), getT_low t p.1 k h.2.2 (by omega)]
theorem getT_range : ∀ (l : List Sp) (e k : Int) (v : Int), tblF e l = true → getT l k = some v → e < k ∧ k < 4096 ∧ (-1099511627776 ≤ v ∧ v ≤ 1099511627776)
  | [], _, _, _, _, h => by cases h
  | p :: t, e, k, v, h, hg => by
    rw [tblF_cons] at h
    unfold getT at hg
    by_cases hp : p.1 = k
    · rw [if_pos hp] at hg
      cases hg
      omega
    · rw [if_neg hp] at hg
      have := getT_range t p.1 k v h.2.2 hg
      omega
theorem getT_neg {l : List Sp} {k : Int} (h : tblB l = true) (hk : k < 0 ∨ 4096 ≤ k) : getT l k = none := by
  cases hg : getT l k with
  | none => rfl
  | some v => have := getT_range l (-1) k v h hg; omega
theorem getT_val {l : List Sp} {k : Int} (h : tblB l = true) : -1099511627776 ≤ (getT l k).getD 0 ∧ (getT l k).getD 0 ≤ 1099511627776 := by
  cases hg : getT l k with
  | none => simp
  | some v => have := getT_range l (-1) k v h hg; simp; omega
theorem tab_ext : ∀ (l m : List Sp) (e e' : Int), tblF e l = true → tblF e' m = true → (∀ k, getT l k = getT m k) → l = m
  | [], [], _, _, _, _, _ => rfl
  | [], q :: u, _, _, _, _, h => by have := h q.1; unfold getT at this; rw [if_pos rfl] at this; cases this
  | p :: t, [], _, _, _, _, h => by have := h p.1; unfold getT at this; rw [if_pos rfl] at this; cases this
  | p :: t, q :: u, e, e', hl, hm, h => by
    rw [tblF_cons] at hl hm
    have h1 := h p.1
    have h2 := h q.1
    unfold getT at h1 h2
    rw [if_pos rfl] at h1
    rw [if_pos (rfl : q.1 = q.1)] at h2
    have hpq : p.1 = q.1 := by
      by_cases hlt : q.1 = p.1
      · exact hlt.symm
      · rw [if_neg hlt] at h1
        rw [if_neg (fun e => hlt e.symm)] at h2
        have a := getT_range u q.1 p.1 p.2 hm.2.2 h1.symm
        have b := getT_range t p.1 q.1 q.2 hl.2.2 h2
        omega
    rw [if_pos hpq.symm] at h1
    have hv : p.2 = q.2 := by simpa using h1
    have hp : p = q := Prod.ext hpq hv
    subst hp
    rw [tab_ext t u p.1 p.1 hl.2.2 hm.2.2 fun k => ?_]
    have := h k
    unfold getT at this
    by_cases hk : p.1 = k
    · rw [getT_low t p.1 k hl.2.2 (by omega), getT_low u p.1 k hm.2.2 (by omega)]
    · rw [if_neg hk, if_neg hk] at this
      exact this
theorem tab_same {l m : List Sp} (hl : tblB l = true) (hm : tblB m = true) (h : ∀ k, getT l k = getT m k) : l = m := tab_ext l m (-1) (-1) hl hm h

theorem getT_put : ∀ (l : List Sp) (k v j : Int), getT (putT l k v) j = if j = k then some v else getT l j
  | [], k, v, j => by
    unfold putT getT getT
    by_cases h : j = k
    · rw [if_pos h, if_pos h.symm]
    · rw [if_neg h, if_neg (fun e => h e.symm)]
  | p :: t, k, v, j => by
    unfold putT
    by_cases h1 : k < p.1
    · rw [if_pos h1]
      show (if k = j then some v else getT (p :: t) j) = _
      by_cases h : j = k
      · rw [if_pos h, if_pos h.symm]
      · rw [if_neg h, if_neg (fun e => h e.symm)]
    · rw [if_neg h1]
      by_cases h2 : p.1 = k
      · rw [if_pos h2]
        show (if k = j then some v else getT t j) = if j = k then some v else if p.1 = j then some p.2 else getT t j
        by_cases h : j = k
        · rw [if_pos h, if_pos h.symm]
        · rw [if_neg h, if_neg (fun e => h e.symm), if_neg (by omega)]
      · rw [if_neg h2]
        show (if p.1 = j then some p.2 else getT (putT t k v) j) = if j = k then some v else if p.1 = j then some p.2 else getT t j
        rw [getT_put t k v j]
        by_cases h : j = k
        · rw [if_pos h, if_pos h, if_neg (show ¬ p.1 = j by omega)]
        · rw [if_neg h, if_neg h]
theorem tblF_put : ∀ (l : List Sp) (e k v : Int), tblF e l = true → e < k → k < 4096 → isVal v = true → tblF e (putT l k v) = true
  | [], e, k, v, _, h1, h2, h3 => by unfold putT; rw [tblF_cons]; exact ⟨⟨h1, h2⟩, (isVal_iff v).1 h3, rfl⟩
  | p :: t, e, k, v, h, h1, h2, h3 => by
    rw [tblF_cons] at h
    unfold putT
    by_cases hk : k < p.1
    · rw [if_pos hk, tblF_cons]
      exact ⟨⟨h1, h2⟩, (isVal_iff v).1 h3, by rw [tblF_cons]; exact ⟨⟨hk, h.1.2⟩, h.2⟩⟩
    · rw [if_neg hk]
      by_cases hp : p.1 = k
      · rw [if_pos hp, tblF_cons]
        exact ⟨⟨h1, h2⟩, (isVal_iff v).1 h3, by rw [← hp]; exact h.2.2⟩
      · rw [if_neg hp, tblF_cons]
        exact ⟨h.1, h.2.1, tblF_put t p.1 k v h.2.2 (by omega) h2 h3⟩
theorem putT_len : ∀ (l : List Sp) (k v : Int), (putT l k v).length ≤ l.length + 1
  | [], k, v => Nat.le_refl _
  | p :: t, k, v => by
    unfold putT
    have := putT_len t k v
    split
    · simp
    · split <;> simp
      omega

theorem plc_le : ∀ (l : List Sp) (k : Int), plc l k ≤ l.length
  | [], _ => Nat.le_refl _
  | p :: t, k => by unfold plc; have := plc_le t k; split <;> simp; omega
theorem plc_lt : ∀ (l : List Sp) (k : Int) (i : Nat), i < plc l k → (l.getD i (0, 0)).1 < k
  | [], _, _, h => absurd h (Nat.not_lt_zero _)
  | p :: t, k, i, h => by
    unfold plc at h
    by_cases hp : p.1 < k
    · rw [if_pos hp] at h
      cases i with
      | zero => exact hp
      | succ i => exact plc_lt t k i (by omega)
    · rw [if_neg hp] at h
      omega
theorem plc_of : ∀ (l : List Sp) (k : Int) (n : Nat), n ≤ l.length → (∀ i, i < n → (l.getD i (0, 0)).1 < k) → (n < l.length → k ≤ (l.getD n (0, 0)).1) → plc l k = n
  | [], _, n, h, _, _ => by unfold plc; simp at h; omega
  | p :: t, k, 0, _, _, h => by
    have := h (by simp)
    simp at this
    unfold plc
    rw [if_neg (by omega)]
  | p :: t, k, n + 1, h, h1, h2 => by
    have hp := h1 0 (by omega)
    simp at hp
    unfold plc
    rw [if_pos hp, plc_of t k n (by simpa using h) (fun i hi => by simpa using h1 (i + 1) (by omega)) (fun hn => by simpa using h2 (by simpa using hn))]
theorem tbl_len : ∀ (l : List Sp) (e : Int), tblF e l = true → e ≤ 4095 → (l.length : Int) ≤ 4095 - e
  | [], _, _, h => by simp; omega
  | p :: t, e, h, he => by
    rw [tblF_cons] at h
    have := tbl_len t p.1 h.2.2 (by omega)
    simp only [List.length_cons]
    omega
theorem tbl_le {l : List Sp} (h : tblB l = true) : l.length ≤ 4096 := by have := tbl_len l (-1) h (by omega); omega
theorem tblF_get : ∀ (l : List Sp) (e : Int) (i : Nat), tblF e l = true → i < l.length → e < (l.getD i (0, 0)).1 ∧ (l.getD i (0, 0)).1 < 4096 ∧ -1099511627776 ≤ (l.getD i (0, 0)).2 ∧ (l.getD i (0, 0)).2 ≤ 1099511627776
  | [], _, _, _, h => absurd h (Nat.not_lt_zero _)
  | p :: t, e, 0, h, _ => by rw [tblF_cons] at h; simp; omega
  | p :: t, e, i + 1, h, hi => by
    rw [tblF_cons] at h
    have := tblF_get t p.1 i h.2.2 (by simpa using hi)
    simp only [List.getD_cons_succ]
    omega
theorem tab_mono : ∀ (l : List Sp) (e : Int) (i j : Nat), tblF e l = true → i < j → j < l.length → (l.getD i (0, 0)).1 < (l.getD j (0, 0)).1
  | [], _, _, _, _, _, h => absurd h (Nat.not_lt_zero _)
  | p :: t, e, 0, j + 1, h, _, hj => by
    rw [tblF_cons] at h
    have := tblF_get t p.1 j h.2.2 (by simpa using hj)
    simp only [List.getD_cons_succ, List.getD_cons_zero]
    omega
  | p :: t, e, i + 1, j + 1, h, hi, hj => by
    rw [tblF_cons] at h
    simp only [List.getD_cons_succ]
    exact tab_mono t p.1 i j h.2.2 (by omega) (by simpa using hj)
  | p :: t, e, _, 0, _, hi, _ => absurd hi (Nat.not_lt_zero _)
theorem plc_ge : ∀ (l : List Sp) (e k : Int) (i : Nat), tblF e l = true → plc l k ≤ i → i < l.length → k ≤ (l.getD i (0, 0)).1
  | [], _, _, _, _, _, h => absurd h (Nat.not_lt_zero _)
  | p :: t, e, k, i, h, hi, hl => by
    rw [tblF_cons] at h
    unfold plc at hi
    by_cases hp : p.1 < k
    · rw [if_pos hp] at hi
      cases i with
      | zero => omega
      | succ i => exact plc_ge t p.1 k i h.2.2 (by omega) (by simpa using hl)
    · cases i with
      | zero => simp; omega
      | succ i =>
        have := tblF_get t p.1 i h.2.2 (by simpa using hl)
        simp only [List.getD_cons_succ]
        omega
theorem plc_iff {l : List Sp} {e k : Int} {i : Nat} (h : tblF e l = true) (hi : i < l.length) : (l.getD i (0, 0)).1 < k ↔ i < plc l k := by
  constructor
  · intro hk
    by_cases hp : i < plc l k
    · exact hp
    · have := plc_ge l e k i h (by omega) hi
      omega
  · exact plc_lt l k i
theorem getT_plc : ∀ (l : List Sp) (e k : Int), tblF e l = true → getT l k = if plc l k < l.length ∧ (l.getD (plc l k) (0, 0)).1 = k then some (l.getD (plc l k) (0, 0)).2 else none
  | [], _, _, _ => rfl
  | p :: t, e, k, h => by
    rw [tblF_cons] at h
    unfold getT plc
    by_cases hp : p.1 < k
    · rw [if_pos hp, if_neg (by omega), getT_plc t p.1 k h.2.2]
      simp only [List.getD_cons_succ, List.length_cons, Nat.add_lt_add_iff_right]
    · rw [if_neg hp]
      by_cases he : p.1 = k
      · rw [if_pos he, if_pos (by simp [he])]
        simp
      · rw [if_neg he, if_neg (by simp [he]), getT_low t p.1 k h.2.2 (by omega)]
theorem put_there : ∀ (l : List Sp) (e k v : Int), tblF e l = true → plc l k < l.length → (l.getD (plc l k) (0, 0)).1 = k → putT l k v = l.set (plc l k) (k, v)
  | [], _, _, _, _, h, _ => absurd h (Nat.not_lt_zero _)
  | p :: t, e, k, v, h, hl, hk => by
    rw [tblF_cons] at h
    unfold plc at hl hk ⊢
    unfold putT
    by_cases hp : p.1 < k
    · rw [if_pos hp] at hl hk ⊢
      rw [if_neg (by omega), if_neg (by omega), put_there t p.1 k v h.2.2 (by simpa using hl) (by simpa using hk), List.set_cons_succ]
    · rw [if_neg hp] at hl hk ⊢
      simp at hk
      rw [if_neg (by omega), if_pos hk]
      simp
theorem put_new : ∀ (l : List Sp) (e k v : Int), tblF e l = true → ¬ (plc l k < l.length ∧ (l.getD (plc l k) (0, 0)).1 = k) → putT l k v = l.take (plc l k) ++ (k, v) :: l.drop (plc l k)
  | [], _, _, _, _, _ => rfl
  | p :: t, e, k, v, h, hn => by
    rw [tblF_cons] at h
    unfold plc at hn ⊢
    unfold putT
    by_cases hp : p.1 < k
    · rw [if_pos hp] at hn ⊢
      rw [if_neg (by omega), if_neg (by omega), put_new t p.1 k v h.2.2 (fun q => hn ⟨by simpa using q.1, by simpa using q.2⟩)]
      rfl
    · rw [if_neg hp] at hn ⊢
      have : p.1 ≠ k := fun e => hn ⟨by simp, by simpa using e⟩
      rw [if_pos (by omega)]
      rfl

theorem tblF_filter (q : Sp → Bool) : ∀ (l : List Sp) (e : Int), tblF e l = true → tblF e (l.filter q) = true
  | [], _, _ => rfl
  | p :: t, e, h => by
    rw [tblF_cons] at h
    by_cases hq : q p = true
    · rw [List.filter_cons_of_pos hq, tblF_cons]
      exact ⟨h.1, h.2.1, tblF_filter q t p.1 h.2.2⟩
    · rw [List.filter_cons_of_neg hq]
      exact tblF_weak (by omega) (tblF_filter q t p.1 h.2.2)
theorem getT_filter (q : Int → Bool) : ∀ (l : List Sp) (k : Int), getT (l.filter fun p => q p.1) k = if q k = true then getT l k else none
  | [], k => by simp [getT]
  | p :: t, k => by
    by_cases hq : q p.1 = true
    · rw [List.filter_cons_of_pos (by exact hq)]
      unfold getT
      rw [getT_filter q t k]
      by_cases hk : p.1 = k
      · rw [if_pos hk, if_pos hk, if_pos (by rw [← hk]; exact hq)]
      · rw [if_neg hk, if_neg hk]
    · rw [List.filter_cons_of_neg (by exact hq), getT_filter q t k]
      by_cases hk : p.1 = k
      · rw [if_neg (by rw [← hk]; exact hq), if_neg (by rw [← hk]; exact hq)]
      · conv => rhs; unfold getT
        rw [if_neg hk]

def nextV (k old : Int) (i : Nat) (p : Sp) (c : Option Int) : Option Int :=
  if k = 3 then (if 0 ≤ c.getD 0 + p.2 ∧ c.getD 0 + p.2 ≤ 1099511627776 then some (c.getD 0 + p.2) else none)
  else if k = 4 then (if c = some old ∨ (c = none ∧ old = 1099511627777) then some p.2 else none)
  else if k = 5 then some (if i = 0 then max (c.getD 0 - p.2) (-1099511627776) else min (c.getD 0 + p.2) 1099511627776)
  else some p.2
def appP (k old : Int) (on : List Sp) : Nat → List Sp → List Sp → List Sp × Bool
  | _, [], l => (l, true)
  | i, p :: t, l => if hasB on p.1 = true then (match nextV k old i p (getT l p.1) with | none => (l, false) | some v => appP k old on (i + 1) t (putT l p.1 v)) else appP k old on (i + 1) t l
def appT (l : List Sp) (k : Int) (ps : List Sp) (lo hi old : Int) (on : List Sp) : List Sp × Bool :=
  if k = 2 then (l.filter (fun p => !(inB (lo, hi) p.1 && hasB on p.1)), true) else appP k old on 0 ps l
def applyP (l : List Sp) (c s k : Int) (ps : List Sp) (lo hi old : Int) (on : List Sp) : List Sp × Bool :=
  if tblB l = true ∧ chkM c s k ps lo hi old = true ∧ chkB on = true then appT l k ps lo hi old on else ([], false)
/-- What a mutation makes of the cell of a key that it touches; none: it fails. -/
def cellV (k old : Int) (ps : List Sp) (key : Int) (c : Option Int) : Option (Option Int) :=
  if k = 2 then some none
  else if k = 5 then (nextV 5 old (if (ps.getD 0 (0, 0)).1 = key then 0 else 1) (ps.getD 0 (0, 0)) c).map some
  else if k = 3 ∨ k = 4 then (nextV k old 0 (ps.getD 0 (0, 0)) c).map some
  else match getT ps key with | some v => some (some v) | none => some c

theorem nextV_val {k old : Int} {i : Nat} {p : Sp} {c : Option Int} {v : Int} (hp : isVal p.2 = true) (h5 : k = 5 → 0 ≤ p.2) (hc : -1099511627776 ≤ c.getD 0 ∧ c.getD 0 ≤ 1099511627776) (h : nextV k old i p c = some v) : isVal v = true := by
  rw [isVal_iff] at hp ⊢
  unfold nextV at h
  by_cases k3 : k = 3
  · rw [if_pos k3] at h
    split at h
    · cases h; omega
    · cases h
  · rw [if_neg k3] at h
    by_cases k4 : k = 4
    · rw [if_pos k4] at h
      split at h
      · cases h; exact hp
      · cases h
    · rw [if_neg k4] at h
      by_cases k5 : k = 5
      · rw [if_pos k5] at h
        have := h5 k5
        cases h
        split <;> omega
      · rw [if_neg k5] at h
        cases h
        exact hp
theorem tab_app (k old : Int) (on : List Sp) : ∀ (ps : List Sp) (i : Nat) (l : List Sp), (∀ p ∈ ps, okP p = true ∧ (k = 5 → 0 ≤ p.2)) → tblB l = true → tblB (appP k old on i ps l).1 = true
  | [], _, _, _, h => h
  | p :: t, i, l, hp, h => by
    unfold appP
    have h1 := hp p List.mem_cons_self
    have ht := fun q hq => hp q (List.mem_cons_of_mem _ hq)
    by_cases ho : hasB on p.1 = true
    · rw [if_pos ho]
      cases hn : nextV k old i p (getT l p.1) with
      | none => exact h
      | some v =>
        have hb := okP_bd h1.1
        refine tab_app k old on t (i + 1) (putT l p.1 v) ht (tblF_put l (-1) p.1 v h (by omega) (by omega) ?_)
        exact nextV_val ((isVal_iff p.2).2 hb.2) h1.2 (getT_val h) hn
    · rw [if_neg ho]
      exact tab_app k old on t (i + 1) l ht h
theorem rise_get : ∀ (ps : List Sp) (e k : Int), riseFrom e ps = true → k ≤ e → getT ps k = none
  | [], _, _, _, _ => rfl
  | p :: t, e, k, h, hk => by
    have h' : (decide (e < p.1) && riseFrom p.1 t) = true := h
    rw [Bool.and_eq_true, decide_eq_true_iff] at h'
    unfold getT
    rw [if_neg (by omega), rise_get t p.1 k h'.2 (by omega)]
theorem app_put (k old : Int) (on : List Sp) (hk : k ≠ 3 ∧ k ≠ 4 ∧ k ≠ 5) : ∀ (ps : List Sp) (e : Int) (i : Nat) (l : List Sp), riseFrom e ps = true →
    (appP k old on i ps l).2 = true ∧ ∀ key, getT (appP k old on i ps l).1 key = if hasB on key = true then (match getT ps key with | some v => some v | none => getT l key) else getT l key
  | [], _, _, l, _ => ⟨rfl, fun key => by unfold appP; split <;> rfl⟩
  | p :: t, e, i, l, h => by
    have h' : (decide (e < p.1) && riseFrom p.1 t) = true := h
    rw [Bool.and_eq_true, decide_eq_true_iff] at h'
    have hn : nextV k old i p (getT l p.1) = some p.2 := by unfold nextV; rw [if_neg hk.1, if_neg hk.2.1, if_neg hk.2.2]
    have hlow := rise_get t p.1 p.1 h'.2 (Int.le_refl _)
    unfold appP
    by_cases ho : hasB on p.1 = true
    · rw [if_pos ho, hn]
      obtain ⟨i1, i2⟩ := app_put k old on hk t p.1 (i + 1) (putT l p.1 p.2) h'.2
      refine ⟨i1, fun key => ?_⟩
      show getT (appP k old on (i + 1) t (putT l p.1 p.2)).1 key = _
      rw [i2 key, getT_put]
      by_cases hkey : p.1 = key
      · subst hkey
        rw [if_pos ho, if_pos rfl, hlow]
        simp [getT, ho]
      · rw [if_neg (show ¬ key = p.1 from fun e => hkey e.symm)]
        simp only [getT, if_neg hkey]
    · rw [if_neg ho]
      obtain ⟨i1, i2⟩ := app_put k old on hk t p.1 (i + 1) l h'.2
      refine ⟨i1, fun key => ?_⟩
      rw [i2 key]
      by_cases hkey : p.1 = key
      · subst hkey
        rw [if_neg ho, if_neg ho]
      · simp only [getT, if_neg hkey]
end Go.Proofs.Ytihpojllalnmcaa


/-
  TABLES, plain: what a mutation makes of each key's cell.
-/
namespace Go.Proofs.Ytihpojllalnmcaa
open Go.RowKit Go.Shelf

def cutS (s : Sp) (on : List Sp) : List Sp := (on.map fun t => (max s.1 t.1, min s.2 t.2)).filter oneB
theorem inB_cut {s t : Sp} (hs : oneB s = true) (ht : oneB t = true) (j : Int) : inB (max s.1 t.1, min s.2 t.2) j = (inB s j && inB t j) := by
  have h1 := (oneB_iff s).1 hs
  have h2 := (oneB_iff t).1 ht
  rw [Bool.eq_iff_iff, Bool.and_eq_true, inB_iff, inB_iff, inB_iff]
  dsimp only
  omega
theorem inB_one {s : Sp} {j : Int} (h : oneB s = false) : inB s j = false := by unfold inB; rw [h]; rfl
theorem cutS_has {s : Sp} (hs : oneB s = true) : ∀ (on : List Sp), (∀ t ∈ on, oneB t = true) → ∀ j, hasB (cutS s on) j = (inB s j && hasB on j)
  | [], _, j => by unfold cutS; simp [hasB_nil]
  | t :: u, h, j => by
    have ih := cutS_has hs u (fun x hx => h x (List.mem_cons_of_mem _ hx)) j
    have hc := inB_cut hs (h t List.mem_cons_self) j
    have e : cutS s (t :: u) = if oneB (max s.1 t.1, min s.2 t.2) = true then (max s.1 t.1, min s.2 t.2) :: cutS s u else cutS s u := by
      unfold cutS
      rw [List.map_cons, List.filter_cons]
    rw [e, hasB_cons, Bool.and_or_distrib_left, ← hc, ← ih]
    cases ho : oneB (max s.1 t.1, min s.2 t.2)
    · rw [inB_one ho]; simp
    · rw [if_pos rfl, hasB_cons]
theorem meet_len {s : Sp} {on : List Sp} (hs : oneB s = true) (ho : chkB on = true) : (setOf fun j => inB s j && hasB on j).length ≤ 64 := by
  obtain ⟨hc, hl⟩ := chkB_can ho
  have e : (setOf fun j => inB s j && hasB on j) = setOf (hasB (cutS s on)) := setOf_congr fun k _ _ => (cutS_has hs on (canB_all hc) k).symm
  have hm := merge_len (cutS s on) (by unfold cutS; rw [List.all_eq_true]; intro x hx; exact (List.mem_filter.1 hx).2)
  have hf : (cutS s on).length ≤ on.length := by
    unfold cutS
    exact Nat.le_trans (List.length_filter_le _ _) (by simp)
  rw [e]
  omega
theorem canB_sing {s : Sp} (h : oneB s = true) : canB (-1) [s] = true := by
  have := (oneB_iff s).1 h
  exact (canB_cons (-1) s []).2 ⟨this, by omega, rfl⟩
theorem meet_one {s : Sp} {on : List Sp} (hs : oneB s = true) (ho : chkB on = true) : meetP [s] on = (setOf fun j => inB s j && hasB on j, 0) := by
  have h1 : chkB [s] = true := by unfold chkB; rw [canB_sing hs]; rfl
  unfold meetP mixP
  rw [if_pos ⟨h1, ho⟩]
  have e : (setOf fun j => hasB [s] j && hasB on j) = setOf fun j => inB s j && hasB on j := setOf_congr fun k _ _ => by rw [hasB_cons, hasB_nil, Bool.or_false]
  rw [e]
  unfold limP
  rw [if_pos (meet_len hs ho)]

theorem get_any : ∀ (ps : List Sp) (key : Int), (ps.any fun p => p.1 == key) = (getT ps key).isSome
  | [], _ => rfl
  | p :: t, key => by
    rw [List.any_cons, get_any t key]
    show (p.1 == key || (getT t key).isSome) = (if p.1 = key then some p.2 else getT t key).isSome
    by_cases h : p.1 = key
    · rw [if_pos h]; simp [h]
    · rw [if_neg h]; simp [h]

/-- What appT makes, cell by cell. -/
def Does (l R : List Sp) (k : Int) (ps : List Sp) (lo hi old : Int) (on : List Sp) : Prop :=
  ∀ key, if (touchesB k ps lo hi key && hasB on key) = true then cellV k old ps key (getT l key) = some (getT R key) else getT R key = getT l key
def Fails (l R : List Sp) (k : Int) (ps : List Sp) (old : Int) (on : List Sp) : Prop :=
  R = l ∧ (k = 3 ∨ k = 4) ∧ ∃ p, ps = [p] ∧ hasB on p.1 = true ∧ cellV k old ps p.1 (getT l p.1) = none

theorem fits_cases {k : Int} {l : List Sp} {lo hi old : Int} (h : fitsB k l lo hi old = true) :
    (k = 1 ∧ okPs l = true ∧ riseB l = true ∧ 1 ≤ l.length ∧ l.length ≤ 8) ∨ (k = 2 ∧ l = [] ∧ oneB (lo, hi) = true) ∨ ((k = 3 ∨ k = 4) ∧ ∃ p, l = [p] ∧ okP p = true) ∨ (k = 5 ∧ ∃ p q, l = [p, q] ∧ okP p = true ∧ okP q = true ∧ p.1 ≠ q.1 ∧ p.2 = q.2 ∧ 0 ≤ p.2) := by
  unfold fitsB at h
  by_cases k1 : k = 1
  · rw [if_pos k1, Bool.and_eq_true, Bool.and_eq_true] at h
    have := of_decide_eq_true h.1.1
    exact .inl ⟨k1, h.1.2, h.2, by omega, by omega⟩
  · rw [if_neg k1] at h
    by_cases k2 : k = 2
    · rw [if_pos k2, Bool.and_eq_true] at h
      exact .inr (.inl ⟨k2, List.eq_nil_of_length_eq_zero (by simpa using h.1), h.2⟩)
    · rw [if_neg k2] at h
      by_cases k3 : k = 3
      · rw [if_pos k3, Bool.and_eq_true] at h
        match l, h with
        | [p], h => exact .inr (.inr (.inl ⟨.inl k3, p, rfl, by simpa [okPs] using h.2⟩))
        | [], h => simp at h
        | _ :: _ :: _, h => simp at h
      · rw [if_neg k3] at h
        by_cases k4 : k = 4
        · rw [if_pos k4, Bool.and_eq_true, Bool.and_eq_true] at h
          match l, h with
          | [p], h => exact .inr (.inr (.inl ⟨.inr k4, p, rfl, by simpa [okPs] using h.1.2⟩))
          | [], h => simp at h
          | _ :: _ :: _, h => simp at h
        · rw [if_neg k4] at h
          by_cases k5 : k = 5
          · rw [if_pos k5, Bool.and_eq_true, Bool.and_eq_true] at h
            match l, h with
            | [p, q], h =>
              obtain ⟨⟨_, h2⟩, h3⟩ := h
              have h2' : okP p = true ∧ okP q = true := by simpa [okPs] using h2
              have h3' : ((p.1 != q.1) && (p.2 == q.2) && decide (0 ≤ p.2)) = true := h3
              rw [Bool.and_eq_true, Bool.and_eq_true] at h3'
              exact .inr (.inr (.inr ⟨k5, p, q, rfl, h2'.1, h2'.2, by simpa using h3'.1.1, by simpa using h3'.1.2, by simpa using h3'.2⟩))
            | [], h => simp at h
            | [_], h => simp at h
            | _ :: _ :: _ :: _, h => simp at h
          · rw [if_neg k5] at h
            cases h

theorem appT_get {c s k : Int} {ps : List Sp} {lo hi old : Int} {l on : List Sp} (hc : chkM c s k ps lo hi old = true) (hl : tblB l = true) :
    tblB (appT l k ps lo hi old on).1 = true ∧
    (((appT l k ps lo hi old on).2 = true ∧ Does l (appT l k ps lo hi old on).1 k ps lo hi old on) ∨ ((appT l k ps lo hi old on).2 = false ∧ Fails l (appT l k ps lo hi old on).1 k ps old on)) := by
  rcases fits_cases (chkM_and hc).2.2.2 with ⟨k1, ho, hr, h1, h8⟩ | ⟨k2, rfl, hone⟩ | ⟨k34, p, rfl, hp⟩ | ⟨k5, p, q, rfl, hp, hq, hne, hpq, h0⟩
  · have e : appT l k ps lo hi old on = appP k old on 0 ps l := if_neg (by omega)
    rw [e]
    refine ⟨tab_app k old on ps 0 l (fun p hp => ⟨List.all_eq_true.1 ho p hp, fun h => by omega⟩) hl, .inl ?_⟩
    have hrise : ∃ e, riseFrom e ps = true := by
      cases ps with
      | nil => exact ⟨0, rfl⟩
      | cons p t =>
        refine ⟨p.1 - 1, ?_⟩
        have h' : riseFrom p.1 t = true := hr
        show (decide (p.1 - 1 < p.1) && riseFrom p.1 t) = true
        rw [h', decide_eq_true (by omega)]
        rfl
    obtain ⟨e', he⟩ := hrise
    obtain ⟨a1, a2⟩ := app_put k old on (by omega) ps e' 0 l he
    refine ⟨a1, fun key => ?_⟩
    have ht : touchesB k ps lo hi key = (getT ps key).isSome := by unfold touchesB; rw [if_neg (by omega)]; exact get_any ps key
    rw [ht, a2 key]
    unfold cellV
    rw [if_neg (by omega : ¬ k = 2), if_neg (by omega : ¬ k = 5), if_neg (by omega : ¬ (k = 3 ∨ k = 4))]
    cases getT ps key <;> cases hasB on key <;> simp
  · subst k2
    have e : appT l 2 [] lo hi old on = (l.filter (fun p => !(inB (lo, hi) p.1 && hasB on p.1)), true) := if_pos rfl
    rw [e]
    refine ⟨tblF_filter _ l (-1) hl, .inl ⟨rfl, fun key => ?_⟩⟩
    have ht : touchesB 2 [] lo hi key = inB (lo, hi) key := by
      unfold touchesB inB
      rw [if_pos rfl, hone, Bool.true_and, Bool.eq_iff_iff, Bool.and_eq_true, decide_eq_true_iff, decide_eq_true_iff, decide_eq_true_iff]
    have hg := getT_filter (fun x => !(inB (lo, hi) x && hasB on x)) l key
    dsimp only at hg ⊢
    rw [hg, ht]
    unfold cellV
    rw [if_pos (rfl : (2 : Int) = 2)]
    cases (inB (lo, hi) key && hasB on key) <;> simp
  · have e : appT l k [p] lo hi old on = appP k old on 0 [p] l := if_neg (by omega)
    have ht : ∀ key, touchesB k [p] lo hi key = (p.1 == key) := fun key => by unfold touchesB; rw [if_neg (by omega)]; simp
    have hcell : ∀ key c, cellV k old [p] key c = (nextV k old 0 p c).map some := fun key c => by
      unfold cellV
      rw [if_neg (by omega : ¬ k = 2), if_neg (by omega : ¬ k = 5), if_pos k34]
      rfl
    refine ⟨by rw [e]; exact tab_app k old on [p] 0 l (fun x hx => by rw [List.mem_singleton.1 hx]; exact ⟨hp, fun h => by omega⟩) hl, ?_⟩
    rw [e]
    unfold appP
    by_cases ho : hasB on p.1 = true
    · rw [if_pos ho]
      cases hn : nextV k old 0 p (getT l p.1) with
      | none => exact .inr ⟨rfl, rfl, k34, p, rfl, ho, by rw [hcell, hn]; rfl⟩
      | some v =>
        refine .inl ⟨rfl, fun key => ?_⟩
        show if _ then _ = some (getT (putT l p.1 v) key) else getT (putT l p.1 v) key = _
        rw [ht key, getT_put]
        by_cases hk : p.1 = key
        · subst hk
          rw [if_pos (by rw [ho]; simp), if_pos rfl, hcell, hn]
          rfl
        · rw [if_neg (by simp [hk]), if_neg (fun e => hk e.symm)]
    · rw [if_neg ho]
      refine .inl ⟨rfl, fun key => ?_⟩
      show if _ then _ = some (getT l key) else getT l key = _
      rw [ht key]
      by_cases hk : p.1 = key
      · subst hk
        rw [if_neg (by simp [ho])]
      · rw [if_neg (by simp [hk])]
  · subst k5
    have e : appT l 5 [p, q] lo hi old on = appP 5 old on 0 [p, q] l := if_neg (by omega)
    have ht : ∀ key, touchesB 5 [p, q] lo hi key = (p.1 == key || q.1 == key) := fun key => by unfold touchesB; rw [if_neg (by omega)]; simp
    have hn0 : ∀ c, nextV 5 old 0 p c = some (max (c.getD 0 - p.2) (-1099511627776)) := fun c => rfl
    have hn1 : ∀ c, nextV 5 old 1 q c = some (min (c.getD 0 + p.2) 1099511627776) := fun c => by rw [hpq]; rfl
    have hn1' : ∀ c, nextV 5 old 1 p c = some (min (c.getD 0 + p.2) 1099511627776) := fun c => rfl
    refine ⟨by rw [e]; exact tab_app 5 old on [p, q] 0 l (fun x hx => by simp at hx; rcases hx with rfl | rfl; exact ⟨hp, fun _ => h0⟩; exact ⟨hq, fun _ => by omega⟩) hl, .inl ?_⟩
    rw [e]
    have hA : ∀ m, getT m q.1 = getT l q.1 → (appP 5 old on 1 [q] m).2 = true ∧ ∀ key, getT (appP 5 old on 1 [q] m).1 key = if key = q.1 ∧ hasB on q.1 = true then some (min ((getT l q.1).getD 0 + p.2) 1099511627776) else getT m key := by
      intro m hm
      unfold appP
      by_cases ho : hasB on q.1 = true
      · rw [if_pos ho, hn1, hm]
        refine ⟨rfl, fun key => ?_⟩
        show getT (putT m q.1 _) key = _
        rw [getT_put]
        by_cases hk : key = q.1
        · rw [if_pos hk, if_pos ⟨hk, ho⟩]
        · rw [if_neg hk, if_neg (fun x => hk x.1)]
      · rw [if_neg ho]
        exact ⟨rfl, fun key => by rw [if_neg (fun x => ho x.2)]; rfl⟩
    have hcell : ∀ key c, cellV 5 old [p, q] key c = some (some (if p.1 = key then max (c.getD 0 - p.2) (-1099511627776) else min (c.getD 0 + p.2) 1099511627776)) := fun key c => by
      unfold cellV
      rw [if_neg (by omega : ¬ (5 : Int) = 2), if_pos (rfl : (5 : Int) = 5)]
      show (nextV 5 old (if p.1 = key then 0 else 1) p c).map some = _
      by_cases hk : p.1 = key
      · rw [if_pos hk, if_pos hk]; rfl
      · rw [if_neg hk, if_neg hk]; rfl
    unfold appP
    by_cases ho : hasB on p.1 = true
    · rw [if_pos ho, hn0]
      obtain ⟨b1, b2⟩ := hA (putT l p.1 (max ((getT l p.1).getD 0 - p.2) (-1099511627776))) (by rw [getT_put, if_neg (fun x => hne x.symm)])
      refine ⟨b1, fun key => ?_⟩
      show if _ then _ = some (getT (appP 5 old on 1 [q] _).1 key) else getT (appP 5 old on 1 [q] _).1 key = _
      rw [b2 key, getT_put, ht key, hcell]
      by_cases hk : p.1 = key
      · subst hk
        rw [if_pos (by rw [ho]; simp), if_pos rfl, if_neg (fun x => hne x.1), if_pos rfl]
      · rw [if_neg hk]
        by_cases hk2 : q.1 = key
        · subst hk2
          cases hoq : hasB on q.1
          · rw [if_neg (by simp), if_neg (by simp), if_neg (fun x => hne x.symm)]
          · rw [if_pos (by simp), if_pos ⟨rfl, rfl⟩]
        · rw [if_neg (by simp [hk, hk2]), if_neg (fun x => hk2 x.1.symm), if_neg (fun x => hk x.symm)]
    · rw [if_neg ho]
      obtain ⟨b1, b2⟩ := hA l rfl
      refine ⟨b1, fun key => ?_⟩
      show if _ then _ = some (getT (appP 5 old on 1 [q] _).1 key) else getT (appP 5 old on 1 [q] _).1 key = _
      rw [b2 key, ht key, hcell]
      by_cases hk : p.1 = key
      · subst hk
        rw [if_neg (by simp [ho]), if_neg (fun x => hne x.1)]
      · rw [if_neg hk]
        by_cases hk2 : q.1 = key
        · subst hk2
          cases hoq : hasB on q.1
          · rw [if_neg (by simp), if_neg (by simp)]
          · rw [if_pos (by simp), if_pos ⟨rfl, rfl⟩]
        · rw [if_neg (by simp [hk, hk2]), if_neg (fun x => hk2 x.1.symm)]
end Go.Proofs.Ytihpojllalnmcaa


/-
  CONTRACTS of table.Check; of the search: place, value; Get.
-/
namespace Go.Proofs.Ytihpojllalnmcaa
open Go.RowKit Go.Shelf

theorem drop_more {l : List Sp} {k : Nat} (h : k < l.length) : l.drop k = l.getD k (0, 0) :: l.drop (k + 1) := by
  rw [List.drop_eq_getElem_cons h]; simp [List.getD, List.getElem?_eq_getElem h]

set_option maxRecDepth 100000 in
set_option maxHeartbeats 1000000 in
theorem tcheck_any (a : Option Addr) (n c : Nat) (l : List Sp) (w : World) (h : Arg w a n c l) :
    Calls Try.prog 78 #[.slice a n c] w (Gives w (.bool (tblB l))) := by
  obtain ⟨hn, hz, _, _, hp⟩ := h
  have hnz : (n : Int) ≤ 9223372036854775807 := by omega
  obtain ⟨r, hr⟩ : ∃ r, tblB l = r := ⟨_, rfl⟩
  rw [hr]
  have H0 := Lib.hid (show tblF (-1) (l.drop 0) = r from hr)
  clear hr
  replace hn := Lib.hid hn
  replace hp := Lib.hid hp
  go_enter Try.func78, Try.ntmps78
  go_wp2_with fail
  go_loopw [3, 5, 8] (fun en _ i wr => ∃ (k : Nat) (z : Int), i = .int .i64 (k : Int) ∧ en = .int .i64 z ∧ k ≤ n ∧ Hid (tblF z (l.drop k) = r) ∧ Below w.heap.size w wr)
    (fun _ _ i _ => n - (intOf i).toNat)
  case atStart => exact ⟨0, -1, rfl, rfl, by omega, H0, Below.refl _ _⟩
  case round =>
    obtain ⟨k, z, rfl, rfl, hk, HC, hbl⟩ := hrel
    by_cases hlt : k < n
    · have hkl : k < l.length := by rw [← hn.out]; exact hlt
      have hkz : (k : Int) < (n : Int) := by omega
      obtain ⟨b, off, e, hb, c0, c1⟩ := (hp.out.below hbl) k hkl
      subst e
      obtain ⟨s, hs⟩ : ∃ s, l.getD k (0, 0) = s := ⟨_, rfl⟩
      rw [hs] at c0 c1
      have hnext := HC.out
      rw [drop_more hkl, hs] at hnext
      obtain ⟨x, y⟩ := s
      dsimp only at c0 c1
      replace hs := Lib.hid hs
      have hd : tblF z ((x, y) :: l.drop (k + 1)) = (decide (z < x ∧ x < 4096) && decide (-1099511627776 ≤ y ∧ y ≤ 1099511627776) && tblF x (l.drop (k + 1))) := rfl
      rw [hd] at hnext
      clear hd
      by_cases h1 : x ≤ z
      · have hr := Lib.hid (show r = false by rw [← hnext, decide_eq_false (by omega)]; rfl)
        have d1 : decide (x ≤ z) = true := decide_eq_true h1
        clear hnext h1
        go_wp2_with fail
        go_ret
        exact ⟨ret_bool hr.out.symm, below_alloc hbl _⟩
      · have d1 : decide (x ≤ z) = false := decide_eq_false h1
        by_cases h2 : 4096 ≤ x
        · have hr := Lib.hid (show r = false by rw [← hnext, decide_eq_false (by omega)]; rfl)
          have d2 : decide (4096 ≤ x) = true := decide_eq_true h2
          clear hnext h1 h2
          go_wp2_with fail
          go_ret
          exact ⟨ret_bool hr.out.symm, below_alloc hbl _⟩
        · have d2 : decide (4096 ≤ x) = false := decide_eq_false h2
          by_cases h3 : y < -1099511627776
          · have hr := Lib.hid (show r = false by rw [← hnext, decide_eq_true (show z < x ∧ x < 4096 by omega), decide_eq_false (by omega)]; rfl)
            have d3 : decide (y < -1099511627776) = true := decide_eq_true h3
            clear hnext h1 h2 h3
            go_wp2_with fail
            go_ret
            exact ⟨ret_bool hr.out.symm, below_alloc hbl _⟩
          · have d3 : decide (y < -1099511627776) = false := decide_eq_false h3
            by_cases h4 : 1099511627776 < y
            · have hr := Lib.hid (show r = false by rw [← hnext, decide_eq_true (show z < x ∧ x < 4096 by omega), decide_eq_false (by omega)]; rfl)
              have d4 : decide (1099511627776 < y) = true := decide_eq_true h4
              clear hnext h1 h2 h3 h4
              go_wp2_with fail
              go_ret
              exact ⟨ret_bool hr.out.symm, below_alloc hbl _⟩
            · have d4 : decide (1099511627776 < y) = false := decide_eq_false h4
              have hN := Lib.hid (show tblF x (l.drop (k + 1)) = r by rw [← hnext, decide_eq_true (show z < x ∧ x < 4096 by omega), decide_eq_true (show -1099511627776 ≤ y ∧ y ≤ 1099511627776 by omega)]; rfl)
              clear hnext h1 h2 h3 h4
              go_wp2_with fail
              go_roundw
              case rel => exact ⟨k + 1, x, by go_num, rfl, by omega, hN, below_alloc hbl _⟩
              case measure => simp [intOf]; omega
    · have hkl : l.drop k = [] := List.drop_eq_nil_of_le (by rw [← hn.out]; omega)
      have hkz : ¬ (k : Int) < (n : Int) := by omega
      have hfin := HC.out
      rw [hkl] at hfin
      have hr := Lib.hid (show r = true from hfin.symm)
      replace hkl := Lib.hid hkl
      clear hfin
      go_wp2
      go_ret
      exact ⟨ret_bool hr.out.symm, hbl⟩

theorem cmpI_any (x y : Int) (w : World) : Calls Try.prog 90 #[.int .i64 x, .int .i64 y] w fun e w' => e = .returned (.int .i64 (Lib.compareInt x y)) ∧ w' = w := AnyG.cmp_Compare_int Try.lCmpInt x y w

/-- How a pair stands to a key. -/
theorem place1 (x : Sp) (key : Int) (W : World) : Calls Try.prog 89 #[.agg #[.int .i64 x.1, .int .i64 x.2], .int .i64 key] W (Gives W (.int .i64 (Lib.compareInt x.1 key))) := by
  have hcon := fun W' => cmpI_any x.1 key W'
  generalize Lib.compareInt x.1 key = r at hcon ⊢
  go_enter Try.func89, Try.ntmps89
  go_wp2_with (go_at_call 90; refine (hcon _).mono ?_; rintro e w' ⟨rfl, rfl⟩)
  go_ret
  exact ⟨rfl, (Below.refl _ _).alloc (Nat.le_refl _) _⟩
theorem cmp_neg1 {x y : Int} (h : x < y) : Lib.compareInt x y = -1 := by unfold Lib.compareInt; rw [if_pos h]
theorem cmp_zero {x y : Int} (h : x = y) : Lib.compareInt x y = 0 := by unfold Lib.compareInt; rw [if_neg (by omega), if_neg (by omega)]
theorem cmp_pos1 {x y : Int} (h : y < x) : Lib.compareInt x y = 1 := by unfold Lib.compareInt; rw [if_neg (by omega), if_pos h]

/-- Is there a pair of a key? -/
def isT (l : List Sp) (key : Int) : Bool := decide (plc l key < l.length ∧ (l.getD (plc l key) (0, 0)).1 = key)
def PlacePost (l : List Sp) (key : Int) (w : World) (e : Ending) (w' : World) : Prop := e = .returned (.tuple #[.int .i64 (plc l key : Nat), .bool (isT l key)]) ∧ Below w.heap.size w w'

set_option maxRecDepth 100000 in
set_option maxHeartbeats 2000000 in
theorem bsearch_any (a : Option Addr) (n c : Nat) (l : List Sp) (key : Int) (w : World) (h : Arg w a n c l) (ht : tblB l = true) :
    Calls Try.prog 88 #[.slice a n c, .int .i64 key, .func (.func 89) #[] #[]] w (PlacePost l key w) := by
  obtain ⟨hn, hz, _, _, hp⟩ := h
  have hle := tbl_le ht
  have hn1 : n ≤ 4096 := by omega
  obtain ⟨P, hP⟩ : ∃ P, plc l key = P := ⟨_, rfl⟩
  obtain ⟨r, hr⟩ : ∃ r, isT l key = r := ⟨_, rfl⟩
  have HI : ∀ i, i < n → ((l.getD i (0, 0)).1 < key ↔ i < P) := fun i hi => by rw [← hP]; exact plc_iff ht (by omega)
  have hPn : P ≤ n := by rw [← hP, hn]; exact plc_le l key
  have HR := Lib.hid (show r = decide (P < n ∧ (l.getD P (0, 0)).1 = key) by rw [← hr, ← hP, hn]; rfl)
  unfold PlacePost
  rw [hP, hr]
  replace HI := Lib.hid HI
  replace hP := Lib.hid hP
  replace hr := Lib.hid hr
  replace hn := Lib.hid hn
  replace hp := Lib.hid hp
  clear ht hle hz
  go_enter Try.func88, Try.ntmps88
  go_wp2_with fail
  go_loopw [9, 10] (fun i j wr => ∃ lo hi : Nat, i = .int .i64 (lo : Int) ∧ j = .int .i64 (hi : Int) ∧ lo ≤ P ∧ P ≤ hi ∧ hi ≤ n ∧ Below w.heap.size w wr)
    (fun i j _ => (intOf j).toNat - (intOf i).toNat)
  case atStart => exact ⟨0, n, rfl, rfl, Nat.zero_le _, hPn, Nat.le_refl _, Below.refl _ _⟩
  case round =>
    obtain ⟨lo, hi, rfl, rfl, h1, h2, h3, hbl⟩ := hrel
    by_cases hlt : lo < hi
    · have hmid : (lo + hi) / 2 < n := by omega
      obtain ⟨b, off, e, hb, c0, c1⟩ := (hp.out.below hbl) ((lo + hi) / 2) (by rw [← hn.out]; exact hmid)
      subst e
      have hio := HI.out ((lo + hi) / 2) hmid
      obtain ⟨s, hs⟩ : ∃ s, l.getD ((lo + hi) / 2) (0, 0) = s := ⟨_, rfl⟩
      rw [hs] at c0 c1 hio
      replace hs := Lib.hid hs
      obtain ⟨x, y⟩ := s
      dsimp only at c0 c1 hio
      have C := fun W => place1 (x, y) key W
      dsimp only at C
      by_cases hx : x < key
      · rw [cmp_neg1 hx] at C
        have hlp := hio.1 hx
        clear hio hx
        replace C := Lib.hid C
        go_wp2_with (go_at_call 89; (with_reducible refine (C.out _).mono ?_); rintro e w2 ⟨rfl, b2⟩)
        go_roundw
        case rel => exact ⟨(lo + hi) / 2 + 1, hi, by first | (congr 1; done) | (congr 1; omega), rfl, by omega, h2, h3, below_next hbl b2⟩
        case measure => simp [intOf]; omega
      · have hlp : ¬ (lo + hi) / 2 < P := fun q => hx (hio.2 q)
        have C' : ∃ z, 0 ≤ z ∧ z ≤ 1 ∧ ∀ W, Calls Try.prog 89 #[.agg #[.int .i64 x, .int .i64 y], .int .i64 key] W (Gives W (.int .i64 z)) := by
          by_cases he : x = key
          · exact ⟨0, by omega, by omega, fun W => by have := C W; rwa [cmp_zero he] at this⟩
          · exact ⟨1, by omega, by omega, fun W => by have := C W; rwa [cmp_pos1 (by omega)] at this⟩
        clear C hio hx
        obtain ⟨z, z0, z1, C⟩ := C'
        replace C := Lib.hid C
        go_wp2_with (go_at_call 89; (with_reducible refine (C.out _).mono ?_); rintro e w2 ⟨rfl, b2⟩)
        go_roundw
        case rel => exact ⟨lo, (lo + hi) / 2, rfl, by first | (congr 1; done) | (congr 1; omega), h1, by omega, by omega, below_next hbl b2⟩
        case measure => simp [intOf]; omega
    · have e1 : lo = P := by omega
      have e2 : hi = P := by omega
      subst e1
      by_cases hPl : lo < n
      · obtain ⟨b, off, e, hb, c0, c1⟩ := (hp.out.below hbl) lo (by rw [← hn.out]; exact hPl)
        subst e
        have hrr := HR.out
        obtain ⟨s, hs⟩ : ∃ s, l.getD lo (0, 0) = s := ⟨_, rfl⟩
        rw [hs] at c0 c1 hrr
        replace hs := Lib.hid hs
        obtain ⟨x, y⟩ := s
        dsimp only at c0 c1 hrr
        have C := fun W => place1 (x, y) key W
        dsimp only at C
        by_cases he : x = key
        · rw [cmp_zero he] at C
          rw [decide_eq_true ⟨hPl, he⟩] at hrr
          replace hrr := Lib.hid hrr
          replace C := Lib.hid C
          clear he
          go_wp2_with (go_at_call 89; (with_reducible refine (C.out _).mono ?_); rintro e w2 ⟨rfl, b2⟩)
          go_ret2
          exact ⟨by rw [hrr.out]; rfl, below_next hbl b2⟩
        · have C' : ∃ z : Int, z ≠ 0 ∧ ∀ W, Calls Try.prog 89 #[.agg #[.int .i64 x, .int .i64 y], .int .i64 key] W (Gives W (.int .i64 z)) := by
            by_cases h4 : x < key
            · exact ⟨-1, by omega, fun W => by have := C W; rwa [cmp_neg1 h4] at this⟩
            · exact ⟨1, by omega, fun W => by have := C W; rwa [cmp_pos1 (by omega)] at this⟩
          clear C
          obtain ⟨z, z0, C⟩ := C'
          have z0' : (z == 0) = false := by simpa using z0
          rw [decide_eq_false (fun q => he q.2)] at hrr
          replace hrr := Lib.hid hrr
          replace C := Lib.hid C
          clear he
          go_wp2_with (go_at_call 89; (with_reducible refine (C.out _).mono ?_); rintro e w2 ⟨rfl, b2⟩)
          go_ret2
          exact ⟨by rw [hrr.out]; rfl, below_next hbl b2⟩
      · have hrr := Lib.hid (show r = false by rw [HR.out]; exact decide_eq_false fun q => hPl q.1)
        go_wp2
        go_ret2
        exact ⟨by rw [hrr.out]; rfl, hbl⟩

theorem place_any (a : Option Addr) (n c : Nat) (l : List Sp) (key : Int) (w : World) (h : Arg w a n c l) (ht : tblB l = true) :
    Calls Try.prog 80 #[.slice a n c, .int .i64 key] w (PlacePost l key w) := by
  have C := Lib.hid (bsearch_any a n c l key w h ht)
  unfold PlacePost at C ⊢
  generalize (plc l key : Nat) = P at *
  generalize isT l key = r at *
  clear h ht
  go_enter Try.func80, Try.ntmps80
  go_wp2_with (go_at_call 88; (with_reducible refine C.out.mono ?_); rintro e w2 ⟨rfl, b2⟩)
  go_ret2
  exact ⟨rfl, b2⟩
theorem isT_get {l : List Sp} {key : Int} (ht : tblB l = true) : getT l key = if isT l key = true then some (l.getD (plc l key) (0, 0)).2 else none := by
  rw [getT_plc l (-1) key ht]
  unfold isT
  simp only [decide_eq_true_iff]
def cellOut (c : Option Int) : Value := .tuple #[.int .i64 (c.getD 0), .bool c.isSome]
def getC (l : List Sp) (key : Int) : Option Int := if tblB l = true then getT l key else none
end Go.Proofs.Ytihpojllalnmcaa


/-
  CONTRACT of next: what a mutation's i-th pair makes of its key's value.
-/
namespace Go.Proofs.Ytihpojllalnmcaa
open Go.RowKit Go.Shelf

def NextPost (r : Option Int) (w : World) (e : Ending) (w' : World) : Prop := ∃ (v : Int) (b : Bool), e = .returned (.tuple #[.int .i64 v, .bool b]) ∧ (if b = true then some v else none) = r ∧ Below w.heap.size w w'

end Go.Proofs.Ytihpojllalnmcaa
