/-
  TABLES, plain: which pairs are one, a key's value, a pair put in, what a mutation's pairs make of a table.
-/
import Derived.Test.YtfnjadiibiedgaaMutD
namespace Go.Proofs.Ytfnjadiibiedgaa
open Go.RowKit Go.Shelf

def tblF (e : Int) : List Sp → Bool
  | [] => true
  | p :: t => (decide (e < p.1 ∧ p.1 < 4096) && isVal p.2) && tblF p.1 t
def tblB (l : List Sp) : Bool := tblF (-1) l
def getT : List Sp → Int → Option Int
  | [], _ => none
  | p :: t, k => if p.1 = k then some p.2 else getT t k
def putT : List Sp → Int → Int → List Sp
  | [], k, v => [(k, v)]
  | p :: t, k, v => if k < p.1 then (k, v) :: p :: t else if p.1 = k then (k, v) :: t else p :: putT t k v
def plc : List Sp → Int → Nat
  | [], _ => 0
  | p :: t, k => if p.1 < k then plc t k + 1 else 0

theorem isVal_iff (n : Int) : isVal n = true ↔ -1099511627776 ≤ n ∧ n ≤ 1099511627776 := by unfold isVal btw; exact decide_eq_true_iff
theorem tblF_cons (e : Int) (p : Sp) (t : List Sp) : tblF e (p :: t) = true ↔ (e < p.1 ∧ p.1 < 4096) ∧ (-1099511627776 ≤ p.2 ∧ p.2 ≤ 1099511627776) ∧ tblF p.1 t = true := by
  show ((decide (e < p.1 ∧ p.1 < 4096) && isVal p.2) && tblF p.1 t) = true ↔ _
  rw [Bool.and_eq_true, Bool.and_eq_true, decide_eq_true_iff, isVal_iff]
  exact ⟨fun h => ⟨h.1.1, h.1.2, h.2⟩, fun h => ⟨⟨h.1, h.2.1⟩, h.2.2⟩⟩
theorem tblF_weak {e e' : Int} (he : e' ≤ e) {l : List Sp} (h : tblF e l = true) : tblF e' l = true := by
  cases l with
  | nil => rfl
  | cons p t => rw [tblF_cons] at h ⊢; exact ⟨by omega, h.2⟩
theorem getT_low : ∀ (l : List Sp) (e k : Int), tblF e l = true → k ≤ e → getT l k = none
  | [], _, _, _, _ => rfl
  | p :: t, e, k, h, hk => by
    rw [tblF_cons] at h
    unfold getT
    rw [if_neg (by omega), getT_low t p.1 k h.2.2 (by omega)]
theorem getT_range : ∀ (l : List Sp) (e k : Int) (v : Int), tblF e l = true → getT l k = some v → e < k ∧ k < 4096 ∧ (-1099511627776 ≤ v ∧ v ≤ 1099511627776)
  | [], _, _, _, _, h => by cases h
  | p :: t, e, k, v, h, hg => by
    rw [tblF_cons] at h
    unfold getT at hg
    by_cases hp : p.1 = k
    · rw [if_pos hp] at hg
      cases hg
      omega
    · rw [if_neg hp] at hg
      have := getT_range t p.1 k v h.2.2 hg
      omega
theorem getT_neg {l : List Sp} {k : Int} (h : tblB l = true) (hk : k < 0 ∨ 4096 ≤ k) : getT l k = none := by
  cases hg : getT l k with
  | none => rfl
  | some v => have := getT_range l (-1) k v h hg; omega
theorem getT_val {l : List Sp} {k : Int} (h : tblB l = true) : -1099511627776 ≤ (getT l k).getD 0 ∧ (getT l k).getD 0 ≤ 1099511627776 := by
  cases hg : getT l k with
  | none => simp
  | some v => have := getT_range l (-1) k v h hg; simp; omega
theorem tab_ext : ∀ (l m : List Sp) (e e' : Int), tblF e l = true → tblF e' m = true → (∀ k, getT l k = getT m k) → l = m
  | [], [], _, _, _, _, _ => rfl
  | [], q :: u, _, _, _, _, h => by have := h q.1; unfold getT at this; rw [if_pos rfl] at this; cases this
  | p :: t, [], _, _, _, _, h => by have := h p.1; unfold getT at this; rw [if_pos rfl] at this; cases this
  | p :: t, q :: u, e, e', hl, hm, h => by
    rw [tblF_cons] at hl hm
    have h1 := h p.1
    have h2 := h q.1
    unfold getT at h1 h2
    rw [if_pos rfl] at h1
    rw [if_pos (rfl : q.1 = q.1)] at h2
    have hpq : p.1 = q.1 := by
      by_cases hlt : q.1 = p.1
      · exact hlt.symm
      · rw [if_neg hlt] at h1
        rw [if_neg (fun e => hlt e.symm)] at h2
        have a := getT_range u q.1 p.1 p.2 hm.2.2 h1.symm
        have b := getT_range t p.1 q.1 q.2 hl.2.2 h2
        omega
    rw [if_pos hpq.symm] at h1
    have hv : p.2 = q.2 := by simpa using h1
    have hp : p = q := Prod.ext hpq hv
    subst hp
    rw [tab_ext t u p.1 p.1 hl.2.2 hm.2.2 fun k => ?_]
    have := h k
    unfold getT at this
    by_cases hk : p.1 = k
    · rw [getT_low t p.1 k hl.2.2 (by omega), getT_low u p.1 k hm.2.2 (by omega)]
    · rw [if_neg hk, if_neg hk] at this
      exact this
theorem tab_same {l m : List Sp} (hl : tblB l = true) (hm : tblB m = true) (h : ∀ k, getT l k = getT m k) : l = m := tab_ext l m (-1) (-1) hl hm h

theorem getT_put : ∀ (l : List Sp) (k v j : Int), getT (putT l k v) j = if j = k then some v else getT l j
  | [], k, v, j => by
    unfold putT getT getT
    by_cases h : j = k
    · rw [if_pos h, if_pos h.symm]
    · rw [if_neg h, if_neg (fun e => h e.symm)]
  | p :: t, k, v, j => by
    unfold putT
    by_cases h1 : k < p.1
    · rw [if_pos h1]
      show (if k = j then some v else getT (p :: t) j) = _
      by_cases h : j = k
      · rw [if_pos h, if_pos h.symm]
      · rw [if_neg h, if_neg (fun e => h e.symm)]
    · rw [if_neg h1]
      by_cases h2 : p.1 = k
      · rw [if_pos h2]
        show (if k = j then some v else getT t j) = if j = k then some v else if p.1 = j then some p.2 else getT t j
        by_cases h : j = k
        · rw [if_pos h, if_pos h.symm]
        · rw [if_neg h, if_neg (fun e => h e.symm), if_neg (by omega)]
      · rw [if_neg h2]
        show (if p.1 = j then some p.2 else getT (putT t k v) j) = if j = k then some v else if p.1 = j then some p.2 else getT t j
        rw [getT_put t k v j]
        by_cases h : j = k
        · rw [if_pos h, if_pos h, if_neg (show ¬ p.1 = j by omega)]
        · rw [if_neg h, if_neg h]
theorem tblF_put : ∀ (l : List Sp) (e k v : Int), tblF e l = true → e < k → k < 4096 → isVal v = true → tblF e (putT l k v) = true
  | [], e, k, v, _, h1, h2, h3 => by unfold putT; rw [tblF_cons]; exact ⟨⟨h1, h2⟩, (isVal_iff v).1 h3, rfl⟩
  | p :: t, e, k, v, h, h1, h2, h3 => by
    rw [tblF_cons] at h
    unfold putT
    by_cases hk : k < p.1
    · rw [if_pos hk, tblF_cons]
      exact ⟨⟨h1, h2⟩, (isVal_iff v).1 h3, by rw [tblF_cons]; exact ⟨⟨hk, h.1.2⟩, h.2⟩⟩
    · rw [if_neg hk]
      by_cases hp : p.1 = k
      · rw [if_pos hp, tblF_cons]
        exact ⟨⟨h1, h2⟩, (isVal_iff v).1 h3, by rw [← hp]; exact h.2.2⟩
      · rw [if_neg hp, tblF_cons]
        exact ⟨h.1, h.2.1, tblF_put t p.1 k v h.2.2 (by omega) h2 h3⟩
theorem putT_len : ∀ (l : List Sp) (k v : Int), (putT l k v).length ≤ l.length + 1
  | [], k, v => Nat.le_refl _
  | p :: t, k, v => by
    unfold putT
    have := putT_len t k v
    split
    · simp
    · split <;> simp
      omega

theorem plc_le : ∀ (l : List Sp) (k : Int), plc l k ≤ l.length
  | [], _ => Nat.le_refl _
  | p :: t, k => by unfold plc; have := plc_le t k; split <;> simp; omega
theorem plc_lt : ∀ (l : List Sp) (k : Int) (i : Nat), i < plc l k → (l.getD i (0, 0)).1 < k
  | [], _, _, h => absurd h (Nat.not_lt_zero _)
  | p :: t, k, i, h => by
    unfold plc at h
    by_cases hp : p.1 < k
    · rw [if_pos hp] at h
      cases i with
      | zero => exact hp
      | succ i => exact plc_lt t k i (by omega)
    · rw [if_neg hp] at h
      omega
theorem plc_of : ∀ (l : List Sp) (k : Int) (n : Nat), n ≤ l.length → (∀ i, i < n → (l.getD i (0, 0)).1 < k) → (n < l.length → k ≤ (l.getD n (0, 0)).1) → plc l k = n
  | [], _, n, h, _, _ => by unfold plc; simp at h; omega
  | p :: t, k, 0, _, _, h => by
    have := h (by simp)
    simp at this
    unfold plc
    rw [if_neg (by omega)]
  | p :: t, k, n + 1, h, h1, h2 => by
    have hp := h1 0 (by omega)
    simp at hp
    unfold plc
    rw [if_pos hp, plc_of t k n (by simpa using h) (fun i hi => by simpa using h1 (i + 1) (by omega)) (fun hn => by simpa using h2 (by simpa using hn))]
theorem tbl_len : ∀ (l : List Sp) (e : Int), tblF e l = true → e ≤ 4095 → (l.length : Int) ≤ 4095 - e
  | [], _, _, h => by simp; omega
  | p :: t, e, h, he => by
    rw [tblF_cons] at h
    have := tbl_len t p.1 h.2.2 (by omega)
    simp only [List.length_cons]
    omega
theorem tbl_le {l : List Sp} (h : tblB l = true) : l.length ≤ 4096 := by have := tbl_len l (-1) h (by omega); omega
theorem tblF_get : ∀ (l : List Sp) (e : Int) (i : Nat), tblF e l = true → i < l.length → e < (l.getD i (0, 0)).1 ∧ (l.getD i (0, 0)).1 < 4096 ∧ -1099511627776 ≤ (l.getD i (0, 0)).2 ∧ (l.getD i (0, 0)).2 ≤ 1099511627776
  | [], _, _, _, h => absurd h (Nat.not_lt_zero _)
  | p :: t, e, 0, h, _ => by rw [tblF_cons] at h; simp; omega
  | p :: t, e, i + 1, h, hi => by
    rw [tblF_cons] at h
    have := tblF_get t p.1 i h.2.2 (by simpa using hi)
    simp only [List.getD_cons_succ]
    omega
theorem tab_mono : ∀ (l : List Sp) (e : Int) (i j : Nat), tblF e l = true → i < j → j < l.length → (l.getD i (0, 0)).1 < (l.getD j (0, 0)).1
  | [], _, _, _, _, _, h => absurd h (Nat.not_lt_zero _)
  | p :: t, e, 0, j + 1, h, _, hj => by
    rw [tblF_cons] at h
    have := tblF_get t p.1 j h.2.2 (by simpa using hj)
    simp only [List.getD_cons_succ, List.getD_cons_zero]
    omega
  | p :: t, e, i + 1, j + 1, h, hi, hj => by
    rw [tblF_cons] at h
    simp only [List.getD_cons_succ]
    exact tab_mono t p.1 i j h.2.2 (by omega) (by simpa using hj)
  | p :: t, e, _, 0, _, hi, _ => absurd hi (Nat.not_lt_zero _)
theorem plc_ge : ∀ (l : List Sp) (e k : Int) (i : Nat), tblF e l = true → plc l k ≤ i → i < l.length → k ≤ (l.getD i (0, 0)).1
  | [], _, _, _, _, _, h => absurd h (Nat.not_lt_zero _)
  | p :: t, e, k, i, h, hi, hl => by
    rw [tblF_cons] at h
    unfold plc at hi
    by_cases hp : p.1 < k
    · rw [if_pos hp] at hi
      cases i with
      | zero => omega
      | succ i => exact plc_ge t p.1 k i h.2.2 (by omega) (by simpa using hl)
    · cases i with
      | zero => simp; omega
      | succ i =>
        have := tblF_get t p.1 i h.2.2 (by simpa using hl)
        simp only [List.getD_cons_succ]
        omega
theorem plc_iff {l : List Sp} {e k : Int} {i : Nat} (h : tblF e l = true) (hi : i < l.length) : (l.getD i (0, 0)).1 < k ↔ i < plc l k := by
  constructor
  · intro hk
    by_cases hp : i < plc l k
    · exact hp
    · have := plc_ge l e k i h (by omega) hi
      omega
  · exact plc_lt l k i
theorem getT_plc : ∀ (l : List Sp) (e k : Int), tblF e l = true → getT l k = if plc l k < l.length ∧ (l.getD (plc l k) (0, 0)).1 = k then some (l.getD (plc l k) (0, 0)).2 else none
  | [], _, _, _ => rfl
  | p :: t, e, k, h => by
    rw [tblF_cons] at h
    unfold getT plc
    by_cases hp : p.1 < k
    · rw [if_pos hp, if_neg (by omega), getT_plc t p.1 k h.2.2]
      simp only [List.getD_cons_succ, List.length_cons, Nat.add_lt_add_iff_right]
    · rw [if_neg hp]
      by_cases he : p.1 = k
      · rw [if_pos he, if_pos (by simp [he])]
        simp
      · rw [if_neg he, if_neg (by simp [he]), getT_low t p.1 k h.2.2 (by omega)]
theorem put_there : ∀ (l : List Sp) (e k v : Int), tblF e l = true → plc l k < l.length → (l.getD (plc l k) (0, 0)).1 = k → putT l k v = l.set (plc l k) (k, v)
  | [], _, _, _, _, h, _ => absurd h (Nat.not_lt_zero _)
  | p :: t, e, k, v, h, hl, hk => by
    rw [tblF_cons] at h
    unfold plc at hl hk ⊢
    unfold putT
    by_cases hp : p.1 < k
    · rw [if_pos hp] at hl hk ⊢
      rw [if_neg (by omega), if_neg (by omega), put_there t p.1 k v h.2.2 (by simpa using hl) (by simpa using hk), List.set_cons_succ]
    · rw [if_neg hp] at hl hk ⊢
      simp at hk
      rw [if_neg (by omega), if_pos hk]
      simp
theorem put_new : ∀ (l : List Sp) (e k v : Int), tblF e l = true → ¬ (plc l k < l.length ∧ (l.getD (plc l k) (0, 0)).1 = k) → putT l k v = l.take (plc l k) ++ (k, v) :: l.drop (plc l k)
  | [], _, _, _, _, _ => rfl
  | p :: t, e, k, v, h, hn => by
    rw [tblF_cons] at h
    unfold plc at hn ⊢
    unfold putT
    by_cases hp : p.1 < k
    · rw [if_pos hp] at hn ⊢
      rw [if_neg (by omega), if_neg (by omega), put_new t p.1 k v h.2.2 (fun q => hn ⟨by simpa using q.1, by simpa using q.2⟩)]
      rfl
    · rw [if_neg hp] at hn ⊢
      have : p.1 ≠ k := fun e => hn ⟨by simp, by simpa using e⟩
      rw [if_pos (by omega)]
      rfl

theorem tblF_filter (q : Sp → Bool) : ∀ (l : List Sp) (e : Int), tblF e l = true → tblF e (l.filter q) = true
  | [], _, _ => rfl
  | p :: t, e, h => by
    rw [tblF_cons] at h
    by_cases hq : q p = true
    · rw [List.filter_cons_of_pos hq, tblF_cons]
      exact ⟨h.1, h.2.1, tblF_filter q t p.1 h.2.2⟩
    · rw [List.filter_cons_of_neg hq]
      exact tblF_weak (by omega) (tblF_filter q t p.1 h.2.2)
theorem getT_filter (q : Int → Bool) : ∀ (l : List Sp) (k : Int), getT (l.filter fun p => q p.1) k = if q k = true then getT l k else none
  | [], k => by simp [getT]
  | p :: t, k => by
    by_cases hq : q p.1 = true
    · rw [List.filter_cons_of_pos (by exact hq)]
      unfold getT
      rw [getT_filter q t k]
      by_cases hk : p.1 = k
      · rw [if_pos hk, if_pos hk, if_pos (by rw [← hk]; exact hq)]
      · rw [if_neg hk, if_neg hk]
    · rw [List.filter_cons_of_neg (by exact hq), getT_filter q t k]
      by_cases hk : p.1 = k
      · rw [if_neg (by rw [← hk]; exact hq), if_neg (by rw [← hk]; exact hq)]
      · conv => rhs; unfold getT
        rw [if_neg hk]

def nextV (k old : Int) (i : Nat) (p : Sp) (c : Option Int) : Option Int :=
  if k = 3 then (if 0 ≤ c.getD 0 + p.2 ∧ c.getD 0 + p.2 ≤ 1099511627776 then some (c.getD 0 + p.2) else none)
  else if k = 4 then (if c = some old ∨ (c = none ∧ old = 1099511627777) then some p.2 else none)
  else if k = 5 then some (if i = 0 then max (c.getD 0 - p.2) (-1099511627776) else min (c.getD 0 + p.2) 1099511627776)
  else some p.2
def appP (k old : Int) (on : List Sp) : Nat → List Sp → List Sp → List Sp × Bool
  | _, [], l => (l, true)
  | i, p :: t, l => if hasB on p.1 = true then (match nextV k old i p (getT l p.1) with | none => (l, false) | some v => appP k old on (i + 1) t (putT l p.1 v)) else appP k old on (i + 1) t l
def appT (l : List Sp) (k : Int) (ps : List Sp) (lo hi old : Int) (on : List Sp) : List Sp × Bool :=
  if k = 2 then (l.filter (fun p => !(inB (lo, hi) p.1 && hasB on p.1)), true) else appP k old on 0 ps l
def applyP (l : List Sp) (c s k : Int) (ps : List Sp) (lo hi old : Int) (on : List Sp) : List Sp × Bool :=
  if tblB l = true ∧ chkM c s k ps lo hi old = true ∧ chkB on = true then appT l k ps lo hi old on else ([], false)
/-- What a mutation makes of the cell of a key that it touches; none: it fails. -/
def cellV (k old : Int) (ps : List Sp) (key : Int) (c : Option Int) : Option (Option Int) :=
  if k = 2 then some none
  else if k = 5 then (nextV 5 old (if (ps.getD 0 (0, 0)).1 = key then 0 else 1) (ps.getD 0 (0, 0)) c).map some
  else if k = 3 ∨ k = 4 then (nextV k old 0 (ps.getD 0 (0, 0)) c).map some
  else match getT ps key with | some v => some (some v) | none => some c

theorem nextV_val {k old : Int} {i : Nat} {p : Sp} {c : Option Int} {v : Int} (hp : isVal p.2 = true) (h5 : k = 5 → 0 ≤ p.2) (hc : -1099511627776 ≤ c.getD 0 ∧ c.getD 0 ≤ 1099511627776) (h : nextV k old i p c = some v) : isVal v = true := by
  rw [isVal_iff] at hp ⊢
  unfold nextV at h
  by_cases k3 : k = 3
  · rw [if_pos k3] at h
    split at h
    · cases h; omega
    · cases h
  · rw [if_neg k3] at h
    by_cases k4 : k = 4
    · rw [if_pos k4] at h
      split at h
      · cases h; exact hp
      · cases h
    · rw [if_neg k4] at h
      by_cases k5 : k = 5
      · rw [if_pos k5] at h
        have := h5 k5
        cases h
        split <;> omega
      · rw [if_neg k5] at h
        cases h
        exact hp
theorem tab_app (k old : Int) (on : List Sp) : ∀ (ps : List Sp) (i : Nat) (l : List Sp), (∀ p ∈ ps, okP p = true ∧ (k = 5 → 0 ≤ p.2)) → tblB l = true → tblB (appP k old on i ps l).1 = true
  | [], _, _, _, h => h
  | p :: t, i, l, hp, h => by
    unfold appP
    have h1 := hp p List.mem_cons_self
    have ht := fun q hq => hp q (List.mem_cons_of_mem _ hq)
    by_cases ho : hasB on p.1 = true
    · rw [if_pos ho]
      cases hn : nextV k old i p (getT l p.1) with
      | none => exact h
      | some v =>
        have hb := okP_bd h1.1
        refine tab_app k old on t (i + 1) (putT l p.1 v) ht (tblF_put l (-1) p.1 v h (by omega) (by omega) ?_)
        exact nextV_val ((isVal_iff p.2).2 hb.2) h1.2 (getT_val h) hn
    · rw [if_neg ho]
      exact tab_app k old on t (i + 1) l ht h
theorem rise_get : ∀ (ps : List Sp) (e k : Int), riseFrom e ps = true → k ≤ e → getT ps k = none
  | [], _, _, _, _ => rfl
  | p :: t, e, k, h, hk => by
    have h' : (decide (e < p.1) && riseFrom p.1 t) = true := h
    rw [Bool.and_eq_true, decide_eq_true_iff] at h'
    unfold getT
    rw [if_neg (by omega), rise_get t p.1 k h'.2 (by omega)]
theorem app_put (k old : Int) (on : List Sp) (hk : k ≠ 3 ∧ k ≠ 4 ∧ k ≠ 5) : ∀ (ps : List Sp) (e : Int) (i : Nat) (l : List Sp), riseFrom e ps = true →
    (appP k old on i ps l).2 = true ∧ ∀ key, getT (appP k old on i ps l).1 key = if hasB on key = true then (match getT ps key with | some v => some v | none => getT l key) else getT l key
  | [], _, _, l, _ => ⟨rfl, fun key => by unfold appP; split <;> rfl⟩
  | p :: t, e, i, l, h => by
    have h' : (decide (e < p.1) && riseFrom p.1 t) = true := h
    rw [Bool.and_eq_true, decide_eq_true_iff] at h'
    have hn : nextV k old i p (getT l p.1) = some p.2 := by unfold nextV; rw [if_neg hk.1, if_neg hk.2.1, if_neg hk.2.2]
    have hlow := rise_get t p.1 p.1 h'.2 (Int.le_refl _)
    unfold appP
    by_cases ho : hasB on p.1 = true
    · rw [if_pos ho, hn]
      obtain ⟨i1, i2⟩ := app_put k old on hk t p.1 (i + 1) (putT l p.1 p.2) h'.2
      refine ⟨i1, fun key => ?_⟩
      show getT (appP k old on (i + 1) t (putT l p.1 p.2)).1 key = _
      rw [i2 key, getT_put]
      by_cases hkey : p.1 = key
      · subst hkey
        rw [if_pos ho, if_pos rfl, hlow]
        simp [getT, ho]
      · rw [if_neg (show ¬ key = p.1 from fun e => hkey e.symm)]
        simp only [getT, if_neg hkey]
    · rw [if_neg ho]
      obtain ⟨i1, i2⟩ := app_put k old on hk t p.1 (i + 1) l h'.2
      refine ⟨i1, fun key => ?_⟩
      rw [i2 key]
      by_cases hkey : p.1 = key
      · subst hkey
        rw [if_neg ho, if_neg ho]
      · simp only [getT, if_neg hkey]
end Go.Proofs.Ytfnjadiibiedgaa
