/-
  DELTA, plain: lists whose keys rise, key by key; the meetings, key by key; what is collected of them; Between, Make, Back, Then, key by key.
-/
import Derived.Test.YtnjlbgnojlmmlaaDlC
namespace Go.Proofs.Ytnjlbgnojlmmlaa

section
variable {α β γ : Type}
def asc (K : α → Int) : Int → List α → Prop
  | _, [] => True
  | e, x :: t => e < K x ∧ asc K (K x) t
def fnd (K : α → Int) : List α → Int → Option α
  | [], _ => none
  | x :: t, k => if K x = k then some x else fnd K t k
theorem fnd_cons (K : α → Int) (x : α) (t : List α) (k : Int) : fnd K (x :: t) k = if K x = k then some x else fnd K t k := rfl
theorem asc_cons {K : α → Int} {e : Int} {x : α} {t : List α} : asc K e (x :: t) ↔ e < K x ∧ asc K (K x) t := Iff.rfl
theorem asc_le {K : α → Int} : ∀ {l : List α} {e f : Int}, asc K e l → f ≤ e → asc K f l
  | [], _, _, _, _ => trivial
  | _ :: _, _, _, h, hf => ⟨by have := h.1; omega, h.2⟩
theorem fnd_low {K : α → Int} : ∀ {l : List α} {e k : Int}, asc K e l → k ≤ e → fnd K l k = none
  | [], _, _, _, _ => rfl
  | x :: t, e, k, h, hk => by
    have h1 := h.1
    rw [fnd_cons, if_neg (by omega)]
    exact fnd_low h.2 (by omega)
theorem fnd_some {K : α → Int} : ∀ {l : List α} {k : Int} {x : α}, fnd K l k = some x → x ∈ l ∧ K x = k
  | [], _, _, h => by cases h
  | y :: t, k, x, h => by
    rw [fnd_cons] at h
    by_cases hy : K y = k
    · rw [if_pos hy] at h
      cases h
      exact ⟨List.mem_cons_self, hy⟩
    · rw [if_neg hy] at h
      have := fnd_some h
      exact ⟨List.mem_cons_of_mem _ this.1, this.2⟩
theorem asc_mem {K : α → Int} : ∀ {l : List α} {e : Int} {x : α}, asc K e l → x ∈ l → e < K x
  | [], _, _, _, h => by cases h
  | y :: t, e, x, ha, h => by
    rcases List.mem_cons.1 h with rfl | h
    · exact ha.1
    · have := asc_mem ha.2 h
      have := ha.1
      omega
theorem mem_fnd {K : α → Int} : ∀ {l : List α} {e : Int} {x : α}, asc K e l → x ∈ l → fnd K l (K x) = some x
  | [], _, _, _, h => by cases h
  | y :: t, e, x, ha, h => by
    rw [fnd_cons]
    rcases List.mem_cons.1 h with rfl | h
    · rw [if_pos rfl]
    · have := asc_mem ha.2 h
      rw [if_neg (by omega)]
      exact mem_fnd ha.2 h
theorem asc_ext {K : α → Int} : ∀ {l m : List α} {e : Int}, asc K e l → asc K e m → (∀ k, fnd K l k = fnd K m k) → l = m
  | [], [], _, _, _, _ => rfl
  | [], y :: m, _, _, _, h => by
    have := h (K y)
    rw [fnd_cons, if_pos rfl] at this
    cases this
  | x :: l, [], _, _, _, h => by
    have := h (K x)
    rw [fnd_cons, if_pos rfl] at this
    cases this
  | x :: l, y :: m, e, hl, hm, h => by
    have hx := h (K x)
    have hy := h (K y)
    rw [fnd_cons, if_pos rfl] at hx
    rw [fnd_cons K y m, if_pos rfl] at hy
    have hxy : x = y := by
      rcases Int.lt_trichotomy (K x) (K y) with hlt | he | hlt
      · rw [fnd_cons, if_neg (by omega), fnd_low hm.2 (by omega)] at hx
        cases hx
      · rw [fnd_cons, if_pos he.symm] at hx
        cases hx
        rfl
      · rw [fnd_cons, if_neg (by omega), fnd_low hl.2 (by omega)] at hy
        cases hy
    subst hxy
    rw [asc_ext hl.2 hm.2 (fun k => ?_)]
    have hk := h k
    rw [fnd_cons, fnd_cons] at hk
    by_cases e1 : K x = k
    · rw [fnd_low hl.2 (by omega), fnd_low hm.2 (by omega)]
    · rw [if_neg e1, if_neg e1] at hk
      exact hk
/-- What is collected: one step adds one at most. -/
theorem foldl_fm {step : List γ → α → List γ} {f : α → Option γ} (h : ∀ l x, step l x = l ++ (f x).toList) : ∀ (xs : List α) (l0 : List γ), xs.foldl step l0 = l0 ++ xs.filterMap f
  | [], _ => by simp
  | x :: t, l0 => by
    rw [List.foldl_cons, foldl_fm h t, h, List.filterMap_cons]
    cases f x <;> simp
theorem fm_asc {K : α → Int} {K' : γ → Int} {f : α → Option γ} (hf : ∀ x y, f x = some y → K' y = K x) : ∀ {xs : List α} {e : Int}, asc K e xs → asc K' e (xs.filterMap f)
  | [], _, _ => trivial
  | x :: t, e, h => by
    rw [List.filterMap_cons]
    cases hx : f x with
    | none => exact asc_le (fm_asc hf h.2) (by have := h.1; omega)
    | some y => exact ⟨by rw [hf x y hx]; exact h.1, by rw [hf x y hx]; exact fm_asc hf h.2⟩
theorem fm_fnd {K : α → Int} {K' : γ → Int} {f : α → Option γ} (hf : ∀ x y, f x = some y → K' y = K x) : ∀ {xs : List α} {e : Int} (k : Int), asc K e xs → fnd K' (xs.filterMap f) k = (fnd K xs k).bind f
  | [], _, _, _ => rfl
  | x :: t, e, k, h => by
    rw [List.filterMap_cons, fnd_cons]
    cases hx : f x with
    | none =>
      show fnd K' (t.filterMap f) k = _
      rw [fm_fnd hf k h.2]
      by_cases hk : K x = k
      · rw [if_pos hk, fnd_low h.2 (by omega)]
        exact hx.symm
      · rw [if_neg hk]
    | some y =>
      show fnd K' (y :: t.filterMap f) k = _
      rw [fnd_cons, hf x y hx, fm_fnd hf k h.2]
      by_cases hk : K x = k
      · rw [if_pos hk, if_pos hk]
        exact hx.symm
      · rw [if_neg hk, if_neg hk]
/-- A key's meeting. -/
def mtO (za : α) (zb : β) (k : Int) : Option α → Option β → Option (Mt α β)
  | none, none => none
  | some x, none => some ⟨k, x, zb, true, false⟩
  | none, some y => some ⟨k, za, y, false, true⟩
  | some x, some y => some ⟨k, x, y, true, true⟩
theorem meets_asc (ka : α → Int) (kb : β → Int) (za : α) (zb : β) : ∀ (a : List α) (b : List β) (e : Int), asc ka e a → asc kb e b → asc Mt.key e (meets ka kb za zb a b) := by
  intro a b
  fun_induction meets ka kb za zb a b with
  | case1 => intro e _ _; trivial
  | case2 x a ih => intro e ha hb; exact ⟨ha.1, ih _ ha.2 trivial⟩
  | case3 y b ih => intro e ha hb; exact ⟨hb.1, ih _ trivial hb.2⟩
  | case4 x a y b h ih => intro e ha hb; exact ⟨ha.1, ih _ ha.2 ⟨h, hb.2⟩⟩
  | case5 x a y b h h2 ih => intro e ha hb; exact ⟨hb.1, ih _ ⟨h2, ha.2⟩ hb.2⟩
  | case6 x a y b h h2 ih =>
    intro e ha hb
    have hk : ka x = kb y := by omega
    exact ⟨ha.1, ih _ ha.2 (by show asc kb (ka x) b; rw [hk]; exact hb.2)⟩
theorem meets_fnd (ka : α → Int) (kb : β → Int) (za : α) (zb : β) (k : Int) : ∀ (a : List α) (b : List β) (e : Int), asc ka e a → asc kb e b → fnd Mt.key (meets ka kb za zb a b) k = mtO za zb k (fnd ka a k) (fnd kb b k) := by
  intro a b
  fun_induction meets ka kb za zb a b with
  | case1 => intro e _ _; rfl
  | case2 x a ih =>
    intro e ha hb
    rw [fnd_cons, fnd_cons, ih _ ha.2 trivial]
    by_cases hk : ka x = k
    · rw [if_pos hk, if_pos hk]; subst hk; rfl
    · rw [if_neg hk, if_neg hk]
  | case3 y b ih =>
    intro e ha hb
    rw [fnd_cons, fnd_cons, ih _ trivial hb.2]
    by_cases hk : kb y = k
    · rw [if_pos hk, if_pos hk]; subst hk; rfl
    · rw [if_neg hk, if_neg hk]
  | case4 x a y b h ih =>
    intro e ha hb
    rw [fnd_cons, ih _ ha.2 ⟨h, hb.2⟩, fnd_cons ka]
    by_cases hk : ka x = k
    · rw [if_pos hk, if_pos hk]
      have : fnd kb (y :: b) k = none := fnd_low (e := ka x) ⟨h, hb.2⟩ (by omega)
      rw [this]; subst hk; rfl
    · rw [if_neg hk, if_neg hk]
  | case5 x a y b h h2 ih =>
    intro e ha hb
    rw [fnd_cons, ih _ ⟨h2, ha.2⟩ hb.2, fnd_cons kb]
    by_cases hk : kb y = k
    · rw [if_pos hk, if_pos hk]
      have : fnd ka (x :: a) k = none := fnd_low (e := kb y) ⟨h2, ha.2⟩ (by omega)
      rw [this]; subst hk; rfl
    · rw [if_neg hk, if_neg hk]
  | case6 x a y b h h2 ih =>
    intro e ha hb
    have hxy : ka x = kb y := by omega
    rw [fnd_cons, ih _ ha.2 (by show asc kb (ka x) b; rw [hxy]; exact hb.2), fnd_cons ka, fnd_cons kb]
    by_cases hk : ka x = k
    · rw [if_pos hk, if_pos hk, if_pos (by omega)]; subst hk; rfl
    · rw [if_neg hk, if_neg hk, if_neg (by omega)]
end

abbrev kP (p : Pr) : Int := p.1
abbrev kT (t : Tn) : Int := t.1
def okP (p : Pr) : Prop := p.1 < 4096 ∧ -1099511627776 ≤ p.2 ∧ p.2 ≤ 1099511627776
def okT (t : Tn) : Prop := t.1 < 4096 ∧ cellB t.2.1 = true ∧ cellB t.2.2 = true ∧ t.2.1 ≠ t.2.2
theorem tblF_iff : ∀ (l : List Pr) (e : Int), tblF e l = true ↔ asc kP e l ∧ ∀ p ∈ l, okP p
  | [], e => by simp [tblF, asc]
  | p :: t, e => by
    unfold tblF
    rw [Bool.and_eq_true, Bool.and_eq_true, decide_eq_true_iff, decide_eq_true_iff, tblF_iff t]
    simp only [asc_cons, List.forall_mem_cons, okP]
    constructor
    · rintro ⟨⟨⟨h1, h2⟩, h3⟩, h4, h5⟩
      exact ⟨⟨h1, h4⟩, ⟨h2, h3⟩, h5⟩
    · rintro ⟨⟨h1, h4⟩, ⟨h2, h3⟩, h5⟩
      exact ⟨⟨⟨h1, h2⟩, h3⟩, h4, h5⟩
theorem chkF_iff : ∀ (l : List Tn) (e : Int), chkF e l = true ↔ asc kT e l ∧ ∀ t ∈ l, okT t
  | [], e => by simp [chkF, asc]
  | p :: t, e => by
    unfold chkF
    simp only [Bool.and_eq_true, decide_eq_true_iff, Bool.not_eq_true', decide_eq_false_iff_not]
    rw [chkF_iff t]
    simp only [asc_cons, List.forall_mem_cons, okT]
    constructor
    · rintro ⟨⟨⟨⟨⟨h1, h2⟩, h3⟩, h4⟩, h5⟩, h6, h7⟩
      exact ⟨⟨h1, h6⟩, ⟨h2, h3, h4, h5⟩, h7⟩
    · rintro ⟨⟨h1, h6⟩, ⟨h2, h3, h4, h5⟩, h7⟩
      exact ⟨⟨⟨⟨⟨h1, h2⟩, h3⟩, h4⟩, h5⟩, h6, h7⟩
theorem tblB_iff (l : List Pr) : tblB l = true ↔ asc kP (-1) l ∧ ∀ p ∈ l, okP p := tblF_iff l _
theorem chkB_iff (l : List Tn) : chkB l = true ↔ asc kT (-1) l ∧ ∀ t ∈ l, okT t := chkF_iff l _
/-- What a table has of a key. -/
def cellOf (a : List Pr) (k : Int) : Cl := match fnd kP a k with
  | some p => (p.2, true)
  | none => (0, false)
theorem cellOf_ok {a : List Pr} (h : tblB a = true) (k : Int) : cellB (cellOf a k) = true := by
  unfold cellOf
  split
  · rename_i p hp
    have := ((tblB_iff a).1 h).2 p (fnd_some hp).1
    unfold cellB
    simp [this.2]
  · rfl
theorem cellOf_fnd {a : List Pr} (k : Int) : fnd kP a k = if (cellOf a k).2 = true then some (k, (cellOf a k).1) else none := by
  unfold cellOf
  split
  · rename_i p hp
    rw [hp, if_pos rfl, ← (fnd_some hp).2]
  · rename_i hp
    rw [hp, if_neg (by simp)]
theorem cellOf_key {a : List Pr} (h : tblB a = true) {k : Int} (hk : (cellOf a k).2 = true) : -1 < k ∧ k < 4096 := by
  have e := cellOf_fnd (a := a) k
  rw [if_pos hk] at e
  have m := fnd_some e
  have h2 := (tblB_iff a).1 h
  exact ⟨by have := asc_mem h2.1 m.1; rwa [m.2] at this, by have := (h2.2 _ m.1).1; exact this⟩
/-- A table is what each key has. -/
theorem tbl_ext {a b : List Pr} (ha : tblB a = true) (hb : tblB b = true) (h : ∀ k, cellOf a k = cellOf b k) : a = b :=
  asc_ext ((tblB_iff a).1 ha).1 ((tblB_iff b).1 hb).1 (fun k => by rw [cellOf_fnd, cellOf_fnd, h k])
/-- What turns have of a key. -/
def turnAt (l : List Tn) (k : Int) : Option (Cl × Cl) := (fnd kT l k).map (·.2)
theorem turnAt_fnd (l : List Tn) (k : Int) : fnd kT l k = (turnAt l k).map (fun c => (k, c)) := by
  unfold turnAt
  cases h : fnd kT l k with
  | none => rfl
  | some t => simp only [Option.map_some, ← (fnd_some h).2]
theorem chk_ext {l m : List Tn} (hl : chkB l = true) (hm : chkB m = true) (h : ∀ k, turnAt l k = turnAt m k) : l = m :=
  asc_ext ((chkB_iff l).1 hl).1 ((chkB_iff m).1 hm).1 (fun k => by rw [turnAt_fnd, turnAt_fnd, h k])
theorem turnAt_ok {l : List Tn} (h : chkB l = true) {k : Int} {c : Cl × Cl} (hc : turnAt l k = some c) : okT (k, c) ∧ -1 < k := by
  have e : fnd kT l k = some (k, c) := by rw [turnAt_fnd, hc]; rfl
  have m := fnd_some e
  have h2 := (chkB_iff l).1 h
  exact ⟨h2.2 _ m.1, by have := asc_mem h2.1 m.1; exact this⟩
theorem turnAt_mem {l : List Tn} (h : chkB l = true) {t : Tn} (ht : t ∈ l) : turnAt l t.1 = some t.2 := by
  unfold turnAt
  rw [mem_fnd ((chkB_iff l).1 h).1 ht]
  rfl
theorem turnAt_in {l : List Tn} {k : Int} {c : Cl × Cl} (h : turnAt l k = some c) : (k, c) ∈ l := by
  have e : fnd kT l k = some (k, c) := by rw [turnAt_fnd, h]; rfl
  exact (fnd_some e).1
theorem turnS_fm (l : List Tn) (k : Int) (was is : Cl) : turnS l k was is = l ++ (if was = is then none else some (k, was, is) : Option Tn).toList := by
  unfold turnS
  split <;> simp
end Go.Proofs.Ytnjlbgnojlmmlaa
