/-
  DELTA, plain: Onto, key by key; two made in turn.
-/
import Derived.Test.YtnjlbgnojlmmlaaDeA
import Derived.Test.YtnjlbgnojlmmlaaDlQ
namespace Go.Proofs.Ytnjlbgnojlmmlaa

def lF (x : Mt Tn Tn) : Option Tn := if x.inB then (if x.inA then (if x.a.2.2 = x.b.2.2 then none else some (x.key, x.a.2.2, x.b.2.2)) else some x.b) else none
def cF (x : Mt Tn Tn) : Option Int := if x.inB && x.inA && !decide (x.a = x.b) then some x.key else none
theorem ontL_fm (xs : List (Mt Tn Tn)) : ontL xs = xs.filterMap lF := by
  unfold ontL
  rw [foldl_fm (f := lF) (fun l x => by
    unfold ontL1 lF
    cases x.inB <;> cases x.inA <;> simp [turnS_fm])]
  simp
theorem ontC_fm (xs : List (Mt Tn Tn)) : ontC xs = xs.filterMap cF := by
  unfold ontC
  rw [foldl_fm (f := cF) (fun l x => by unfold ontC1 cF; split <;> simp)]
  simp
/-- Whether the key of what a meeting has is the meeting's. -/
def keyed (x : Mt Tn Tn) : Prop := x.inB = true → x.b.1 = x.key
theorem fm_asc' {α γ : Type} {K : α → Int} {K' : γ → Int} {f : α → Option γ} : ∀ {xs : List α} {e : Int}, (∀ x ∈ xs, ∀ y, f x = some y → K' y = K x) → asc K e xs → asc K' e (xs.filterMap f)
  | [], _, _, _ => trivial
  | x :: t, e, hf, h => by
    rw [List.filterMap_cons]
    have ih := fm_asc' (fun y hy => hf y (List.mem_cons_of_mem _ hy)) h.2
    cases hx : f x with
    | none => exact asc_le ih (by have := h.1; omega)
    | some y =>
      have := hf x List.mem_cons_self y hx
      exact ⟨by rw [this]; exact h.1, by rw [this]; exact ih⟩
theorem fm_fnd' {α γ : Type} {K : α → Int} {K' : γ → Int} {f : α → Option γ} : ∀ {xs : List α} {e : Int} (k : Int), (∀ x ∈ xs, ∀ y, f x = some y → K' y = K x) → asc K e xs → fnd K' (xs.filterMap f) k = (fnd K xs k).bind f
  | [], _, _, _, _ => rfl
  | x :: t, e, k, hf, h => by
    rw [List.filterMap_cons, fnd_cons]
    have ih := fm_fnd' k (fun y hy => hf y (List.mem_cons_of_mem _ hy)) h.2
    cases hx : f x with
    | none =>
      show fnd K' (t.filterMap f) k = _
      rw [ih]
      by_cases hk : K x = k
      · rw [if_pos hk, fnd_low h.2 (by omega)]
        exact hx.symm
      · rw [if_neg hk]
    | some y =>
      show fnd K' (y :: t.filterMap f) k = _
      rw [fnd_cons, hf x List.mem_cons_self y hx, ih]
      by_cases hk : K x = k
      · rw [if_pos hk, if_pos hk]
        exact hx.symm
      · rw [if_neg hk, if_neg hk]
theorem mTT_keyed {l m : List Tn} (hl : chkB l = true) (hm : chkB m = true) : ∀ x ∈ meetsTT l m, keyed x := by
  intro x hx
  have hf := mem_fnd (mTT_asc hl hm) hx
  rw [mTT_fnd hl hm, turnAt_fnd, turnAt_fnd] at hf
  cases hc : turnAt l x.key with
  | none =>
    cases hd : turnAt m x.key with
    | none => rw [hc, hd] at hf; cases hf
    | some d => rw [hc, hd] at hf; have := Option.some.inj hf; rw [← this]; exact fun _ => rfl
  | some c =>
    cases hd : turnAt m x.key with
    | none => rw [hc, hd] at hf; have := Option.some.inj hf; rw [← this]; exact fun h => by cases h
    | some d => rw [hc, hd] at hf; have := Option.some.inj hf; rw [← this]; exact fun _ => rfl
theorem lF_key {x : Mt Tn Tn} (hx : keyed x) (y : Tn) (h : lF x = some y) : kT y = x.key := by
  unfold lF at h
  split at h
  · rename_i hb
    split at h
    · split at h
      · cases h
      · cases h; rfl
    · cases h; exact hx hb
  · cases h
theorem cF_key (x : Mt Tn Tn) (y : Int) (h : cF x = some y) : id y = x.key := by
  unfold cF at h
  split at h
  · cases h; rfl
  · cases h
/-- What is left of a turn behind another one. -/
def ontoC : Option (Cl × Cl) → Option (Cl × Cl) → Option (Cl × Cl)
  | _, none => none
  | none, some d => some d
  | some c, some d => if c.2 = d.2 then none else some (c.2, d.2)
theorem ont_at {l m : List Tn} (hl : chkB l = true) (hm : chkB m = true) (k : Int) : turnAt (ontL (meetsTT l m)) k = ontoC (turnAt l k) (turnAt m k) := by
  have e1 : fnd kT (ontL (meetsTT l m)) k = (fnd Mt.key (meetsTT l m) k).bind lF := by rw [ontL_fm, fm_fnd' k (fun x hx y h => lF_key (mTT_keyed hl hm x hx) y h) (mTT_asc hl hm)]
  rw [mTT_fnd hl hm, turnAt_fnd l, turnAt_fnd m] at e1
  have e2 : turnAt (ontL (meetsTT l m)) k = (fnd kT (ontL (meetsTT l m)) k).map (·.2) := rfl
  rw [e2, e1]
  cases hc : turnAt l k with
  | none => cases hd : turnAt m k <;> rfl
  | some c =>
    cases hd : turnAt m k with
    | none => rfl
    | some d =>
      show ((if c.2 = d.2 then none else some (k, c.2, d.2) : Option Tn)).map (·.2) = if c.2 = d.2 then none else some (c.2, d.2)
      split <;> rfl
theorem ont_chk {l m : List Tn} (hl : chkB l = true) (hm : chkB m = true) : chkB (ontL (meetsTT l m)) = true := by
  have hs : asc kT (-1) (ontL (meetsTT l m)) := by rw [ontL_fm]; exact fm_asc' (fun x hx y h => lF_key (mTT_keyed hl hm x hx) y h) (mTT_asc hl hm)
  refine (chkB_iff _).2 ⟨hs, fun t ht => ?_⟩
  have h1 : turnAt (ontL (meetsTT l m)) t.1 = some t.2 := by unfold turnAt; rw [mem_fnd hs ht]; rfl
  rw [ont_at hl hm] at h1
  cases hd : turnAt m t.1 with
  | none => rw [hd] at h1; cases hc : turnAt l t.1 <;> rw [hc] at h1 <;> cases h1
  | some d =>
    cases hc : turnAt l t.1 with
    | none => rw [hc, hd] at h1; cases Option.some.inj h1; exact (turnAt_ok hm hd).1
    | some c =>
      rw [hc, hd] at h1
      have h2 : (if c.2 = d.2 then none else some (c.2, d.2)) = some t.2 := h1
      by_cases he : c.2 = d.2
      · rw [if_pos he] at h2; cases h2
      · rw [if_neg he] at h2
        have h3 : t.2 = (c.2, d.2) := (Option.some.inj h2).symm
        refine ⟨(turnAt_ok hl hc).1.1, ?_, ?_, ?_⟩
        · rw [h3]; exact (turnAt_ok hl hc).1.2.2.1
        · rw [h3]; exact (turnAt_ok hm hd).1.2.2.1
        · rw [h3]; exact he
def clashC (k : Int) : Option (Cl × Cl) → Option (Cl × Cl) → Option Int
  | some c, some d => if c = d then none else some k
  | _, _ => none
theorem clash_at {l m : List Tn} (hl : chkB l = true) (hm : chkB m = true) (k : Int) : fnd id (ontC (meetsTT l m)) k = clashC k (turnAt l k) (turnAt m k) := by
  rw [ontC_fm, fm_fnd cF_key k (mTT_asc hl hm), mTT_fnd hl hm, turnAt_fnd, turnAt_fnd]
  cases hc : turnAt l k with
  | none => cases hd : turnAt m k <;> rfl
  | some c =>
    cases hd : turnAt m k with
    | none => rfl
    | some d =>
      show (if (true && true && !decide (((k, c) : Tn) = (k, d))) = true then some k else none) = if c = d then none else some k
      by_cases he : c = d
      · rw [if_pos he, he]; simp
      · rw [if_neg he, if_pos (by simp; exact he)]
theorem clash_asc {l m : List Tn} (hl : chkB l = true) (hm : chkB m = true) : asc id (-1) (ontC (meetsTT l m)) := by rw [ontC_fm]; exact fm_asc cF_key (mTT_asc hl hm)
theorem clash_sym {l m : List Tn} (hl : chkB l = true) (hm : chkB m = true) : ontC (meetsTT l m) = ontC (meetsTT m l) := by
  refine asc_ext (clash_asc hl hm) (clash_asc hm hl) (fun k => ?_)
  rw [clash_at hl hm, clash_at hm hl]
  cases turnAt l k <;> cases turnAt m k <;> try rfl
  rename_i c d
  show (if c = d then none else some k) = if d = c then none else some k
  by_cases he : c = d
  · rw [if_pos he, if_pos he.symm]
  · rw [if_neg he, if_neg (Ne.symm he)]
section
variable {a b c : List Pr} (ha : tblB a = true) (hb : tblB b = true) (hc : tblB c = true)
include ha hb hc
abbrev onL (a b c : List Pr) : List Tn := ontL (meetsTT (betwS (meetsPP a b)) (betwS (meetsPP a c)))
abbrev onC (a b c : List Pr) : List Int := ontC (meetsTT (betwS (meetsPP a b)) (betwS (meetsPP a c)))
theorem onL_chk : chkB (onL a b c) = true := ont_chk (betw_chk ha hb) (betw_chk ha hc)
theorem onL_at (k : Int) : turnAt (onL a b c) k = if cellOf a k = cellOf c k then none else if cellOf b k = cellOf c k then none else some (cellOf b k, cellOf c k) := by
  rw [ont_at (betw_chk ha hb) (betw_chk ha hc), betw_at ha hb, betw_at ha hc]
  by_cases h1 : cellOf a k = cellOf c k
  · rw [if_pos h1, if_pos h1]
    split <;> rfl
  · rw [if_neg h1, if_neg h1]
    by_cases h2 : cellOf a k = cellOf b k
    · rw [if_pos h2, if_neg (by rw [← h2]; exact h1), h2]; rfl
    · rw [if_neg h2]; rfl
theorem onL_fits : fitsB b (onL a b c) = true := by
  refine (fits_iff hb (onL_chk ha hb hc)).2 (fun k x hx => ?_)
  rw [onL_at ha hb hc] at hx
  split at hx
  · cases hx
  · split at hx
    · cases hx
    · cases hx; rfl
theorem onL_made (k : Int) : cellOf (makS (meetsPT b (onL a b c))) k = if cellOf a k = cellOf c k then cellOf b k else cellOf c k := by
  rw [mak_at hb (onL_chk ha hb hc), onL_at ha hb hc]
  by_cases h1 : cellOf a k = cellOf c k
  · rw [if_pos h1, if_pos h1]
  · rw [if_neg h1, if_neg h1]
    by_cases h2 : cellOf b k = cellOf c k
    · rw [if_pos h2]; exact h2
    · rw [if_neg h2]
theorem onC_at (k : Int) : fnd id (onC a b c) k = if cellOf a k ≠ cellOf b k ∧ cellOf a k ≠ cellOf c k ∧ cellOf b k ≠ cellOf c k then some k else none := by
  rw [clash_at (betw_chk ha hb) (betw_chk ha hc), betw_at ha hb, betw_at ha hc]
  by_cases h1 : cellOf a k = cellOf b k
  · rw [if_pos h1, if_neg (show ¬ (cellOf a k ≠ cellOf b k ∧ cellOf a k ≠ cellOf c k ∧ cellOf b k ≠ cellOf c k) from fun q => q.1 h1)]
    split <;> rfl
  · rw [if_neg h1]
    by_cases h2 : cellOf a k = cellOf c k
    · rw [if_pos h2, if_neg (show ¬ (cellOf a k ≠ cellOf b k ∧ cellOf a k ≠ cellOf c k ∧ cellOf b k ≠ cellOf c k) from fun q => q.2.1 h2)]; rfl
    · rw [if_neg h2]
      show (if (cellOf a k, cellOf b k) = (cellOf a k, cellOf c k) then none else some k) = _
      by_cases h3 : cellOf b k = cellOf c k
      · rw [if_pos (show (cellOf a k, cellOf b k) = (cellOf a k, cellOf c k) by rw [h3]), if_neg (show ¬ (cellOf a k ≠ cellOf b k ∧ cellOf a k ≠ cellOf c k ∧ cellOf b k ≠ cellOf c k) from fun q => q.2.2 h3)]
      · rw [if_neg (show ¬ (cellOf a k, cellOf b k) = (cellOf a k, cellOf c k) from fun q => h3 (by simpa using q)), if_pos (show cellOf a k ≠ cellOf b k ∧ cellOf a k ≠ cellOf c k ∧ cellOf b k ≠ cellOf c k from ⟨h1, h2, h3⟩)]
theorem onto_same : decide (makS (meetsPT b (onL a b c)) = makS (meetsPT c (onL a c b))) = ((onC a b c).length == 0) := by
  have hx := mak_tbl hb (onL_chk ha hb hc)
  have hy := mak_tbl hc (onL_chk ha hc hb)
  by_cases hz : onC a b c = []
  · have hno : ∀ k, ¬ (cellOf a k ≠ cellOf b k ∧ cellOf a k ≠ cellOf c k ∧ cellOf b k ≠ cellOf c k) := by
      intro k hk
      have := onC_at ha hb hc k
      rw [hz, if_pos hk] at this
      cases this
    rw [hz]
    rw [decide_eq_true]
    · rfl
    · refine tbl_ext hx hy (fun k => ?_)
      rw [onL_made ha hb hc, onL_made ha hc hb]
      have := hno k
      by_cases h1 : cellOf a k = cellOf c k
      · rw [if_pos h1]
        by_cases h2 : cellOf a k = cellOf b k
        · rw [if_pos h2, ← h1, h2]
        · rw [if_neg h2]
      · rw [if_neg h1]
        by_cases h2 : cellOf a k = cellOf b k
        · rw [if_pos h2]
        · rw [if_neg h2]
          by_cases h3 : cellOf b k = cellOf c k
          · exact h3.symm
          · exact absurd ⟨h2, h1, h3⟩ this
  · have hlen : ((onC a b c).length == 0) = false := by
      rw [beq_eq_false_iff_ne]
      exact fun e => hz (List.eq_nil_of_length_eq_zero e)
    rw [hlen]
    apply decide_eq_false
    intro e
    obtain ⟨k, hk⟩ : ∃ k, k ∈ onC a b c := by
      cases h : onC a b c with
      | nil => exact absurd h hz
      | cons x t => exact ⟨x, List.mem_cons_self⟩
    have h1 := mem_fnd (clash_asc (betw_chk ha hb) (betw_chk ha hc)) hk
    have h1' : fnd id (onC a b c) k = some k := h1
    rw [onC_at ha hb hc] at h1'
    split at h1'
    · rename_i h2
      have h3 : cellOf (makS (meetsPT b (onL a b c))) k = cellOf (makS (meetsPT c (onL a c b))) k := by rw [e]
      rw [onL_made ha hb hc, onL_made ha hc hb, if_neg h2.2.1, if_neg h2.1] at h3
      exact h2.2.2 h3.symm
    · cases h1'
theorem onto_get {t : Tn} (ht : t ∈ betwS (meetsPP a c)) : cellOf (makS (meetsPT b (onL a b c))) t.1 = t.2.2 := by
  have h1 := turnAt_mem (betw_chk ha hc) ht
  rw [betw_at ha hc] at h1
  rw [onL_made ha hb hc]
  split at h1
  · cases h1
  · rename_i h2
    rw [if_neg h2, ← Option.some.inj h1]
end
theorem cellOf_getT (l : List Pr) (k : Int) : cellOf l k = ((getT l k).getD 0, (getT l k).isSome) := by
  have h : fnd kP l k = (getT l k).map (fun v => (k, v)) := by
    induction l with
    | nil => rfl
    | cons p t ih =>
      rw [fnd_cons]
      show (if p.1 = k then some p else fnd kP t k) = ((if p.1 = k then some p.2 else getT t k) : Option Int).map _
      by_cases hk : p.1 = k
      · rw [if_pos hk, if_pos hk, ← hk]; rfl
      · rw [if_neg hk, if_neg hk]; exact ih
  unfold cellOf
  rw [h]
  cases getT l k <;> rfl
end Go.Proofs.Ytnjlbgnojlmmlaa
