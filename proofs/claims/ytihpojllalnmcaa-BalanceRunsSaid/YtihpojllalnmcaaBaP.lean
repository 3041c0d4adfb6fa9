/-
  BALANCE, plain: loads by spans, where a shard can be split, the first one of the greatest measure, what is suggested.
-/
import Derived.Test.YtihpojllalnmcaaTB
import Derived.Test.YtihpojllalnmcaaChH
namespace Go.Proofs.Ytihpojllalnmcaa
open Go.RowKit Go.Shelf

def inK (lo hi : Int) (p : Sp) : Bool := decide (lo ≤ p.1) && decide (p.1 < hi)
theorem inK_iff (lo hi : Int) (p : Sp) : inK lo hi p = true ↔ lo ≤ p.1 ∧ p.1 < hi := by unfold inK; rw [Bool.and_eq_true, decide_eq_true_iff, decide_eq_true_iff]
def valS : List Sp → Int
  | [] => 0
  | p :: t => p.2 + valS t
def sumK (l : List Sp) (lo hi : Int) : Int := valS (l.filter (inK lo hi))
def loadB (l : List Sp) : Bool := l.all (fun p => decide (0 ≤ p.2)) && tblB l
theorem valS_append (l m : List Sp) : valS (l ++ m) = valS l + valS m := by
  induction l with
  | nil => simp [valS]
  | cons p t ih => simp only [List.cons_append, valS, ih]; omega
theorem tblF_all : ∀ (l : List Sp) (e : Int), tblF e l = true → ∀ p ∈ l, e < p.1 ∧ p.1 < 4096 ∧ isVal p.2 = true
  | [], _, _, p, hp => absurd hp (by simp)
  | q :: t, e, h, p, hp => by
    unfold tblF at h
    rw [Bool.and_eq_true, Bool.and_eq_true, decide_eq_true_iff] at h
    rcases List.mem_cons.1 hp with rfl | hp
    · exact ⟨h.1.1.1, h.1.1.2, h.1.2⟩
    · have := tblF_all t q.1 h.2 p hp
      exact ⟨by omega, this.2⟩
theorem tblF_after : ∀ (l m : List Sp) (p : Sp) (e : Int), tblF e (l ++ p :: m) = true → (∀ q ∈ l, q.1 < p.1) ∧ ∀ q ∈ m, p.1 < q.1
  | [], m, p, e, h => ⟨fun q hq => absurd hq (by simp), fun q hq => by
    have h' : tblF e (p :: m) = true := h
    unfold tblF at h'
    rw [Bool.and_eq_true] at h'
    exact (tblF_all m p.1 h'.2 q hq).1⟩
  | x :: t, m, p, e, h => by
    have h' : tblF e (x :: (t ++ p :: m)) = true := h
    unfold tblF at h'
    rw [Bool.and_eq_true] at h'
    obtain ⟨h1, h2⟩ := tblF_after t m p x.1 h'.2
    refine ⟨fun q hq => ?_, h2⟩
    rcases List.mem_cons.1 hq with rfl | hq
    · exact (tblF_all _ q.1 h'.2 p (by simp)).1
    · exact h1 q hq
theorem loadB_iff {l : List Sp} : loadB l = true ↔ (∀ p ∈ l, 0 ≤ p.2) ∧ tblB l = true := by
  unfold loadB
  rw [Bool.and_eq_true, List.all_eq_true]
  simp
theorem valS_bd : ∀ (l : List Sp), (∀ p ∈ l, 0 ≤ p.2 ∧ p.2 ≤ 1099511627776) → 0 ≤ valS l ∧ valS l ≤ l.length * 1099511627776
  | [], _ => by simp [valS]
  | p :: t, h => by
    have h1 := h p (by simp)
    have h2 := valS_bd t fun q hq => h q (by simp [hq])
    simp only [valS, List.length_cons]
    omega
theorem tblF_len : ∀ (l : List Sp) (e : Int), tblF e l = true → e ≤ 4095 → (l.length : Int) ≤ 4095 - e
  | [], e, _, he => by simp; omega
  | p :: t, e, h, he => by
    unfold tblF at h
    rw [Bool.and_eq_true, Bool.and_eq_true, decide_eq_true_iff] at h
    have := tblF_len t p.1 h.2 (by omega)
    simp only [List.length_cons]
    omega
theorem load_each {l : List Sp} (h : loadB l = true) : ∀ p ∈ l, 0 ≤ p.2 ∧ p.2 ≤ 1099511627776 := fun p hp => by
  obtain ⟨h0, ht⟩ := loadB_iff.1 h
  have := (tblF_all l (-1) ht p hp).2.2
  unfold isVal btw at this
  rw [decide_eq_true_iff] at this
  exact ⟨h0 p hp, this.2⟩
theorem load_sub {l m : List Sp} (h : loadB l = true) (hs : m.Sublist l) : 0 ≤ valS m ∧ valS m ≤ 4503599627370496 := by
  have h1 := valS_bd m fun p hp => load_each h p (hs.subset hp)
  have h2 := tblF_len l (-1) (loadB_iff.1 h).2 (by omega)
  have h3 := hs.length_le
  refine ⟨h1.1, ?_⟩
  have : (m.length : Int) ≤ 4096 := by omega
  omega
theorem sumK_bd {l : List Sp} (h : loadB l = true) (lo hi : Int) : 0 ≤ sumK l lo hi ∧ sumK l lo hi ≤ 4503599627370496 := load_sub h List.filter_sublist
theorem sumK_split (l : List Sp) (lo k hi : Int) (h1 : lo ≤ k) (h2 : k ≤ hi) : sumK l lo k + sumK l k hi = sumK l lo hi := by
  unfold sumK
  induction l with
  | nil => simp [valS]
  | cons p t ih =>
    simp only [List.filter_cons]
    by_cases a : lo ≤ p.1 <;> by_cases b : p.1 < hi <;> by_cases c : p.1 < k
    all_goals
      have e1 : inK lo k p = (decide (lo ≤ p.1) && decide (p.1 < k)) := rfl
      have e2 : inK k hi p = (decide (k ≤ p.1) && decide (p.1 < hi)) := rfl
      have e3 : inK lo hi p = (decide (lo ≤ p.1) && decide (p.1 < hi)) := rfl
      rw [e1, e2, e3]
      simp only [a, b, c, decide_true, decide_false, Bool.and_true, Bool.and_false, if_true]
      first
        | (exfalso; omega)
        | (by_cases d : k ≤ p.1 <;> simp only [d, decide_true, decide_false, if_true, if_false, valS, Bool.false_eq_true] <;> first | (exfalso; omega) | omega)
/-- The first one of the greatest measure. -/
def stepBa {α : Type} (m : α → Int) (o : Option α) (y : α) : Option α := match o with
  | none => some y
  | some x => if m x < m y then some y else some x
def bestF {α : Type} (m : α → Int) (l : List α) : Option α := l.foldl (stepBa m) none
def stepP {α : Type} (ok : α → Bool) (m : α → Int) (o : Option α) (y : α) : Option α := if ok y = true then stepBa m o y else o
def pickF {α : Type} (ok : α → Bool) (m : α → Int) (l : List α) : Option α := l.foldl (stepP ok m) none
theorem best_filter {α : Type} (ok : α → Bool) (m : α → Int) (l : List α) : bestF m (l.filter ok) = pickF ok m l := by
  unfold bestF pickF
  generalize (none : Option α) = o
  induction l generalizing o with
  | nil => rfl
  | cons x t ih =>
    rw [List.filter_cons, List.foldl_cons]
    cases hx : ok x
    · rw [if_neg (by simp), ih, show stepP ok m o x = o from by unfold stepP; rw [hx, if_neg (by simp)]]
    · rw [if_pos rfl, List.foldl_cons, ih, show stepP ok m o x = stepBa m o x from by unfold stepP; rw [hx, if_pos rfl]]
theorem pick_snoc {α : Type} (ok : α → Bool) (m : α → Int) (l : List α) (x : α) : pickF ok m (l ++ [x]) = stepP ok m (pickF ok m l) x := by
  unfold pickF; rw [List.foldl_append]; rfl
theorem best_snoc {α : Type} (m : α → Int) (l : List α) (x : α) : bestF m (l ++ [x]) = stepBa m (bestF m l) x := by
  unfold bestF; rw [List.foldl_append]; rfl
theorem pick_fold {α : Type} (ok : α → Bool) (m : α → Int) : ∀ (l : List α) (o : Option α), (∀ x, o = some x → ok x = true) →
    (l.foldl (stepP ok m) o = none ∧ o = none ∧ ∀ y ∈ l, ok y = false) ∨ (∃ x, l.foldl (stepP ok m) o = some x ∧ (o = some x ∨ x ∈ l) ∧ ok x = true ∧ (∀ y ∈ l, ok y = true → m y ≤ m x) ∧ ∀ z, o = some z → m z ≤ m x)
  | [], none, _ => .inl ⟨rfl, rfl, by simp⟩
  | [], some z, h => .inr ⟨z, rfl, .inl rfl, h z rfl, by simp, fun _ e => by cases e; exact Int.le_refl _⟩
  | y :: t, o, h => by
    rw [List.foldl_cons]
    cases hy : ok y
    · rw [show stepP ok m o y = o from by unfold stepP; rw [hy, if_neg (by simp)]]
      rcases pick_fold ok m t o h with ⟨h1, h2, h3⟩ | ⟨x, h1, h2, h3, h4, h5⟩
      · exact .inl ⟨h1, h2, fun q hq => (List.mem_cons.1 hq).elim (fun e => e ▸ hy) (h3 q)⟩
      · exact .inr ⟨x, h1, h2.imp id (fun q => by simp [q]), h3, fun q hq hk => (List.mem_cons.1 hq).elim (fun e => by rw [e, hy] at hk; cases hk) (fun q' => h4 q q' hk), h5⟩
    · rw [show stepP ok m o y = stepBa m o y from by unfold stepP; rw [hy, if_pos rfl]]
      cases o with
      | none =>
        rcases pick_fold ok m t (stepBa m none y) (fun x e => by cases e; exact hy) with ⟨_, h2, _⟩ | ⟨x, h1, h2, h3, h4, h5⟩
        · cases h2
        · refine .inr ⟨x, h1, .inr (h2.elim (fun e => by cases e; simp) fun q => by simp [q]), h3, fun q hq hk => ?_, fun z e => by cases e⟩
          rcases List.mem_cons.1 hq with rfl | hq
          · exact h5 q rfl
          · exact h4 q hq hk
      | some z =>
        have hz := h z rfl
        by_cases hl : m z < m y
        · have e : stepBa m (some z) y = some y := by unfold stepBa; exact if_pos hl
          rw [e]
          rcases pick_fold ok m t (some y) (fun x e => by cases e; exact hy) with ⟨_, h2, _⟩ | ⟨x, h1, h2, h3, h4, h5⟩
          · cases h2
          · have h6 := h5 y rfl
            refine .inr ⟨x, h1, .inr (h2.elim (fun e => by cases e; simp) fun q => by simp [q]), h3, fun q hq hk => ?_, fun _ e => by cases e; omega⟩
            rcases List.mem_cons.1 hq with rfl | hq
            · exact h6
            · exact h4 q hq hk
        · have e : stepBa m (some z) y = some z := by unfold stepBa; exact if_neg hl
          rw [e]
          rcases pick_fold ok m t (some z) (fun x e => by cases e; exact hz) with ⟨_, h2, _⟩ | ⟨x, h1, h2, h3, h4, h5⟩
          · cases h2
          · have h6 := h5 z rfl
            refine .inr ⟨x, h1, h2.imp id (fun q => by simp [q]), h3, fun q hq hk => ?_, h5⟩
            rcases List.mem_cons.1 hq with rfl | hq
            · omega
            · exact h4 q hq hk
theorem pick_none {α : Type} {ok : α → Bool} {m : α → Int} {l : List α} : pickF ok m l = none ↔ ∀ y ∈ l, ok y = false := by
  rcases pick_fold ok m l none (fun _ e => by cases e) with ⟨h1, _, h3⟩ | ⟨x, h1, h2, h3, _, _⟩
  · exact ⟨fun _ => h3, fun _ => h1⟩
  · refine ⟨fun e => (by rw [pickF, h1] at e; cases e), fun h => ?_⟩
    have hx : x ∈ l := h2.elim (fun e => by cases e) id
    rw [h x hx] at h3
    cases h3
theorem pick_some {α : Type} {ok : α → Bool} {m : α → Int} {l : List α} {x : α} (h : pickF ok m l = some x) : x ∈ l ∧ ok x = true ∧ ∀ y ∈ l, ok y = true → m y ≤ m x := by
  rcases pick_fold ok m l none (fun _ e => by cases e) with ⟨h1, _, _⟩ | ⟨z, h1, h2, h3, h4, _⟩
  · rw [pickF, h1] at h; cases h
  · rw [pickF, h1] at h
    cases h
    exact ⟨h2.elim (fun e => by cases e) id, h3, h4⟩
/-- How much two numbers differ. -/
def gapZ (a b : Int) : Int := if b < a then a - b else b - a
/-- Where a shard can be split: the key, and the load below it. -/
def cutsL (load : Int) : Int → List Sp → List (Int × Int)
  | _, [] => []
  | s, p :: t => if 0 < p.2 ∧ s + p.2 < load then (p.1 + 1, s + p.2) :: cutsL load (s + p.2) t else cutsL load (s + p.2) t
def mC (load : Int) (y : Int × Int) : Int := -gapZ y.2 (load - y.2)
def cutF (l : List Sp) (lo hi : Int) : Option (Int × Int) := bestF (mC (sumK l lo hi)) (cutsL (sumK l lo hi) 0 (l.filter (inK lo hi)))
/-- The same, key by key, as the document has it: the key, and how much the parts differ. -/
def lessO (x : Int) (o : Option (Int × Int)) : Bool := match o with
  | none => true
  | some y => decide (x < y.2)
def stepR (l : List Sp) (lo hi : Int) (o : Option (Int × Int)) (p : Sp) : Option (Int × Int) :=
  if lo < p.1 + 1 ∧ p.1 + 1 < hi then
    (if (0 < sumK l lo (p.1 + 1) ∧ 0 < sumK l (p.1 + 1) hi) ∧ lessO (gapZ (sumK l lo (p.1 + 1)) (sumK l (p.1 + 1) hi)) o = true then some (p.1 + 1, gapZ (sumK l lo (p.1 + 1)) (sumK l (p.1 + 1) hi)) else o)
  else o
def cutR (l : List Sp) (lo hi : Int) : Option (Int × Int) := l.foldl (stepR l lo hi) none
theorem sumK_pre {P t : List Sp} {p : Sp} {lo hi : Int} (h : tblB (P ++ p :: t) = true) (h1 : lo ≤ p.1) (h2 : p.1 < hi) : sumK (P ++ p :: t) lo (p.1 + 1) = valS (P.filter (inK lo hi)) + p.2 := by
  obtain ⟨h3, h4⟩ := tblF_after P t p (-1) h
  unfold sumK
  rw [List.filter_append, List.filter_cons, if_pos ((inK_iff lo (p.1 + 1) p).2 (And.intro h1 (by omega)))]
  rw [show t.filter (inK lo (p.1 + 1)) = [] from List.filter_eq_nil_iff.2 fun q hq => by rw [inK_iff]; have := h4 q hq; omega]
  rw [show P.filter (inK lo (p.1 + 1)) = P.filter (inK lo hi) from List.filter_congr fun q hq => by
    have := h3 q hq
    have e1 : inK lo (p.1 + 1) q = (decide (lo ≤ q.1) && decide (q.1 < p.1 + 1)) := rfl
    have e2 : inK lo hi q = (decide (lo ≤ q.1) && decide (q.1 < hi)) := rfl
    rw [e1, e2, decide_eq_true (show q.1 < p.1 + 1 by omega), decide_eq_true (show q.1 < hi by omega)]]
  rw [valS_append]
  simp [valS]
theorem cut_go (l : List Sp) (lo hi : Int) (hl : loadB l = true) : ∀ (t P : List Sp) (o : Option (Int × Int)), l = P ++ t → 
    (0 < valS (P.filter (inK lo hi)) ∧ valS (P.filter (inK lo hi)) < sumK l lo hi → ∃ y, o = some y ∧ gapZ y.2 (sumK l lo hi - y.2) ≤ gapZ (valS (P.filter (inK lo hi))) (sumK l lo hi - valS (P.filter (inK lo hi)))) →
    t.foldl (stepR l lo hi) (o.map fun y => (y.1, gapZ y.2 (sumK l lo hi - y.2))) = ((cutsL (sumK l lo hi) (valS (P.filter (inK lo hi))) (t.filter (inK lo hi))).foldl (stepBa (mC (sumK l lo hi))) o).map fun y => (y.1, gapZ y.2 (sumK l lo hi - y.2))
  | [], P, o, _, _ => rfl
  | p :: t, P, o, e, hI => by
    obtain ⟨S, hS⟩ : ∃ S, valS (P.filter (inK lo hi)) = S := ⟨_, rfl⟩
    obtain ⟨T, hT⟩ : ∃ T, sumK l lo hi = T := ⟨_, rfl⟩
    have hp0 : 0 ≤ p.2 := (loadB_iff.1 hl).1 p (by rw [e]; simp)
    have ht : tblB (P ++ p :: t) = true := e ▸ (loadB_iff.1 hl).2
    have hS0 : 0 ≤ S := by rw [← hS]; exact (load_sub hl (List.Sublist.trans List.filter_sublist (by rw [e]; exact List.sublist_append_left _ _))).1
    have hPp : valS ((P ++ [p]).filter (inK lo hi)) = if inK lo hi p = true then S + p.2 else S := by
      rw [List.filter_append, valS_append, hS, List.filter_cons]
      split <;> simp [valS]
    have ih := cut_go l lo hi hl t (P ++ [p])
    rw [hPp] at ih
    rw [hS, hT] at hI ⊢
    rw [hT] at ih
    rw [List.foldl_cons, List.filter_cons]
    cases hin : inK lo hi p
    · rw [hin] at ih
      simp only [Bool.false_eq_true, if_false] at ih ⊢
      have hno : stepR l lo hi (o.map fun y => (y.1, gapZ y.2 (T - y.2))) p = o.map fun y => (y.1, gapZ y.2 (T - y.2)) := by
        unfold stepR
        rw [if_neg]
        intro ⟨q1, q2⟩
        have : inK lo hi p = true := (inK_iff _ _ _).2 ⟨by omega, by omega⟩
        rw [hin] at this; cases this
      rw [hno]
      exact ih o (by rw [e]; simp) hI
    · rw [hin] at ih
      simp only [if_true] at ih ⊢
      obtain ⟨g1, g2⟩ := (inK_iff _ _ _).1 hin
      have ha : sumK l lo (p.1 + 1) = S + p.2 := by rw [e, sumK_pre ht g1 g2, hS]
      have hb : sumK l (p.1 + 1) hi = T - (S + p.2) := by
        have := sumK_split l lo (p.1 + 1) hi (by omega) (by omega)
        rw [ha, hT] at this
        omega
      have hb0 := (sumK_bd hl (p.1 + 1) hi).1
      rw [hb] at hb0
      rw [show cutsL T S (p :: t.filter (inK lo hi)) = if 0 < p.2 ∧ S + p.2 < T then (p.1 + 1, S + p.2) :: cutsL T (S + p.2) (t.filter (inK lo hi)) else cutsL T (S + p.2) (t.filter (inK lo hi)) from rfl]
      by_cases hc : 0 < p.2 ∧ S + p.2 < T
      · rw [if_pos hc, List.foldl_cons]
        have hk : p.1 + 1 < hi := by
          rcases Int.lt_or_le (p.1 + 1) hi with q | q
          · exact q
          · have : sumK l (p.1 + 1) hi = 0 := by
              unfold sumK
              rw [show l.filter (inK (p.1 + 1) hi) = [] from List.filter_eq_nil_iff.2 fun q' _ => by rw [inK_iff]; omega]
              rfl
            omega
        have hstep : stepR l lo hi (o.map fun y => (y.1, gapZ y.2 (T - y.2))) p = (stepBa (mC T) o (p.1 + 1, S + p.2)).map fun y => (y.1, gapZ y.2 (T - y.2)) := by
          unfold stepR
          rw [if_pos ⟨by omega, hk⟩, ha, hb]
          cases o with
          | none =>
            rw [if_pos ⟨⟨by omega, by omega⟩, rfl⟩]
            rfl
          | some z =>
            obtain ⟨z1, z2⟩ := z
            show (if (0 < S + p.2 ∧ 0 < T - (S + p.2)) ∧ decide (gapZ (S + p.2) (T - (S + p.2)) < gapZ z2 (T - z2)) = true then _ else _) = Option.map _ (if -gapZ z2 (T - z2) < -gapZ (S + p.2) (T - (S + p.2)) then _ else _)
            by_cases hd : gapZ (S + p.2) (T - (S + p.2)) < gapZ z2 (T - z2)
            · rw [if_pos ⟨⟨by omega, by omega⟩, decide_eq_true hd⟩, if_pos (by omega)]; try rfl
            · rw [if_neg (fun q => hd (of_decide_eq_true q.2)), if_neg (by omega)]; try rfl
        rw [hstep]
        refine ih _ (by rw [e]; simp) fun _ => ?_
        cases o with
        | none => exact ⟨_, rfl, Int.le_refl _⟩
        | some z =>
          show ∃ y, (if mC T z < mC T (p.1 + 1, S + p.2) then some (p.1 + 1, S + p.2) else some z) = some y ∧ _
          by_cases hd : mC T z < mC T (p.1 + 1, S + p.2)
          · rw [if_pos hd]; exact ⟨_, rfl, Int.le_refl _⟩
          · rw [if_neg hd]; refine ⟨_, rfl, ?_⟩
            have e1 : mC T z = -gapZ z.2 (T - z.2) := rfl
            have e2 : mC T (p.1 + 1, S + p.2) = -gapZ (S + p.2) (T - (S + p.2)) := rfl
            rw [e1, e2] at hd
            omega
      · rw [if_neg hc]
        have hstep : stepR l lo hi (o.map fun y => (y.1, gapZ y.2 (T - y.2))) p = o.map fun y => (y.1, gapZ y.2 (T - y.2)) := by
          unfold stepR
          by_cases hk : lo < p.1 + 1 ∧ p.1 + 1 < hi
          · rw [if_pos hk, ha, hb]
            by_cases hz : 0 < p.2
            · rw [if_neg]; intro q; omega
            · by_cases hs : 0 < S ∧ S < T
              · obtain ⟨y, rfl, hy⟩ := hI hs
                rw [if_neg]
                intro ⟨_, q⟩
                have q' : gapZ (S + p.2) (T - (S + p.2)) < gapZ y.2 (T - y.2) := of_decide_eq_true q
                rw [show S + p.2 = S by omega] at q'
                omega
              · rw [if_neg]; intro q; omega
          · rw [if_neg hk]
        rw [hstep]
        refine ih o (by rw [e]; simp) fun hq => ?_
        have hz : p.2 = 0 := by omega
        rw [show S + p.2 = S by omega]
        exact hI (by omega)
theorem cutR_is {l : List Sp} (lo hi : Int) (hl : loadB l = true) : cutR l lo hi = (cutF l lo hi).map fun y => (y.1, gapZ y.2 (sumK l lo hi - y.2)) := by
  have := cut_go l lo hi hl l [] none rfl (fun h => absurd h.1 (by simp [valS]))
  exact this
/-- A shard and its load. -/
abbrev It := Sd × Int
def itsB (l : List Sp) (sd : List Sd) : List It := sd.map fun s => (s, sumK l s.2.1 s.2.2.1)
theorem itsB_len (l : List Sp) (sd : List Sd) : (itsB l sd).length = sd.length := List.length_map _
theorem itsB_get {l : List Sp} {sd : List Sd} {j : Nat} (h : j < sd.length) : (itsB l sd)[j]! = (sd[j]!, sumK l sd[j]!.2.1 sd[j]!.2.2.1) := by
  rw [getElem!_pos (itsB l sd) j (by rw [itsB_len]; exact h), getElem!_pos sd j h]
  unfold itsB
  rw [List.getElem_map]
theorem itsB_mem {l : List Sp} {sd : List Sd} {x : It} (h : x ∈ itsB l sd) : x.1 ∈ sd ∧ x.2 = sumK l x.1.2.1 x.1.2.2.1 := by
  unfold itsB at h
  obtain ⟨s, hs, rfl⟩ := List.mem_map.1 h
  exact ⟨hs, rfl⟩
def heavyB (l : List Sp) (high : Int) (x : It) : Bool := decide (high < x.2) && (cutF l x.1.2.1 x.1.2.2.1).isSome
def splitC (l : List Sp) (sd : List Sd) (high : Int) : Option Gd :=
  if 24 ≤ sd.length then none else match pickF (heavyB l high) (fun x => x.2) (itsB l sd) with
  | none => none
  | some x => some (1, x.1.1, ((cutF l x.1.2.1 x.1.2.2.1).getD (0, 0)).1)
def nodeS (k : Int) : List It → Int
  | [] => 0
  | x :: t => (if x.1.2.2.2 = k then x.2 else 0) + nodeS k t
def nodesB (its : List It) (n : Nat) : List Int := (List.range n).map fun k : Nat => nodeS (k : Int) its
theorem nodesB_len (its : List It) (n : Nat) : (nodesB its n).length = n := by unfold nodesB; simp
theorem nodesB_get {its : List It} {n k : Nat} (h : k < n) : (nodesB its n)[k]! = nodeS (k : Int) its := by
  rw [getElem!_pos (nodesB its n) k (by rw [nodesB_len]; exact h)]
  unfold nodesB
  rw [List.getElem_map, List.getElem_range]
theorem nodeS_append (k : Int) (a b : List It) : nodeS k (a ++ b) = nodeS k a + nodeS k b := by
  induction a with
  | nil => simp [nodeS]
  | cons x t ih => simp only [List.cons_append, nodeS, ih]; omega
/-- The place of the first greatest number. -/
def topI (S : List Int) : Nat := (bestF (fun k : Nat => S[k]!) (List.range S.length)).getD 0
def lowI (S : List Int) : Nat := (bestF (fun k : Nat => -S[k]!) (List.range S.length)).getD 0
def fitB (f : Int) (gap : Int) (x : It) : Bool := x.1.2.2.2 == f && (decide (0 < x.2) && decide (x.2 < gap))
def shiftC (its : List It) (S : List Int) (slack : Int) : Option Gd :=
  if S[topI S]! - S[lowI S]! ≤ slack then none else match pickF (fitB (topI S : Int) (S[topI S]! - S[lowI S]!)) (fun x => x.2) its with
  | none => none
  | some x => some (3, x.1.1, (lowI S : Int))
def winB (its : List It) : List (It × It) := (List.range (its.length - 1)).map fun i => (its[i]!, its[i + 1]!)
def lightB (low : Int) (x : It × It) : Bool := x.1.1.2.2.2 == x.2.1.2.2.2 && decide (x.1.2 + x.2.2 ≤ low)
def mergeC (its : List It) (low : Int) : Option Gd := match pickF (lightB low) (fun x => -(x.1.2 + x.2.2)) (winB its) with
  | none => none
  | some x => some (2, x.1.1.1, 0)
/-- A policy: High, Low, Slack. -/
abbrev Po := Int × Int × Int
def polB (p : Po) : Bool := decide (0 ≤ p.2.1 ∧ p.2.1 ≤ p.1 ∧ p.1 ≤ 1099511627776 ∧ 0 ≤ p.2.2 ∧ p.2.2 ≤ 1099511627776)
def firstG (l : List Sp) (sd : List Sd) (n : Nat) (p : Po) : Option Gd := match splitC l sd p.1 with
  | some x => some x
  | none => match shiftC (itsB l sd) (nodesB (itsB l sd) n) p.2.2 with
    | some x => some x
    | none => mergeC (itsB l sd) p.2.1
theorem best_isSome {α : Type} (m : α → Int) : ∀ (l : List α), l ≠ [] → (bestF m l).isSome = true := fun l hl => by
  have hf : l.filter (fun _ => true) = l := List.filter_eq_self.2 fun _ _ => rfl
  have := best_filter (fun _ => true) m l
  rw [hf] at this
  rw [this]
  cases h : pickF (fun _ => true) m l with
  | some _ => rfl
  | none =>
    cases l with
    | nil => exact absurd rfl hl
    | cons x t => have := pick_none.1 h x (by simp); cases this
theorem best_some {α : Type} {m : α → Int} {l : List α} {x : α} (h : bestF m l = some x) : x ∈ l ∧ ∀ y ∈ l, m y ≤ m x := by
  have hf : l.filter (fun _ => true) = l := List.filter_eq_self.2 fun _ _ => rfl
  have := best_filter (fun _ => true) m l
  rw [hf] at this
  rw [this] at h
  obtain ⟨h1, _, h3⟩ := pick_some h
  exact ⟨h1, fun y hy => h3 y hy rfl⟩
theorem topI_spec {S : List Int} (h : S ≠ []) : topI S < S.length ∧ ∀ k, k < S.length → S[k]! ≤ S[topI S]! := by
  have hr : List.range S.length ≠ [] := by intro e; exact h (List.eq_nil_of_length_eq_zero (by have := congrArg List.length e; simpa using this))
  obtain ⟨x, hx⟩ := Option.isSome_iff_exists.1 (best_isSome (fun k : Nat => S[k]!) _ hr)
  obtain ⟨h1, h2⟩ := best_some hx
  have e : topI S = x := by unfold topI; rw [hx]; rfl
  rw [e]
  exact ⟨List.mem_range.1 h1, fun k hk => h2 k (List.mem_range.2 hk)⟩
theorem lowI_spec {S : List Int} (h : S ≠ []) : lowI S < S.length ∧ ∀ k, k < S.length → S[lowI S]! ≤ S[k]! := by
  have hr : List.range S.length ≠ [] := by intro e; exact h (List.eq_nil_of_length_eq_zero (by have := congrArg List.length e; simpa using this))
  obtain ⟨x, hx⟩ := Option.isSome_iff_exists.1 (best_isSome (fun k : Nat => -S[k]!) _ hr)
  obtain ⟨h1, h2⟩ := best_some hx
  have e : lowI S = x := by unfold lowI; rw [hx]; rfl
  rw [e]
  exact ⟨List.mem_range.1 h1, fun k hk => by have := h2 k (List.mem_range.2 hk); omega⟩
/-- A place that goes along. -/
def stepI (m : Nat → Int) (f : Nat) (k : Nat) : Nat := if m f < m k then k else f
theorem bestI (m : Nat → Int) : ∀ n : Nat, (bestF m (List.range n)).getD 0 = (List.range n).foldl (stepI m) 0
  | 0 => rfl
  | n + 1 => by
    have ih := bestI m n
    rw [List.range_succ, best_snoc, List.foldl_append, ← ih]
    cases hb : bestF m (List.range n) with
    | none =>
      have hn : n = 0 := by
        cases n with
        | zero => rfl
        | succ k => have := best_isSome m (List.range (k + 1)) (by simp [List.range_succ]); rw [hb] at this; cases this
      subst hn
      show (0 : Nat) = stepI m 0 0
      unfold stepI
      split <;> rfl
    | some x =>
      show (if m x < m n then some n else some x).getD 0 = stepI m x n
      unfold stepI
      split <;> rfl
theorem valS_nonneg (l : List Sp) (h : ∀ p ∈ l, 0 ≤ p.2) : 0 ≤ valS l := by
  induction l with
  | nil => exact Int.le_refl _
  | cons p t ih => have := h p (by simp); have := ih fun q hq => h q (by simp [hq]); simp only [valS]; omega
/-- A cut is a key within the span, and both parts weigh. -/
theorem cutsL_mem (load : Int) : ∀ (t : List Sp) (s : Int) (y : Int × Int), (∀ p ∈ t, 0 ≤ p.2) → 0 ≤ s → y ∈ cutsL load s t → ∃ P Q p, t = P ++ p :: Q ∧ y = (p.1 + 1, s + valS P + p.2) ∧ 0 < p.2 ∧ s + valS P + p.2 < load
  | [], _, _, _, _, h => absurd h (by simp [cutsL])
  | q :: t, s, y, hn, hs, h => by
    have hq := hn q (by simp)
    have hn' : ∀ p ∈ t, 0 ≤ p.2 := fun p hp => hn p (by simp [hp])
    unfold cutsL at h
    split at h
    · rename_i hc
      rcases List.mem_cons.1 h with rfl | h
      · exact ⟨[], t, q, rfl, by simp [valS], hc.1, by simp [valS]; omega⟩
      · obtain ⟨P, Q, p, rfl, rfl, h1, h2⟩ := cutsL_mem load t (s + q.2) y hn' (by omega) h
        exact ⟨q :: P, Q, p, rfl, by simp only [valS]; congr 1; omega, h1, by simp only [valS]; omega⟩
    · obtain ⟨P, Q, p, rfl, rfl, h1, h2⟩ := cutsL_mem load t (s + q.2) y hn' (by omega) h
      exact ⟨q :: P, Q, p, rfl, by simp only [valS]; congr 1; omega, h1, by simp only [valS]; omega⟩
theorem cutF_some {l : List Sp} {lo hi : Int} {y : Int × Int} (hl : loadB l = true) (h : cutF l lo hi = some y) : lo < y.1 ∧ y.1 < hi ∧ 0 < sumK l lo y.1 ∧ 0 < sumK l y.1 hi ∧ sumK l lo y.1 + sumK l y.1 hi = sumK l lo hi := by
  obtain ⟨hy, _⟩ := best_some h
  have h0 : ∀ p ∈ l.filter (inK lo hi), 0 ≤ p.2 := fun p hp => (loadB_iff.1 hl).1 p (List.mem_filter.1 hp).1
  obtain ⟨P, Q, p, e, rfl, h1, h2⟩ := cutsL_mem _ _ 0 y h0 (Int.le_refl _) hy
  have hp : p ∈ l.filter (inK lo hi) := by rw [e]; simp
  obtain ⟨hpl, hin⟩ := List.mem_filter.1 hp
  obtain ⟨g1, g2⟩ := (inK_iff _ _ _).1 hin
  obtain ⟨A, B, rfl⟩ := List.append_of_mem hpl
  have hs := sumK_pre (loadB_iff.1 hl).2 g1 g2
  have hS : valS (A.filter (inK lo hi)) + p.2 = 0 + valS P + p.2 := by
    rw [List.filter_append, List.filter_cons, if_pos hin] at e
    have hAB := tblF_after A B p (-1) (loadB_iff.1 hl).2
    have key : ∀ (X Y : List Sp) (Z W : List Sp), X ++ p :: Y = Z ++ p :: W → (∀ q ∈ X, q.1 < p.1) → (∀ q ∈ Y, p.1 < q.1) → X = Z := by
      intro X
      induction X with
      | nil =>
        intro Y Z W e hX hY
        cases Z with
        | nil => rfl
        | cons z Z =>
          exfalso
          rw [List.nil_append, List.cons_append] at e
          injection e with e1 e2
          have := hY p (by rw [e2]; simp)
          omega
      | cons x X ih =>
        intro Y Z W e hX hY
        cases Z with
        | nil =>
          exfalso
          rw [List.nil_append, List.cons_append] at e
          injection e with e1 e2
          have := hX x (by simp)
          rw [e1] at this
          omega
        | cons z Z =>
          rw [List.cons_append, List.cons_append] at e
          injection e with e1 e2
          rw [e1, ih Y Z W e2 (fun q hq => hX q (by simp [hq])) hY]
    rw [key _ _ _ _ e (fun q hq => hAB.1 q (List.mem_filter.1 hq).1) (fun q hq => hAB.2 q (List.mem_filter.1 hq).1)]
    omega
  have hsum : sumK (A ++ p :: B) lo (p.1 + 1) + sumK (A ++ p :: B) (p.1 + 1) hi = sumK (A ++ p :: B) lo hi := sumK_split _ _ _ _ (by omega) (by omega)
  have hP0 : 0 ≤ valS P := valS_nonneg P fun q hq => h0 q (by rw [e]; simp [hq])
  have hlt : 0 < sumK (A ++ p :: B) (p.1 + 1) hi := by omega
  refine ⟨by dsimp only; omega, ?_, by dsimp only; omega, hlt, hsum⟩
  dsimp only
  rcases Int.lt_or_le (p.1 + 1) hi with q | q
  · exact q
  · have : sumK (A ++ p :: B) (p.1 + 1) hi = 0 := by
      unfold sumK
      rw [show (A ++ p :: B).filter (inK (p.1 + 1) hi) = [] from List.filter_eq_nil_iff.2 fun q' _ => by rw [inK_iff]; omega]
      rfl
    omega
/-- Of two keys that weigh, the first one cuts. -/
theorem cutsL_two (load : Int) : ∀ (t : List Sp) (s : Int), (∀ p ∈ t, 0 ≤ p.2) → s + valS t = load → 1 < (t.filter fun p => decide (0 < p.2)).length → cutsL load s t ≠ []
  | [], _, _, _, h => absurd h (by simp)
  | q :: t, s, hn, he, h => by
    have hn' : ∀ p ∈ t, 0 ≤ p.2 := fun p hp => hn p (by simp [hp])
    have hv : valS (q :: t) = q.2 + valS t := rfl
    unfold cutsL
    by_cases hc : 0 < q.2 ∧ s + q.2 < load
    · rw [if_pos hc]; simp
    · rw [if_neg hc]
      rw [List.filter_cons] at h
      by_cases hq : 0 < q.2
      · exfalso
        rw [decide_eq_true hq, if_pos rfl, List.length_cons] at h
        have : valS t ≤ 0 := by omega
        have hz : t.filter (fun p => decide (0 < p.2)) = [] := by
          clear h hc hq he hv hn
          induction t with
          | nil => rfl
          | cons x t ih =>
            have hx := hn' x (by simp)
            have ht := valS_nonneg t fun p hp => hn' p (by simp [hp])
            simp only [valS] at this
            rw [List.filter_cons, decide_eq_false (by omega : ¬ 0 < x.2), if_neg (by simp)]
            exact ih (fun p hp => hn' p (by simp [hp])) (by omega)
        rw [hz] at h
        simp at h
      · rw [decide_eq_false hq, if_neg (by simp)] at h
        exact cutsL_two load t (s + q.2) hn' (by omega) h
theorem cutF_two {l : List Sp} {lo hi : Int} (hl : loadB l = true) (h : 1 < (l.filter fun p => inK lo hi p && decide (0 < p.2)).length) : (cutF l lo hi).isSome = true := by
  refine best_isSome _ _ (cutsL_two _ _ 0 (fun p hp => (loadB_iff.1 hl).1 p (List.mem_filter.1 hp).1) (by unfold sumK; omega) ?_)
  rw [List.filter_filter]
  rw [show (fun p : Sp => decide (0 < p.2) && inK lo hi p) = fun p => inK lo hi p && decide (0 < p.2) from by funext p; exact Bool.and_comm _ _]
  exact h
end Go.Proofs.Ytihpojllalnmcaa
