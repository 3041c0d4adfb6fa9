/-
  CONTRACT: table.Join, by plain tables: two tables in one.
-/
import Derived.Test.YtbpekloodjimoaaJo
namespace Go.Proofs.Ytbpekloodjimoaa
open Go.RowKit Go.Shelf

theorem tblF_iff : ∀ (l : List Sp) (e : Int), tblF e l = true ↔ (∀ x ∈ l, (e < x.1 ∧ x.1 < 4096) ∧ (-1099511627776 ≤ x.2 ∧ x.2 ≤ 1099511627776)) ∧ l.Pairwise fun x y => x.1 < y.1
  | [], e => by simp [tblF]
  | p :: t, e => by
    rw [tblF_cons, tblF_iff t p.1]
    constructor
    · rintro ⟨h1, h2, h3, h4⟩
      refine ⟨fun x hx => ?_, List.pairwise_cons.2 ⟨fun y hy => (h3 y hy).1.1, h4⟩⟩
      rcases List.mem_cons.1 hx with rfl | hx
      · exact ⟨h1, h2⟩
      · have := h3 x hx; omega
    · rintro ⟨h1, h2⟩
      obtain ⟨h3, h4⟩ := List.pairwise_cons.1 h2
      have hp := h1 p (List.mem_cons_self ..)
      exact ⟨hp.1, hp.2, fun x hx => by have := h1 x (List.mem_cons_of_mem _ hx); have := h3 x hx; omega, h4⟩
theorem getT_mem : ∀ (l : List Sp) (e k v : Int), tblF e l = true → (getT l k = some v ↔ (k, v) ∈ l)
  | [], e, k, v, _ => by simp [getT]
  | p :: t, e, k, v, h => by
    have h3 := ((tblF_iff (p :: t) e).1 h).2
    have h4 := (List.pairwise_cons.1 h3).1
    have ih := getT_mem t p.1 k v ((tblF_cons e p t).1 h).2.2
    unfold getT
    by_cases hk : p.1 = k
    · rw [if_pos hk]
      constructor
      · intro hv
        injection hv with hv
        subst hk; subst hv
        exact List.mem_cons_self ..
      · intro hm
        rcases List.mem_cons.1 hm with hm | hm
        · rw [← hm]
        · have := h4 _ hm; simp only at this; omega
    · rw [if_neg hk, ih]
      constructor
      · exact List.mem_cons_of_mem _
      · intro hm
        rcases List.mem_cons.1 hm with hm | hm
        · exact absurd (by rw [← hm]) hk
        · exact hm
/-- Two tables in one: those of the first put into the second. -/
def jnP (A B : List Sp) : List Sp := A.foldr (fun p l => putT l p.1 p.2) B
def shareB (A B : List Sp) : Bool := A.any fun p => (getT B p.1).isSome
def joinT (A B : List Sp) : List Sp × Int := if tblB A = true ∧ tblB B = true then (if shareB A B = true then ([], 7) else (jnP A B, 0)) else ([], 1)
theorem getT_jn : ∀ (A B : List Sp) (k : Int), getT (jnP A B) k = (getT A k).or (getT B k)
  | [], B, k => by simp [jnP, getT]
  | p :: t, B, k => by
    show getT (putT (jnP t B) p.1 p.2) k = _
    rw [getT_put, getT_jn t B k]
    show _ = Option.or (if p.1 = k then some p.2 else getT t k) (getT B k)
    by_cases hk : k = p.1
    · rw [if_pos hk, if_pos hk.symm]; rfl
    · rw [if_neg hk, if_neg (fun h => hk h.symm)]
theorem tblB_jn : ∀ (A B : List Sp), tblB B = true → (∀ x ∈ A, ((-1 : Int) < x.1 ∧ x.1 < 4096) ∧ (-1099511627776 ≤ x.2 ∧ x.2 ≤ 1099511627776)) → tblB (jnP A B) = true
  | [], _, h, _ => h
  | p :: t, B, h, hA => tblF_put _ _ _ _ (tblB_jn t B h fun x hx => hA x (List.mem_cons_of_mem _ hx)) (hA p (List.mem_cons_self ..)).1.1 (hA p (List.mem_cons_self ..)).1.2 ((isVal_iff _).2 (hA p (List.mem_cons_self ..)).2)
theorem share_iff {A B : List Sp} (hB : tblB B = true) : shareB A B = true ↔ ∃ x ∈ A, ∃ y ∈ B, x.1 = y.1 := by
  unfold shareB
  rw [List.any_eq_true]
  constructor
  · rintro ⟨x, hx, h⟩
    obtain ⟨v, hv⟩ := Option.isSome_iff_exists.1 h
    exact ⟨x, hx, (x.1, v), (getT_mem B (-1) _ _ hB).1 hv, rfl⟩
  · rintro ⟨x, hx, y, hy, hxy⟩
    refine ⟨x, hx, ?_⟩
    rw [(getT_mem B (-1) x.1 y.2 hB).2 (by rw [hxy]; exact hy)]
    rfl
/-- A list that holds what two tables hold, its keys rising, is the two in one, and no key is in both. -/
theorem jn_of {A B L : List Sp} (hA : tblB A = true) (hB : tblB B = true) (hp : L.Perm (A ++ B)) (hL : L.Pairwise fun x y => x.1 < y.1) : tblB L = true ∧ L = jnP A B ∧ shareB A B = false := by
  obtain ⟨a1, a2⟩ := (tblF_iff A (-1)).1 hA
  obtain ⟨b1, b2⟩ := (tblF_iff B (-1)).1 hB
  have hmem : ∀ x, x ∈ L ↔ x ∈ A ∨ x ∈ B := fun x => by rw [hp.mem_iff, List.mem_append]
  have hT : tblB L = true := (tblF_iff L (-1)).2 ⟨fun x hx => by rcases (hmem x).1 hx with h | h <;> (first | exact a1 x h | exact b1 x h), hL⟩
  have hne : ∀ x ∈ A, ∀ y ∈ B, x.1 ≠ y.1 := by
    have hnd : (L.map fun x => x.1).Pairwise (· ≠ ·) := by
      rw [List.pairwise_map]
      exact hL.imp fun h => by omega
    have h2 : ((A ++ B).map fun x => x.1).Pairwise (· ≠ ·) := (hp.map _).pairwise hnd fun h => h.symm
    rw [List.pairwise_map, List.pairwise_append] at h2
    exact h2.2.2
  have hS : shareB A B = false := by
    cases h : shareB A B with
    | false => rfl
    | true =>
      obtain ⟨x, hx, y, hy, e⟩ := (share_iff hB).1 h
      exact absurd e (hne x hx y hy)
  refine ⟨hT, tab_same hT (tblB_jn A B hB a1) fun k => ?_, hS⟩
  rw [getT_jn]
  cases hg : getT A k with
  | some v =>
    have := (getT_mem A (-1) k v hA).1 hg
    rw [(getT_mem L (-1) k v hT).2 ((hmem _).2 (.inl this))]
    rfl
  | none =>
    show _ = getT B k
    cases hb : getT B k with
    | some v =>
      have := (getT_mem B (-1) k v hB).1 hb
      exact (getT_mem L (-1) k v hT).2 ((hmem _).2 (.inr this))
    | none =>
      cases hl : getT L k with
      | none => rfl
      | some v =>
        rcases (hmem _).1 ((getT_mem L (-1) k v hT).1 hl) with h | h
        · rw [(getT_mem A (-1) k v hA).2 h] at hg; cases hg
        · rw [(getT_mem B (-1) k v hB).2 h] at hb; cases hb
theorem jn_sorted {A B L : List Sp} (hA : tblB A = true) (hB : tblB B = true) (hp : L.Perm (A ++ B)) (hL : L.Pairwise fun x y => x.1 ≤ y.1) : (tblB L = true ∧ joinT A B = (L, 0)) ∨ (tblB L = false ∧ joinT A B = ([], 7)) := by
  cases hT : tblB L with
  | true =>
    obtain ⟨_, h1, h2⟩ := jn_of hA hB hp ((tblF_iff L (-1)).1 hT).2
    refine .inl ⟨rfl, ?_⟩
    unfold joinT
    rw [if_pos ⟨hA, hB⟩, h2, if_neg (by simp), h1]
  | false =>
    refine .inr ⟨rfl, ?_⟩
    unfold joinT
    rw [if_pos ⟨hA, hB⟩]
    cases hs : shareB A B with
    | true => rfl
    | false =>
      exfalso
      obtain ⟨a1, a2⟩ := (tblF_iff A (-1)).1 hA
      obtain ⟨b1, b2⟩ := (tblF_iff B (-1)).1 hB
      have hmem : ∀ x, x ∈ L ↔ x ∈ A ∨ x ∈ B := fun x => by rw [hp.mem_iff, List.mem_append]
      have hne : ∀ x ∈ A, ∀ y ∈ B, x.1 ≠ y.1 := fun x hx y hy e => by
        rw [(share_iff hB).2 ⟨x, hx, y, hy, e⟩] at hs; cases hs
      have h2 : ((A ++ B).map fun x => x.1).Pairwise (· ≠ ·) := by
        rw [List.pairwise_map, List.pairwise_append]
        exact ⟨a2.imp fun h => by omega, b2.imp fun h => by omega, hne⟩
      have h3 : (L.map fun x => x.1).Pairwise (· ≠ ·) := (hp.map _).symm.pairwise h2 fun h => h.symm
      rw [List.pairwise_map] at h3
      have h4 : L.Pairwise fun x y => x.1 < y.1 := (hL.and h3).imp fun ⟨p, q⟩ => by omega
      rw [show tblB L = true from (tblF_iff L (-1)).2 ⟨fun x hx => by rcases (hmem x).1 hx with h | h <;> (first | exact a1 x h | exact b1 x h), h4⟩] at hT
      cases hT

end Go.Proofs.Ytbpekloodjimoaa
