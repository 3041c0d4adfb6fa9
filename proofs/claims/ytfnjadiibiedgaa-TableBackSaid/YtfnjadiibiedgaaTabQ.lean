/-
  TABLES, plain: what a mutation makes of each key's cell.
-/
import Derived.Test.YtfnjadiibiedgaaTabP
import Derived.Test.YtfnjadiibiedgaaTch
namespace Go.Proofs.Ytfnjadiibiedgaa
open Go.RowKit Go.Shelf

def cutS (s : Sp) (on : List Sp) : List Sp := (on.map fun t => (max s.1 t.1, min s.2 t.2)).filter oneB
theorem inB_cut {s t : Sp} (hs : oneB s = true) (ht : oneB t = true) (j : Int) : inB (max s.1 t.1, min s.2 t.2) j = (inB s j && inB t j) := by
  have h1 := (oneB_iff s).1 hs
  have h2 := (oneB_iff t).1 ht
  rw [Bool.eq_iff_iff, Bool.and_eq_true, inB_iff, inB_iff, inB_iff]
  dsimp only
  omega
theorem inB_one {s : Sp} {j : Int} (h : oneB s = false) : inB s j = false := by unfold inB; rw [h]; rfl
theorem cutS_has {s : Sp} (hs : oneB s = true) : ∀ (on : List Sp), (∀ t ∈ on, oneB t = true) → ∀ j, hasB (cutS s on) j = (inB s j && hasB on j)
  | [], _, j => by unfold cutS; simp [hasB_nil]
  | t :: u, h, j => by
    have ih := cutS_has hs u (fun x hx => h x (List.mem_cons_of_mem _ hx)) j
    have hc := inB_cut hs (h t List.mem_cons_self) j
    have e : cutS s (t :: u) = if oneB (max s.1 t.1, min s.2 t.2) = true then (max s.1 t.1, min s.2 t.2) :: cutS s u else cutS s u := by
      unfold cutS
      rw [List.map_cons, List.filter_cons]
    rw [e, hasB_cons, Bool.and_or_distrib_left, ← hc, ← ih]
    cases ho : oneB (max s.1 t.1, min s.2 t.2)
    · rw [inB_one ho]; simp
    · rw [if_pos rfl, hasB_cons]
theorem meet_len {s : Sp} {on : List Sp} (hs : oneB s = true) (ho : chkB on = true) : (setOf fun j => inB s j && hasB on j).length ≤ 64 := by
  obtain ⟨hc, hl⟩ := chkB_can ho
  have e : (setOf fun j => inB s j && hasB on j) = setOf (hasB (cutS s on)) := setOf_congr fun k _ _ => (cutS_has hs on (canB_all hc) k).symm
  have hm := merge_len (cutS s on) (by unfold cutS; rw [List.all_eq_true]; intro x hx; exact (List.mem_filter.1 hx).2)
  have hf : (cutS s on).length ≤ on.length := by
    unfold cutS
    exact Nat.le_trans (List.length_filter_le _ _) (by simp)
  rw [e]
  omega
theorem canB_sing {s : Sp} (h : oneB s = true) : canB (-1) [s] = true := by
  have := (oneB_iff s).1 h
  exact (canB_cons (-1) s []).2 ⟨this, by omega, rfl⟩
theorem meet_one {s : Sp} {on : List Sp} (hs : oneB s = true) (ho : chkB on = true) : meetP [s] on = (setOf fun j => inB s j && hasB on j, 0) := by
  have h1 : chkB [s] = true := by unfold chkB; rw [canB_sing hs]; rfl
  unfold meetP mixP
  rw [if_pos ⟨h1, ho⟩]
  have e : (setOf fun j => hasB [s] j && hasB on j) = setOf fun j => inB s j && hasB on j := setOf_congr fun k _ _ => by rw [hasB_cons, hasB_nil, Bool.or_false]
  rw [e]
  unfold limP
  rw [if_pos (meet_len hs ho)]

theorem get_any : ∀ (ps : List Sp) (key : Int), (ps.any fun p => p.1 == key) = (getT ps key).isSome
  | [], _ => rfl
  | p :: t, key => by
    rw [List.any_cons, get_any t key]
    show (p.1 == key || (getT t key).isSome) = (if p.1 = key then some p.2 else getT t key).isSome
    by_cases h : p.1 = key
    · rw [if_pos h]; simp [h]
    · rw [if_neg h]; simp [h]

/-- What appT makes, cell by cell. -/
def Does (l R : List Sp) (k : Int) (ps : List Sp) (lo hi old : Int) (on : List Sp) : Prop :=
  ∀ key, if (touchesB k ps lo hi key && hasB on key) = true then cellV k old ps key (getT l key) = some (getT R key) else getT R key = getT l key
def Fails (l R : List Sp) (k : Int) (ps : List Sp) (old : Int) (on : List Sp) : Prop :=
  R = l ∧ (k = 3 ∨ k = 4) ∧ ∃ p, ps = [p] ∧ hasB on p.1 = true ∧ cellV k old ps p.1 (getT l p.1) = none

theorem fits_cases {k : Int} {l : List Sp} {lo hi old : Int} (h : fitsB k l lo hi old = true) :
    (k = 1 ∧ okPs l = true ∧ riseB l = true ∧ 1 ≤ l.length ∧ l.length ≤ 8) ∨ (k = 2 ∧ l = [] ∧ oneB (lo, hi) = true) ∨ ((k = 3 ∨ k = 4) ∧ ∃ p, l = [p] ∧ okP p = true) ∨ (k = 5 ∧ ∃ p q, l = [p, q] ∧ okP p = true ∧ okP q = true ∧ p.1 ≠ q.1 ∧ p.2 = q.2 ∧ 0 ≤ p.2) := by
  unfold fitsB at h
  by_cases k1 : k = 1
  · rw [if_pos k1, Bool.and_eq_true, Bool.and_eq_true] at h
    have := of_decide_eq_true h.1.1
    exact .inl ⟨k1, h.1.2, h.2, by omega, by omega⟩
  · rw [if_neg k1] at h
    by_cases k2 : k = 2
    · rw [if_pos k2, Bool.and_eq_true] at h
      exact .inr (.inl ⟨k2, List.eq_nil_of_length_eq_zero (by simpa using h.1), h.2⟩)
    · rw [if_neg k2] at h
      by_cases k3 : k = 3
      · rw [if_pos k3, Bool.and_eq_true] at h
        match l, h with
        | [p], h => exact .inr (.inr (.inl ⟨.inl k3, p, rfl, by simpa [okPs] using h.2⟩))
        | [], h => simp at h
        | _ :: _ :: _, h => simp at h
      · rw [if_neg k3] at h
        by_cases k4 : k = 4
        · rw [if_pos k4, Bool.and_eq_true, Bool.and_eq_true] at h
          match l, h with
          | [p], h => exact .inr (.inr (.inl ⟨.inr k4, p, rfl, by simpa [okPs] using h.1.2⟩))
          | [], h => simp at h
          | _ :: _ :: _, h => simp at h
        · rw [if_neg k4] at h
          by_cases k5 : k = 5
          · rw [if_pos k5, Bool.and_eq_true, Bool.and_eq_true] at h
            match l, h with
            | [p, q], h =>
              obtain ⟨⟨_, h2⟩, h3⟩ := h
              have h2' : okP p = true ∧ okP q = true := by simpa [okPs] using h2
              have h3' : ((p.1 != q.1) && (p.2 == q.2) && decide (0 ≤ p.2)) = true := h3
              rw [Bool.and_eq_true, Bool.and_eq_true] at h3'
              exact .inr (.inr (.inr ⟨k5, p, q, rfl, h2'.1, h2'.2, by simpa using h3'.1.1, by simpa using h3'.1.2, by simpa using h3'.2⟩))
            | [], h => simp at h
            | [_], h => simp at h
            | _ :: _ :: _ :: _, h => simp at h
          · rw [if_neg k5] at h
            cases h

theorem appT_get {c s k : Int} {ps : List Sp} {lo hi old : Int} {l on : List Sp} (hc : chkM c s k ps lo hi old = true) (hl : tblB l = true) :
    tblB (appT l k ps lo hi old on).1 = true ∧
    (((appT l k ps lo hi old on).2 = true ∧ Does l (appT l k ps lo hi old on).1 k ps lo hi old on) ∨ ((appT l k ps lo hi old on).2 = false ∧ Fails l (appT l k ps lo hi old on).1 k ps old on)) := by
  rcases fits_cases (chkM_and hc).2.2.2 with ⟨k1, ho, hr, h1, h8⟩ | ⟨k2, rfl, hone⟩ | ⟨k34, p, rfl, hp⟩ | ⟨k5, p, q, rfl, hp, hq, hne, hpq, h0⟩
  · have e : appT l k ps lo hi old on = appP k old on 0 ps l := if_neg (by omega)
    rw [e]
    refine ⟨tab_app k old on ps 0 l (fun p hp => ⟨List.all_eq_true.1 ho p hp, fun h => by omega⟩) hl, .inl ?_⟩
    have hrise : ∃ e, riseFrom e ps = true := by
      cases ps with
      | nil => exact ⟨0, rfl⟩
      | cons p t =>
        refine ⟨p.1 - 1, ?_⟩
        have h' : riseFrom p.1 t = true := hr
        show (decide (p.1 - 1 < p.1) && riseFrom p.1 t) = true
        rw [h', decide_eq_true (by omega)]
        rfl
    obtain ⟨e', he⟩ := hrise
    obtain ⟨a1, a2⟩ := app_put k old on (by omega) ps e' 0 l he
    refine ⟨a1, fun key => ?_⟩
    have ht : touchesB k ps lo hi key = (getT ps key).isSome := by unfold touchesB; rw [if_neg (by omega)]; exact get_any ps key
    rw [ht, a2 key]
    unfold cellV
    rw [if_neg (by omega : ¬ k = 2), if_neg (by omega : ¬ k = 5), if_neg (by omega : ¬ (k = 3 ∨ k = 4))]
    cases getT ps key <;> cases hasB on key <;> simp
  · subst k2
    have e : appT l 2 [] lo hi old on = (l.filter (fun p => !(inB (lo, hi) p.1 && hasB on p.1)), true) := if_pos rfl
    rw [e]
    refine ⟨tblF_filter _ l (-1) hl, .inl ⟨rfl, fun key => ?_⟩⟩
    have ht : touchesB 2 [] lo hi key = inB (lo, hi) key := by
      unfold touchesB inB
      rw [if_pos rfl, hone, Bool.true_and, Bool.eq_iff_iff, Bool.and_eq_true, decide_eq_true_iff, decide_eq_true_iff, decide_eq_true_iff]
    have hg := getT_filter (fun x => !(inB (lo, hi) x && hasB on x)) l key
    dsimp only at hg ⊢
    rw [hg, ht]
    unfold cellV
    rw [if_pos (rfl : (2 : Int) = 2)]
    cases (inB (lo, hi) key && hasB on key) <;> simp
  · have e : appT l k [p] lo hi old on = appP k old on 0 [p] l := if_neg (by omega)
    have ht : ∀ key, touchesB k [p] lo hi key = (p.1 == key) := fun key => by unfold touchesB; rw [if_neg (by omega)]; simp
    have hcell : ∀ key c, cellV k old [p] key c = (nextV k old 0 p c).map some := fun key c => by
      unfold cellV
      rw [if_neg (by omega : ¬ k = 2), if_neg (by omega : ¬ k = 5), if_pos k34]
      rfl
    refine ⟨by rw [e]; exact tab_app k old on [p] 0 l (fun x hx => by rw [List.mem_singleton.1 hx]; exact ⟨hp, fun h => by omega⟩) hl, ?_⟩
    rw [e]
    unfold appP
    by_cases ho : hasB on p.1 = true
    · rw [if_pos ho]
      cases hn : nextV k old 0 p (getT l p.1) with
      | none => exact .inr ⟨rfl, rfl, k34, p, rfl, ho, by rw [hcell, hn]; rfl⟩
      | some v =>
        refine .inl ⟨rfl, fun key => ?_⟩
        show if _ then _ = some (getT (putT l p.1 v) key) else getT (putT l p.1 v) key = _
        rw [ht key, getT_put]
        by_cases hk : p.1 = key
        · subst hk
          rw [if_pos (by rw [ho]; simp), if_pos rfl, hcell, hn]
          rfl
        · rw [if_neg (by simp [hk]), if_neg (fun e => hk e.symm)]
    · rw [if_neg ho]
      refine .inl ⟨rfl, fun key => ?_⟩
      show if _ then _ = some (getT l key) else getT l key = _
      rw [ht key]
      by_cases hk : p.1 = key
      · subst hk
        rw [if_neg (by simp [ho])]
      · rw [if_neg (by simp [hk])]
  · subst k5
    have e : appT l 5 [p, q] lo hi old on = appP 5 old on 0 [p, q] l := if_neg (by omega)
    have ht : ∀ key, touchesB 5 [p, q] lo hi key = (p.1 == key || q.1 == key) := fun key => by unfold touchesB; rw [if_neg (by omega)]; simp
    have hn0 : ∀ c, nextV 5 old 0 p c = some (max (c.getD 0 - p.2) (-1099511627776)) := fun c => rfl
    have hn1 : ∀ c, nextV 5 old 1 q c = some (min (c.getD 0 + p.2) 1099511627776) := fun c => by rw [hpq]; rfl
    have hn1' : ∀ c, nextV 5 old 1 p c = some (min (c.getD 0 + p.2) 1099511627776) := fun c => rfl
    refine ⟨by rw [e]; exact tab_app 5 old on [p, q] 0 l (fun x hx => by simp at hx; rcases hx with rfl | rfl; exact ⟨hp, fun _ => h0⟩; exact ⟨hq, fun _ => by omega⟩) hl, .inl ?_⟩
    rw [e]
    have hA : ∀ m, getT m q.1 = getT l q.1 → (appP 5 old on 1 [q] m).2 = true ∧ ∀ key, getT (appP 5 old on 1 [q] m).1 key = if key = q.1 ∧ hasB on q.1 = true then some (min ((getT l q.1).getD 0 + p.2) 1099511627776) else getT m key := by
      intro m hm
      unfold appP
      by_cases ho : hasB on q.1 = true
      · rw [if_pos ho, hn1, hm]
        refine ⟨rfl, fun key => ?_⟩
        show getT (putT m q.1 _) key = _
        rw [getT_put]
        by_cases hk : key = q.1
        · rw [if_pos hk, if_pos ⟨hk, ho⟩]
        · rw [if_neg hk, if_neg (fun x => hk x.1)]
      · rw [if_neg ho]
        exact ⟨rfl, fun key => by rw [if_neg (fun x => ho x.2)]; rfl⟩
    have hcell : ∀ key c, cellV 5 old [p, q] key c = some (some (if p.1 = key then max (c.getD 0 - p.2) (-1099511627776) else min (c.getD 0 + p.2) 1099511627776)) := fun key c => by
      unfold cellV
      rw [if_neg (by omega : ¬ (5 : Int) = 2), if_pos (rfl : (5 : Int) = 5)]
      show (nextV 5 old (if p.1 = key then 0 else 1) p c).map some = _
      by_cases hk : p.1 = key
      · rw [if_pos hk, if_pos hk]; rfl
      · rw [if_neg hk, if_neg hk]; rfl
    unfold appP
    by_cases ho : hasB on p.1 = true
    · rw [if_pos ho, hn0]
      obtain ⟨b1, b2⟩ := hA (putT l p.1 (max ((getT l p.1).getD 0 - p.2) (-1099511627776))) (by rw [getT_put, if_neg (fun x => hne x.symm)])
      refine ⟨b1, fun key => ?_⟩
      show if _ then _ = some (getT (appP 5 old on 1 [q] _).1 key) else getT (appP 5 old on 1 [q] _).1 key = _
      rw [b2 key, getT_put, ht key, hcell]
      by_cases hk : p.1 = key
      · subst hk
        rw [if_pos (by rw [ho]; simp), if_pos rfl, if_neg (fun x => hne x.1), if_pos rfl]
      · rw [if_neg hk]
        by_cases hk2 : q.1 = key
        · subst hk2
          cases hoq : hasB on q.1
          · rw [if_neg (by simp), if_neg (by simp), if_neg (fun x => hne x.symm)]
          · rw [if_pos (by simp), if_pos ⟨rfl, rfl⟩]
        · rw [if_neg (by simp [hk, hk2]), if_neg (fun x => hk2 x.1.symm), if_neg (fun x => hk x.symm)]
    · rw [if_neg ho]
      obtain ⟨b1, b2⟩ := hA l rfl
      refine ⟨b1, fun key => ?_⟩
      show if _ then _ = some (getT (appP 5 old on 1 [q] _).1 key) else getT (appP 5 old on 1 [q] _).1 key = _
      rw [b2 key, ht key, hcell]
      by_cases hk : p.1 = key
      · subst hk
        rw [if_neg (by simp [ho]), if_neg (fun x => hne x.1)]
      · rw [if_neg hk]
        by_cases hk2 : q.1 = key
        · subst hk2
          cases hoq : hasB on q.1
          · rw [if_neg (by simp), if_neg (by simp)]
          · rw [if_pos (by simp), if_pos ⟨rfl, rfl⟩]
        · rw [if_neg (by simp [hk, hk2]), if_neg (fun x => hk2 x.1.symm)]
end Go.Proofs.Ytfnjadiibiedgaa
