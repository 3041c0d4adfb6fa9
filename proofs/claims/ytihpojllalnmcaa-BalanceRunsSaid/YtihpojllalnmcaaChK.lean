/-
  PLAIN: a number is given once: it comes, it stays, it goes.
-/
import Derived.Test.YtihpojllalnmcaaChJ
namespace Go.Proofs.Ytihpojllalnmcaa
open Go.RowKit Go.Shelf

def fnd (id : Int) (l : List Sd) : Option Sd := l.find? fun x => x.1 == id
theorem srchC_none {p : Sd → Bool} {ep nx : Int} {l : List Sd} (h : l.find? p = none) : srchC p ep nx l = ((0, 0, 0, 0), false) := by
  unfold srchC
  rw [if_neg]
  rintro ⟨_, h2⟩
  rcases idxC_spec p l with ⟨e, _⟩ | ⟨k, hk, _, hp, _⟩
  · omega
  · rw [List.find?_eq_none] at h
    have := h l[k]! (by rw [getElem!_pos l k hk]; exact List.getElem_mem _)
    exact this hp
theorem dist_ne (l : List Sd) : ∀ n, n ≤ l.length → distF l n = true → ∀ i j, i < j → j < n → l[i]!.1 ≠ l[j]!.1
  | 0, _, _, i, j, _, hj => absurd hj (Nat.not_lt_zero _)
  | n + 1, hn, h, i, j, hij, hj => by
    have h' : (distF l n && !hasN (l.take n) l[n]!.1) = true := h
    rw [Bool.and_eq_true] at h'
    by_cases hjn : j < n
    · exact dist_ne l n (by omega) h'.1 i j hij hjn
    · obtain rfl : j = n := by omega
      intro e
      have hf : hasN (l.take j) l[j]!.1 = false := by simpa using h'.2
      unfold hasN at hf
      rw [List.any_eq_false] at hf
      have hm : l[i]! ∈ l.take j := by
        rw [getElem!_pos l i (by omega), List.mem_take_iff_getElem]
        exact ⟨i, by omega, rfl⟩
      exact hf _ hm (by simpa using e)
theorem fnd_above {ep nx id : Int} {l : List Sd} (h : chkC ep nx l = true) (hi : nx ≤ id) : fnd id l = none := by
  unfold fnd
  rw [List.find?_eq_none]
  intro x hx e
  have := List.all_eq_true.1 (chkC_parts h).2.2.2.2.2 x hx
  unfold okS at this
  rw [Bool.and_eq_true, btwC_iff, btwC_iff] at this
  have e' : x.1 = id := by simpa using e
  omega
theorem fnd_mem {id : Int} {l : List Sd} {s : Sd} (h : fnd id l = some s) : s ∈ l ∧ s.1 = id := by
  refine ⟨List.mem_of_find?_eq_some h, ?_⟩
  have := List.find?_some h
  simpa using this
/-- Two parts of a row of distinct numbers share none. -/
theorem dist_apart {T O D : List Sd} {id : Int} {s t : Sd} (h : distF (T ++ (O ++ D)) (T ++ (O ++ D)).length = true) (ho : fnd id O = some s) (hd : fnd id D = some t) : False := by
  obtain ⟨m1, e1⟩ := fnd_mem ho
  obtain ⟨m2, e2⟩ := fnd_mem hd
  obtain ⟨i, hi, ei⟩ := List.mem_iff_getElem.1 m1
  obtain ⟨j, hj, ej⟩ := List.mem_iff_getElem.1 m2
  have hl : (T ++ (O ++ D)).length = T.length + (O.length + D.length) := by simp
  refine dist_ne _ _ (Nat.le_refl _) h (T.length + i) (T.length + (O.length + j)) (by omega) (by omega) ?_
  have b1 : (T ++ (O ++ D))[T.length + i]? = some s := by rw [List.getElem?_append_right (by omega), Nat.add_sub_cancel_left, List.getElem?_append_left hi, List.getElem?_eq_getElem hi, ei]
  have b2 : (T ++ (O ++ D))[T.length + (O.length + j)]? = some t := by rw [List.getElem?_append_right (by omega), Nat.add_sub_cancel_left, List.getElem?_append_right (by omega), Nat.add_sub_cancel_left, List.getElem?_eq_getElem hj, ej]
  obtain ⟨h1, q1⟩ := List.getElem?_eq_some_iff.1 b1
  obtain ⟨h2, q2⟩ := List.getElem?_eq_some_iff.1 b2
  rw [getElem!_pos (T ++ (O ++ D)) (T.length + i) h1, getElem!_pos (T ++ (O ++ D)) (T.length + (O.length + j)) h2, q1, q2, e1, e2]
theorem app_ids {ep nx k id at_ : Int} {l : List Sd} {M : Made} (hM : appC ep nx l k id at_ = M) (he : M.e = 0) : M.nx = nx + M.fresh.length ∧ ∀ q, q < M.fresh.length → M.fresh[q]!.1 = nx + q := by
  unfold appC at hM
  split at hM
  · rw [← hM] at he; cases he
  · split at hM
    · rw [← hM] at he; cases he
    · split at hM
      · rw [← hM] at he; cases he
      · unfold goodM at hM
        dsimp only at hM
        split at hM
        · subst hM
          refine ⟨rfl, ?_⟩
          dsimp only
          unfold succC
          intro q
          split
          · intro hq
            match q, hq with
            | 0, _ => simp
            | 1, _ => simp
          · split
            · intro hq
              match q, hq with
              | 0, _ => simp
            · split
              · intro hq
                match q, hq with
                | 0, _ => simp
              · intro hq
                match q, hq with
                | 0, _ => simp
        · rw [← hM] at he; cases he
/-- A step: what was below the next number stays or goes; what comes is new. -/
theorem step_num {c d : Cd} {x : Gd} (h : stepC c x = some d) (id : Int) :
    c.nx ≤ d.nx ∧ (id < c.nx → (fnd id d.l = fnd id c.l ∨ fnd id d.l = none)) ∧ (c.nx ≤ id → id < d.nx → ∃ s, fnd id d.l = some s) := by
  unfold stepC at h
  obtain ⟨M, hM⟩ : ∃ M, appC c.ep c.nx c.l x.1 x.2.1 x.2.2 = M := ⟨_, rfl⟩
  rw [hM] at h
  split at h
  · rename_i he
    injection h with h
    subst h
    obtain ⟨c1, _, T, D, e1, e2, _, _, _, _⟩ := app_good hM he
    obtain ⟨n1, n2⟩ := app_ids hM he
    have hd := (chkC_parts c1).2.2.2.2.1
    dsimp only
    have hF : id < c.nx → fnd id M.fresh = none := fun hi => by
      unfold fnd
      rw [List.find?_eq_none]
      intro y hy e
      obtain ⟨q, hq, eq⟩ := List.mem_iff_getElem.1 hy
      have := n2 q hq
      rw [getElem!_pos _ q hq, eq] at this
      have e' : y.1 = id := by simpa using e
      omega
    refine ⟨by omega, fun hi => ?_, fun h1 h2 => ?_⟩
    · have hf := hF hi
      rw [e2, e1]
      rw [e1] at hd
      unfold fnd at hf ⊢
      rw [List.find?_append, List.find?_append, List.find?_append, List.find?_append, hf]
      cases hT : T.find? (fun x => x.1 == id) with
      | some s => exact .inl rfl
      | none =>
        cases hO : M.old.find? (fun x => x.1 == id) with
        | none => exact .inl rfl
        | some s =>
          cases hD : D.find? (fun x => x.1 == id) with
          | none => exact .inr rfl
          | some t => exact (dist_apart hd hO hD).elim
    · have hq : (id - c.nx).toNat < M.fresh.length := by omega
      have := n2 _ hq
      cases hv : fnd id M.l with
      | some s => exact ⟨s, rfl⟩
      | none =>
        unfold fnd at hv
        rw [List.find?_eq_none] at hv
        have hm : M.fresh[(id - c.nx).toNat]! ∈ M.l := by
          rw [e2, getElem!_pos M.fresh (id - c.nx).toNat hq]
          exact List.mem_append_right _ (List.mem_append_left _ (List.getElem_mem _))
        exact absurd (show (M.fresh[(id - c.nx).toNat]!.1 == id) = true from by rw [this]; simp; omega) (hv _ hm)
  · cases h
theorem gone_run (id : Int) : ∀ (t : List Gd) (c : Cd), id < c.nx → fnd id c.l = none → ∀ d ∈ c :: pastL c t, fnd id d.l = none
  | [], c, _, h, d, hd => by
    have : d = c := by simpa [pastL] using hd
    rw [this]; exact h
  | x :: t, c, hn, h, d, hd => by
    rcases List.mem_cons.1 hd with rfl | hd
    · exact h
    · unfold pastL at hd
      cases hs : stepC c x with
      | none => rw [hs] at hd; exact gone_run id t c hn h d (List.mem_cons_of_mem _ hd)
      | some c2 =>
        rw [hs] at hd
        obtain ⟨h1, h2, _⟩ := step_num hs id
        exact gone_run id t c2 (by omega) (by rcases h2 hn with e | e <;> rw [e]; exact h) d hd
/-- Numbers in a walk: where they come, where they go. -/
def RunOf (id : Int) (L : List Cd) (f g : Nat) (s : Sd) : Prop := f ≤ g ∧ ∀ (j : Nat) (d : Cd), L[j]? = some d → fnd id d.l = if f ≤ j ∧ j < g then some s else none
theorem there_run (id : Int) (s : Sd) : ∀ (t : List Gd) (c : Cd), id < c.nx → fnd id c.l = some s → ∃ g, 0 < g ∧ RunOf id (c :: pastL c t) 0 g s
  | [], c, _, h => ⟨1, by omega, by omega, fun j d hj => by
    match j, hj with
    | 0, hj => injection hj with hj; subst hj; rw [if_pos (by omega)]; exact h⟩
  | x :: t, c, hn, h => by
    cases hs : stepC c x with
    | none =>
      have e : pastL c (x :: t) = pastL c t := by show (match stepC c x with | some d => d :: pastL d t | none => pastL c t) = _; rw [hs]
      rw [e]
      exact there_run id s t c hn h
    | some c2 =>
      have e : pastL c (x :: t) = c2 :: pastL c2 t := by show (match stepC c x with | some d => d :: pastL d t | none => pastL c t) = _; rw [hs]
      rw [e]
      obtain ⟨h1, h2, _⟩ := step_num hs id
      rcases h2 hn with q | q
      · obtain ⟨g, hg, _, hr⟩ := there_run id s t c2 (by omega) (q.trans h)
        refine ⟨g + 1, by omega, by omega, fun j d hj => ?_⟩
        match j, hj with
        | 0, hj => injection hj with hj; subst hj; rw [if_pos (by omega)]; exact h
        | j + 1, hj =>
          rw [hr j d (by simpa using hj)]
          by_cases hjg : j < g
          · rw [if_pos (by omega), if_pos (by omega)]
          · rw [if_neg (by omega), if_neg (by omega)]
      · have hall := gone_run id t c2 (by omega) q
        refine ⟨1, by omega, by omega, fun j d hj => ?_⟩
        match j, hj with
        | 0, hj => injection hj with hj; subst hj; rw [if_pos (by omega)]; exact h
        | j + 1, hj =>
          rw [if_neg (by omega)]
          exact hall d (List.mem_of_getElem? (by simpa using hj))
theorem any_run (id : Int) : ∀ (t : List Gd) (c : Cd), chkC c.ep c.nx c.l = true → (id < c.nx → ∃ s, fnd id c.l = some s) → ∀ z, (c :: pastL c t).getLast? = some z → id < z.nx → ∃ f g s, f < g ∧ f < (c :: pastL c t).length ∧ RunOf id (c :: pastL c t) f g s
  | t, c, hc, h0, z, hz, hzn => by
    by_cases hn : id < c.nx
    · obtain ⟨s, hs⟩ := h0 hn
      obtain ⟨g, hg, hr⟩ := there_run id s t c hn hs
      exact ⟨0, g, s, hg, by simp, hr⟩
    · have hv : fnd id c.l = none := fnd_above hc (by omega)
      match t with
      | [] =>
        have : z = c := by have : [c].getLast? = some z := hz; simpa using this.symm
        rw [this] at hzn
        omega
      | x :: t =>
        cases hs : stepC c x with
        | none =>
          have e : pastL c (x :: t) = pastL c t := by show (match stepC c x with | some d => d :: pastL d t | none => pastL c t) = _; rw [hs]
          rw [e] at hz ⊢
          exact any_run id t c hc h0 z hz hzn
        | some c2 =>
          have e : pastL c (x :: t) = c2 :: pastL c2 t := by show (match stepC c x with | some d => d :: pastL d t | none => pastL c t) = _; rw [hs]
          rw [e] at hz ⊢
          obtain ⟨_, _, h3⟩ := step_num hs id
          obtain ⟨f, g, s, hfg, hfl, _, hr⟩ := any_run id t c2 (stepC_chk hs).1 (fun q => h3 (by omega) q) z (by rw [← hz]; rfl) hzn
          refine ⟨f + 1, g + 1, s, by omega, by simpa using hfl, by omega, fun j d hj => ?_⟩
          match j, hj with
          | 0, hj => injection hj with hj; subst hj; rw [if_neg (by omega)]; exact hv
          | j + 1, hj =>
            rw [hr j d (by simpa using hj)]
            by_cases hjg : f ≤ j ∧ j < g
            · rw [if_pos hjg, if_pos (by omega)]
            · rw [if_neg hjg, if_neg (by omega)]
theorem startIds : ((List.range 5).all fun a => (List.range 8).all fun b => (List.range (b + 1)).all fun i => (fnd ((i : Int) + 1) (firstL ((a : Int) + 1) (b + 1))).isSome) = true := by kernel_rfl
theorem start_ids (nodes shards id : Int) (h1 : 1 ≤ id) (h2 : id < (startC nodes shards).nx) : ∃ s, fnd id (startC nodes shards).l = some s := by
  obtain ⟨m1, m2⟩ := modP_bd 5 nodes (by omega)
  obtain ⟨m3, m4⟩ := modP_bd 8 shards (by omega)
  unfold startC at h2 ⊢
  dsimp only at h2 ⊢
  generalize modP 5 nodes = x at m1 m2 h2
  generalize modP 8 shards = y at m3 m4 h2
  obtain ⟨a, rfl⟩ : ∃ a : Nat, x = (a : Int) + 1 := ⟨(x - 1).toNat, by omega⟩
  obtain ⟨b, rfl⟩ : ∃ b : Nat, y = (b : Int) + 1 := ⟨(y - 1).toNat, by omega⟩
  obtain ⟨i, rfl⟩ : ∃ i : Nat, id = (i : Int) + 1 := ⟨(id - 1).toNat, by omega⟩
  have := List.all_eq_true.1 (List.all_eq_true.1 (List.all_eq_true.1 startIds a (List.mem_range.2 (by omega))) b (List.mem_range.2 (by omega))) i (List.mem_range.2 (by omega))
  have e1 : ((b : Int) + 1).toNat = b + 1 := by omega
  rw [e1]
  exact Option.isSome_iff_exists.1 this
/-- Each number below the last chart's next one: one run. -/
theorem walk_run (nodes shards : Int) (t : List Gd) (z : Cd) (id : Int) (hz : (walkL nodes shards t).getLast? = some z) (h1 : 1 ≤ id) (h2 : id < z.nx) :
    ∃ f g s, f < g ∧ f < (walkL nodes shards t).length ∧ RunOf id (walkL nodes shards t) f g s :=
  any_run id t _ (start_chk nodes shards) (fun h => start_ids nodes shards id h1 h) z hz h2
end Go.Proofs.Ytihpojllalnmcaa
