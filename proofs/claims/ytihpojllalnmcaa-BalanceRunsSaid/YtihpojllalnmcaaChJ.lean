/-
  PLAIN: what a change leaves where it was.
-/
import Derived.Test.YtihpojllalnmcaaChI
namespace Go.Proofs.Ytihpojllalnmcaa
open Go.RowKit Go.Shelf

theorem cntK_app (key : Int) (A B : List Sd) : cntK key (A ++ B) = cntK key A + cntK key B := by
  unfold cntK
  rw [List.filter_append, List.length_append]
theorem cntK_find (key : Int) (l : List Sd) : (l.find? (hasK key) = none ↔ cntK key l = 0) := by
  unfold cntK
  rw [List.find?_eq_none, List.length_eq_zero_iff, List.filter_eq_nil_iff]
theorem cntK_mem (key : Int) {l : List Sd} {s : Sd} (h : s ∈ l) (hs : hasK key s = true) : 1 ≤ cntK key l := by
  unfold cntK
  exact List.length_pos_iff.2 (List.ne_nil_of_mem (List.mem_filter.2 ⟨h, hs⟩))
theorem find_idxC (p : Sd → Bool) (l : List Sd) (s : Sd) (h : l.find? p = some s) : 0 ≤ idxC p l ∧ l[(idxC p l).toNat]! = s := by
  rcases idxC_spec p l with ⟨_, hn⟩ | ⟨k, hk, e, hp, hb⟩
  · have : l.find? p = none := List.find?_eq_none.2 fun x hx => by
      obtain ⟨j, hj, rfl⟩ := List.mem_iff_getElem.1 hx
      have := hn j hj
      rw [getElem!_pos l j hj] at this
      simp [this]
    rw [this] at h
    cases h
  · refine ⟨by omega, ?_⟩
    rw [e, Int.toNat_natCast]
    have : l.find? p = some l[k]! := by
      rw [getElem!_pos l k hk]
      rw [getElem!_pos l k hk] at hp
      exact List.find?_eq_some_iff_getElem.2 ⟨hp, k, hk, rfl, fun j hj => by
        have := hb j hj
        rw [getElem!_pos l j (by omega)] at this
        simp [this]⟩
    rw [this] at h
    injection h
theorem srchC_find {p : Sd → Bool} {ep nx : Int} {l : List Sd} {s : Sd} (hc : chkC ep nx l = true) (h : l.find? p = some s) : srchC p ep nx l = (s, true) := by
  obtain ⟨h1, h2⟩ := find_idxC p l s h
  unfold srchC
  rw [if_pos ⟨hc, h1⟩, h2]
/-- What a change makes. -/
theorem app_good {ep nx k id at_ : Int} {l : List Sd} {M : Made} (hM : appC ep nx l k id at_ = M) (he : M.e = 0) :
    chkC ep nx l = true ∧ chkC M.ep M.nx M.l = true ∧ ∃ T D, l = T ++ (M.old ++ D) ∧ M.l = T ++ (M.fresh ++ D) ∧ (1 ≤ M.old.length ∧ M.old.length ≤ 2) ∧ (1 ≤ M.fresh.length ∧ M.fresh.length ≤ 2) ∧
      M.old[0]!.2.1 = M.fresh[0]!.2.1 ∧ M.old[M.old.length - 1]!.2.2.1 = M.fresh[M.fresh.length - 1]!.2.2.1 := by
  unfold appC at hM
  split at hM
  · rw [← hM] at he; cases he
  · rename_i h1
    have hc : chkC ep nx l = true := by
      rcases Bool.eq_false_or_eq_true (chkC ep nx l) with q | q
      · exact q
      · exact absurd h1 (fun h => h (fun ⟨q', _⟩ => by rw [q] at q'; cases q'))
    split at hM
    · rw [← hM] at he; cases he
    · rename_i h2
      split at hM
      · rw [← hM] at he; cases he
      · unfold goodM at hM
        dsimp only at hM
        split at hM
        · rename_i h3
          subst hM
          refine ⟨hc, h3, l.take (idxC (fun x => x.1 == id) l).toNat, l.drop ((idxC (fun x => x.1 == id) l).toNat + repN k), ?_, rfl, ?_⟩
          · dsimp only
            rw [← List.drop_drop, List.take_append_drop, List.take_append_drop]
          · dsimp only
            have hlen : ((l.drop (idxC (fun x => x.1 == id) l).toNat).take (repN k)).length = repN k := by rw [List.length_take, List.length_drop]; omega
            generalize (l.drop (idxC (fun x => x.1 == id) l).toNat).take (repN k) = old at hlen
            unfold repN at hlen
            unfold succC
            by_cases k2 : k = 2
            · rw [if_pos k2] at hlen
              match old, hlen with
              | [o0, o1], _ => rw [if_neg (by omega), if_pos k2]; simp
            · rw [if_neg k2] at hlen
              match old, hlen with
              | [o0], _ =>
                by_cases k1 : k = 1
                · rw [if_pos k1]; simp
                · rw [if_neg k1, if_neg k2]
                  split <;> simp
        · rw [← hM] at he; cases he
/-- Who owns a key, ahead of a change and behind it. -/
theorem local_owner {key : Int} {T O F D : List Sd} (h1 : cntK key (T ++ (O ++ D)) = 1) (h2 : cntK key (T ++ (F ++ D)) = 1) :
    ∃ s t, (T ++ (O ++ D)).find? (hasK key) = some s ∧ (T ++ (F ++ D)).find? (hasK key) = some t ∧ (O.any fun x => eqSB x s) = (F.any fun x => eqSB x t) ∧ ((O.any fun x => eqSB x s) = true ∨ s = t) := by
  have no : ∀ (L : List Sd) (s : Sd), hasK key s = true → cntK key L = 0 → (L.any fun x => eqSB x s) = false := fun L s hs h => by
    rw [List.any_eq_false]
    intro x hx e
    rw [eqSB_iff] at e
    subst e
    have := cntK_mem key hx hs
    omega
  have yes : ∀ (L : List Sd) (s : Sd), L.find? (hasK key) = some s → (L.any fun x => eqSB x s) = true := fun L s h => by
    rw [List.any_eq_true]
    exact ⟨s, List.mem_of_find?_eq_some h, (eqSB_iff _ _).2 rfl⟩
  rw [cntK_app, cntK_app] at h1 h2
  rw [List.find?_append, List.find?_append, List.find?_append, List.find?_append]
  cases hT : T.find? (hasK key) with
  | some s =>
    have hs : hasK key s = true := List.find?_some hT
    have := cntK_mem key (List.mem_of_find?_eq_some hT) hs
    refine ⟨s, s, rfl, rfl, ?_, .inr rfl⟩
    rw [no O s hs (by omega), no F s hs (by omega)]
  | none =>
    cases hO : O.find? (hasK key) with
    | some s =>
      have hs : hasK key s = true := List.find?_some hO
      have := cntK_mem key (List.mem_of_find?_eq_some hO) hs
      cases hF : F.find? (hasK key) with
      | some t =>
        refine ⟨s, t, rfl, rfl, ?_, .inl (yes O s hO)⟩
        rw [yes O s hO, yes F t hF]
      | none =>
        have := (cntK_find key F).1 hF
        omega
    | none =>
      have o0 := (cntK_find key O).1 hO
      have f0 : cntK key F = 0 := by omega
      have hF := (cntK_find key F).2 f0
      rw [hF]
      have t0 := (cntK_find key T).1 hT
      cases hD : D.find? (hasK key) with
      | some s =>
        have hs : hasK key s = true := List.find?_some hD
        refine ⟨s, s, rfl, rfl, ?_, .inr rfl⟩
        rw [no O s hs o0, no F s hs f0]
      | none =>
        have := (cntK_find key D).1 hD
        omega
theorem walk_last {nodes shards : Int} {t : List Gd} {d : Cd} (h : (walkL nodes shards t).getLast? = some d) : chkC d.ep d.nx d.l = true := by
  rw [List.getLast?_eq_getElem?] at h
  exact (walk_chk nodes shards t _ d h).1
end Go.Proofs.Ytihpojllalnmcaa
