/-
  BALANCE, plain: where nothing is suggested, what follows for shards, neighbours and nodes.
-/
import Derived.Test.YtihpojllalnmcaaBaQ
namespace Go.Proofs.Ytihpojllalnmcaa
open Go.RowKit Go.Shelf

theorem sug_none {ep nx : Int} {sd : List Sd} {l : List Sp} {p : Po} {nodes : Int} {g : Gd} (h : sugC ep nx sd l p nodes = (g, false, 0)) : mayB ep nx sd l nodes = true ∧ firstG l sd nodes.toNat p = none := by
  unfold sugC at h
  split at h
  · cases h
  · rename_i hc
    have hm : mayB ep nx sd l nodes = true ∧ polB p = true := by
      cases h1 : mayB ep nx sd l nodes <;> cases h2 : polB p <;> simp_all
    refine ⟨hm.1, ?_⟩
    cases hf : firstG l sd nodes.toNat p with
    | none => rfl
    | some x =>
      rw [hf] at h
      dsimp only at h
      split at h <;> cases h
theorem first_none {l : List Sp} {sd : List Sd} {n : Nat} {p : Po} (h : firstG l sd n p = none) : splitC l sd p.1 = none ∧ shiftC (itsB l sd) (nodesB (itsB l sd) n) p.2.2 = none ∧ mergeC (itsB l sd) p.2.1 = none := by
  unfold firstG at h
  cases h1 : splitC l sd p.1 with
  | some x => rw [h1] at h; cases h
  | none =>
    rw [h1] at h
    cases h2 : shiftC (itsB l sd) (nodesB (itsB l sd) n) p.2.2 with
    | some x => rw [h2] at h; cases h
    | none => rw [h2] at h; exact ⟨rfl, rfl, h⟩
def wB (lo hi : Int) (p : Sp) : Bool := inK lo hi p && decide (0 < p.2)
theorem rest_split {l : List Sp} {sd : List Sd} {high : Int} (hl : loadB l = true) (h : splitC l sd high = none) {i : Nat} (hi : i < sd.length) (h1 : high < sumK l sd[i]!.2.1 sd[i]!.2.2.1) (h2 : 1 < (l.filter (wB sd[i]!.2.1 sd[i]!.2.2.1)).length) : 24 ≤ sd.length := by
  unfold splitC at h
  by_cases h24 : 24 ≤ sd.length
  · exact h24
  · exfalso
    rw [if_neg h24] at h
    cases hp : pickF (heavyB l high) (fun x => x.2) (itsB l sd) with
    | some x => rw [hp] at h; cases h
    | none =>
      have hx := pick_none.1 hp _ (mem_bang (l := itsB l sd) (by rw [itsB_len]; exact hi))
      rw [itsB_get hi] at hx
      unfold heavyB at hx
      dsimp only at hx
      rw [decide_eq_true h1, cutF_two hl h2] at hx
      cases hx
theorem rest_shift {l : List Sp} {sd : List Sd} {S : List Int} {slack : Int} (h : shiftC (itsB l sd) S slack = none) (hg : slack < S[topI S]! - S[lowI S]!) {i : Nat} (hi : i < sd.length) (hn : sd[i]!.2.2.2 = (topI S : Int)) (h0 : 0 < sumK l sd[i]!.2.1 sd[i]!.2.2.1) : S[topI S]! - S[lowI S]! ≤ sumK l sd[i]!.2.1 sd[i]!.2.2.1 := by
  unfold shiftC at h
  rw [if_neg (by omega)] at h
  cases hp : pickF (fitB (topI S : Int) (S[topI S]! - S[lowI S]!)) (fun x => x.2) (itsB l sd) with
  | some x => rw [hp] at h; cases h
  | none =>
    have hx := pick_none.1 hp _ (mem_bang (l := itsB l sd) (by rw [itsB_len]; exact hi))
    rw [itsB_get hi] at hx
    unfold fitB at hx
    dsimp only at hx
    rcases Int.lt_or_le (sumK l sd[i]!.2.1 sd[i]!.2.2.1) (S[topI S]! - S[lowI S]!) with q | q
    · exfalso
      rw [hn, decide_eq_true h0, decide_eq_true q] at hx
      simp at hx
    · exact q
theorem rest_merge {l : List Sp} {sd : List Sd} {low : Int} (h : mergeC (itsB l sd) low = none) {i : Nat} (h0 : 0 < i) (hi : i < sd.length) (hn : sd[i - 1]!.2.2.2 = sd[i]!.2.2.2) : low < sumK l sd[i - 1]!.2.1 sd[i - 1]!.2.2.1 + sumK l sd[i]!.2.1 sd[i]!.2.2.1 := by
  unfold mergeC at h
  cases hp : pickF (lightB low) (fun x => -(x.1.2 + x.2.2)) (winB (itsB l sd)) with
  | some x => rw [hp] at h; cases h
  | none =>
    have hm : ((itsB l sd)[i - 1]!, (itsB l sd)[i]!) ∈ winB (itsB l sd) := by
      unfold winB
      refine List.mem_map.2 ⟨i - 1, List.mem_range.2 (by rw [itsB_len]; omega), ?_⟩
      rw [show i - 1 + 1 = i by omega]
    have hx := pick_none.1 hp _ hm
    rw [itsB_get hi, itsB_get (show i - 1 < sd.length by omega)] at hx
    unfold lightB at hx
    dsimp only at hx
    rcases Int.lt_or_le low (sumK l sd[i - 1]!.2.1 sd[i - 1]!.2.2.1 + sumK l sd[i]!.2.1 sd[i]!.2.2.1) with q | q
    · exact q
    · exfalso
      rw [hn, decide_eq_true q] at hx
      simp at hx
theorem loads_get {l : List Sp} {sd : List Sd} {i : Nat} (h : i < sd.length) : ((itsB l sd).map fun x => x.2)[i]! = sumK l sd[i]!.2.1 sd[i]!.2.2.1 := by
  rw [getElem!_pos _ i (by rw [List.length_map, itsB_len]; exact h), List.getElem_map, ← getElem!_pos (itsB l sd) i (by rw [itsB_len]; exact h), itsB_get h]
theorem top_fold (S : List Int) : topI S = (List.range S.length).foldl (stepI fun k : Nat => S[k]!) 0 := bestI _ _
theorem low_fold (S : List Int) : lowI S = (List.range S.length).foldl (stepI fun k : Nat => -S[k]!) 0 := bestI _ _
theorem fold_more (m : Nat → Int) (k : Nat) : (List.range (k + 1)).foldl (stepI m) 0 = stepI m ((List.range k).foldl (stepI m) 0) k := by rw [List.range_succ, List.foldl_append]; rfl
theorem fold_lt (m : Nat → Int) : ∀ k : Nat, (List.range k).foldl (stepI m) 0 < k ∨ (List.range k).foldl (stepI m) 0 = 0
  | 0 => .inr rfl
  | k + 1 => by
    rw [fold_more]
    have := fold_lt m k
    generalize (List.range k).foldl (stepI m) 0 = f at this ⊢
    unfold stepI
    split
    · left; omega
    · rcases this with h | h
      · left; omega
      · right; exact h
/-- Where nothing is suggested. -/
structure Rest (sd : List Sd) (l : List Sp) (L N : List Int) (ph pl psl : Int) : Prop where
  a : ∀ i, i < sd.length → ph < L[i]! → 1 < (l.filter (wB sd[i]!.2.1 sd[i]!.2.2.1)).length → 24 ≤ sd.length
  b : ∀ i, 0 < i → i < sd.length → sd[i - 1]!.2.2.2 = sd[i]!.2.2.2 → pl < L[i - 1]! + L[i]!
  c : psl < N[topI N]! - N[lowI N]! → ∀ i, i < sd.length → sd[i]!.2.2.2 = (topI N : Int) → 0 < L[i]! → N[topI N]! - N[lowI N]! ≤ L[i]!
theorem rest_of {ep nx : Int} {sd : List Sd} {l : List Sp} {ph pl psl nodes : Int} {g : Gd} (h : sugC ep nx sd l (ph, pl, psl) nodes = (g, false, 0)) : mayB ep nx sd l nodes = true ∧ Rest sd l ((itsB l sd).map fun x => x.2) (nodesB (itsB l sd) nodes.toNat) ph pl psl := by
  obtain ⟨hm, hf⟩ := sug_none h
  obtain ⟨h1, h2, h3⟩ := first_none hf
  have hl : loadB l = true := by
    have := hm
    unfold mayB at this
    rw [Bool.and_eq_true, Bool.and_eq_true, Bool.and_eq_true] at this
    exact this.1.1.2
  refine ⟨hm, ⟨fun i hi q1 q2 => rest_split hl h1 hi (by rw [loads_get hi] at q1; exact q1) q2, fun i h0 hi q => ?_, fun hg i hi q1 q2 => ?_⟩⟩
  · rw [loads_get hi, loads_get (show i - 1 < sd.length by omega)]
    exact rest_merge h3 h0 hi q
  · rw [loads_get hi] at q2 ⊢
    exact rest_shift h2 hg hi q1 q2
end Go.Proofs.Ytihpojllalnmcaa
