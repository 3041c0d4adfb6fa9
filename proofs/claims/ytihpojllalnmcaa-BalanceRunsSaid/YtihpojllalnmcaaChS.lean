/-
  CHARTS, PLAIN: whom a key has, whom a number has, and which shards a set touches.
-/
import Derived.Test.YtihpojllalnmcaaChK
namespace Go.Proofs.Ytihpojllalnmcaa
open Go.RowKit Go.Shelf

def ownP (z : Int) (x : Sd) : Bool := decide (x.2.1 ≤ z) && decide (z < x.2.2.1)
theorem find_unique {p : Sd → Bool} {l : List Sd} {s : Sd} (hs : s ∈ l) (hp : p s = true) (h1 : (l.filter p).length = 1) : l.find? p = some s := by
  obtain ⟨a, ha⟩ := List.length_eq_one_iff.1 h1
  have hm : s ∈ l.filter p := List.mem_filter.2 ⟨hs, hp⟩
  rw [ha] at hm
  have e : s = a := by simpa using hm
  rw [← List.head?_filter, ha, e]
  rfl
theorem owner_is {ep nx key : Int} {l : List Sd} {s : Sd} (h : chkC ep nx l = true) (hs : s ∈ l) (h0 : 0 ≤ key) (h1 : key < 4096) (hk : ownP key s = true) : srchC (ownP key) ep nx l = (s, true) :=
  srchC_find h (find_unique hs hk (chkC_cnt h h0 h1))
theorem srchC_yes {p : Sd → Bool} {ep nx : Int} {l : List Sd} {s : Sd} (h : srchC p ep nx l = (s, true)) : s ∈ l ∧ p s = true := by
  unfold srchC at h
  split at h
  · rename_i hc
    rcases idxC_spec p l with ⟨hi, _⟩ | ⟨k, hk, hi, hp, _⟩
    · rw [hi] at hc; exact absurd hc.2 (by omega)
    · rw [hi] at h
      have e : l[k]! = s := congrArg Prod.fst h
      rw [← e]
      exact ⟨by rw [getElem!_pos l k hk]; exact List.getElem_mem hk, hp⟩
  · exact absurd (congrArg Prod.snd h) (by simp)
theorem fnd_is {l : List Sd} (hd : distF l l.length = true) {s : Sd} (hs : s ∈ l) : fnd s.1 l = some s := by
  cases hf : fnd s.1 l with
  | none =>
    have := List.find?_eq_none.1 hf s hs
    simp at this
  | some t =>
    obtain ⟨ht, he⟩ := fnd_mem hf
    obtain ⟨i, hi, ei⟩ := List.mem_iff_getElem.1 hs
    obtain ⟨j, hj, ej⟩ := List.mem_iff_getElem.1 ht
    rcases Nat.lt_trichotomy i j with h | h | h
    · exact absurd (by rw [getElem!_pos l i hi, getElem!_pos l j hj, ei, ej, he]) (dist_ne l l.length (Nat.le_refl _) hd i j h hj)
    · subst h
      rw [ei] at ej
      rw [ej]
    · exact absurd (by rw [getElem!_pos l i hi, getElem!_pos l j hj, ei, ej, he]) (dist_ne l l.length (Nat.le_refl _) hd j i h hi)
theorem find_is {ep nx : Int} {l : List Sd} {s : Sd} (h : chkC ep nx l = true) (hs : s ∈ l) : srchC (fun x => x.1 == s.1) ep nx l = (s, true) :=
  srchC_find h (fnd_is (chkC_parts h).2.2.2.2.1 hs)
def ownL (K : List Sp) (l : List Sd) : List Int := (l.filter fun s => touchB [(s.2.1, s.2.2.1)] K).map fun s => s.1
def ownersC (ep nx : Int) (l : List Sd) (K : List Sp) : List Int := if chkC ep nx l = true then ownL K l else []
theorem ownL_mem {K : List Sp} {l : List Sd} {z : Int} : z ∈ ownL K l ↔ ∃ s ∈ l, touchB [(s.2.1, s.2.2.1)] K = true ∧ s.1 = z := by
  unfold ownL
  rw [List.mem_map]
  exact ⟨fun ⟨s, hs, e⟩ => ⟨s, (List.mem_filter.1 hs).1, (List.mem_filter.1 hs).2, e⟩, fun ⟨s, hs, ht, e⟩ => ⟨s, List.mem_filter.2 ⟨hs, ht⟩, e⟩⟩
theorem touch_has {lo hi : Int} {K : List Sp} (h : touchB [(lo, hi)] K = true) : ∃ q ∈ K, oneB q = true ∧ oneB (lo, hi) = true ∧ max q.1 lo < q.2 ∧ max q.1 lo < hi := by
  unfold touchB at h
  rw [Bool.and_eq_true] at h
  obtain ⟨_, h⟩ := h
  obtain ⟨k, hk⟩ : ∃ k : Nat, (hasB [(lo, hi)] k && hasB K k) = true := by
    rcases Classical.em (∃ k : Nat, (hasB [(lo, hi)] k && hasB K k) = true) with q | q
    · exact q
    · rw [meets_no fun j => by
        cases hj : (hasB [(lo, hi)] j && hasB K j)
        · rfl
        · have := hasB_range (Bool.and_eq_true _ _ ▸ hj).1
          exact absurd ⟨j.toNat, by rw [show ((j.toNat : Nat) : Int) = j by omega]; exact hj⟩ q] at h
      cases h
  rw [Bool.and_eq_true] at hk
  obtain ⟨h1, h2⟩ := hk
  obtain ⟨q, hq, hin⟩ := (hasB_iff K k).1 h2
  obtain ⟨q', hq', hin'⟩ := (hasB_iff [(lo, hi)] k).1 h1
  obtain rfl : q' = (lo, hi) := by simpa using hq'
  unfold inB at hin hin'
  rw [Bool.and_eq_true, decide_eq_true_iff] at hin hin'
  exact ⟨q, hq, hin.1, hin'.1, by have := hin.2; have := hin'.2; dsimp only at *; omega, by have := hin.2; have := hin'.2; dsimp only at *; omega⟩
theorem touch_of {lo hi key : Int} {K : List Sp} (ho : oneB (lo, hi) = true) (hK : chkB K = true) (hk : hasB K key = true) (h0 : lo ≤ key) (h1 : key < hi) : touchB [(lo, hi)] K = true := by
  unfold touchB
  have hc : chkB [(lo, hi)] = true := by
    unfold chkB
    rw [Bool.and_eq_true]
    refine ⟨?_, by simp⟩
    show (oneB (lo, hi) && decide (-1 < lo) && true) = true
    rw [ho]
    have := (oneB_iff _).1 ho
    dsimp only at this
    simp
    omega
  have hm := meets_yes (A := [(lo, hi)]) (B := K) (j := key) (by
    rw [hk, Bool.and_true]
    show (inB (lo, hi) key || false) = true
    unfold inB
    rw [ho]
    simp
    omega)
  rw [hc, hK, hm]
  rfl
/-- Is a shard the owner of the first key that a span has in common with it? -/
def condB (ep nx : Int) (l : List Sd) (s : Sd) (q : Sp) : Bool := (srchC (ownP (max q.1 s.2.1)) ep nx l).2 && (eqSB (srchC (ownP (max q.1 s.2.1)) ep nx l).1 s && decide (max q.1 s.2.1 < q.2))
theorem cov_one : ∀ (l : List Sd) (e : Int), covF e l = true → ∀ s ∈ l, oneB (s.2.1, s.2.2.1) = true
  | [], _, _, s, hs => absurd hs (by simp)
  | x :: t, e, h, s, hs => by
    unfold covF at h
    rw [Bool.and_eq_true, Bool.and_eq_true] at h
    rcases List.mem_cons.1 hs with rfl | hs
    · exact h.1.2
    · exact cov_one t _ h.2 s hs
theorem chk_one {ep nx : Int} {l : List Sd} (h : chkC ep nx l = true) {s : Sd} (hs : s ∈ l) : oneB (s.2.1, s.2.2.1) = true := cov_one l 0 (chkC_parts h).2.2.2.1 s hs
/-- Each owner of a set is found by its number, and has a key of the set. -/
theorem owners_math {ep nx : Int} {l : List Sd} {K : List Sp} (h : chkC ep nx l = true) {z : Int} (hz : z ∈ ownersC ep nx l K) :
    ∃ s, srchC (fun x => x.1 == z) ep nx l = (s, true) ∧ (K.any (condB ep nx l s)) = true := by
  unfold ownersC at hz
  rw [if_pos h] at hz
  obtain ⟨s, hs, ht, rfl⟩ := ownL_mem.1 hz
  refine ⟨s, find_is h hs, ?_⟩
  obtain ⟨q, hq, h1, h2, h3, h4⟩ := touch_has ht
  have g1 := (oneB_iff _).1 h1
  have g2 := (oneB_iff _).1 h2
  dsimp only at g2
  have ho := owner_is (key := max q.1 s.2.1) h hs (by omega) (by omega) (by
    unfold ownP
    rw [Bool.and_eq_true, decide_eq_true_iff, decide_eq_true_iff]
    omega)
  refine List.any_eq_true.2 ⟨q, hq, ?_⟩
  unfold condB
  rw [ho]
  simp only [Bool.true_and]
  rw [(eqSB_iff s s).2 rfl, Bool.true_and]
  exact decide_eq_true h3
theorem owner_in {ep nx key : Int} {l : List Sd} {K : List Sp} {o : Sd} (h : chkC ep nx l = true) (hK : chkB K = true) (hk : hasB K key = true) (ho : srchC (ownP key) ep nx l = (o, true)) : o.1 ∈ ownersC ep nx l K := by
  unfold ownersC
  rw [if_pos h]
  obtain ⟨hm, hp⟩ := srchC_yes ho
  unfold ownP at hp
  rw [Bool.and_eq_true, decide_eq_true_iff, decide_eq_true_iff] at hp
  exact ownL_mem.2 ⟨o, hm, touch_of (chk_one h hm) hK hk hp.1 hp.2, rfl⟩
end Go.Proofs.Ytihpojllalnmcaa
