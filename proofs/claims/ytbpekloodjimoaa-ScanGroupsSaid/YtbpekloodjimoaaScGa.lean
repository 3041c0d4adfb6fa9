/-
  THE DOCUMENT'S GROUPS, plain: row by row of keys they are the groups of the runs.
-/
import Derived.Test.YtbpekloodjimoaaScL
namespace Go.Proofs.Ytbpekloodjimoaa
open Go.RowKit Go.Shelf

def gfP (k : Int) (P : List Sp) : Gp := if P = [] then (k, 0, 0, 0, 0) else grpOf k P
def moreG (g : Gp) (v : Int) : Gp := (g.1, g.2.1 + 1, g.2.2.1 + v, (if g.2.1 = 0 ∨ v < g.2.2.2.1 then v else g.2.2.2.1), (if g.2.1 = 0 ∨ g.2.2.2.2 < v then v else g.2.2.2.2))
theorem gf_snoc (k : Int) (P : List Sp) (p : Sp) : gfP k (P ++ [p]) = moreG (gfP k P) p.2 := by
  unfold gfP
  rw [if_neg (by simp)]
  cases P with
  | nil =>
    rw [if_pos rfl]
    simp [grpOf, moreG, sumV, minV, maxV]
  | cons q t =>
    rw [if_neg (by simp)]
    have hl : (((q :: t).length : Nat) : Int) ≠ 0 := by simp; omega
    have h0 : (q :: t ++ [p]).getD 0 (0, 0) = (q :: t).getD 0 (0, 0) := rfl
    unfold grpOf moreG
    rw [h0, sumV_app, List.length_append]
    unfold minV maxV
    rw [List.foldl_append, List.foldl_append]
    have e1 : sumV [p] = p.2 := by simp [sumV]
    rw [e1]
    generalize List.foldl (fun m p => min m p.2) ((q :: t).getD 0 (0, 0)).2 (q :: t) = mi
    generalize List.foldl (fun m p => max m p.2) ((q :: t).getD 0 (0, 0)).2 (q :: t) = ma
    simp only [List.length_singleton, List.foldl_cons, List.foldl_nil]
    refine Prod.ext rfl (Prod.ext (by simp) (Prod.ext rfl (Prod.ext ?_ ?_)))
    · dsimp only
      by_cases h : p.2 < mi
      · rw [if_pos (.inr h)]; omega
      · rw [if_neg (by rintro (h' | h'); exact hl h'; exact h h')]; omega
    · dsimp only
      by_cases h : ma < p.2
      · rw [if_pos (.inr h)]; omega
      · rw [if_neg (by rintro (h' | h'); exact hl h'; exact h h')]; omega
theorem gf_n (k : Int) (P : List Sp) : (gfP k P).2.1 = (P.length : Int) := by
  unfold gfP
  split
  · rename_i h; rw [h]; rfl
  · rfl
theorem gf_k (k : Int) (P : List Sp) : (gfP k P).1 = k := by
  unfold gfP
  split <;> rfl
/-- The pairs of the row of keys from f on. -/
def partG (wd : Int) (L : List Sp) (f : Int) : List Sp := L.filter fun p => decide (f ≤ p.1) && decide (p.1 - f < wd)
def outG (wd : Int) (L : List Sp) (f : Int) : List Gp := if partG wd L f = [] then [] else [grpOf f (partG wd L f)]
theorem partG_none {wd : Int} {L : List Sp} {f : Int} (h : ∀ p ∈ L, p.1 < f ∨ f + wd ≤ p.1) : partG wd L f = [] := by
  unfold partG
  rw [List.filter_eq_nil_iff]
  intro p hp
  rcases h p hp with q | q
  · simp; omega
  · simp; omega
theorem partG_app (wd : Int) (A B : List Sp) (f : Int) : partG wd (A ++ B) f = partG wd A f ++ partG wd B f := List.filter_append ..
theorem partG_all {wd : Int} {L : List Sp} {f : Int} (h : ∀ p ∈ L, f ≤ p.1 ∧ p.1 < f + wd) : partG wd L f = L := by
  unfold partG
  rw [List.filter_eq_self]
  intro p hp
  have := h p hp
  simp; omega
theorem tdiv_row {x wd s : Int} (hw : 1 ≤ wd) (hx : 0 ≤ x) : x.tdiv wd = s ↔ s * wd ≤ x ∧ x < s * wd + wd := by
  rw [Int.tdiv_eq_ediv_of_nonneg hx]
  have h1 := Int.ediv_mul_le x (b := wd) (by omega)
  have h2 := Int.lt_ediv_add_one_mul_self x (b := wd) (by omega)
  rw [Int.add_mul, Int.one_mul] at h2
  constructor
  · rintro rfl
    exact ⟨h1, h2⟩
  · rintro ⟨h3, h4⟩
    have h5 : x / wd * wd < (s + 1) * wd := by rw [Int.add_mul, Int.one_mul]; omega
    have h6 : s * wd < (x / wd + 1) * wd := by rw [Int.add_mul, Int.one_mul]; omega
    have h7 := Int.lt_of_mul_lt_mul_right h5 (by omega)
    have h8 := Int.lt_of_mul_lt_mul_right h6 (by omega)
    omega
theorem flatMap_in {α β : Type} {f g : α → List β} : ∀ {l : List α}, (∀ x ∈ l, f x = g x) → l.flatMap f = l.flatMap g
  | [], _ => rfl
  | a :: t, h => by rw [List.flatMap_cons, List.flatMap_cons, h a List.mem_cons_self, flatMap_in (fun x hx => h x (List.mem_cons_of_mem _ hx))]
theorem row_next (s : Nat) (wd : Int) : (((s + 1 : Nat) : Int)) * wd = (s : Int) * wd + wd := by rw [Int.natCast_add, Int.add_mul]; simp
theorem grps_doc (wd : Int) (hw : 1 ≤ wd) : ∀ (k s m : Nat) (L : List Sp), L.length ≤ m → keysB L → L.Pairwise (fun p q => p.1 < q.1) → (∀ p ∈ L, (s : Int) * wd ≤ p.1) → (4096 : Int) ≤ ((s + k : Nat) : Int) * wd →
    grpsF wd m L = (List.range' s k).flatMap (fun (q : Nat) => outG wd L ((q : Int) * wd))
  | 0, s, m, L, _, hk, _, hs, hb => by
    have : L = [] := by
      cases L with
      | nil => rfl
      | cons p t =>
        have h1 := hs p List.mem_cons_self
        have h2 := (hk p List.mem_cons_self).2
        rw [Nat.add_zero] at hb
        omega
    rw [this, grpsF_nil]
    rfl
  | k + 1, s, m, L, hm, hk, hp, hs, hb => by
    have hb' : (4096 : Int) ≤ ((s + 1 + k : Nat) : Int) * wd := by rw [show s + 1 + k = s + (k + 1) by omega]; exact hb
    have hrn := row_next s wd
    rw [List.range'_succ, List.flatMap_cons]
    by_cases hne : L = []
    · subst hne
      rw [grpsF_nil]
      have e : ∀ f, outG wd [] f = [] := fun f => if_pos rfl
      rw [e]
      have : (List.range' (s + 1) k).flatMap (fun (q : Nat) => outG wd [] ((q : Int) * wd)) = [] := by
        rw [List.flatMap_eq_nil_iff]
        intro q _
        exact e _
      rw [this]; rfl
    · have h0 : 0 < L.length := List.length_pos_iff.2 hne
      have hg0 : L.getD 0 (0, 0) ∈ L := getD_memS h0
      by_cases hq : (L.getD 0 (0, 0)).1 < (s : Int) * wd + wd
      · obtain ⟨m', rfl⟩ : ∃ m', m = m' + 1 := ⟨m - 1, by omega⟩
        have hx := hs _ hg0
        have hx0 := (hk _ hg0).1
        have hd : (L.getD 0 (0, 0)).1.tdiv wd = (s : Int) := (tdiv_row hw hx0).2 ⟨hx, hq⟩
        obtain ⟨r1, r2⟩ := runN_bd wd L hne
        have hA : ∀ p ∈ L.take (runN wd L), (s : Int) * wd ≤ p.1 ∧ p.1 < (s : Int) * wd + wd := fun p hpm => by
          obtain ⟨i, hi, rfl⟩ := List.mem_iff_getElem.1 hpm
          rw [List.length_take] at hi
          rw [List.getElem_take]
          have hil : i < L.length := by omega
          have hm0 : L[i] ∈ L := List.getElem_mem hil
          have e : L[i] = L.getD i (0, 0) := by rw [List.getD_eq_getElem?_getD, List.getElem?_eq_getElem hil]; rfl
          refine (tdiv_row hw (hk _ hm0).1).1 ?_
          rw [e]
          by_cases hi0 : i = 0
          · rw [hi0]; exact hd
          · rw [runN_in wd L i (by omega) (by omega)]; exact hd
        have hB : ∀ p ∈ L.drop (runN wd L), (s : Int) * wd + wd ≤ p.1 := fun p hpm => by
          obtain ⟨i, hi, rfl⟩ := List.mem_iff_getElem.1 hpm
          rw [List.length_drop] at hi
          rw [List.getElem_drop]
          have hrl : runN wd L < L.length := by omega
          have ho := runN_out wd L hrl
          have er : L.getD (runN wd L) (0, 0) = L[runN wd L] := by rw [List.getD_eq_getElem?_getD, List.getElem?_eq_getElem hrl]; rfl
          rw [er, hd] at ho
          have hmr : L[runN wd L] ∈ L := List.getElem_mem hrl
          have hge : (s : Int) * wd + wd ≤ (L[runN wd L]).1 := by
            have h1 := hs _ hmr
            apply Classical.byContradiction
            intro hlt
            have := (tdiv_row (s := (s : Int)) hw (hk _ hmr).1).2 ⟨h1, by omega⟩
            rw [this] at ho
            simp at ho
          by_cases hi0 : i = 0
          · subst hi0; exact hge
          · have := List.pairwise_iff_getElem.1 hp (runN wd L) (runN wd L + i) hrl (by omega) (by omega)
            omega
        have e0 : partG wd L ((s : Int) * wd) = L.take (runN wd L) := by
          have h1 : partG wd (L.take (runN wd L) ++ L.drop (runN wd L)) ((s : Int) * wd) = L.take (runN wd L) := by
            rw [partG_app, partG_all hA, partG_none (fun p hp => .inr (hB p hp)), List.append_nil]
          rwa [List.take_append_drop] at h1
        have hne2 : L.take (runN wd L) ≠ [] := take_ne hne r1
        have ih := grps_doc wd hw k (s + 1) m' (L.drop (runN wd L)) (by rw [List.length_drop]; omega) (fun p hp => hk p (List.mem_of_mem_drop hp)) (List.Pairwise.sublist (List.drop_sublist _ _) hp) (fun p hp => by rw [hrn]; exact hB p hp) hb'
        rw [grpsF_cons wd m' L hne, hd, ih]
        have e1 : outG wd L ((s : Int) * wd) = [grpOf ((s : Int) * wd) (L.take (runN wd L))] := by
          unfold outG
          rw [e0, if_neg hne2]
        rw [e1]
        show _ :: _ = _ :: _
        congr 1
        apply flatMap_in
        intro q hq1
        obtain ⟨i, hi, rfl⟩ := List.mem_range'.1 hq1
        have hq2 : ((s + 1 : Nat) : Int) * wd ≤ ((s + 1 + 1 * i : Nat) : Int) * wd := Int.mul_le_mul_of_nonneg_right (by omega) (by omega)
        have e2 : partG wd L (((s + 1 + 1 * i : Nat) : Int) * wd) = partG wd (L.drop (runN wd L)) (((s + 1 + 1 * i : Nat) : Int) * wd) := by
          have h1 : partG wd (L.take (runN wd L) ++ L.drop (runN wd L)) (((s + 1 + 1 * i : Nat) : Int) * wd) = partG wd (L.drop (runN wd L)) (((s + 1 + 1 * i : Nat) : Int) * wd) := by
            rw [partG_app, partG_none (fun p hp => .inl (by have := (hA p hp).2; omega)), List.nil_append]
          rwa [List.take_append_drop] at h1
        unfold outG
        rw [e2]
      · have hall : ∀ p ∈ L, ((s + 1 : Nat) : Int) * wd ≤ p.1 := fun p hpm => by
          obtain ⟨i, hi, rfl⟩ := List.mem_iff_getElem.1 hpm
          rw [hrn]
          have e : L.getD 0 (0, 0) = L[0] := by rw [List.getD_eq_getElem?_getD, List.getElem?_eq_getElem h0]; rfl
          rw [e] at hq
          by_cases hi0 : i = 0
          · subst hi0; omega
          · have := List.pairwise_iff_getElem.1 hp 0 i h0 hi (by omega)
            omega
        have e1 : outG wd L ((s : Int) * wd) = [] := by
          unfold outG
          rw [if_pos (partG_none (fun p hp => .inr (by have := hall p hp; rw [hrn] at this; exact this)))]
        rw [e1, List.nil_append]
        exact grps_doc wd hw k (s + 1) m L hm hk hp hall hb'
theorem docGs_is {wd : Int} (hw : 1 ≤ wd) {L : List Sp} (ht : tblB L = true) {q : Nat} (hq : (4096 : Int) ≤ (q : Int) * wd) : (List.range q).flatMap (fun (i : Nat) => outG wd L ((i : Int) * wd)) = grpsF wd L.length L := by
  rw [List.range_eq_range']
  exact (grps_doc wd hw q 0 L.length L (Nat.le_refl _) (tbl_small ht).2 (tblF_pw L _ ht).2 (fun p hp => by have := ((tbl_small ht).2 p hp).1; simp; exact this) (by rw [Nat.zero_add]; exact hq)).symm
end Go.Proofs.Ytbpekloodjimoaa
