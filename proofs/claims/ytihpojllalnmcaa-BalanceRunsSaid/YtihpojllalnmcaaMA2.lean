/-
  MutC, MutD, Tch, MutE: one text.
-/
import Derived.Test.YtihpojllalnmcaaMA1
import Derived.Test.YtihpojllalnmcaaSD
/-
  CONTRACTS of fits and of Check (of a mutation).
-/
namespace Go.Proofs.Ytihpojllalnmcaa
open Go.RowKit Go.Shelf

end Go.Proofs.Ytihpojllalnmcaa


/-
  CONTRACTS of Touch and Alone.
-/
namespace Go.Proofs.Ytihpojllalnmcaa
open Go.RowKit Go.Shelf

theorem chkM_and {c s k : Int} {l : List Sp} {lo hi old : Int} (h : chkM c s k l lo hi old = true) : btw 1 c 1048576 = true ∧ btw 1 s 1073741824 = true ∧ bareB k lo hi old = true ∧ fitsB k l lo hi old = true := by
  unfold chkM at h
  rw [Bool.and_eq_true, Bool.and_eq_true, Bool.and_eq_true] at h
  exact ⟨h.1.1.1, h.1.1.2, h.1.2, h.2⟩
theorem fits_kind {k : Int} {l : List Sp} {lo hi old : Int} (h : fitsB k l lo hi old = true) : (k = 2 ∧ l = [] ∧ oneB (lo, hi) = true) ∨ ((k = 1 ∨ k = 3 ∨ k = 4 ∨ k = 5) ∧ okPs l = true ∧ 1 ≤ l.length ∧ l.length ≤ 8) := by
  unfold fitsB at h
  split at h
  · rename_i e
    rw [Bool.and_eq_true, Bool.and_eq_true] at h
    have := of_decide_eq_true h.1.1
    exact .inr ⟨.inl e, h.1.2, by omega, by omega⟩
  · split at h
    · rename_i e
      rw [Bool.and_eq_true] at h
      exact .inl ⟨e, List.eq_nil_of_length_eq_zero (by simpa using h.1), h.2⟩
    · split at h
      · rename_i e
        rw [Bool.and_eq_true] at h
        have h1 : l.length = 1 := by simpa using h.1
        exact .inr ⟨.inr (.inl e), h.2, by omega, by omega⟩
      · split at h
        · rename_i e
          rw [Bool.and_eq_true, Bool.and_eq_true] at h
          have h1 : l.length = 1 := by simpa using h.1.1
          exact .inr ⟨.inr (.inr (.inl e)), h.1.2, by omega, by omega⟩
        · split at h
          · rename_i e
            rw [Bool.and_eq_true, Bool.and_eq_true] at h
            have h1 : l.length = 2 := by simpa using h.1.1
            exact .inr ⟨.inr (.inr (.inr e)), h.1.2, by omega, by omega⟩
          · cases h
theorem okP_bd {p : Sp} (h : okP p = true) : (0 ≤ p.1 ∧ p.1 ≤ 4095) ∧ (-1099511627776 ≤ p.2 ∧ p.2 ≤ 1099511627776) := by
  unfold okP isVal btw at h
  rw [Bool.and_eq_true, decide_eq_true_eq, decide_eq_true_eq] at h
  exact h
theorem okPs_get {l : List Sp} (h : okPs l = true) {k : Nat} (hk : k < l.length) : okP (l.getD k (0, 0)) = true := List.all_eq_true.1 h _ (List.mem_iff_getElem?.2 ⟨k, getD_of hk⟩)

def sing (p : Sp) : Sp := (p.1, p.1 + 1)
def touchL (c s k : Int) (l : List Sp) (lo hi old : Int) : List Sp := if chkM c s k l lo hi old = true then (if k = 2 then [(lo, hi)] else setOf (hasB (l.map sing))) else []
def part (l : List Sp) (k n : Nat) : List Sp := (List.range n).map fun j => if j < k then sing (l.getD j (0, 0)) else (0, 0)
theorem part_len (l : List Sp) (k n : Nat) : (part l k n).length = n := by simp [part]
theorem part_get (l : List Sp) (k n j : Nat) (h : j < n) : (part l k n)[j]? = some (if j < k then sing (l.getD j (0, 0)) else (0, 0)) := by simp [part, h]
theorem part_zero (l : List Sp) (n : Nat) : part l 0 n = List.replicate n (0, 0) := by
  refine List.ext_getElem? fun j => ?_
  by_cases h : j < n
  · rw [part_get _ _ _ _ h, if_neg (by omega)]; simp [h]
  · rw [List.getElem?_eq_none (by rw [part_len]; omega), List.getElem?_eq_none (by simp; omega)]
theorem part_full (l : List Sp) : part l l.length l.length = l.map sing := by
  refine List.ext_getElem? fun j => ?_
  by_cases h : j < l.length
  · rw [part_get _ _ _ _ h, if_pos h]; simp [h]
  · rw [List.getElem?_eq_none (by rw [part_len]; omega), List.getElem?_eq_none (by simp; omega)]
theorem part_set (l : List Sp) (k n : Nat) (hk : k < n) : (part l k n).set k (sing (l.getD k (0, 0))) = part l (k + 1) n := by
  refine List.ext_getElem? fun j => ?_
  rw [List.getElem?_set]
  by_cases h : j < n
  · rw [part_get _ _ _ _ h, part_get _ _ _ _ h]
    by_cases e : k = j
    · subst e
      rw [if_pos rfl, if_pos (by rw [part_len]; exact hk), if_pos (by omega)]
    · rw [if_neg e]
      by_cases h2 : j < k
      · rw [if_pos h2, if_pos (by omega)]
      · rw [if_neg h2, if_neg (by omega)]
  · rw [if_neg (by omega), List.getElem?_eq_none (by rw [part_len]; omega), List.getElem?_eq_none (by rw [part_len]; omega)]
theorem flatP_set2 (L : List Sp) (k : Nat) (x y : Int) (hk : k < L.length) : ((flatP L).set (k * 2) (.int .i64 x)).set (k * 2 + 1) (.int .i64 y) = flatP (L.set k (x, y)) := by
  induction L generalizing k with
  | nil => exact absurd hk (Nat.not_lt_zero _)
  | cons s t ih =>
    rw [show flatP (s :: t) = (.int .i64 s.1) :: (.int .i64 s.2) :: flatP t from rfl]
    cases k with
    | zero => rfl
    | succ k =>
      have := ih k (by simpa using hk)
      rw [show (k + 1) * 2 = k * 2 + 1 + 1 from by omega, show k * 2 + 1 + 1 + 1 = (k * 2 + 1) + 1 + 1 from rfl]
      simp only [List.set_cons_succ]
      rw [this]; rfl
theorem made_two (z : Value) (m : Nat) : (madeCells #[z, z] m).toList = List.replicate m z := by
  apply List.ext_getElem?
  intro j
  by_cases hj : j < m
  · simp [madeCells, hj]
    rcases Nat.mod_two_eq_zero_or_one j with h | h <;> simp [h]
  · simp [madeCells, hj]
theorem flatP_zeros (n : Nat) : flatP (List.replicate n (0, 0)) = List.replicate (n * 2) (.int .i64 0) := by
  induction n with
  | zero => rfl
  | succ n ih =>
    rw [List.replicate_succ, show flatP (((0, 0) : Sp) :: List.replicate n (0, 0)) = (.int .i64 0) :: (.int .i64 0) :: flatP (List.replicate n (0, 0)) from rfl, ih, show (n + 1) * 2 = n * 2 + 1 + 1 from by omega]
    rfl
theorem sing_all {l : List Sp} (h : okPs l = true) : (l.map sing).all oneB = true := by
  rw [List.all_eq_true]
  intro s hs
  obtain ⟨p, hp, rfl⟩ := List.mem_map.1 hs
  have := (okP_bd (List.all_eq_true.1 h p hp)).1
  exact (oneB_iff _).2 (by show 0 ≤ p.1 ∧ p.1 < p.1 + 1 ∧ p.1 + 1 ≤ 4096; omega)
theorem merge_len (l : List Sp) (h : l.all oneB = true) : (setOf (hasB l)).length ≤ l.length := by
  have hp : (l.mergeSort fun x y => decide (x.1 ≤ y.1)).Perm l := List.mergeSort_perm _ _
  have hs : (l.mergeSort fun x y => decide (x.1 ≤ y.1)).Pairwise (fun x y => x.1 ≤ y.1) := by
    have := List.pairwise_mergeSort (le := fun x y : Sp => decide (x.1 ≤ y.1)) (fun a b c h1 h2 => by simp at *; omega) (fun a b => by simp; omega) l
    exact this.imp fun h => by simpa using h
  rw [← made (by simpa using h) hp hs]
  have := fold_len (l.mergeSort fun x y => decide (x.1 ≤ y.1)) []
  simp at this
  exact this
theorem make_sing {l : List Sp} (h : okPs l = true) (hl : l.length ≤ 8) : makeP (l.map sing) = (setOf (hasB (l.map sing)), 0) := by
  rw [show makeP (l.map sing) = limP (setOf (hasB (l.map sing))) from if_pos (sing_all h)]
  refine if_pos ?_
  have := merge_len (l.map sing) (sing_all h)
  simp at this
  omega

def aloneB (c s k : Int) (l : List Sp) (lo hi old : Int) : Bool := (k == 3 || k == 4) && chkM c s k l lo hi old
end Go.Proofs.Ytihpojllalnmcaa


/-
  CONTRACT: the document's Touches (of a mutation).
-/
namespace Go.Proofs.Ytihpojllalnmcaa
open Go.RowKit Go.Shelf

def touchesB (k : Int) (l : List Sp) (lo hi key : Int) : Bool := if k = 2 then decide (lo ≤ key) && decide (key < hi) else l.any fun p => p.1 == key
end Go.Proofs.Ytihpojllalnmcaa


/-
  CONTRACTS on stamps: Stamp, before, Compare, the document's Ahead; few.
-/
namespace Go.Proofs.Ytihpojllalnmcaa
open Go.RowKit Go.Shelf

def befB (t1 c1 s1 t2 c2 s2 : Int) : Bool := if t1 = t2 then (if c1 = c2 then decide (s1 < s2) else decide (c1 < c2)) else decide (t1 < t2)
def cmpS (t1 c1 s1 t2 c2 s2 : Int) : Int := if (t1 == t2 && (c1 == c2 && s1 == s2)) = true then 0 else if befB t1 c1 s1 t2 c2 s2 = true then -1 else 1

end Go.Proofs.Ytihpojllalnmcaa
