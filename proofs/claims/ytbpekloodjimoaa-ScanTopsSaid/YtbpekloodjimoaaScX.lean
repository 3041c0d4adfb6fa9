/-
  THE DOCUMENT'S TOP, plain: how many stand ahead, who stays, and in what order; it is the one sorted list.
-/
import Derived.Test.YtbpekloodjimoaaScI
namespace Go.Proofs.Ytbpekloodjimoaa
open Go.RowKit Go.Shelf

/-- q stands ahead of p. -/
def ahT (q p : Sp) : Bool := decide (p.2 < q.2 ∨ (q.2 = p.2 ∧ q.1 < p.1))
def cntT (m : List Sp) (p : Sp) : Nat := m.countP (fun q => ahT q p)
def outT (m : List Sp) (n : Int) : List Sp := m.filter (fun p => decide ((cntT m p : Int) < n))
def sortT (o : List Sp) : List Sp := (List.range o.length).flatMap (fun j => o.filter (fun p => decide (cntT o p = j)))
theorem ahT_no {q p : Sp} (h : ahT p q = true) : ahT q p = false := by
  unfold ahT at h ⊢
  rw [decide_eq_true_iff] at h
  rw [decide_eq_false_iff_not]
  omega
theorem ahT_self (p : Sp) : ahT p p = false := by
  unfold ahT
  rw [decide_eq_false_iff_not]
  omega
theorem cntT_idx : ∀ (S : List Sp), S.Pairwise (fun a b => ahT a b = true) → ∀ (j : Nat) (h : j < S.length), cntT S (S[j]) = j
  | [], _, _, h => absurd h (by simp)
  | a :: t, hp, 0, _ => by
    rw [List.pairwise_cons] at hp
    show (a :: t).countP (fun q => ahT q a) = 0
    rw [List.countP_eq_zero]
    intro q hq
    rcases List.mem_cons.1 hq with rfl | hq
    · rw [ahT_self]; simp
    · rw [ahT_no (hp.1 q hq)]; simp
  | a :: t, hp, j + 1, h => by
    rw [List.pairwise_cons] at hp
    have hj : j < t.length := by simpa using h
    show (a :: t).countP (fun q => ahT q t[j]) = j + 1
    rw [List.countP_cons_of_pos (p := fun q => ahT q t[j]) (hp.1 _ (List.getElem_mem hj))]
    exact congrArg (· + 1) (cntT_idx t hp.2 j hj)
theorem filt_ltT (f : Sp → Nat) (n : Nat) : ∀ (S : List Sp) (a : Nat), (∀ (j : Nat) (h : j < S.length), f (S[j]) = a + j) → S.filter (fun p => decide (f p < n)) = S.take (n - a)
  | [], _, _ => by simp
  | p :: t, a, h => by
    have h0 : f p = a := h 0 (by simp)
    have ht := filt_ltT f n t (a + 1) (fun j hj => by
      have := h (j + 1) (by simpa using hj)
      rw [List.getElem_cons_succ] at this
      omega)
    by_cases q : a < n
    · rw [List.filter_cons_of_pos (by rw [h0]; exact decide_eq_true q), ht, show n - a = (n - (a + 1)) + 1 by omega, List.take_succ_cons]
    · rw [List.filter_cons_of_neg (by rw [h0]; simpa using q), ht, show n - a = 0 by omega, show n - (a + 1) = 0 by omega, List.take_zero, List.take_zero]
theorem filt_eqT (f : Sp → Nat) (n : Nat) : ∀ (S : List Sp) (a : Nat), (∀ (j : Nat) (h : j < S.length), f (S[j]) = a + j) → S.filter (fun p => decide (f p = n)) = if a ≤ n then (S.drop (n - a)).take 1 else []
  | [], _, _ => by simp
  | p :: t, a, h => by
    have h0 : f p = a := h 0 (by simp)
    have ht := filt_eqT f n t (a + 1) (fun j hj => by
      have := h (j + 1) (by simpa using hj)
      rw [List.getElem_cons_succ] at this
      omega)
    by_cases q : a = n
    · rw [List.filter_cons_of_pos (by rw [h0]; exact decide_eq_true q), ht, if_neg (by omega), if_pos (by omega), show n - a = 0 by omega]
      rfl
    · rw [List.filter_cons_of_neg (by rw [h0]; simpa using q), ht]
      by_cases r : a ≤ n
      · rw [if_pos (by omega), if_pos r, show n - a = (n - (a + 1)) + 1 by omega, List.drop_succ_cons]
      · rw [if_neg (by omega), if_neg r]
theorem flat_one : ∀ (S : List Sp), (List.range S.length).flatMap (fun j => (S.drop j).take 1) = S
  | [] => rfl
  | p :: t => by
    rw [List.length_cons, List.range_succ_eq_map, List.flatMap_cons, List.flatMap_map]
    have := flat_one t
    simp only [List.drop_succ_cons, List.drop_zero, List.take_succ_cons, List.take_zero, List.singleton_append, Nat.succ_eq_add_one]
    rw [this]
theorem perm_one {l k : List Sp} (h : l.Perm (k.take 1)) : l = k.take 1 := by
  cases k with
  | nil => exact List.Perm.eq_nil (by simpa using h)
  | cons a t => exact List.perm_singleton.1 (by simpa using h)
theorem sortT_is {o S : List Sp} (hp : o.Perm S) (hs : S.Pairwise (fun a b => ahT a b = true)) : sortT o = S := by
  have hi := cntT_idx S hs
  unfold sortT
  rw [hp.length_eq]
  have : (fun j => o.filter (fun p => decide (cntT o p = j))) = (fun j => (S.drop j).take 1) := by
    funext j
    apply perm_one
    have h1 := filt_eqT (cntT S) j S 0 (fun k hk => by rw [hi k hk]; omega)
    rw [if_pos (Nat.zero_le _), Nat.sub_zero] at h1
    rw [← h1, show (fun p => decide (cntT o p = j)) = (fun p => decide (cntT S p = j)) from by funext p; unfold cntT; rw [hp.countP_eq]]
    exact hp.filter _
  rw [this]
  exact flat_one S
theorem tbl_keysT : ∀ (l : List Sp) (e : Int), tblF e l = true → l.Pairwise (fun a b => a.1 < b.1)
  | [], _, _ => List.Pairwise.nil
  | p :: t, e, h => by
    rw [tblF_cons] at h
    refine List.Pairwise.cons (fun q hq => ?_) (tbl_keysT t _ h.2.2)
    obtain ⟨i, hi, rfl⟩ := List.mem_iff_getElem.1 hq
    have := (tblF_get t p.1 i h.2.2 hi).1
    rw [List.getD_eq_getElem?_getD, List.getElem?_eq_getElem hi] at this
    exact this
theorem topT_is {m d : List Sp} {n : Int} {k : Nat} (ht : tblB m = true) (hp : d.Perm m) (hs : d.Pairwise topLe) (hk : (k : Int) = min (max n 0) (d.length : Int)) : sortT (outT m n) = d.take k := by
  have hd : d.Pairwise (fun a b => ahT a b = true) := by
    have h1 : m.Pairwise (fun a b => a.1 ≠ b.1) := (tbl_keysT m _ ht).imp (fun h => by omega)
    have h2 : d.Pairwise (fun a b => a.1 ≠ b.1) := (hp.pairwise_iff (fun h => fun q => h q.symm)).2 h1
    refine (hs.and h2).imp ?_
    rintro a b ⟨h3, h4⟩
    unfold topLe at h3
    unfold ahT
    rw [decide_eq_true_iff]
    omega
  have h5 := filt_ltT (cntT d) n.toNat d 0 (fun j hj => by rw [cntT_idx d hd j hj]; omega)
  have h6 : (outT m n).Perm (d.take n.toNat) := by
    rw [Nat.sub_zero] at h5
    rw [← h5]
    unfold outT
    rw [show (fun p => decide ((cntT m p : Int) < n)) = (fun p => decide (cntT d p < n.toNat)) from by
      funext p
      unfold cntT
      rw [hp.countP_eq]
      exact decide_eq_decide.2 (by omega)]
    exact (hp.filter _).symm
  rw [sortT_is h6 (hd.sublist (List.take_sublist _ _))]
  by_cases q : n.toNat ≤ d.length
  · rw [show k = n.toNat by omega]
  · rw [show k = d.length by omega, List.take_of_length_le (Nat.le_refl _), List.take_of_length_le (by omega)]
theorem cnt_more {f : Sp → Bool} {M : List Sp} {t : Nat} (h : t < M.length) : (M.take (t + 1)).countP f = (M.take t).countP f + (if f (M.getD t (0, 0)) = true then 1 else 0) := by
  rw [List.take_add_one, List.getElem?_eq_getElem h, List.countP_append, List.getD_eq_getElem?_getD, List.getElem?_eq_getElem h]
  simp [List.countP_cons]
/-- In a table, to stand ahead by the keys is to stand ahead by the places. -/
theorem key_place {M : List Sp} (hM : tblB M = true) {t j : Nat} (ht : t < M.length) (hj : j < M.length) : (M.getD t (0, 0)).1 < (M.getD j (0, 0)).1 ↔ t < j := by
  have hp := List.pairwise_iff_getElem.1 (tbl_keysT M _ hM)
  rw [List.getD_eq_getElem?_getD, List.getD_eq_getElem?_getD, List.getElem?_eq_getElem ht, List.getElem?_eq_getElem hj]
  show M[t].1 < M[j].1 ↔ t < j
  constructor
  · intro h
    apply Classical.byContradiction
    intro hn
    rcases Nat.lt_or_ge j t with q | q
    · have := hp j t hj ht q; omega
    · obtain rfl : t = j := by omega
      omega
  · intro h
    exact hp t j ht hj h
end Go.Proofs.Ytbpekloodjimoaa
