/-
  CONTRACTS: chart.search, Owner, Find, inside, isChange, replaces, Clone, successors, replaced.
-/
import Derived.Test.YtihpojllalnmcaaChB
import Derived.ArgAppend
import Derived.RegionTactic
import Derived.ChangeAlike
import Derived.StillTailTactics
namespace Go.Proofs.Ytihpojllalnmcaa
open Go.RowKit Go.Shelf

theorem idxC_spec (p : Sd → Bool) (l : List Sd) : (idxC p l = -1 ∧ ∀ j, j < l.length → p l[j]! = false) ∨ ∃ k : Nat, k < l.length ∧ idxC p l = (k : Int) ∧ p l[k]! = true ∧ ∀ j, j < k → p l[j]! = false := by
  have key : ∀ (m : List Sd) (i : Nat), (Lib.idxByFrom (fun _ y => p y) default m i = -1 ∧ ∀ j, j < m.length → p m[j]! = false) ∨ ∃ k : Nat, k < m.length ∧ Lib.idxByFrom (fun _ y => p y) default m i = ((i + k : Nat) : Int) ∧ p m[k]! = true ∧ ∀ j, j < k → p m[j]! = false := by
    intro m
    induction m with
    | nil => intro i; exact .inl ⟨rfl, fun j hj => absurd hj (Nat.not_lt_zero _)⟩
    | cons x t ih =>
      intro i
      have e : Lib.idxByFrom (fun _ y => p y) default (x :: t) i = if p x = true then (i : Int) else Lib.idxByFrom (fun _ y => p y) default t (i + 1) := rfl
      cases hx : p x
      · rw [e, if_neg (by rw [hx]; simp)]
        rcases ih (i + 1) with ⟨h1, h2⟩ | ⟨k, hk, h1, h2, h3⟩
        · refine .inl ⟨h1, fun j hj => ?_⟩
          cases j with
          | zero => exact hx
          | succ j => rw [show (x :: t)[j + 1]! = t[j]! from by simp]; exact h2 j (by simpa using hj)
        · refine .inr ⟨k + 1, by simpa using hk, by rw [h1, show i + 1 + k = i + (k + 1) by omega], by rw [show (x :: t)[k + 1]! = t[k]! from by simp]; exact h2, fun j hj => ?_⟩
          cases j with
          | zero => exact hx
          | succ j => rw [show (x :: t)[j + 1]! = t[j]! from by simp]; exact h3 j (by omega)
      · rw [e, if_pos hx]
        exact .inr ⟨0, by simp, rfl, hx, fun j hj => absurd hj (Nat.not_lt_zero _)⟩
  rcases key l 0 with h | ⟨k, hk, h1, h2⟩
  · exact .inl h
  · exact .inr ⟨k, hk, by rw [Nat.zero_add] at h1; exact h1, h2⟩
theorem chkC_parts {ep nx : Int} {l : List Sd} (h : chkC ep nx l = true) : (1 ≤ ep ∧ ep ≤ 1073741824) ∧ (1 ≤ nx ∧ nx ≤ 65537) ∧ (1 ≤ l.length ∧ l.length ≤ 24) ∧ covF 0 l = true ∧ distF l l.length = true ∧ l.all (okS nx) = true := by
  unfold chkC at h
  simp only [Bool.and_eq_true] at h
  have h1 := (btwC_iff _ _ _).1 h.1.1.1.1.1
  have h2 := (btwC_iff _ _ _).1 h.1.1.1.1.2
  have h3 := (btwC_iff _ _ _).1 h.1.1.1.2
  exact ⟨h1, h2, by omega, h.1.1.2, h.1.2, h.2⟩
def srchC (p : Sd → Bool) (ep nx : Int) (l : List Sd) : Sd × Bool := if chkC ep nx l = true ∧ 0 ≤ idxC p l then (l[(idxC p l).toNat]!, true) else ((0, 0, 0, 0), false)
def SdPost (r : Sd × Bool) (w : World) (e : Ending) (w' : World) : Prop := e = .returned (.tuple #[.agg #[.int .i64 r.1.1, .int .i64 r.1.2.1, .int .i64 r.1.2.2.1, .int .i64 r.1.2.2.2], .bool r.2]) ∧ Below w.heap.size w w'
theorem sd_ret {r : Sd × Bool} {i lo hi nd : Int} {b : Bool} (h : r = ((i, lo, hi, nd), b)) : Ending.returned (.tuple #[.agg #[.int .i64 i, .int .i64 lo, .int .i64 hi, .int .i64 nd], .bool b]) = .returned (.tuple #[.agg #[.int .i64 r.1.1, .int .i64 r.1.2.1, .int .i64 r.1.2.2.1, .int .i64 r.1.2.2.2], .bool r.2]) := by rw [h]
theorem box4Z {w W : World} {t : TypeId} {x y z u : Value} (hb : Below (w.alloc (.cells #[x, y, z, u] t)).heap.size (w.alloc (.cells #[x, y, z, u] t)) W) :
    W.cell? ⟨w.heap.size, 0, none⟩ = some x ∧ W.cell? ⟨w.heap.size, 1, none⟩ = some y ∧ W.cell? ⟨w.heap.size, 2, none⟩ = some z ∧ W.cell? ⟨w.heap.size, 3, none⟩ = some u ∧ W.frozen? ⟨w.heap.size, 0, none⟩ = false ∧ W.frozen? ⟨w.heap.size, 1, none⟩ = false ∧ W.frozen? ⟨w.heap.size, 2, none⟩ = false ∧ W.frozen? ⟨w.heap.size, 3, none⟩ = false := by
  have hs : w.heap.size < (w.alloc (.cells #[x, y, z, u] t)).heap.size := by simp
  have c := fun i => hb.cell (p := ⟨w.heap.size, i, none⟩) hs
  have f := fun i => (hb.frozen (p := ⟨w.heap.size, i, none⟩) hs).trans (frozen_of_row _ _ i _ _ (heap_alloc_new _ _))
  exact ⟨(c 0).trans (cell_of_row _ _ 0 _ _ _ (heap_alloc_new _ _)), (c 1).trans (cell_of_row _ _ 1 _ _ _ (heap_alloc_new _ _)), (c 2).trans (cell_of_row _ _ 2 _ _ _ (heap_alloc_new _ _)), (c 3).trans (cell_of_row _ _ 3 _ _ _ (heap_alloc_new _ _)), f 0, f 1, f 2, f 3⟩
def insB (x lo hi : Int) : Bool := decide (lo < x) && decide (x < hi)
theorem inside_any (x lo hi : Int) (w : World) : Calls Try.prog 38 #[.int .i64 x, .agg #[.int .i64 lo, .int .i64 hi]] w (Gives w (.bool (insB x lo hi))) := by
  have H := Lib.hid (show insB x lo hi = (decide (lo < x) && decide (x < hi)) from rfl)
  obtain ⟨r, hr⟩ : ∃ r, decide (lo < x) = r := ⟨_, rfl⟩
  obtain ⟨q, hq⟩ : ∃ q, decide (x < hi) = q := ⟨_, rfl⟩
  generalize insB x lo hi = o at H
  rw [hr, hq] at H
  have b1 : Below w.heap.size w (w.alloc (.cells #[.int .i64 lo, .int .i64 hi] 59)) := (Below.refl _ _).alloc (Nat.le_refl _) _
  cases r <;> cases q
  all_goals
    go_enter Try.func38, Try.ntmps38
    go_wp2
    go_ret
    exact ⟨ret_bool H.out.symm, b1⟩
def chgB (k x : Int) : Bool := k == 1 || k == 2 || (k == 3 && btwC 0 x 4)
theorem isChange_any (k i x : Int) (w : World) : Calls Try.prog 34 #[.agg #[.int .i64 k, .int .i64 i, .int .i64 x]] w (Gives w (.bool (chgB k x))) := by
  have H := Lib.hid (show chgB k x = (k == 1 || k == 2 || (k == 3 && btwC 0 x 4)) from rfl)
  obtain ⟨k1, h1⟩ : ∃ r, (k == 1) = r := ⟨_, rfl⟩
  obtain ⟨k2, h2⟩ : ∃ r, (k == 2) = r := ⟨_, rfl⟩
  obtain ⟨k3, h3⟩ : ∃ r, (k == 3) = r := ⟨_, rfl⟩
  have IN := Lib.hid (fun W => isNode_any x W)
  generalize chgB k x = o at H
  rw [h1, h2, h3] at H
  have b1 : Below w.heap.size w (w.alloc (.cells #[.int .i64 k, .int .i64 i, .int .i64 x] 33)) := (Below.refl _ _).alloc (Nat.le_refl _) _
  cases k1 <;> cases k2 <;> cases k3
  all_goals
    go_enter Try.func34, Try.ntmps34
    go_wp2_with (go_at_call 58; (with_reducible refine (IN.out _).mono ?_); rintro e w' ⟨rfl, rfl⟩)
    go_ret
    exact ⟨ret_bool (by rw [H.out]; rfl), b1⟩
def repN (k : Int) : Nat := if k = 2 then 2 else 1
theorem replaces_any (k i x : Int) (w : World) : Calls Try.prog 37 #[.agg #[.int .i64 k, .int .i64 i, .int .i64 x]] w (Gives w (.int .i64 (repN k : Int))) := by
  have b1 : Below w.heap.size w (w.alloc (.cells #[.int .i64 k, .int .i64 i, .int .i64 x] 33)) := (Below.refl _ _).alloc (Nat.le_refl _) _
  by_cases hk : k = 2
  · have hb : (k == 2) = true := by simpa using hk
    have H := Lib.hid (show repN k = 2 from if_pos hk)
    clear hk
    go_enter Try.func37, Try.ntmps37
    go_wp2
    go_ret
    exact ⟨ret_int (by rw [H.out]; rfl), b1⟩
  · have hb : (k == 2) = false := by simpa using hk
    have H := Lib.hid (show repN k = 1 from if_neg hk)
    clear hk
    go_enter Try.func37, Try.ntmps37
    go_wp2
    go_ret
    exact ⟨ret_int (by rw [H.out]; rfl), b1⟩
theorem Try.infoShard : (Try.prog.info? 61).map (fun i => (i.zero, i.size, i.bytes)) = some (some (.agg #[.int .i64 0, .int .i64 0, .int .i64 0, .int .i64 0]), 4, 32) := by kernel_rfl
theorem encS_one (l : List Sd) : ∀ v ∈ flatR encS l, v.oneCell' = true := by
  intro v hv
  unfold flatR at hv
  obtain ⟨x, _, hx⟩ := List.mem_flatMap.1 hv
  simp [encS] at hx
  rcases hx with rfl | rfl | rfl | rfl <;> rfl
theorem RIn.flatS {w : World} {B : Nat} {b off : Nat} {l : List Sd} (h : RIn encS 4 w B (some ⟨b, off, none⟩) l) (j : Nat) (u : Value) (hj : (flatR encS l)[j]? = some u) : w.cell? ⟨b, off + j, none⟩ = some u := by
  have hl := flatR_length encS_len l
  have hlt : j < l.length * 4 := by
    rcases Nat.lt_or_ge j (flatR encS l).length with h | h
    · rwa [hl] at h
    · rw [List.getElem?_eq_none h] at hj; cases hj
  have hq : j / 4 < l.length := by omega
  obtain ⟨b', off', e, _, hc⟩ := h (j / 4) hq
  cases e
  have hi : j % 4 < 4 := Nat.mod_lt _ (by omega)
  obtain ⟨v, hv⟩ : ∃ v, (encS l[j / 4]!)[j % 4]? = some v := ⟨_, List.getElem?_eq_getElem (by rw [encS_len]; exact hi)⟩
  have h1 := flatR_get encS_len l (j / 4) (j % 4) v hq hv
  rw [show j / 4 * 4 + j % 4 = j by omega, hj] at h1
  cases h1
  have := hc (j % 4) u hv
  rwa [show off + j / 4 * 4 + j % 4 = off + j by omega] at this
theorem RIn.sub {w : World} {B : Nat} {b off : Nat} {l : List Sd} (h : RIn encS 4 w B (some ⟨b, off, none⟩) l) (f m : Nat) : RIn encS 4 w B (some ⟨b, off + f * 4, none⟩) ((l.drop f).take m) := fun j hj => by
  have hj2 : j < m ∧ f + j < l.length := by rw [List.length_take, List.length_drop] at hj; omega
  obtain ⟨b', off', e, hb, hc⟩ := h (f + j) hj2.2
  cases e
  refine ⟨b, off + f * 4, rfl, hb, fun i v hi => ?_⟩
  have he : ((l.drop f).take m)[j]! = l[f + j]! := by
    rw [getElem!_pos _ j hj, getElem!_pos l (f + j) hj2.2, List.getElem_take, List.getElem_drop]
  rw [he] at hi
  have := hc i v hi
  rwa [show off + (f + j) * 4 + i = off + f * 4 + j * 4 + i by omega] at this
def ShPost (base : Nat) (l : List Sd) (w : World) (e : Ending) (w' : World) : Prop := ∃ v, e = .returned v ∧ OwnsR encS 4 61 w' base v l ∧ Below base w w'
theorem cloneShard_any (b off n c : Nat) (l : List Sd) (w : World) (hn : n = l.length) (hz : l.length ≤ 1000) (h : RIn encS 4 w w.heap.size (some ⟨b, off, none⟩) l) :
    Calls Try.prog 31 #[.slice (some ⟨b, off, none⟩) n c] w (ShPost w.heap.size l w) := by
  subst hn
  obtain ⟨i0, hi, hz0, hz1, hz2⟩ := info_parts Try.infoShard
  exact (AnyE.slices_Clone Try.lCloneShard i0 (.agg #[.int .i64 0, .int .i64 0, .int .i64 0, .int .i64 0]) 4 32 hi hz0 hz1 hz2 rfl (by decide) Try.sizeOf61 b off l.length c (flatR encS l) w (flatR_length encS_len l) (by unfold maxLen; omega) (by omega) (fun j u hj => h.flatS j u hj) (encS_one l)).mono
    fun _ _ ⟨v, he, ho, _, hb⟩ => ⟨v, he, ho, hb⟩
end Go.Proofs.Ytihpojllalnmcaa
