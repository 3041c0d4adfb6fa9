/-
  DELTA: the document's find and keys.
-/
import Derived.Test.YtmifjippdlmpiaaDeB
import Derived.Test.YtmifjippdlmpiaaDeD
namespace Go.Proofs.Ytmifjippdlmpiaa
open Go.RowKit Go.Deep Go.Shelf

/-- The place of a key; the length, if there is none. -/
def ixT : List Tn → Int → Nat
  | [], _ => 0
  | t :: l, k => if t.1 = k then 0 else ixT l k + 1
theorem ixT_le : ∀ (l : List Tn) (k : Int), ixT l k ≤ l.length
  | [], _ => Nat.le_refl _
  | t :: l, k => by
    unfold ixT
    split
    · exact Nat.zero_le _
    · have := ixT_le l k; simp only [List.length_cons]; omega
theorem ixT_fnd : ∀ (l : List Tn) (k : Int), fnd kT l k = if ixT l k < l.length then some l[ixT l k]! else none
  | [], _ => rfl
  | t :: l, k => by
    rw [fnd_cons]
    unfold ixT
    by_cases h : t.1 = k
    · rw [if_pos h, if_pos h, if_pos (by simp)]; rfl
    · rw [if_neg h, if_neg h, ixT_fnd l k]
      by_cases h2 : ixT l k < l.length
      · rw [if_pos h2, if_pos (by simpa using h2)]
        rw [getElem!_pos l _ h2, getElem!_pos (t :: l) _ (by simpa using h2)]
        simp
      · rw [if_neg h2, if_neg (by simpa using h2)]
theorem ixT_step {l : List Tn} {k : Int} : ∀ {j : Nat}, j < l.length → l[j]!.1 = k → (∀ m, m < j → l[m]!.1 ≠ k) → ixT l k = j := by
  induction l with
  | nil => intro j hj; exact absurd hj (Nat.not_lt_zero _)
  | cons t l ih =>
    intro j hj he hb
    unfold ixT
    cases j with
    | zero =>
      have : t.1 = k := he
      rw [if_pos this]
    | succ j =>
      have h0 : t.1 ≠ k := hb 0 (by omega)
      rw [if_neg h0]
      have e2 : ∀ m, (t :: l)[m + 1]! = l[m]! := fun m => by simp
      rw [ih (j := j) (by simpa using hj) (by rw [← e2]; exact he) (fun m hm => by rw [← e2]; exact hb (m + 1) (by omega))]
theorem ixT_none {l : List Tn} {k : Int} (h : ∀ m, m < l.length → l[m]!.1 ≠ k) : ixT l k = l.length := by
  have h1 := ixT_fnd l k
  rcases Nat.lt_or_ge (ixT l k) l.length with h2 | h2
  · rw [if_pos h2] at h1
    have := (fnd_some h1).2
    exact absurd this (h _ h2)
  · have := ixT_le l k; omega
/-- What find answers. -/
def fixZ (l : List Tn) (k : Int) : Int := if ixT l k < l.length then (ixT l k : Int) else -1
def FindPost (w : World) (z : Int) (e : Ending) (w' : World) : Prop := e = .returned (.int .i64 z) ∧ w = w'
set_option maxRecDepth 100000 in
set_option maxHeartbeats 1000000 in
theorem rfind_any (a : Option Addr) (n c : Nat) (l : List Tn) (k : Int) (w : World) (h : RArg encT 5 w a n c l) :
    Calls Try.prog 50 #[.slice a n c, .int .i64 k] w (FindPost w (fixZ l k)) := by
  have hp := Lib.hid h
  obtain ⟨rfl, hz, _, _, _⟩ := h
  obtain ⟨r, hr⟩ : ∃ r, fixZ l k = r := ⟨_, rfl⟩
  rw [hr]
  replace hr := Lib.hid hr
  go_enter Try.func50, Try.ntmps50
  go_wp2_with fail
  go_loop [5] (fun i => ∃ (j : Nat), i = .int .i64 (j : Int) ∧ j ≤ l.length ∧ Hid (∀ m, m < j → l[m]!.1 ≠ k))
    (fun i => l.length - (intOf i).toNat)
  case atStart => exact ⟨0, rfl, by omega, Lib.hid (fun m hm => absurd hm (Nat.not_lt_zero _))⟩
  case round =>
    obtain ⟨j, rfl, hj, HB⟩ := hrel
    by_cases hlt : j < l.length
    · obtain ⟨b, off, e, hb, d0, d1, d2, d3, d4⟩ := hp.out.tns hlt
      subst e
      have hjz : (j : Int) < (l.length : Int) := by omega
      by_cases he : l[j]!.1 = k
      · have HF := Lib.hid (show r = (j : Int) by rw [← hr.out]; unfold fixZ; rw [ixT_step hlt he HB.out, if_pos hlt])
        have hb1 : (l[j]!.1 == k) = true := beq_yes he
        clear he d1 d2 d3 d4
        generalize l[j]!.1 = kk at d0 hb1
        go_wp2_with fail
        go_ret
        exact ⟨by rw [HF.out]; rfl, rfl⟩
      · have HN := Lib.hid (show ∀ m, m < j + 1 → l[m]!.1 ≠ k from fun m hm => by
          rcases Nat.lt_or_ge m j with h | h
          · exact HB.out m h
          · obtain rfl : m = j := by omega
            exact he)
        have hb1 : (l[j]!.1 == k) = false := beq_no he
        clear he d1 d2 d3 d4
        generalize l[j]!.1 = kk at d0 hb1
        go_wp2_with fail
        go_round
        case rel => exact ⟨j + 1, by go_num, by omega, HN⟩
        case measure => simp [intOf]; omega
    · have hjz : ¬ (j : Int) < (l.length : Int) := by omega
      have HF := Lib.hid (show r = -1 by rw [← hr.out]; unfold fixZ; rw [ixT_none (fun m hm => HB.out m (by omega)), if_neg (Nat.lt_irrefl _)])
      go_wp2_with fail
      go_ret
      exact ⟨by rw [HF.out]; rfl, rfl⟩
/-- The keys of the meetings. -/
def keysS (l m : List Tn) : List Int := (meetsTT l m).map Mt.key
theorem keysS_nil : keysS [] [] = [] := by unfold keysS; simp only [meetsTT, meets_nil]; rfl
theorem keysS_a (x : Tn) (l : List Tn) : keysS (x :: l) [] = x.1 :: keysS l [] := by unfold keysS; simp only [meetsTT, meets_a]; rfl
theorem keysS_b (y : Tn) (m : List Tn) : keysS [] (y :: m) = y.1 :: keysS [] m := by unfold keysS; simp only [meetsTT, meets_b]; rfl
theorem keysS_lt {x y : Tn} (l m : List Tn) (h : x.1 < y.1) : keysS (x :: l) (y :: m) = x.1 :: keysS l (y :: m) := by unfold keysS; simp only [meetsTT]; rw [meets_lt _ _ _ _ _ _ h]; rfl
theorem keysS_gt {x y : Tn} (l m : List Tn) (h : y.1 < x.1) : keysS (x :: l) (y :: m) = y.1 :: keysS (x :: l) m := by unfold keysS; simp only [meetsTT]; rw [meets_gt _ _ _ _ _ _ h]; rfl
theorem keysS_eq {x y : Tn} (l m : List Tn) (h : x.1 = y.1) : keysS (x :: l) (y :: m) = x.1 :: keysS l m := by unfold keysS; simp only [meetsTT]; rw [meets_eq _ _ _ _ _ _ h]; rfl
theorem keysS_len (l m : List Tn) : (keysS l m).length ≤ l.length + m.length := by unfold keysS; rw [List.length_map]; exact meets_len _ _ _ _ l m
end Go.Proofs.Ytmifjippdlmpiaa
