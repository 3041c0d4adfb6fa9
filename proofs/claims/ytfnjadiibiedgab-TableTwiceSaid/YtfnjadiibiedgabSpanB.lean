/-
  CONTRACTS: Count; begun, nextEdge, after (the first span of what is left of a set); limit.
-/
import Derived.Test.YtfnjadiibiedgabSpanA
namespace Go.Proofs.Ytfnjadiibiedgab
open Go.RowKit

theorem sum_bd {l : List Sp} (h : canB (-1) l = true) : 0 ≤ lenSum l ∧ lenSum l ≤ 4096 := by
  rw [sum_of_can h]; have := cntN_nonneg (hasB l) 4096; exact this
theorem chkB_can {l : List Sp} (h : chkB l = true) : canB (-1) l = true ∧ l.length ≤ 64 := by
  unfold chkB at h; rw [Bool.and_eq_true, decide_eq_true_eq] at h; exact h
def cntB (l : List Sp) : Int := if chkB l = true then lenSum l else 0

def begB (l : List Sp) (k : Int) : Bool := match l with | [] => false | s :: _ => decide (s.1 ≤ k)
def edgeOf (l : List Sp) (lo : Int) : Int := match l with | [] => 4096 | s :: _ => if s.1 ≤ lo then s.2 else s.1
def aftOf (l : List Sp) (hi : Int) : List Sp := match l with | [] => [] | s :: t => if s.2 = hi then t else s :: t

set_option maxHeartbeats 400000 in
theorem begun_any (a : Option Addr) (cap : Nat) (l : List Sp) (key : Int) (w : World) {B : Nat} (hz : (l.length : Int) ≤ 9223372036854775807) (h : PIn w B a l) :
    Calls Try.prog 109 #[.slice a l.length cap, .int .i64 key] w fun e w' => e = .returned (.bool (begB l key)) ∧ w = w' := by
  cases l with
  | nil =>
    go_enter Try.func109, Try.ntmps109
    go_wp2
    go_ret
    exact ⟨rfl, rfl⟩
  | cons s t =>
    obtain ⟨b, off, rfl, hb, c0, c1⟩ := h 0 (by simp)
    obtain ⟨x, y⟩ := s
    have H := Lib.hid (show begB ((x, y) :: t) key = decide (x ≤ key) from rfl)
    generalize begB ((x, y) :: t) key = r at H
    simp only [List.getD_cons_zero, Nat.zero_mul, Nat.add_zero, List.length_cons] at c0 c1 hz ⊢
    go_enter Try.func109, Try.ntmps109
    go_wp2
    all_goals
      go_ret
      exact ⟨ret_bool (by first | exact H.out.symm | (rw [H.out]; simp [*])), rfl⟩

set_option maxRecDepth 100000 in
set_option maxHeartbeats 400000 in
theorem nextEdge_any (a : Option Addr) (cap : Nat) (l : List Sp) (key : Int) (w : World) {B : Nat} (hz : (l.length : Int) ≤ 9223372036854775807) (h : PIn w B a l) :
    Calls Try.prog 108 #[.slice a l.length cap, .int .i64 key] w fun e w' => e = .returned (.int .i64 (edgeOf l key)) ∧ w = w' := by
  cases l with
  | nil =>
    go_enter Try.func108, Try.ntmps108
    go_wp2
    go_ret
    exact ⟨rfl, rfl⟩
  | cons s t =>
    obtain ⟨b, off, rfl, hb, c0, c1⟩ := h 0 (by simp)
    have HB : ∀ c, begB (s :: t) key = c → Hid (∀ w, PIn w B (some ⟨b, off, none⟩) (s :: t) → Calls Try.prog 109 #[.slice (some ⟨b, off, none⟩) (s :: t).length cap, .int .i64 key] w fun e w' => e = .returned (.bool c) ∧ w = w') :=
      fun c hc => Lib.hid fun w h => by rw [← hc]; exact begun_any _ cap (s :: t) key w hz h
    have HP := Lib.hid h
    obtain ⟨x, y⟩ := s
    have H := Lib.hid (show edgeOf ((x, y) :: t) key = if x ≤ key then y else x from rfl)
    generalize edgeOf ((x, y) :: t) key = r at H
    simp only [List.getD_cons_zero, Nat.zero_mul, Nat.add_zero] at c0 c1
    obtain ⟨n, hn⟩ : ∃ n, ((x, y) :: t).length = n := ⟨_, rfl⟩
    rw [hn] at hz HB ⊢
    have hpos : 0 < n := by rw [← hn]; simp
    have hpz : ((n : Int) == 0) = false := by simp; omega
    clear h hn
    by_cases hx : x ≤ key
    · have HB' := HB true (decide_eq_true hx)
      clear HB
      go_enter Try.func108, Try.ntmps108
      go_wp2_with (go_at_call 109; refine (HB'.out _ HP.out).mono ?_; rintro e w' ⟨rfl, rfl⟩)
      go_ret
      exact ⟨ret_int (by rw [H.out, if_pos hx]), rfl⟩
    · have HB' := HB false (decide_eq_false hx)
      clear HB
      go_enter Try.func108, Try.ntmps108
      go_wp2_with (go_at_call 109; refine (HB'.out _ HP.out).mono ?_; rintro e w' ⟨rfl, rfl⟩)
      go_ret
      exact ⟨ret_int (by rw [H.out, if_neg (by omega)]), rfl⟩

theorem ret_slice {a b : Option Addr} {n m c d : Nat} (h1 : a = b) (h2 : n = m) (h3 : c = d) : Ending.returned (.slice a n c) = .returned (.slice b m d) := by rw [h1, h2, h3]
/-- What is left of a set, and where. -/
def Left (w : World) (B : Nat) (l : List Sp) (e : Ending) (w' : World) : Prop := w = w' ∧ ∃ a cap, e = .returned (.slice a l.length cap) ∧ l.length ≤ cap ∧ cap ≤ maxLen ∧ PIn w' B a l
theorem PIn.tail {w : World} {B b off : Nat} {s : Sp} {t : List Sp} (h : PIn w B (some ⟨b, off, none⟩) (s :: t)) : PIn w B (some ⟨b, off + 2, none⟩) t := fun k hk => by
  obtain ⟨b', off', e, hb, h1, h2⟩ := h (k + 1) (by simpa using hk)
  cases e
  rw [List.getD_cons_succ, show off + (k + 1) * 2 = off + 2 + k * 2 from by omega] at h1 h2
  exact ⟨b, off + 2, rfl, hb, h1, h2⟩

set_option maxHeartbeats 400000 in
theorem after_any (a : Option Addr) (cap : Nat) (l : List Sp) (hi : Int) (w : World) {B : Nat} (hz : (l.length : Int) ≤ 9223372036854775807) (hcap : l.length ≤ cap) (hmax : cap ≤ maxLen) (h : PIn w B a l) :
    Calls Try.prog 110 #[.slice a l.length cap, .int .i64 hi] w (Left w B (aftOf l hi)) := by
  cases l with
  | nil =>
    go_enter Try.func110, Try.ntmps110
    go_wp2
    go_ret
    exact ⟨rfl, a, cap, rfl, hcap, hmax, PIn.nil _ _ _⟩
  | cons s t =>
    have HP := Lib.hid h
    obtain ⟨b, off, rfl, hb, c0, c1⟩ := h 0 (by simp)
    obtain ⟨x, y⟩ := s
    simp only [List.getD_cons_zero, Nat.zero_mul, Nat.add_zero] at c0 c1
    obtain ⟨n, hn⟩ : ∃ n, ((x, y) :: t).length = n := ⟨_, rfl⟩
    rw [hn] at hz hcap ⊢
    have hn' : n = t.length + 1 := by rw [← hn]; rfl
    have HN := Lib.hid hn'
    have hpos : 0 < n := by omega
    clear h hn hn'
    by_cases hy : y = hi
    · have H := Lib.hid (show aftOf ((x, y) :: t) hi = t from by simp [aftOf, hy])
      generalize aftOf ((x, y) :: t) hi = r at H
      have hd : (y == hi) = true := by simpa using hy
      clear hy
      unfold maxLen at hmax
      by_cases hcc : cap = 1
      · subst hcc
        go_enter Try.func110, Try.ntmps110
        go_wp2
        go_ret
        have ht : t = [] := List.eq_nil_of_length_eq_zero (by have := HN.out; omega)
        exact ⟨rfl, _, _, ret_slice rfl (by rw [H.out]; have := HN.out; omega) rfl, by rw [H.out, ht]; exact Nat.zero_le _, by unfold maxLen; omega, by rw [H.out, ht]; exact PIn.nil _ _ _⟩
      · go_enter Try.func110, Try.ntmps110
        go_wp2
        go_ret
        exact ⟨rfl, _, _, ret_slice rfl (by rw [H.out]; have := HN.out; omega) rfl, by rw [H.out]; have := HN.out; omega, by unfold maxLen; omega, by rw [H.out]; exact HP.out.tail⟩
    · have H := Lib.hid (show aftOf ((x, y) :: t) hi = (x, y) :: t from by simp [aftOf, hy])
      generalize aftOf ((x, y) :: t) hi = r at H
      have hd : (y == hi) = false := by simpa using hy
      clear hy
      go_enter Try.func110, Try.ntmps110
      go_wp2
      go_ret
      exact ⟨rfl, _, cap, ret_slice rfl (by rw [H.out, HN.out]; rfl) rfl, by rw [H.out, List.length_cons, ← HN.out]; exact hcap, hmax, by rw [H.out]; exact HP.out⟩

theorem limit_any (a : Option Addr) (n cap : Nat) (w : World) (hz : (n : Int) ≤ 9223372036854775807) :
    Calls Try.prog 93 #[.slice a n cap] w fun e w' => e = .returned (if n ≤ 64 then .tuple #[.slice a n cap, .int .i64 0] else .tuple #[.slice none 0 0, .int .i64 2]) ∧ w = w' := by
  by_cases h : n ≤ 64
  · have H := Lib.hid (show (if n ≤ 64 then Value.tuple #[.slice a n cap, .int .i64 0] else .tuple #[.slice none 0 0, .int .i64 2]) = .tuple #[.slice a n cap, .int .i64 0] from if_pos h)
    generalize (if n ≤ 64 then Value.tuple #[.slice a n cap, .int .i64 0] else .tuple #[.slice none 0 0, .int .i64 2]) = r at H
    go_enter Try.func93, Try.ntmps93
    go_wp2
    go_ret2
    exact ⟨by rw [H.out]; rfl, rfl⟩
  · have H := Lib.hid (show (if n ≤ 64 then Value.tuple #[.slice a n cap, .int .i64 0] else .tuple #[.slice none 0 0, .int .i64 2]) = .tuple #[.slice none 0 0, .int .i64 2] from if_neg h)
    generalize (if n ≤ 64 then Value.tuple #[.slice a n cap, .int .i64 0] else .tuple #[.slice none 0 0, .int .i64 2]) = r at H
    go_enter Try.func93, Try.ntmps93
    go_wp2
    go_ret2
    exact ⟨by rw [H.out]; rfl, rfl⟩
end Go.Proofs.Ytfnjadiibiedgab
