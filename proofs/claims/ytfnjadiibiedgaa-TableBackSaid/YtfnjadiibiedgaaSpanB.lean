/-
  CONTRACTS: Count; begun, nextEdge, after (the first span of what is left of a set); limit.
-/
import Derived.Test.YtfnjadiibiedgaaSpanA
namespace Go.Proofs.Ytfnjadiibiedgaa
open Go.RowKit

theorem sum_bd {l : List Sp} (h : canB (-1) l = true) : 0 ≤ lenSum l ∧ lenSum l ≤ 4096 := by
  rw [sum_of_can h]; have := cntN_nonneg (hasB l) 4096; exact this
theorem chkB_can {l : List Sp} (h : chkB l = true) : canB (-1) l = true ∧ l.length ≤ 64 := by
  unfold chkB at h; rw [Bool.and_eq_true, decide_eq_true_eq] at h; exact h
def cntB (l : List Sp) : Int := if chkB l = true then lenSum l else 0

set_option maxRecDepth 100000 in
set_option maxHeartbeats 1000000 in
theorem count_any (a : Option Addr) (cap : Nat) (l : List Sp) (w : World) (hz : (l.length : Int) ≤ 9223372036854775807) (h : PIn w w.heap.size a l) :
    Calls Try.prog 23 #[.slice a l.length cap] w (Gives w (.int .i64 (cntB l))) := by
  have HP := Lib.hid h
  clear h
  cases hc : chkB l
  · have H := Lib.hid (show cntB l = 0 by unfold cntB; rw [if_neg (by rw [hc]; simp)])
    replace hc := Lib.hid hc
    go_enter Try.func23, Try.ntmps23
    go_wp2_with (go_at_call 19; refine (check_any _ _ l _ hz HP.out).mono ?_; rw [hc.out]; rintro e w' ⟨rfl, hb⟩)
    go_ret
    exact ⟨ret_int H.out.symm, hb⟩
  · have H := Lib.hid (show cntB l = lenSum l by unfold cntB; rw [if_pos hc])
    obtain ⟨hcan, hlen⟩ := chkB_can hc
    have HC := Lib.hid hcan
    clear hcan
    replace hc := Lib.hid hc
    go_enter Try.func23, Try.ntmps23
    go_wp2_with (go_at_call 19; refine (check_any _ _ l _ hz HP.out).mono ?_; rw [hc.out]; rintro e w1 ⟨rfl, hb1⟩)
    go_loopw [3, 5, 11] (fun n _ i wr => ∃ (k : Nat) (z : Int), i = .int .i64 (k : Int) ∧ n = .int .i64 z ∧ k ≤ l.length ∧ Hid (lenSum (l.take k) = z) ∧ 0 ≤ z ∧ z ≤ 4096 ∧ Below w.heap.size w wr)
      (fun _ _ i _ => l.length - (intOf i).toNat)
    case atStart => exact ⟨0, 0, rfl, rfl, by omega, Lib.hid rfl, by omega, by omega, hb1⟩
    case round =>
      obtain ⟨k, z, rfl, rfl, hk, HS, hz0, hz1, hbl⟩ := hrel
      by_cases hlt : k < l.length
      · obtain ⟨b, off, rfl, hb, c0, c1⟩ := (HP.out.below hbl) k hlt
        obtain ⟨s, hs⟩ : ∃ s, l.getD k (0, 0) = s := ⟨_, rfl⟩
        rw [hs] at c0 c1
        have hcan : canB (-1) (l.take (k + 1)) = true := canB_prefix (m := l.drop (k + 1)) (by rw [List.take_append_drop]; exact HC.out)
        have hsum := sum_bd hcan
        have hone := (oneB_iff s).1 (canB_all HC.out s (List.mem_iff_getElem?.2 ⟨k, by rw [← hs]; exact getD_of hlt⟩))
        rw [take_more hlt, lenSum_snoc, hs, HS.out] at hsum
        replace hs := Lib.hid hs
        clear hcan
        obtain ⟨x, y⟩ := s
        dsimp only at c0 c1 hsum hone
        obtain ⟨s0, s1⟩ := hsum
        obtain ⟨o1, o2, o3⟩ := hone
        go_wp2
        go_roundw
        case rel => exact ⟨k + 1, z + (y - x), by go_num, by go_num, by omega, Lib.hid (by rw [take_more hlt, lenSum_snoc, hs.out, HS.out]), by omega, by omega, below_alloc hbl _⟩
        case measure => simp [intOf]; omega
      · have hkl : l.take k = l := List.take_of_length_le (by omega)
        replace hkl := Lib.hid hkl
        go_wp2
        go_ret
        exact ⟨ret_int (by rw [H.out, ← HS.out, hkl.out]), hbl⟩

def begB (l : List Sp) (k : Int) : Bool := match l with | [] => false | s :: _ => decide (s.1 ≤ k)
def edgeOf (l : List Sp) (lo : Int) : Int := match l with | [] => 4096 | s :: _ => if s.1 ≤ lo then s.2 else s.1
def aftOf (l : List Sp) (hi : Int) : List Sp := match l with | [] => [] | s :: t => if s.2 = hi then t else s :: t

set_option maxHeartbeats 400000 in
theorem begun_any (a : Option Addr) (cap : Nat) (l : List Sp) (key : Int) (w : World) {B : Nat} (hz : (l.length : Int) ≤ 9223372036854775807) (h : PIn w B a l) :
    Calls Try.prog 170 #[.slice a l.length cap, .int .i64 key] w fun e w' => e = .returned (.bool (begB l key)) ∧ w = w' := by
  cases l with
  | nil =>
    go_enter Try.func170, Try.ntmps170
    go_wp2
    go_ret
    exact ⟨rfl, rfl⟩
  | cons s t =>
    obtain ⟨b, off, rfl, hb, c0, c1⟩ := h 0 (by simp)
    obtain ⟨x, y⟩ := s
    have H := Lib.hid (show begB ((x, y) :: t) key = decide (x ≤ key) from rfl)
    generalize begB ((x, y) :: t) key = r at H
    simp only [List.getD_cons_zero, Nat.zero_mul, Nat.add_zero, List.length_cons] at c0 c1 hz ⊢
    go_enter Try.func170, Try.ntmps170
    go_wp2
    all_goals
      go_ret
      exact ⟨ret_bool (by first | exact H.out.symm | (rw [H.out]; simp [*])), rfl⟩

set_option maxRecDepth 100000 in
set_option maxHeartbeats 400000 in
theorem nextEdge_any (a : Option Addr) (cap : Nat) (l : List Sp) (key : Int) (w : World) {B : Nat} (hz : (l.length : Int) ≤ 9223372036854775807) (h : PIn w B a l) :
    Calls Try.prog 169 #[.slice a l.length cap, .int .i64 key] w fun e w' => e = .returned (.int .i64 (edgeOf l key)) ∧ w = w' := by
  cases l with
  | nil =>
    go_enter Try.func169, Try.ntmps169
    go_wp2
    go_ret
    exact ⟨rfl, rfl⟩
  | cons s t =>
    obtain ⟨b, off, rfl, hb, c0, c1⟩ := h 0 (by simp)
    have HB : ∀ c, begB (s :: t) key = c → Hid (∀ w, PIn w B (some ⟨b, off, none⟩) (s :: t) → Calls Try.prog 170 #[.slice (some ⟨b, off, none⟩) (s :: t).length cap, .int .i64 key] w fun e w' => e = .returned (.bool c) ∧ w = w') :=
      fun c hc => Lib.hid fun w h => by rw [← hc]; exact begun_any _ cap (s :: t) key w hz h
    have HP := Lib.hid h
    obtain ⟨x, y⟩ := s
    have H := Lib.hid (show edgeOf ((x, y) :: t) key = if x ≤ key then y else x from rfl)
    generalize edgeOf ((x, y) :: t) key = r at H
    simp only [List.getD_cons_zero, Nat.zero_mul, Nat.add_zero] at c0 c1
    obtain ⟨n, hn⟩ : ∃ n, ((x, y) :: t).length = n := ⟨_, rfl⟩
    rw [hn] at hz HB ⊢
    have hpos : 0 < n := by rw [← hn]; simp
    have hpz : ((n : Int) == 0) = false := by simp; omega
    clear h hn
    by_cases hx : x ≤ key
    · have HB' := HB true (decide_eq_true hx)
      clear HB
      go_enter Try.func169, Try.ntmps169
      go_wp2_with (go_at_call 170; refine (HB'.out _ HP.out).mono ?_; rintro e w' ⟨rfl, rfl⟩)
      go_ret
      exact ⟨ret_int (by rw [H.out, if_pos hx]), rfl⟩
    · have HB' := HB false (decide_eq_false hx)
      clear HB
      go_enter Try.func169, Try.ntmps169
      go_wp2_with (go_at_call 170; refine (HB'.out _ HP.out).mono ?_; rintro e w' ⟨rfl, rfl⟩)
      go_ret
      exact ⟨ret_int (by rw [H.out, if_neg (by omega)]), rfl⟩

theorem ret_slice {a b : Option Addr} {n m c d : Nat} (h1 : a = b) (h2 : n = m) (h3 : c = d) : Ending.returned (.slice a n c) = .returned (.slice b m d) := by rw [h1, h2, h3]
/-- What is left of a set, and where. -/
def Left (w : World) (B : Nat) (l : List Sp) (e : Ending) (w' : World) : Prop := w = w' ∧ ∃ a cap, e = .returned (.slice a l.length cap) ∧ l.length ≤ cap ∧ cap ≤ maxLen ∧ PIn w' B a l
theorem PIn.tail {w : World} {B b off : Nat} {s : Sp} {t : List Sp} (h : PIn w B (some ⟨b, off, none⟩) (s :: t)) : PIn w B (some ⟨b, off + 2, none⟩) t := fun k hk => by
  obtain ⟨b', off', e, hb, h1, h2⟩ := h (k + 1) (by simpa using hk)
  cases e
  rw [List.getD_cons_succ, show off + (k + 1) * 2 = off + 2 + k * 2 from by omega] at h1 h2
  exact ⟨b, off + 2, rfl, hb, h1, h2⟩

set_option maxHeartbeats 400000 in
theorem after_any (a : Option Addr) (cap : Nat) (l : List Sp) (hi : Int) (w : World) {B : Nat} (hz : (l.length : Int) ≤ 9223372036854775807) (hcap : l.length ≤ cap) (hmax : cap ≤ maxLen) (h : PIn w B a l) :
    Calls Try.prog 171 #[.slice a l.length cap, .int .i64 hi] w (Left w B (aftOf l hi)) := by
  cases l with
  | nil =>
    go_enter Try.func171, Try.ntmps171
    go_wp2
    go_ret
    exact ⟨rfl, a, cap, rfl, hcap, hmax, PIn.nil _ _ _⟩
  | cons s t =>
    have HP := Lib.hid h
    obtain ⟨b, off, rfl, hb, c0, c1⟩ := h 0 (by simp)
    obtain ⟨x, y⟩ := s
    simp only [List.getD_cons_zero, Nat.zero_mul, Nat.add_zero] at c0 c1
    obtain ⟨n, hn⟩ : ∃ n, ((x, y) :: t).length = n := ⟨_, rfl⟩
    rw [hn] at hz hcap ⊢
    have hn' : n = t.length + 1 := by rw [← hn]; rfl
    have HN := Lib.hid hn'
    have hpos : 0 < n := by omega
    clear h hn hn'
    by_cases hy : y = hi
    · have H := Lib.hid (show aftOf ((x, y) :: t) hi = t from by simp [aftOf, hy])
      generalize aftOf ((x, y) :: t) hi = r at H
      have hd : (y == hi) = true := by simpa using hy
      clear hy
      unfold maxLen at hmax
      by_cases hcc : cap = 1
      · subst hcc
        go_enter Try.func171, Try.ntmps171
        go_wp2
        go_ret
        have ht : t = [] := List.eq_nil_of_length_eq_zero (by have := HN.out; omega)
        exact ⟨rfl, _, _, ret_slice rfl (by rw [H.out]; have := HN.out; omega) rfl, by rw [H.out, ht]; exact Nat.zero_le _, by unfold maxLen; omega, by rw [H.out, ht]; exact PIn.nil _ _ _⟩
      · go_enter Try.func171, Try.ntmps171
        go_wp2
        go_ret
        exact ⟨rfl, _, _, ret_slice rfl (by rw [H.out]; have := HN.out; omega) rfl, by rw [H.out]; have := HN.out; omega, by unfold maxLen; omega, by rw [H.out]; exact HP.out.tail⟩
    · have H := Lib.hid (show aftOf ((x, y) :: t) hi = (x, y) :: t from by simp [aftOf, hy])
      generalize aftOf ((x, y) :: t) hi = r at H
      have hd : (y == hi) = false := by simpa using hy
      clear hy
      go_enter Try.func171, Try.ntmps171
      go_wp2
      go_ret
      exact ⟨rfl, _, cap, ret_slice rfl (by rw [H.out, HN.out]; rfl) rfl, by rw [H.out, List.length_cons, ← HN.out]; exact hcap, hmax, by rw [H.out]; exact HP.out⟩

theorem limit_any (a : Option Addr) (n cap : Nat) (w : World) (hz : (n : Int) ≤ 9223372036854775807) :
    Calls Try.prog 101 #[.slice a n cap] w fun e w' => e = .returned (if n ≤ 64 then .tuple #[.slice a n cap, .int .i64 0] else .tuple #[.slice none 0 0, .int .i64 2]) ∧ w = w' := by
  by_cases h : n ≤ 64
  · have H := Lib.hid (show (if n ≤ 64 then Value.tuple #[.slice a n cap, .int .i64 0] else .tuple #[.slice none 0 0, .int .i64 2]) = .tuple #[.slice a n cap, .int .i64 0] from if_pos h)
    generalize (if n ≤ 64 then Value.tuple #[.slice a n cap, .int .i64 0] else .tuple #[.slice none 0 0, .int .i64 2]) = r at H
    go_enter Try.func101, Try.ntmps101
    go_wp2
    go_ret2
    exact ⟨by rw [H.out]; rfl, rfl⟩
  · have H := Lib.hid (show (if n ≤ 64 then Value.tuple #[.slice a n cap, .int .i64 0] else .tuple #[.slice none 0 0, .int .i64 2]) = .tuple #[.slice none 0 0, .int .i64 2] from if_neg h)
    generalize (if n ≤ 64 then Value.tuple #[.slice a n cap, .int .i64 0] else .tuple #[.slice none 0 0, .int .i64 2]) = r at H
    go_enter Try.func101, Try.ntmps101
    go_wp2
    go_ret2
    exact ⟨by rw [H.out]; rfl, rfl⟩
end Go.Proofs.Ytfnjadiibiedgaa
