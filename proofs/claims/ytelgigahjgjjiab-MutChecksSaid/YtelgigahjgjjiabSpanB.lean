/-
  CONTRACTS: Count; begun, nextEdge, after (the first span of what is left of a set); limit.
-/
import Derived.Test.YtelgigahjgjjiabSpanA
namespace Go.Proofs.Ytelgigahjgjjiab
open Go.RowKit

theorem sum_bd {l : List Sp} (h : canB (-1) l = true) : 0 ≤ lenSum l ∧ lenSum l ≤ 4096 := by
  rw [sum_of_can h]; have := cntN_nonneg (hasB l) 4096; exact this
theorem chkB_can {l : List Sp} (h : chkB l = true) : canB (-1) l = true ∧ l.length ≤ 64 := by
  unfold chkB at h; rw [Bool.and_eq_true, decide_eq_true_eq] at h; exact h
def cntB (l : List Sp) : Int := if chkB l = true then lenSum l else 0

set_option maxRecDepth 100000 in
set_option maxHeartbeats 1000000 in
theorem count_any (a : Option Addr) (cap : Nat) (l : List Sp) (w : World) (hz : (l.length : Int) ≤ 9223372036854775807) (h : PIn w w.heap.size a l) :
    Calls Try.prog 22 #[.slice a l.length cap] w (Gives w (.int .i64 (cntB l))) := by
  have HP := Lib.hid h
  clear h
  cases hc : chkB l
  · have H := Lib.hid (show cntB l = 0 by unfold cntB; rw [if_neg (by rw [hc]; simp)])
    replace hc := Lib.hid hc
    go_enter Try.func22, Try.ntmps22
    go_wp2_with (go_at_call 19; refine (check_any _ _ l _ hz HP.out).mono ?_; rw [hc.out]; rintro e w' ⟨rfl, hb⟩)
    go_ret
    exact ⟨ret_int H.out.symm, hb⟩
  · have H := Lib.hid (show cntB l = lenSum l by unfold cntB; rw [if_pos hc])
    obtain ⟨hcan, hlen⟩ := chkB_can hc
    have HC := Lib.hid hcan
    clear hcan
    replace hc := Lib.hid hc
    go_enter Try.func22, Try.ntmps22
    go_wp2_with (go_at_call 19; refine (check_any _ _ l _ hz HP.out).mono ?_; rw [hc.out]; rintro e w1 ⟨rfl, hb1⟩)
    go_loopw [3, 5, 11] (fun n _ i wr => ∃ (k : Nat) (z : Int), i = .int .i64 (k : Int) ∧ n = .int .i64 z ∧ k ≤ l.length ∧ Hid (lenSum (l.take k) = z) ∧ 0 ≤ z ∧ z ≤ 4096 ∧ Below w.heap.size w wr)
      (fun _ _ i _ => l.length - (intOf i).toNat)
    case atStart => exact ⟨0, 0, rfl, rfl, by omega, Lib.hid rfl, by omega, by omega, hb1⟩
    case round =>
      obtain ⟨k, z, rfl, rfl, hk, HS, hz0, hz1, hbl⟩ := hrel
      by_cases hlt : k < l.length
      · obtain ⟨b, off, rfl, hb, c0, c1⟩ := (HP.out.below hbl) k hlt
        obtain ⟨s, hs⟩ : ∃ s, l.getD k (0, 0) = s := ⟨_, rfl⟩
        rw [hs] at c0 c1
        have hcan : canB (-1) (l.take (k + 1)) = true := canB_prefix (m := l.drop (k + 1)) (by rw [List.take_append_drop]; exact HC.out)
        have hsum := sum_bd hcan
        have hone := (oneB_iff s).1 (canB_all HC.out s (List.mem_iff_getElem?.2 ⟨k, by rw [← hs]; exact getD_of hlt⟩))
        rw [take_more hlt, lenSum_snoc, hs, HS.out] at hsum
        replace hs := Lib.hid hs
        clear hcan
        obtain ⟨x, y⟩ := s
        dsimp only at c0 c1 hsum hone
        obtain ⟨s0, s1⟩ := hsum
        obtain ⟨o1, o2, o3⟩ := hone
        go_wp2
        go_roundw
        case rel => exact ⟨k + 1, z + (y - x), by go_num, by go_num, by omega, Lib.hid (by rw [take_more hlt, lenSum_snoc, hs.out, HS.out]), by omega, by omega, below_alloc hbl _⟩
        case measure => simp [intOf]; omega
      · have hkl : l.take k = l := List.take_of_length_le (by omega)
        replace hkl := Lib.hid hkl
        go_wp2
        go_ret
        exact ⟨ret_int (by rw [H.out, ← HS.out, hkl.out]), hbl⟩

def begB (l : List Sp) (k : Int) : Bool := match l with | [] => false | s :: _ => decide (s.1 ≤ k)
def edgeOf (l : List Sp) (lo : Int) : Int := match l with | [] => 4096 | s :: _ => if s.1 ≤ lo then s.2 else s.1
def aftOf (l : List Sp) (hi : Int) : List Sp := match l with | [] => [] | s :: t => if s.2 = hi then t else s :: t

theorem ret_slice {a b : Option Addr} {n m c d : Nat} (h1 : a = b) (h2 : n = m) (h3 : c = d) : Ending.returned (.slice a n c) = .returned (.slice b m d) := by rw [h1, h2, h3]
/-- What is left of a set, and where. -/
def Left (w : World) (B : Nat) (l : List Sp) (e : Ending) (w' : World) : Prop := w = w' ∧ ∃ a cap, e = .returned (.slice a l.length cap) ∧ l.length ≤ cap ∧ cap ≤ maxLen ∧ PIn w' B a l
theorem PIn.tail {w : World} {B b off : Nat} {s : Sp} {t : List Sp} (h : PIn w B (some ⟨b, off, none⟩) (s :: t)) : PIn w B (some ⟨b, off + 2, none⟩) t := fun k hk => by
  obtain ⟨b', off', e, hb, h1, h2⟩ := h (k + 1) (by simpa using hk)
  cases e
  rw [List.getD_cons_succ, show off + (k + 1) * 2 = off + 2 + k * 2 from by omega] at h1 h2
  exact ⟨b, off + 2, rfl, hb, h1, h2⟩

theorem limit_any (a : Option Addr) (n cap : Nat) (w : World) (hz : (n : Int) ≤ 9223372036854775807) :
    Calls Try.prog 72 #[.slice a n cap] w fun e w' => e = .returned (if n ≤ 64 then .tuple #[.slice a n cap, .int .i64 0] else .tuple #[.slice none 0 0, .int .i64 2]) ∧ w = w' := by
  by_cases h : n ≤ 64
  · have H := Lib.hid (show (if n ≤ 64 then Value.tuple #[.slice a n cap, .int .i64 0] else .tuple #[.slice none 0 0, .int .i64 2]) = .tuple #[.slice a n cap, .int .i64 0] from if_pos h)
    generalize (if n ≤ 64 then Value.tuple #[.slice a n cap, .int .i64 0] else .tuple #[.slice none 0 0, .int .i64 2]) = r at H
    go_enter Try.func72, Try.ntmps72
    go_wp2
    go_ret2
    exact ⟨by rw [H.out]; rfl, rfl⟩
  · have H := Lib.hid (show (if n ≤ 64 then Value.tuple #[.slice a n cap, .int .i64 0] else .tuple #[.slice none 0 0, .int .i64 2]) = .tuple #[.slice none 0 0, .int .i64 2] from if_neg h)
    generalize (if n ≤ 64 then Value.tuple #[.slice a n cap, .int .i64 0] else .tuple #[.slice none 0 0, .int .i64 2]) = r at H
    go_enter Try.func72, Try.ntmps72
    go_wp2
    go_ret2
    exact ⟨by rw [H.out]; rfl, rfl⟩
end Go.Proofs.Ytelgigahjgjjiab
