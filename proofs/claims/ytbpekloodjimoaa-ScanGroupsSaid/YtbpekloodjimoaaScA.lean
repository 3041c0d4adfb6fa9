/-
  SCAN: contracts of isCursor, below, behind.
-/
import Derived.Test.YtbpekloodjimoaaTB
import Derived.Test.YtbpekloodjimoaaGen
import Derived.Lib.MinMax
namespace Go.Proofs.Ytbpekloodjimoaa
open Go.RowKit Go.Shelf

/-- How a pair stands to a key. -/
theorem below1 (x : Sp) (key : Int) (W : World) : Calls Try.prog 54 #[.agg #[.int .i64 x.1, .int .i64 x.2], .int .i64 key] W (Gives W (.int .i64 (Lib.compareInt x.1 key))) := by
  have hcon := fun W' => cmpI_any x.1 key W'
  generalize Lib.compareInt x.1 key = r at hcon ⊢
  go_enter Try.func54, Try.ntmps54
  go_wp2_with (go_at_call 43; refine (hcon _).mono ?_; rintro e w' ⟨rfl, rfl⟩)
  go_ret
  exact ⟨rfl, (Below.refl _ _).alloc (Nat.le_refl _) _⟩
set_option maxRecDepth 100000 in
set_option maxHeartbeats 2000000 in
theorem bsearchB_any (a : Option Addr) (n c : Nat) (l : List Sp) (key : Int) (w : World) (h : Arg w a n c l) (ht : tblB l = true) :
    Calls Try.prog 49 #[.slice a n c, .int .i64 key, .func (.func 54) #[] #[]] w (PlacePost l key w) := by
  obtain ⟨hn, hz, _, _, hp⟩ := h
  have hle := tbl_le ht
  have hn1 : n ≤ 4096 := by omega
  obtain ⟨P, hP⟩ : ∃ P, plc l key = P := ⟨_, rfl⟩
  obtain ⟨r, hr⟩ : ∃ r, isT l key = r := ⟨_, rfl⟩
  have HI : ∀ i, i < n → ((l.getD i (0, 0)).1 < key ↔ i < P) := fun i hi => by rw [← hP]; exact plc_iff ht (by omega)
  have hPn : P ≤ n := by rw [← hP, hn]; exact plc_le l key
  have HR := Lib.hid (show r = decide (P < n ∧ (l.getD P (0, 0)).1 = key) by rw [← hr, ← hP, hn]; rfl)
  unfold PlacePost
  rw [hP, hr]
  replace HI := Lib.hid HI
  replace hP := Lib.hid hP
  replace hr := Lib.hid hr
  replace hn := Lib.hid hn
  replace hp := Lib.hid hp
  clear ht hle hz
  go_enter Try.func49, Try.ntmps49
  go_wp2_with fail
  go_loopw [9, 10] (fun i j wr => ∃ lo hi : Nat, i = .int .i64 (lo : Int) ∧ j = .int .i64 (hi : Int) ∧ lo ≤ P ∧ P ≤ hi ∧ hi ≤ n ∧ Below w.heap.size w wr)
    (fun i j _ => (intOf j).toNat - (intOf i).toNat)
  case atStart => exact ⟨0, n, rfl, rfl, Nat.zero_le _, hPn, Nat.le_refl _, Below.refl _ _⟩
  case round =>
    obtain ⟨lo, hi, rfl, rfl, h1, h2, h3, hbl⟩ := hrel
    by_cases hlt : lo < hi
    · have hmid : (lo + hi) / 2 < n := by omega
      obtain ⟨b, off, e, hb, c0, c1⟩ := (hp.out.below hbl) ((lo + hi) / 2) (by rw [← hn.out]; exact hmid)
      subst e
      have hio := HI.out ((lo + hi) / 2) hmid
      obtain ⟨s, hs⟩ : ∃ s, l.getD ((lo + hi) / 2) (0, 0) = s := ⟨_, rfl⟩
      rw [hs] at c0 c1 hio
      replace hs := Lib.hid hs
      obtain ⟨x, y⟩ := s
      dsimp only at c0 c1 hio
      have C := fun W => below1 (x, y) key W
      dsimp only at C
      by_cases hx : x < key
      · rw [cmp_neg1 hx] at C
        have hlp := hio.1 hx
        clear hio hx
        replace C := Lib.hid C
        go_wp2_with (go_at_call 54; (with_reducible refine (C.out _).mono ?_); rintro e w2 ⟨rfl, b2⟩)
        go_roundw
        case rel => exact ⟨(lo + hi) / 2 + 1, hi, by first | (congr 1; done) | (congr 1; omega), rfl, by omega, h2, h3, below_next hbl b2⟩
        case measure => simp [intOf]; omega
      · have hlp : ¬ (lo + hi) / 2 < P := fun q => hx (hio.2 q)
        have C' : ∃ z, 0 ≤ z ∧ z ≤ 1 ∧ ∀ W, Calls Try.prog 54 #[.agg #[.int .i64 x, .int .i64 y], .int .i64 key] W (Gives W (.int .i64 z)) := by
          by_cases he : x = key
          · exact ⟨0, by omega, by omega, fun W => by have := C W; rwa [cmp_zero he] at this⟩
          · exact ⟨1, by omega, by omega, fun W => by have := C W; rwa [cmp_pos1 (by omega)] at this⟩
        clear C hio hx
        obtain ⟨z, z0, z1, C⟩ := C'
        replace C := Lib.hid C
        go_wp2_with (go_at_call 54; (with_reducible refine (C.out _).mono ?_); rintro e w2 ⟨rfl, b2⟩)
        go_roundw
        case rel => exact ⟨lo, (lo + hi) / 2, rfl, by first | (congr 1; done) | (congr 1; omega), h1, by omega, by omega, below_next hbl b2⟩
        case measure => simp [intOf]; omega
    · have e1 : lo = P := by omega
      have e2 : hi = P := by omega
      subst e1
      by_cases hPl : lo < n
      · obtain ⟨b, off, e, hb, c0, c1⟩ := (hp.out.below hbl) lo (by rw [← hn.out]; exact hPl)
        subst e
        have hrr := HR.out
        obtain ⟨s, hs⟩ : ∃ s, l.getD lo (0, 0) = s := ⟨_, rfl⟩
        rw [hs] at c0 c1 hrr
        replace hs := Lib.hid hs
        obtain ⟨x, y⟩ := s
        dsimp only at c0 c1 hrr
        have C := fun W => below1 (x, y) key W
        dsimp only at C
        by_cases he : x = key
        · rw [cmp_zero he] at C
          rw [decide_eq_true ⟨hPl, he⟩] at hrr
          replace hrr := Lib.hid hrr
          replace C := Lib.hid C
          clear he
          go_wp2_with (go_at_call 54; (with_reducible refine (C.out _).mono ?_); rintro e w2 ⟨rfl, b2⟩)
          go_ret2
          exact ⟨by rw [hrr.out]; rfl, below_next hbl b2⟩
        · have C' : ∃ z : Int, z ≠ 0 ∧ ∀ W, Calls Try.prog 54 #[.agg #[.int .i64 x, .int .i64 y], .int .i64 key] W (Gives W (.int .i64 z)) := by
            by_cases h4 : x < key
            · exact ⟨-1, by omega, fun W => by have := C W; rwa [cmp_neg1 h4] at this⟩
            · exact ⟨1, by omega, fun W => by have := C W; rwa [cmp_pos1 (by omega)] at this⟩
          clear C
          obtain ⟨z, z0, C⟩ := C'
          have z0' : (z == 0) = false := by simpa using z0
          rw [decide_eq_false (fun q => he q.2)] at hrr
          replace hrr := Lib.hid hrr
          replace C := Lib.hid C
          clear he
          go_wp2_with (go_at_call 54; (with_reducible refine (C.out _).mono ?_); rintro e w2 ⟨rfl, b2⟩)
          go_ret2
          exact ⟨by rw [hrr.out]; rfl, below_next hbl b2⟩
      · have hrr := Lib.hid (show r = false by rw [HR.out]; exact decide_eq_false fun q => hPl q.1)
        go_wp2
        go_ret2
        exact ⟨by rw [hrr.out]; rfl, hbl⟩


theorem belowS_any (a : Option Addr) (n c : Nat) (l : List Sp) (key : Int) (w : World) (h : Arg w a n c l) (ht : tblB l = true) :
    Calls Try.prog 45 #[.slice a n c, .int .i64 key] w (Gives w (.int .i64 (plc l key : Nat))) := by
  have C := Lib.hid (bsearchB_any a n c l key w h ht)
  unfold PlacePost at C
  generalize (plc l key : Nat) = P at *
  generalize isT l key = r at *
  clear h ht
  go_enter Try.func45, Try.ntmps45
  go_wp2_with (go_at_call 49; (with_reducible refine C.out.mono ?_); rintro e w2 ⟨rfl, b2⟩)
  go_ret
  exact ⟨rfl, b2⟩
def curB (on : List Sp) (af lim : Int) : Bool := chkB on && (decide (-1 ≤ af) && (decide (af < 4096) && (decide (1 ≤ lim) && decide (lim ≤ 500))))
theorem curB_iff (on : List Sp) (af lim : Int) : curB on af lim = true ↔ chkB on = true ∧ -1 ≤ af ∧ af < 4096 ∧ 1 ≤ lim ∧ lim ≤ 500 := by
  unfold curB
  simp only [Bool.and_eq_true, decide_eq_true_iff]
theorem box3C {w W : World} {t : TypeId} {x y z : Value} (hb : Below (w.alloc (.cells #[x, y, z] t)).heap.size (w.alloc (.cells #[x, y, z] t)) W) :
    W.cell? ⟨w.heap.size, 0, none⟩ = some x ∧ W.cell? ⟨w.heap.size, 1, none⟩ = some y ∧ W.cell? ⟨w.heap.size, 2, none⟩ = some z := by
  have hs : w.heap.size < (w.alloc (.cells #[x, y, z] t)).heap.size := by simp
  have c := fun i => hb.cell (p := ⟨w.heap.size, i, none⟩) hs
  exact ⟨(c 0).trans (cell_of_row _ _ 0 _ _ _ (heap_alloc_new _ _)), (c 1).trans (cell_of_row _ _ 1 _ _ _ (heap_alloc_new _ _)), (c 2).trans (cell_of_row _ _ 2 _ _ _ (heap_alloc_new _ _))⟩
set_option maxRecDepth 100000 in
set_option maxHeartbeats 2000000 in
theorem isCursor_any (a : Option Addr) (n c : Nat) (on : List Sp) (af lim : Int) (w : World) (h : Arg w a n c on) :
    Calls Try.prog 24 #[.agg #[.slice a n c, .int .i64 af, .int .i64 lim]] w (Gives w (.bool (curB on af lim))) := by
  obtain ⟨W1, hW1⟩ : ∃ W1, w.alloc (.cells #[.slice a n c, .int .i64 af, .int .i64 lim] 25) = W1 := ⟨_, rfl⟩
  have bw : Below w.heap.size w W1 := by rw [← hW1]; exact (Below.refl _ _).alloc (Nat.le_refl _) _
  have K := Lib.hid (fun W (h : Below W1.heap.size W1 W) => box3C (w := w) (t := 25) (x := .slice a n c) (y := .int .i64 af) (z := .int .i64 lim) (W := W) (by rw [hW1]; exact h))
  obtain ⟨q0, q1, q2⟩ := K.out _ (Below.refl _ _)
  have CK := Lib.hid (check_arg on a n c W1 (h.below bw))
  obtain ⟨r, hr⟩ : ∃ r, curB on af lim = r := ⟨_, rfl⟩
  rw [hr]
  have HR := Lib.hid hr
  unfold curB at HR
  obtain ⟨d0, h0⟩ : ∃ d, chkB on = d := ⟨_, rfl⟩
  obtain ⟨d1, h1⟩ : ∃ d, decide (-1 ≤ af) = d := ⟨_, rfl⟩
  obtain ⟨d2, h2⟩ : ∃ d, decide (af < 4096) = d := ⟨_, rfl⟩
  obtain ⟨d3, h3⟩ : ∃ d, decide (1 ≤ lim) = d := ⟨_, rfl⟩
  obtain ⟨d4, h4⟩ : ∃ d, decide (lim ≤ 500) = d := ⟨_, rfl⟩
  rw [h0] at CK HR
  rw [h1, h2, h3, h4] at HR
  clear h hr h0
  cases d0 <;> cases d1 <;> cases d2 <;> cases d3 <;> cases d4
  all_goals
    go_enter Try.func24, Try.ntmps24
    go_wp2_with (go_at_call 31; (with_reducible refine CK.out.mono ?_); rintro e w2 ⟨rfl, b2⟩; obtain ⟨q0, q1, q2⟩ := K.out _ b2)
    go_ret
    exact ⟨ret_bool (by rw [← HR.out]; rfl), below_next bw b2⟩
/-- The pairs of a set behind a key. -/
def behP (l on : List Sp) (af : Int) : List Sp := (clipP l on).drop (plc (clipP l on) (af + 1))
theorem Arg.dropA {w : World} {b off n c : Nat} {l : List Sp} (h : Arg w (some ⟨b, off, none⟩) n c l) (k : Nat) (hk : k ≤ n) : Arg w (some ⟨b, off + k * 2, none⟩) (n - k) (c - k) (l.drop k) := by
  obtain ⟨hn, hz, hc, hm, hp⟩ := h
  refine ⟨by rw [List.length_drop, hn], by rw [List.length_drop]; omega, by rw [List.length_drop]; omega, by omega, fun j hj => ?_⟩
  rw [List.length_drop] at hj
  obtain ⟨b', off', e, hb, h0, h1⟩ := hp (k + j) (by omega)
  cases e
  have e1 : (l.drop k).getD j (0, 0) = l.getD (k + j) (0, 0) := by simp [List.getD_eq_getElem?_getD, List.getElem?_drop]
  rw [e1]
  refine ⟨b, off + k * 2, rfl, hb, ?_, ?_⟩
  · rw [show off + k * 2 + j * 2 = off + (k + j) * 2 by omega]; exact h0
  · rw [show off + k * 2 + j * 2 + 1 = off + (k + j) * 2 + 1 by omega]; exact h1
theorem Arg.none_nil {w : World} {a : Option Addr} {c : Nat} (hm : c ≤ maxLen) : Arg w a 0 c [] := ⟨rfl, by simp, by simp, hm, fun j hj => absurd hj (Nat.not_lt_zero _)⟩
theorem Arg.takeA {w : World} {a : Option Addr} {n c : Nat} {l : List Sp} (h : Arg w a n c l) (k : Nat) (hk : k ≤ n) : Arg w a k c (l.take k) := by
  obtain ⟨hn, hz, hc, hm, hp⟩ := h
  refine ⟨by rw [List.length_take]; omega, by rw [List.length_take]; omega, by rw [List.length_take]; omega, hm, fun j hj => ?_⟩
  rw [List.length_take] at hj
  obtain ⟨b', off', e, hb, h0, h1⟩ := hp j (by omega)
  have e1 : (l.take k).getD j (0, 0) = l.getD j (0, 0) := by rw [List.getD_eq_getElem?_getD, List.getD_eq_getElem?_getD, List.getElem?_take, if_pos (show j < k by omega)]
  rw [e1]
  exact ⟨b', off', e, hb, h0, h1⟩
theorem clip_tbl (l on : List Sp) : tblB (clipP l on) = true := by
  unfold clipP
  split
  · rename_i h
    exact tblF_filter _ l (-1) h.1
  · rfl
end Go.Proofs.Ytbpekloodjimoaa
