/-
  CONTRACTS of table.Check; of the search: place, value; Get.
-/
import Derived.Test.YtfnjadiibiedgaaTabP
namespace Go.Proofs.Ytfnjadiibiedgaa
open Go.RowKit Go.Shelf

theorem drop_more {l : List Sp} {k : Nat} (h : k < l.length) : l.drop k = l.getD k (0, 0) :: l.drop (k + 1) := by
  rw [List.drop_eq_getElem_cons h]; simp [List.getD, List.getElem?_eq_getElem h]

set_option maxRecDepth 100000 in
set_option maxHeartbeats 1000000 in
theorem tcheck_any (a : Option Addr) (n c : Nat) (l : List Sp) (w : World) (h : Arg w a n c l) :
    Calls Try.prog 42 #[.slice a n c] w (Gives w (.bool (tblB l))) := by
  obtain ⟨hn, hz, _, _, hp⟩ := h
  have hnz : (n : Int) ≤ 9223372036854775807 := by omega
  obtain ⟨r, hr⟩ : ∃ r, tblB l = r := ⟨_, rfl⟩
  rw [hr]
  have H0 := Lib.hid (show tblF (-1) (l.drop 0) = r from hr)
  clear hr
  replace hn := Lib.hid hn
  replace hp := Lib.hid hp
  go_enter Try.func42, Try.ntmps42
  go_wp2_with fail
  go_loopw [3, 5, 8] (fun en _ i wr => ∃ (k : Nat) (z : Int), i = .int .i64 (k : Int) ∧ en = .int .i64 z ∧ k ≤ n ∧ Hid (tblF z (l.drop k) = r) ∧ Below w.heap.size w wr)
    (fun _ _ i _ => n - (intOf i).toNat)
  case atStart => exact ⟨0, -1, rfl, rfl, by omega, H0, Below.refl _ _⟩
  case round =>
    obtain ⟨k, z, rfl, rfl, hk, HC, hbl⟩ := hrel
    by_cases hlt : k < n
    · have hkl : k < l.length := by rw [← hn.out]; exact hlt
      have hkz : (k : Int) < (n : Int) := by omega
      obtain ⟨b, off, e, hb, c0, c1⟩ := (hp.out.below hbl) k hkl
      subst e
      obtain ⟨s, hs⟩ : ∃ s, l.getD k (0, 0) = s := ⟨_, rfl⟩
      rw [hs] at c0 c1
      have hnext := HC.out
      rw [drop_more hkl, hs] at hnext
      obtain ⟨x, y⟩ := s
      dsimp only at c0 c1
      replace hs := Lib.hid hs
      have hd : tblF z ((x, y) :: l.drop (k + 1)) = (decide (z < x ∧ x < 4096) && decide (-1099511627776 ≤ y ∧ y ≤ 1099511627776) && tblF x (l.drop (k + 1))) := rfl
      rw [hd] at hnext
      clear hd
      by_cases h1 : x ≤ z
      · have hr := Lib.hid (show r = false by rw [← hnext, decide_eq_false (by omega)]; rfl)
        have d1 : decide (x ≤ z) = true := decide_eq_true h1
        clear hnext h1
        go_wp2_with fail
        go_ret
        exact ⟨ret_bool hr.out.symm, below_alloc hbl _⟩
      · have d1 : decide (x ≤ z) = false := decide_eq_false h1
        by_cases h2 : 4096 ≤ x
        · have hr := Lib.hid (show r = false by rw [← hnext, decide_eq_false (by omega)]; rfl)
          have d2 : decide (4096 ≤ x) = true := decide_eq_true h2
          clear hnext h1 h2
          go_wp2_with fail
          go_ret
          exact ⟨ret_bool hr.out.symm, below_alloc hbl _⟩
        · have d2 : decide (4096 ≤ x) = false := decide_eq_false h2
          by_cases h3 : y < -1099511627776
          · have hr := Lib.hid (show r = false by rw [← hnext, decide_eq_true (show z < x ∧ x < 4096 by omega), decide_eq_false (by omega)]; rfl)
            have d3 : decide (y < -1099511627776) = true := decide_eq_true h3
            clear hnext h1 h2 h3
            go_wp2_with fail
            go_ret
            exact ⟨ret_bool hr.out.symm, below_alloc hbl _⟩
          · have d3 : decide (y < -1099511627776) = false := decide_eq_false h3
            by_cases h4 : 1099511627776 < y
            · have hr := Lib.hid (show r = false by rw [← hnext, decide_eq_true (show z < x ∧ x < 4096 by omega), decide_eq_false (by omega)]; rfl)
              have d4 : decide (1099511627776 < y) = true := decide_eq_true h4
              clear hnext h1 h2 h3 h4
              go_wp2_with fail
              go_ret
              exact ⟨ret_bool hr.out.symm, below_alloc hbl _⟩
            · have d4 : decide (1099511627776 < y) = false := decide_eq_false h4
              have hN := Lib.hid (show tblF x (l.drop (k + 1)) = r by rw [← hnext, decide_eq_true (show z < x ∧ x < 4096 by omega), decide_eq_true (show -1099511627776 ≤ y ∧ y ≤ 1099511627776 by omega)]; rfl)
              clear hnext h1 h2 h3 h4
              go_wp2_with fail
              go_roundw
              case rel => exact ⟨k + 1, x, by go_num, rfl, by omega, hN, below_alloc hbl _⟩
              case measure => simp [intOf]; omega
    · have hkl : l.drop k = [] := List.drop_eq_nil_of_le (by rw [← hn.out]; omega)
      have hkz : ¬ (k : Int) < (n : Int) := by omega
      have hfin := HC.out
      rw [hkl] at hfin
      have hr := Lib.hid (show r = true from hfin.symm)
      replace hkl := Lib.hid hkl
      clear hfin
      go_wp2
      go_ret
      exact ⟨ret_bool hr.out.symm, hbl⟩

theorem cmpI_any (x y : Int) (w : World) : Calls Try.prog 93 #[.int .i64 x, .int .i64 y] w fun e w' => e = .returned (.int .i64 (Lib.compareInt x y)) ∧ w' = w := AnyG.cmp_Compare_int Try.lCmpInt x y w

/-- How a pair stands to a key. -/
theorem place1 (x : Sp) (key : Int) (W : World) : Calls Try.prog 130 #[.agg #[.int .i64 x.1, .int .i64 x.2], .int .i64 key] W (Gives W (.int .i64 (Lib.compareInt x.1 key))) := by
  have hcon := fun W' => cmpI_any x.1 key W'
  generalize Lib.compareInt x.1 key = r at hcon ⊢
  go_enter Try.func130, Try.ntmps130
  go_wp2_with (go_at_call 93; refine (hcon _).mono ?_; rintro e w' ⟨rfl, rfl⟩)
  go_ret
  exact ⟨rfl, (Below.refl _ _).alloc (Nat.le_refl _) _⟩
theorem cmp_neg1 {x y : Int} (h : x < y) : Lib.compareInt x y = -1 := by unfold Lib.compareInt; rw [if_pos h]
theorem cmp_zero {x y : Int} (h : x = y) : Lib.compareInt x y = 0 := by unfold Lib.compareInt; rw [if_neg (by omega), if_neg (by omega)]
theorem cmp_pos1 {x y : Int} (h : y < x) : Lib.compareInt x y = 1 := by unfold Lib.compareInt; rw [if_neg (by omega), if_pos h]

/-- Is there a pair of a key? -/
def isT (l : List Sp) (key : Int) : Bool := decide (plc l key < l.length ∧ (l.getD (plc l key) (0, 0)).1 = key)
def PlacePost (l : List Sp) (key : Int) (w : World) (e : Ending) (w' : World) : Prop := e = .returned (.tuple #[.int .i64 (plc l key : Nat), .bool (isT l key)]) ∧ Below w.heap.size w w'

set_option maxRecDepth 100000 in
set_option maxHeartbeats 2000000 in
theorem bsearch_any (a : Option Addr) (n c : Nat) (l : List Sp) (key : Int) (w : World) (h : Arg w a n c l) (ht : tblB l = true) :
    Calls Try.prog 129 #[.slice a n c, .int .i64 key, .func (.func 130) #[] #[]] w (PlacePost l key w) := by
  obtain ⟨hn, hz, _, _, hp⟩ := h
  have hle := tbl_le ht
  have hn1 : n ≤ 4096 := by omega
  obtain ⟨P, hP⟩ : ∃ P, plc l key = P := ⟨_, rfl⟩
  obtain ⟨r, hr⟩ : ∃ r, isT l key = r := ⟨_, rfl⟩
  have HI : ∀ i, i < n → ((l.getD i (0, 0)).1 < key ↔ i < P) := fun i hi => by rw [← hP]; exact plc_iff ht (by omega)
  have hPn : P ≤ n := by rw [← hP, hn]; exact plc_le l key
  have HR := Lib.hid (show r = decide (P < n ∧ (l.getD P (0, 0)).1 = key) by rw [← hr, ← hP, hn]; rfl)
  unfold PlacePost
  rw [hP, hr]
  replace HI := Lib.hid HI
  replace hP := Lib.hid hP
  replace hr := Lib.hid hr
  replace hn := Lib.hid hn
  replace hp := Lib.hid hp
  clear ht hle hz
  go_enter Try.func129, Try.ntmps129
  go_wp2_with fail
  go_loopw [9, 10] (fun i j wr => ∃ lo hi : Nat, i = .int .i64 (lo : Int) ∧ j = .int .i64 (hi : Int) ∧ lo ≤ P ∧ P ≤ hi ∧ hi ≤ n ∧ Below w.heap.size w wr)
    (fun i j _ => (intOf j).toNat - (intOf i).toNat)
  case atStart => exact ⟨0, n, rfl, rfl, Nat.zero_le _, hPn, Nat.le_refl _, Below.refl _ _⟩
  case round =>
    obtain ⟨lo, hi, rfl, rfl, h1, h2, h3, hbl⟩ := hrel
    by_cases hlt : lo < hi
    · have hmid : (lo + hi) / 2 < n := by omega
      obtain ⟨b, off, e, hb, c0, c1⟩ := (hp.out.below hbl) ((lo + hi) / 2) (by rw [← hn.out]; exact hmid)
      subst e
      have hio := HI.out ((lo + hi) / 2) hmid
      obtain ⟨s, hs⟩ : ∃ s, l.getD ((lo + hi) / 2) (0, 0) = s := ⟨_, rfl⟩
      rw [hs] at c0 c1 hio
      replace hs := Lib.hid hs
      obtain ⟨x, y⟩ := s
      dsimp only at c0 c1 hio
      have C := fun W => place1 (x, y) key W
      dsimp only at C
      by_cases hx : x < key
      · rw [cmp_neg1 hx] at C
        have hlp := hio.1 hx
        clear hio hx
        replace C := Lib.hid C
        go_wp2_with (go_at_call 130; (with_reducible refine (C.out _).mono ?_); rintro e w2 ⟨rfl, b2⟩)
        go_roundw
        case rel => exact ⟨(lo + hi) / 2 + 1, hi, by first | (congr 1; done) | (congr 1; omega), rfl, by omega, h2, h3, below_next hbl b2⟩
        case measure => simp [intOf]; omega
      · have hlp : ¬ (lo + hi) / 2 < P := fun q => hx (hio.2 q)
        have C' : ∃ z, 0 ≤ z ∧ z ≤ 1 ∧ ∀ W, Calls Try.prog 130 #[.agg #[.int .i64 x, .int .i64 y], .int .i64 key] W (Gives W (.int .i64 z)) := by
          by_cases he : x = key
          · exact ⟨0, by omega, by omega, fun W => by have := C W; rwa [cmp_zero he] at this⟩
          · exact ⟨1, by omega, by omega, fun W => by have := C W; rwa [cmp_pos1 (by omega)] at this⟩
        clear C hio hx
        obtain ⟨z, z0, z1, C⟩ := C'
        replace C := Lib.hid C
        go_wp2_with (go_at_call 130; (with_reducible refine (C.out _).mono ?_); rintro e w2 ⟨rfl, b2⟩)
        go_roundw
        case rel => exact ⟨lo, (lo + hi) / 2, rfl, by first | (congr 1; done) | (congr 1; omega), h1, by omega, by omega, below_next hbl b2⟩
        case measure => simp [intOf]; omega
    · have e1 : lo = P := by omega
      have e2 : hi = P := by omega
      subst e1
      by_cases hPl : lo < n
      · obtain ⟨b, off, e, hb, c0, c1⟩ := (hp.out.below hbl) lo (by rw [← hn.out]; exact hPl)
        subst e
        have hrr := HR.out
        obtain ⟨s, hs⟩ : ∃ s, l.getD lo (0, 0) = s := ⟨_, rfl⟩
        rw [hs] at c0 c1 hrr
        replace hs := Lib.hid hs
        obtain ⟨x, y⟩ := s
        dsimp only at c0 c1 hrr
        have C := fun W => place1 (x, y) key W
        dsimp only at C
        by_cases he : x = key
        · rw [cmp_zero he] at C
          rw [decide_eq_true ⟨hPl, he⟩] at hrr
          replace hrr := Lib.hid hrr
          replace C := Lib.hid C
          clear he
          go_wp2_with (go_at_call 130; (with_reducible refine (C.out _).mono ?_); rintro e w2 ⟨rfl, b2⟩)
          go_ret2
          exact ⟨by rw [hrr.out]; rfl, below_next hbl b2⟩
        · have C' : ∃ z : Int, z ≠ 0 ∧ ∀ W, Calls Try.prog 130 #[.agg #[.int .i64 x, .int .i64 y], .int .i64 key] W (Gives W (.int .i64 z)) := by
            by_cases h4 : x < key
            · exact ⟨-1, by omega, fun W => by have := C W; rwa [cmp_neg1 h4] at this⟩
            · exact ⟨1, by omega, fun W => by have := C W; rwa [cmp_pos1 (by omega)] at this⟩
          clear C
          obtain ⟨z, z0, C⟩ := C'
          have z0' : (z == 0) = false := by simpa using z0
          rw [decide_eq_false (fun q => he q.2)] at hrr
          replace hrr := Lib.hid hrr
          replace C := Lib.hid C
          clear he
          go_wp2_with (go_at_call 130; (with_reducible refine (C.out _).mono ?_); rintro e w2 ⟨rfl, b2⟩)
          go_ret2
          exact ⟨by rw [hrr.out]; rfl, below_next hbl b2⟩
      · have hrr := Lib.hid (show r = false by rw [HR.out]; exact decide_eq_false fun q => hPl q.1)
        go_wp2
        go_ret2
        exact ⟨by rw [hrr.out]; rfl, hbl⟩

theorem place_any (a : Option Addr) (n c : Nat) (l : List Sp) (key : Int) (w : World) (h : Arg w a n c l) (ht : tblB l = true) :
    Calls Try.prog 94 #[.slice a n c, .int .i64 key] w (PlacePost l key w) := by
  have C := Lib.hid (bsearch_any a n c l key w h ht)
  unfold PlacePost at C ⊢
  generalize (plc l key : Nat) = P at *
  generalize isT l key = r at *
  clear h ht
  go_enter Try.func94, Try.ntmps94
  go_wp2_with (go_at_call 129; (with_reducible refine C.out.mono ?_); rintro e w2 ⟨rfl, b2⟩)
  go_ret2
  exact ⟨rfl, b2⟩
theorem isT_get {l : List Sp} {key : Int} (ht : tblB l = true) : getT l key = if isT l key = true then some (l.getD (plc l key) (0, 0)).2 else none := by
  rw [getT_plc l (-1) key ht]
  unfold isT
  simp only [decide_eq_true_iff]
def cellOut (c : Option Int) : Value := .tuple #[.int .i64 (c.getD 0), .bool c.isSome]
set_option maxRecDepth 100000 in
set_option maxHeartbeats 1000000 in
theorem value_any (a : Option Addr) (n c : Nat) (l : List Sp) (key : Int) (w : World) (h : Arg w a n c l) (ht : tblB l = true) :
    Calls Try.prog 81 #[.slice a n c, .int .i64 key] w (Gives w (cellOut (getT l key))) := by
  have C := place_any a n c l key w h ht
  have hg := isT_get (key := key) ht
  have hle := tbl_le ht
  obtain ⟨hn, hz, _, _, hp⟩ := h
  have hn1 : n ≤ 4096 := by omega
  obtain ⟨R, hR⟩ : ∃ R, cellOut (getT l key) = R := ⟨_, rfl⟩
  rw [hR]
  unfold PlacePost at C
  cases hi : isT l key
  · rw [hi] at C
    have hR' := Lib.hid (show R = .tuple #[.int .i64 0, .bool false] by rw [← hR, hg, hi]; rfl)
    replace C := Lib.hid C
    clear hR hg hi ht hp hn
    go_enter Try.func81, Try.ntmps81
    go_wp2_with (go_at_call 94; (with_reducible refine C.out.mono ?_); rintro e w2 ⟨rfl, b2⟩)
    go_ret2
    exact ⟨by rw [hR'.out]; rfl, b2⟩
  · rw [hi] at C
    have hPl : plc l key < l.length := by unfold isT at hi; exact (of_decide_eq_true hi).1
    obtain ⟨b, off, e, hb, c0, c1⟩ := hp (plc l key) hPl
    subst e
    have hR' : R = .tuple #[.int .i64 (l.getD (plc l key) (0, 0)).2, .bool true] := by rw [← hR, hg, hi]; rfl
    rw [← hn] at hPl
    generalize (l.getD (plc l key) (0, 0)).2 = v at *
    generalize plc l key = P at *
    replace hR' := Lib.hid hR'
    replace C := Lib.hid C
    clear hR hg hi ht hp hn c0
    go_enter Try.func81, Try.ntmps81
    go_wp2_with (go_at_call 94; (with_reducible refine C.out.mono ?_); rintro e w2 ⟨rfl, b2⟩; replace c1 := (b2.cell (p := ⟨b, off + P * 2 + 1, none⟩) hb).trans c1)
    go_ret2
    exact ⟨by rw [hR'.out]; rfl, b2⟩
def getC (l : List Sp) (key : Int) : Option Int := if tblB l = true then getT l key else none
theorem get_tab (a : Option Addr) (n c : Nat) (l : List Sp) (key : Int) (w : World) (h : Arg w a n c l) :
    Calls Try.prog 38 #[.slice a n c, .int .i64 key] w (Gives w (cellOut (getC l key))) := by
  cases ht : tblB l
  · have hR := Lib.hid (show cellOut (getC l key) = .tuple #[.int .i64 0, .bool false] by unfold getC; rw [if_neg (by rw [ht]; simp)]; rfl)
    have C := tcheck_any a n c l w h
    rw [ht] at C
    replace C := Lib.hid C
    generalize cellOut (getC l key) = R at *
    clear h ht
    go_enter Try.func38, Try.ntmps38
    go_wp2_with (go_at_call 42; (with_reducible refine C.out.mono ?_); rintro e w2 ⟨rfl, b2⟩)
    go_ret2
    exact ⟨by rw [hR.out]; rfl, b2⟩
  · have hR : cellOut (getC l key) = .tuple #[.int .i64 ((getT l key).getD 0), .bool (getT l key).isSome] := by unfold getC; rw [if_pos ht]; rfl
    have C := tcheck_any a n c l w h
    rw [ht] at C
    have V := fun w2 (b2 : Below w.heap.size w w2) => value_any a n c l key w2 (h.below b2) ht
    unfold cellOut at V
    generalize (getT l key).getD 0 = v at *
    generalize (getT l key).isSome = s at *
    generalize cellOut (getC l key) = R at *
    replace hR := Lib.hid hR
    replace C := Lib.hid C
    replace V := Lib.hid V
    clear h ht
    go_enter Try.func38, Try.ntmps38
    go_wp2_with (first | (go_at_call 42; (with_reducible refine C.out.mono ?_); rintro e w2 ⟨rfl, b2⟩) | (go_at_call 81; (with_reducible refine (V.out _ b2).mono ?_); rintro e w3 ⟨rfl, b3⟩))
    go_ret2
    exact ⟨by rw [hR.out]; rfl, below_next b2 b3⟩
end Go.Proofs.Ytfnjadiibiedgaa
