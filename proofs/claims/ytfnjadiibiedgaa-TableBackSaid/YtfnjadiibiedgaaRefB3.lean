/-
  CONTRACTS of the document's Check and Has on spans; of Keys.
-/
import Derived.Test.YtfnjadiibiedgaaRefA3
import Derived.Shelf.SlSortCmp.QuietGrown
import Derived.IntWalk
namespace Go.Proofs.Ytfnjadiibiedgaa
open Go.RowKit Go.Shelf
open Go.Sort (grow)

theorem rone_grow (s : Sp) (W : World) : Calls Try.prog 55 #[.agg #[.int .i64 s.1, .int .i64 s.2]] W fun e w' => e = .returned (.bool (oneB s)) ∧ ∃ q os', w' = grow (W.drewN q) os' := by
  obtain ⟨x, y⟩ := s
  have H := Lib.hid (show oneB (x, y) = decide (0 ≤ x ∧ x < y ∧ y ≤ 4096) from rfl)
  generalize oneB (x, y) = r at H
  go_enter Try.func55, Try.ntmps55
  go_wp2
  all_goals
    go_ret
    exact ⟨ret_bool (by rw [H.out]; first | (simp [*]; done) | (simp [*]; omega)), 0, _, by rw [Go.Sort.alloc_eq_grow]; rfl⟩
theorem rone_is {x y : Int} {r : Bool} (h : oneB (x, y) = r) (W : World) : Calls Try.prog 55 #[.agg #[.int .i64 x, .int .i64 y]] W fun e w' => e = .returned (.bool r) ∧ ∃ q os', w' = grow (W.drewN q) os' := by
  subst h; exact rone_grow (x, y) W
theorem below_growN {B : Nat} {w w' : World} (h : Below B w w') (hB : B ≤ w'.heap.size) (n : Nat) (os : Array Obj) : Below B w (grow (w'.drewN n) os) :=
  h.trans ⟨rfl, rfl, rfl, by simp [grow], fun k hk => by
    rw [Go.Sort.heap_grow_old _ _ (by simp; omega)]; rfl⟩

set_option maxRecDepth 100000 in
set_option maxHeartbeats 1000000 in
theorem rhas_any (a : Option Addr) (n c : Nat) (l : List Sp) (key : Int) (w : World) (h : Arg w a n c l) :
    Calls Try.prog 88 #[.slice a n c, .int .i64 key] w (Gives w (.bool (hasB l key))) := by
  obtain ⟨hn, hz, _, _, hp⟩ := h
  have hnz : (n : Int) ≤ 9223372036854775807 := by omega
  obtain ⟨r, hr⟩ : ∃ r, hasB l key = r := ⟨_, rfl⟩
  rw [hr]
  replace hr := Lib.hid hr
  replace hn := Lib.hid hn
  replace hp := Lib.hid hp
  go_enter Try.func88, Try.ntmps88
  go_wp2_with fail
  go_loopw [5] (fun i wr => ∃ (k : Nat), i = .int .i64 (k : Int) ∧ k ≤ n ∧ Hid (hasB (l.take k) key = false) ∧ Below w.heap.size w wr)
    (fun i _ => n - (intOf i).toNat)
  case atStart => exact ⟨0, rfl, by omega, Lib.hid rfl, Below.refl _ _⟩
  case round =>
    obtain ⟨k, rfl, hk, HK, hbl⟩ := hrel
    by_cases hlt : k < n
    · obtain ⟨b, off, e, hb, d0, d1⟩ := (hp.out.below hbl) k (by rw [← hn.out]; exact hlt)
      subst e
      obtain ⟨s, hs⟩ : ∃ s, l.getD k (0, 0) = s := ⟨_, rfl⟩
      rw [hs] at d0 d1
      have hmem : s ∈ l := by rw [← hs]; exact List.mem_iff_getElem?.2 ⟨k, getD_of (by rw [← hn.out]; exact hlt)⟩
      have hnext : hasB (l.take (k + 1)) key = inB s key := by rw [take_more (by rw [← hn.out]; exact hlt), hasB_append, HK.out, Bool.false_or, hasB_cons, hasB_nil, Bool.or_false, hs]
      replace hs := Lib.hid hs
      obtain ⟨x, y⟩ := s
      dsimp only at d0 d1
      have hin : inB (x, y) key = (oneB (x, y) && decide (x ≤ key ∧ key < y)) := rfl
      have hbb : b < wr.heap.size := Nat.lt_of_lt_of_le hb hbl.size
      cases hin1 : inB (x, y) key
      · rw [hin1] at hnext
        rw [hin1] at hin
        replace hnext := Lib.hid hnext
        replace hin1 := Lib.hid hin1
        have hbad : oneB (x, y) = false ∨ (oneB (x, y) = true ∧ (key < x ∨ (x ≤ key ∧ y ≤ key))) := by
          cases ho : oneB (x, y)
          · exact .inl rfl
          · rw [ho, Bool.true_and] at hin
            have := of_decide_eq_false hin.symm
            exact .inr ⟨rfl, by omega⟩
        clear hin
        rcases hbad with ho | ⟨ho, hk1 | ⟨hk1, hk2⟩⟩
        all_goals
          replace ho := Lib.hid ho
          go_wp2_with (go_at_call 55; (with_reducible refine (rone_any (x, y) _).mono ?_); rw [ho.out]; rintro e w2 ⟨rfl, b2⟩; have f0 := (b2.cell (p := ⟨b, off + k * 2, none⟩) hbb).trans d0; have f1 := (b2.cell (p := ⟨b, off + k * 2 + 1, none⟩) hbb).trans d1)
          go_roundw
          case rel => exact ⟨k + 1, by go_num, by omega, hnext, below_next hbl b2⟩
          case measure => simp [intOf]; omega
      · rw [hin1] at hin
        have ho : oneB (x, y) = true := by cases h : oneB (x, y) <;> rw [h] at hin <;> simp_all
        rw [ho, Bool.true_and] at hin
        obtain ⟨hk1, hk2⟩ := of_decide_eq_true hin.symm
        have hfin : r = true := by rw [← hr.out]; exact (hasB_iff l key).2 ⟨_, hmem, hin1⟩
        subst hfin
        replace ho := Lib.hid ho
        replace hin1 := Lib.hid hin1
        replace hnext := Lib.hid hnext
        clear hin hmem
        go_wp2_with (go_at_call 55; (with_reducible refine (rone_any (x, y) _).mono ?_); rw [ho.out]; rintro e w2 ⟨rfl, b2⟩; have f0 := (b2.cell (p := ⟨b, off + k * 2, none⟩) hbb).trans d0; have f1 := (b2.cell (p := ⟨b, off + k * 2 + 1, none⟩) hbb).trans d1)
        go_ret
        exact ⟨rfl, below_next hbl b2⟩
    · have hk' : l.take k = l := List.take_of_length_le (by rw [← hn.out]; omega)
      have hfin := HK.out
      rw [hk'] at hfin
      rw [hr.out] at hfin
      subst hfin
      replace hk' := Lib.hid hk'
      go_wp2
      go_ret
      exact ⟨rfl, hbl⟩

set_option maxRecDepth 100000 in
set_option maxHeartbeats 1000000 in
theorem rcheck_any (a : Option Addr) (n c : Nat) (l : List Sp) (w : World) (h : Arg w a n c l) :
    Calls Try.prog 86 #[.slice a n c] w (Gives w (.bool (chkB l))) := by
  obtain ⟨hn, hz, _, _, hp⟩ := h
  have hnz : (n : Int) ≤ 9223372036854775807 := by omega
  have mixed : Try.prog.follows .mixedOrders = true := by kernel_rfl
  obtain ⟨r, hr⟩ : ∃ r, chkB l = r := ⟨_, rfl⟩
  rw [hr]
  replace hr := Lib.hid hr
  replace hn := Lib.hid hn
  replace hp := Lib.hid hp
  go_enter Try.func86, Try.ntmps86
  go_wp2_with fail
  go_loopw [3] (fun i wr => ∃ (k : Nat), i = .int .i64 (k : Int) ∧ k ≤ n ∧ Hid (canB (-1) (l.take k) = true) ∧ Below w.heap.size w wr)
    (fun i _ => n - (intOf i).toNat)
  case atStart => exact ⟨0, rfl, by omega, Lib.hid rfl, Below.refl _ _⟩
  case round =>
    obtain ⟨k, rfl, hk, HK, hbl⟩ := hrel
    have hsz := hbl.size
    by_cases hlt : k < n
    · obtain ⟨b, off, e, hb, d0, d1⟩ := (hp.out.below hbl) k (by rw [← hn.out]; exact hlt)
      subst e
      obtain ⟨s, hs⟩ : ∃ s, l.getD k (0, 0) = s := ⟨_, rfl⟩
      rw [hs] at d0 d1
      have hkl : k < l.length := by rw [← hn.out]; exact hlt
      have hnext : canB (-1) (l.take (k + 1)) = true ↔ (0 ≤ s.1 ∧ s.1 < s.2 ∧ s.2 ≤ 4096) ∧ endOf (-1) (l.take k) < s.1 := by
        rw [take_more hkl, hs, canB_snoc]
        exact ⟨fun h => h.2, fun h => ⟨HK.out, h⟩⟩
      have hno : canB (-1) (l.take (k + 1)) = false → r = false := fun h => by
        rw [← hr.out]
        cases hq : canB (-1) l
        · unfold chkB; rw [hq]; rfl
        · have : canB (-1) (l.take (k + 1) ++ l.drop (k + 1)) = true := by rw [List.take_append_drop]; exact hq
          rw [canB_prefix this] at h; cases h
      replace hs := Lib.hid hs
      have hbb : b < wr.heap.size := Nat.lt_of_lt_of_le hb hsz
      obtain ⟨x, y⟩ := s
      dsimp only at d0 d1 hnext
      have L0 := fun (m : Nat) (os : Array Obj) => cell_grown (a := ⟨b, off + k * 2, none⟩) hbb d0 m os
      have L1 := fun (m : Nat) (os : Array Obj) => cell_grown (a := ⟨b, off + k * 2 + 1, none⟩) hbb d1 m os
      have hone := oneB_iff (x, y)
      have hltz : (k : Int) < (n : Int) := by omega
      cases ho : oneB (x, y)
      · have hr0 : r = false := hno (by
          cases hq : canB (-1) (l.take (k + 1))
          · rfl
          · have := hone.2 (hnext.1 hq).1
            rw [ho] at this; cases this)
        subst hr0
        have C0 := Lib.hid (fun W => rone_is ho W)
        replace ho := Lib.hid ho
        clear hone hnext hno d0 d1
        go_wp2_with fail
        refine wp_region_quiet_grown mixed (by kernel_rfl) ?_
        repeat (first | go_big_quiet_step (first | (go_at_call 55; exact Calls.grown_of (C0.out _))) | quiet_step (first | (go_at_call 55; exact Calls.grown_of (C0.out _))))
        refine wpQuiet_nil ?_
        intro _ hw'
        obtain ⟨⟨nq, osq⟩, hw''⟩ := hw'
        subst hw''
        go_wp2
        go_ret
        exact ⟨rfl, below_growN hbl hsz _ _⟩
      · have ho3 := hone.1 ho
        dsimp only at ho3
        have C0 := Lib.hid (fun W => rone_is ho W)
        replace ho := Lib.hid ho
        clear hone d0 d1
        by_cases hk0 : k = 0
        · subst hk0
          have hnx : canB (-1) (l.take (0 + 1)) = true := hnext.2 ⟨ho3, by show (-1 : Int) < x; omega⟩
          replace hnx := Lib.hid hnx
          clear hnext hno ho3
          rw [show ((0 : Nat) : Int) = 0 from rfl]
          simp only [Nat.zero_mul, Nat.add_zero] at L0 L1
          go_wp2_with fail
          refine wp_region_quiet_grown mixed (by kernel_rfl) ?_
          repeat (first | go_big_quiet_step (first | (go_at_call 55; exact Calls.grown_of (C0.out _))) | quiet_step (first | (go_at_call 55; exact Calls.grown_of (C0.out _))))
          refine wpQuiet_nil ?_
          intro _ hw'
          obtain ⟨⟨nq, osq⟩, hw''⟩ := hw'
          subst hw''
          go_wp2
          go_roundw
          case rel => exact ⟨0 + 1, by go_num, by omega, hnx, below_growN hbl hsz _ _⟩
          case measure => simp [intOf]; omega
        · obtain ⟨j, rfl⟩ : ∃ j, k = j + 1 := ⟨k - 1, by omega⟩
          obtain ⟨b', off', e, _, _, e1⟩ := (hp.out.below hbl) j (by rw [← hn.out]; omega)
          cases e
          obtain ⟨t, ht⟩ : ∃ s, l.getD j (0, 0) = s := ⟨_, rfl⟩
          rw [ht] at e1
          have hend : endOf (-1) (l.take (j + 1)) = t.2 := by rw [take_more (by omega), endOf_snoc, ht]
          replace ht := Lib.hid ht
          rw [hend] at hnext
          replace hend := Lib.hid hend
          obtain ⟨p, q⟩ := t
          dsimp only at e1 hnext
          have L2 := fun (m : Nat) (os : Array Obj) => cell_grown (a := ⟨b, off + j * 2 + 1, none⟩) hbb e1 m os
          have hks : (j : Int) + 1 - 1 = j := by omega
          have hkw : IntKind.i64.wrap ((j : Int) + 1 - 1) = j := by rw [hks]; exact IntWalk.i64_in _ (by omega)
          replace hks := Lib.hid hks
          clear e1
          by_cases hq : q < x
          · have hnx : canB (-1) (l.take (j + 1 + 1)) = true := hnext.2 ⟨ho3, hq⟩
            replace hnx := Lib.hid hnx
            have hd : decide (x ≤ q) = false := decide_eq_false (by omega)
            clear hnext hno ho3
            go_wp2_with fail
            refine wp_region_quiet_grown mixed (by kernel_rfl) ?_
            repeat (first | go_big_quiet_step (first | (go_at_call 55; exact Calls.grown_of (C0.out _))) | quiet_step (first | (go_at_call 55; exact Calls.grown_of (C0.out _))))
            refine wpQuiet_nil ?_
            intro _ hw'
            obtain ⟨⟨nq, osq⟩, hw''⟩ := hw'
            subst hw''
            go_wp2
            go_roundw
            case rel => exact ⟨j + 1 + 1, by go_num, by omega, hnx, below_growN hbl hsz _ _⟩
            case measure => simp [intOf]; omega
          · have hr0 : r = false := hno (by
              cases hc : canB (-1) (l.take (j + 1 + 1))
              · rfl
              · exact absurd (hnext.1 hc).2 hq)
            subst hr0
            have hd : x ≤ q := by omega
            clear hnext hno ho3
            go_wp2_with fail
            refine wp_region_quiet_grown mixed (by kernel_rfl) ?_
            repeat (first | go_big_quiet_step (first | (go_at_call 55; exact Calls.grown_of (C0.out _))) | quiet_step (first | (go_at_call 55; exact Calls.grown_of (C0.out _))))
            refine wpQuiet_nil ?_
            intro _ hw'
            obtain ⟨⟨nq, osq⟩, hw''⟩ := hw'
            subst hw''
            go_wp2
            go_ret
            exact ⟨rfl, below_growN hbl hsz _ _⟩
    · have hk' : l.take k = l := List.take_of_length_le (by rw [← hn.out]; omega)
      have hfin : r = decide ((n : Int) ≤ 64) := by
        rw [← hr.out]
        unfold chkB
        rw [← hk', HK.out, hk', Bool.true_and]
        exact decide_eq_decide.2 (by rw [← hn.out]; omega)
      replace hk' := Lib.hid hk'
      replace hfin := Lib.hid hfin
      go_wp2
      go_ret
      exact ⟨ret_bool hfin.out.symm, hbl⟩
end Go.Proofs.Ytfnjadiibiedgaa
