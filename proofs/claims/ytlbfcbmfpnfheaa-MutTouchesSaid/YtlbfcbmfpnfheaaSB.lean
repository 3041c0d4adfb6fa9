/-
  RefB3, RefC3, RefD3, RefE3, RefF3: one text.
-/
import Derived.Test.YtlbfcbmfpnfheaaSA3
import Derived.Shelf.SlSortCmp.QuietGrown
import Derived.IntWalk
/-
  CONTRACTS of the document's Check and Has on spans; of Keys.
-/
namespace Go.Proofs.Ytlbfcbmfpnfheaa
open Go.RowKit Go.Shelf
open Go.Sort (grow)

theorem rone_grow (s : Sp) (W : World) : Calls Try.prog 38 #[.agg #[.int .i64 s.1, .int .i64 s.2]] W fun e w' => e = .returned (.bool (oneB s)) ∧ ∃ q os', w' = grow (W.drewN q) os' := by
  obtain ⟨x, y⟩ := s
  have H := Lib.hid (show oneB (x, y) = decide (0 ≤ x ∧ x < y ∧ y ≤ 4096) from rfl)
  generalize oneB (x, y) = r at H
  go_enter Try.func38, Try.ntmps38
  go_wp2
  all_goals
    go_ret
    exact ⟨ret_bool (by rw [H.out]; first | (simp [*]; done) | (simp [*]; omega)), 0, _, by rw [Go.Sort.alloc_eq_grow]; rfl⟩
theorem rone_is {x y : Int} {r : Bool} (h : oneB (x, y) = r) (W : World) : Calls Try.prog 38 #[.agg #[.int .i64 x, .int .i64 y]] W fun e w' => e = .returned (.bool r) ∧ ∃ q os', w' = grow (W.drewN q) os' := by
  subst h; exact rone_grow (x, y) W
theorem below_growN {B : Nat} {w w' : World} (h : Below B w w') (hB : B ≤ w'.heap.size) (n : Nat) (os : Array Obj) : Below B w (grow (w'.drewN n) os) :=
  h.trans ⟨rfl, rfl, rfl, by simp [grow], fun k hk => by
    rw [Go.Sort.heap_grow_old _ _ (by simp; omega)]; rfl⟩

set_option maxRecDepth 100000 in
set_option maxHeartbeats 1000000 in
theorem rhas_any (a : Option Addr) (n c : Nat) (l : List Sp) (key : Int) (w : World) (h : Arg w a n c l) :
    Calls Try.prog 54 #[.slice a n c, .int .i64 key] w (Gives w (.bool (hasB l key))) := by
  obtain ⟨hn, hz, _, _, hp⟩ := h
  have hnz : (n : Int) ≤ 9223372036854775807 := by omega
  obtain ⟨r, hr⟩ : ∃ r, hasB l key = r := ⟨_, rfl⟩
  rw [hr]
  replace hr := Lib.hid hr
  replace hn := Lib.hid hn
  replace hp := Lib.hid hp
  go_enter Try.func54, Try.ntmps54
  go_wp2_with fail
  go_loopw [5] (fun i wr => ∃ (k : Nat), i = .int .i64 (k : Int) ∧ k ≤ n ∧ Hid (hasB (l.take k) key = false) ∧ Below w.heap.size w wr)
    (fun i _ => n - (intOf i).toNat)
  case atStart => exact ⟨0, rfl, by omega, Lib.hid rfl, Below.refl _ _⟩
  case round =>
    obtain ⟨k, rfl, hk, HK, hbl⟩ := hrel
    by_cases hlt : k < n
    · obtain ⟨b, off, e, hb, d0, d1⟩ := (hp.out.below hbl) k (by rw [← hn.out]; exact hlt)
      subst e
      obtain ⟨s, hs⟩ : ∃ s, l.getD k (0, 0) = s := ⟨_, rfl⟩
      rw [hs] at d0 d1
      have hmem : s ∈ l := by rw [← hs]; exact List.mem_iff_getElem?.2 ⟨k, getD_of (by rw [← hn.out]; exact hlt)⟩
      have hnext : hasB (l.take (k + 1)) key = inB s key := by rw [take_more (by rw [← hn.out]; exact hlt), hasB_append, HK.out, Bool.false_or, hasB_cons, hasB_nil, Bool.or_false, hs]
      replace hs := Lib.hid hs
      obtain ⟨x, y⟩ := s
      dsimp only at d0 d1
      have hin : inB (x, y) key = (oneB (x, y) && decide (x ≤ key ∧ key < y)) := rfl
      have hbb : b < wr.heap.size := Nat.lt_of_lt_of_le hb hbl.size
      cases hin1 : inB (x, y) key
      · rw [hin1] at hnext
        rw [hin1] at hin
        replace hnext := Lib.hid hnext
        replace hin1 := Lib.hid hin1
        have hbad : oneB (x, y) = false ∨ (oneB (x, y) = true ∧ (key < x ∨ (x ≤ key ∧ y ≤ key))) := by
          cases ho : oneB (x, y)
          · exact .inl rfl
          · rw [ho, Bool.true_and] at hin
            have := of_decide_eq_false hin.symm
            exact .inr ⟨rfl, by omega⟩
        clear hin
        rcases hbad with ho | ⟨ho, hk1 | ⟨hk1, hk2⟩⟩
        all_goals
          replace ho := Lib.hid ho
          go_wp2_with (go_at_call 38; (with_reducible refine (rone_any (x, y) _).mono ?_); rw [ho.out]; rintro e w2 ⟨rfl, b2⟩; have f0 := (b2.cell (p := ⟨b, off + k * 2, none⟩) hbb).trans d0; have f1 := (b2.cell (p := ⟨b, off + k * 2 + 1, none⟩) hbb).trans d1)
          go_roundw
          case rel => exact ⟨k + 1, by go_num, by omega, hnext, below_next hbl b2⟩
          case measure => simp [intOf]; omega
      · rw [hin1] at hin
        have ho : oneB (x, y) = true := by cases h : oneB (x, y) <;> rw [h] at hin <;> simp_all
        rw [ho, Bool.true_and] at hin
        obtain ⟨hk1, hk2⟩ := of_decide_eq_true hin.symm
        have hfin : r = true := by rw [← hr.out]; exact (hasB_iff l key).2 ⟨_, hmem, hin1⟩
        subst hfin
        replace ho := Lib.hid ho
        replace hin1 := Lib.hid hin1
        replace hnext := Lib.hid hnext
        clear hin hmem
        go_wp2_with (go_at_call 38; (with_reducible refine (rone_any (x, y) _).mono ?_); rw [ho.out]; rintro e w2 ⟨rfl, b2⟩; have f0 := (b2.cell (p := ⟨b, off + k * 2, none⟩) hbb).trans d0; have f1 := (b2.cell (p := ⟨b, off + k * 2 + 1, none⟩) hbb).trans d1)
        go_ret
        exact ⟨rfl, below_next hbl b2⟩
    · have hk' : l.take k = l := List.take_of_length_le (by rw [← hn.out]; omega)
      have hfin := HK.out
      rw [hk'] at hfin
      rw [hr.out] at hfin
      subst hfin
      replace hk' := Lib.hid hk'
      go_wp2
      go_ret
      exact ⟨rfl, hbl⟩

set_option maxRecDepth 100000 in
set_option maxHeartbeats 1000000 in
theorem rcheck_any (a : Option Addr) (n c : Nat) (l : List Sp) (w : World) (h : Arg w a n c l) :
    Calls Try.prog 51 #[.slice a n c] w (Gives w (.bool (chkB l))) := by
  obtain ⟨hn, hz, _, _, hp⟩ := h
  have hnz : (n : Int) ≤ 9223372036854775807 := by omega
  have mixed : Try.prog.follows .mixedOrders = true := by kernel_rfl
  obtain ⟨r, hr⟩ : ∃ r, chkB l = r := ⟨_, rfl⟩
  rw [hr]
  replace hr := Lib.hid hr
  replace hn := Lib.hid hn
  replace hp := Lib.hid hp
  go_enter Try.func51, Try.ntmps51
  go_wp2_with fail
  go_loopw [3] (fun i wr => ∃ (k : Nat), i = .int .i64 (k : Int) ∧ k ≤ n ∧ Hid (canB (-1) (l.take k) = true) ∧ Below w.heap.size w wr)
    (fun i _ => n - (intOf i).toNat)
  case atStart => exact ⟨0, rfl, by omega, Lib.hid rfl, Below.refl _ _⟩
  case round =>
    obtain ⟨k, rfl, hk, HK, hbl⟩ := hrel
    have hsz := hbl.size
    by_cases hlt : k < n
    · obtain ⟨b, off, e, hb, d0, d1⟩ := (hp.out.below hbl) k (by rw [← hn.out]; exact hlt)
      subst e
      obtain ⟨s, hs⟩ : ∃ s, l.getD k (0, 0) = s := ⟨_, rfl⟩
      rw [hs] at d0 d1
      have hkl : k < l.length := by rw [← hn.out]; exact hlt
      have hnext : canB (-1) (l.take (k + 1)) = true ↔ (0 ≤ s.1 ∧ s.1 < s.2 ∧ s.2 ≤ 4096) ∧ endOf (-1) (l.take k) < s.1 := by
        rw [take_more hkl, hs, canB_snoc]
        exact ⟨fun h => h.2, fun h => ⟨HK.out, h⟩⟩
      have hno : canB (-1) (l.take (k + 1)) = false → r = false := fun h => by
        rw [← hr.out]
        cases hq : canB (-1) l
        · unfold chkB; rw [hq]; rfl
        · have : canB (-1) (l.take (k + 1) ++ l.drop (k + 1)) = true := by rw [List.take_append_drop]; exact hq
          rw [canB_prefix this] at h; cases h
      replace hs := Lib.hid hs
      have hbb : b < wr.heap.size := Nat.lt_of_lt_of_le hb hsz
      obtain ⟨x, y⟩ := s
      dsimp only at d0 d1 hnext
      have L0 := fun (m : Nat) (os : Array Obj) => cell_grown (a := ⟨b, off + k * 2, none⟩) hbb d0 m os
      have L1 := fun (m : Nat) (os : Array Obj) => cell_grown (a := ⟨b, off + k * 2 + 1, none⟩) hbb d1 m os
      have hone := oneB_iff (x, y)
      have hltz : (k : Int) < (n : Int) := by omega
      cases ho : oneB (x, y)
      · have hr0 : r = false := hno (by
          cases hq : canB (-1) (l.take (k + 1))
          · rfl
          · have := hone.2 (hnext.1 hq).1
            rw [ho] at this; cases this)
        subst hr0
        have C0 := Lib.hid (fun W => rone_is ho W)
        replace ho := Lib.hid ho
        clear hone hnext hno d0 d1
        go_wp2_with fail
        refine wp_region_quiet_grown mixed (by kernel_rfl) ?_
        repeat (first | go_big_quiet_step (first | (go_at_call 38; exact Calls.grown_of (C0.out _))) | quiet_step (first | (go_at_call 38; exact Calls.grown_of (C0.out _))))
        refine wpQuiet_nil ?_
        intro _ hw'
        obtain ⟨⟨nq, osq⟩, hw''⟩ := hw'
        subst hw''
        go_wp2
        go_ret
        exact ⟨rfl, below_growN hbl hsz _ _⟩
      · have ho3 := hone.1 ho
        dsimp only at ho3
        have C0 := Lib.hid (fun W => rone_is ho W)
        replace ho := Lib.hid ho
        clear hone d0 d1
        by_cases hk0 : k = 0
        · subst hk0
          have hnx : canB (-1) (l.take (0 + 1)) = true := hnext.2 ⟨ho3, by show (-1 : Int) < x; omega⟩
          replace hnx := Lib.hid hnx
          clear hnext hno ho3
          rw [show ((0 : Nat) : Int) = 0 from rfl]
          simp only [Nat.zero_mul, Nat.add_zero] at L0 L1
          go_wp2_with fail
          refine wp_region_quiet_grown mixed (by kernel_rfl) ?_
          repeat (first | go_big_quiet_step (first | (go_at_call 38; exact Calls.grown_of (C0.out _))) | quiet_step (first | (go_at_call 38; exact Calls.grown_of (C0.out _))))
          refine wpQuiet_nil ?_
          intro _ hw'
          obtain ⟨⟨nq, osq⟩, hw''⟩ := hw'
          subst hw''
          go_wp2
          go_roundw
          case rel => exact ⟨0 + 1, by go_num, by omega, hnx, below_growN hbl hsz _ _⟩
          case measure => simp [intOf]; omega
        · obtain ⟨j, rfl⟩ : ∃ j, k = j + 1 := ⟨k - 1, by omega⟩
          obtain ⟨b', off', e, _, _, e1⟩ := (hp.out.below hbl) j (by rw [← hn.out]; omega)
          cases e
          obtain ⟨t, ht⟩ : ∃ s, l.getD j (0, 0) = s := ⟨_, rfl⟩
          rw [ht] at e1
          have hend : endOf (-1) (l.take (j + 1)) = t.2 := by rw [take_more (by omega), endOf_snoc, ht]
          replace ht := Lib.hid ht
          rw [hend] at hnext
          replace hend := Lib.hid hend
          obtain ⟨p, q⟩ := t
          dsimp only at e1 hnext
          have L2 := fun (m : Nat) (os : Array Obj) => cell_grown (a := ⟨b, off + j * 2 + 1, none⟩) hbb e1 m os
          have hks : (j : Int) + 1 - 1 = j := by omega
          have hkw : IntKind.i64.wrap ((j : Int) + 1 - 1) = j := by rw [hks]; exact IntWalk.i64_in _ (by omega)
          replace hks := Lib.hid hks
          clear e1
          by_cases hq : q < x
          · have hnx : canB (-1) (l.take (j + 1 + 1)) = true := hnext.2 ⟨ho3, hq⟩
            replace hnx := Lib.hid hnx
            have hd : decide (x ≤ q) = false := decide_eq_false (by omega)
            clear hnext hno ho3
            go_wp2_with fail
            refine wp_region_quiet_grown mixed (by kernel_rfl) ?_
            repeat (first | go_big_quiet_step (first | (go_at_call 38; exact Calls.grown_of (C0.out _))) | quiet_step (first | (go_at_call 38; exact Calls.grown_of (C0.out _))))
            refine wpQuiet_nil ?_
            intro _ hw'
            obtain ⟨⟨nq, osq⟩, hw''⟩ := hw'
            subst hw''
            go_wp2
            go_roundw
            case rel => exact ⟨j + 1 + 1, by go_num, by omega, hnx, below_growN hbl hsz _ _⟩
            case measure => simp [intOf]; omega
          · have hr0 : r = false := hno (by
              cases hc : canB (-1) (l.take (j + 1 + 1))
              · rfl
              · exact absurd (hnext.1 hc).2 hq)
            subst hr0
            have hd : x ≤ q := by omega
            clear hnext hno ho3
            go_wp2_with fail
            refine wp_region_quiet_grown mixed (by kernel_rfl) ?_
            repeat (first | go_big_quiet_step (first | (go_at_call 38; exact Calls.grown_of (C0.out _))) | quiet_step (first | (go_at_call 38; exact Calls.grown_of (C0.out _))))
            refine wpQuiet_nil ?_
            intro _ hw'
            obtain ⟨⟨nq, osq⟩, hw''⟩ := hw'
            subst hw''
            go_wp2
            go_ret
            exact ⟨rfl, below_growN hbl hsz _ _⟩
    · have hk' : l.take k = l := List.take_of_length_le (by rw [← hn.out]; omega)
      have hfin : r = decide ((n : Int) ≤ 64) := by
        rw [← hr.out]
        unfold chkB
        rw [← hk', HK.out, hk', Bool.true_and]
        exact decide_eq_decide.2 (by rw [← hn.out]; omega)
      replace hk' := Lib.hid hk'
      replace hfin := Lib.hid hfin
      go_wp2
      go_ret
      exact ⟨ret_bool hfin.out.symm, hbl⟩
end Go.Proofs.Ytlbfcbmfpnfheaa


/-
  CONTRACTS of the document's Keys, Count.
-/
namespace Go.Proofs.Ytlbfcbmfpnfheaa
open Go.RowKit Go.Shelf

theorem Try.infoBool : (Try.prog.info? 4).map (fun i => (i.zero, i.size, i.bytes)) = some (some (.bool false), 1, 1) := by kernel_rfl
/-- The Bools that a test gives of the keys below n. -/
def tab (p : Int → Bool) (n : Nat) : List Value := (List.range n).map fun j : Nat => Value.bool (p (j : Int))
theorem tab_len (p : Int → Bool) (n : Nat) : (tab p n).length = n := by simp [tab]
theorem tab_get (p : Int → Bool) (n j : Nat) (h : j < n) : (tab p n)[j]? = some (.bool (p j)) := by simp [tab, h]
theorem tab_succ (p : Int → Bool) (n : Nat) : tab p (n + 1) = tab p n ++ [.bool (p n)] := by simp [tab, List.range_succ]
theorem tab_congr {p q : Int → Bool} {n : Nat} (h : ∀ j : Nat, j < n → p j = q j) : tab p n = tab q n := by
  unfold tab
  exact List.map_congr_left fun j hj => by rw [h j (List.mem_range.1 hj)]
theorem tab_set (p : Int → Bool) (n m : Nat) (h : m < n) : (tab p n).set m (.bool true) = tab (fun j => p j || decide (j = (m : Int))) n := by
  refine List.ext_getElem? fun j => ?_
  rw [List.getElem?_set]
  by_cases hj : j < n
  · have h2 : (tab (fun j => p j || decide (j = (m : Int))) n)[j]? = some (.bool (p j || decide ((j : Int) = (m : Int)))) := tab_get _ _ _ hj
    rw [h2]
    by_cases e : m = j
    · subst e
      rw [if_pos rfl, if_pos (by rw [tab_len]; exact h), decide_eq_true rfl, Bool.or_true]
    · rw [if_neg e, tab_get _ _ _ hj, decide_eq_false (by omega), Bool.or_false]
  · have h1 : (tab p n)[j]? = none := List.getElem?_eq_none (by rw [tab_len]; omega)
    have h2 : (tab (fun j => p j || decide (j = (m : Int))) n)[j]? = none := List.getElem?_eq_none (by rw [tab_len]; omega)
    rw [h2, if_neg (by omega), h1]
theorem row_below {t : TypeId} {size n base : Nat} {w w' : World} {v : Value} {xs : List Value} (h : w.ownsRow base t size v n xs) (hb : Below w.heap.size w w') : w'.ownsRow base t size v n xs :=
  World.ownsRow.kept h (row := none) ⟨hb.os, hb.tape, hb.output, hb.size, fun k hk _ => hb.block k hk⟩ (by cases hv : v.ownBlock <;> simp)
theorem row_form {t : TypeId} {size n base : Nat} {w : World} {v : Value} {xs : List Value} (h : w.ownsRow base t size v n xs) (hn : 0 < n) : ∃ g cap, v = .slice (some ⟨g, 0, none⟩) n cap ∧ base ≤ g ∧ g < w.heap.size := by
  rcases h.2 with ⟨_, h0⟩ | ⟨g, cap, cur, hv, hb, hg, _⟩
  · omega
  · exact ⟨g, cap, hv, hb, (Array.getElem?_eq_some_iff.1 hg).1⟩
/-- 4096 Bools in block g. -/
def KIn (w : World) (g : Nat) (p : Int → Bool) : Prop := g < w.heap.size ∧ ∀ j : Nat, j < 4096 → w.cell? ⟨g, j, none⟩ = some (.bool (p j))
theorem KIn.below {w w' : World} {g : Nat} {p : Int → Bool} (h : KIn w g p) (hb : Below w.heap.size w w') : KIn w' g p := ⟨Nat.lt_of_lt_of_le h.1 hb.size, fun j hj => (hb.cell (p := ⟨g, j, none⟩) h.1).trans (h.2 j hj)⟩
theorem KIn.of_row {w : World} {base g cap n : Nat} {p : Int → Bool} {t : TypeId} (hn : n = 4096) (h : w.ownsRow base t 1 (.slice (some ⟨g, 0, none⟩) n cap) n (tab p n)) : KIn w g p := by
  subst hn
  refine ⟨(h.lt g rfl).2, fun j hj => ?_⟩
  have := World.ownsRow.cellAt h j (by omega)
  rw [this, tab_get _ _ _ hj]
def KeysPost (w : World) (l : List Sp) (e : Ending) (w' : World) : Prop := ∃ g cap, e = .returned (.slice (some ⟨g, 0, none⟩) 4096 cap) ∧ KIn w' g (hasB l) ∧ Below w.heap.size w w'

set_option maxRecDepth 100000 in
set_option maxHeartbeats 4000000 in
theorem keys_any (a : Option Addr) (n c : Nat) (l : List Sp) (w : World) (h : Arg w a n c l) :
    Calls Try.prog 78 #[.slice a n c] w (KeysPost w l) := by
  obtain ⟨i0, hi, hz0, hz1, hz2⟩ := info_parts Try.infoBool
  obtain ⟨hn, hz, _, _, hp⟩ := h
  have hnz : (n : Int) ≤ 9223372036854775807 := by omega
  replace hn := Lib.hid hn
  replace hp := Lib.hid hp
  go_enter Try.func78, Try.ntmps78
  go_wp2_with fail
  go_loopw [3, 4] (fun v i wr => ∃ (k : Nat), i = .int .i64 (k : Int) ∧ k ≤ 4096 ∧ Hid (wr.ownsRow w.heap.size 4 1 v k (tab (fun _ => false) k)) ∧ Below w.heap.size w wr)
    (fun _ i _ => 4096 - (intOf i).toNat)
  case atStart => exact ⟨0, rfl, by omega, Lib.hid ⟨rfl, .inl ⟨rfl, rfl⟩⟩, Below.refl _ _⟩
  case round =>
    obtain ⟨k, rfl, hk, HO, hbl⟩ := hrel
    have hsz := hbl.size
    by_cases hlt : k < 4096
    · go_wp2_with (at_builtin; refine wpList_append_own _ rfl _ _ 121 rfl w.heap.size 4 i0 (.bool false) 1 1 Try.underlying121 hi hz0 hz1 hz2 rfl (by decide) _ _ _ rfl (HO.out.alloc _) ⟨wr.heap.size, 0, none⟩ 1 1 [.bool false] rfl rfl ?c1 ?c2 ?c3 ?c4 ?c5 ?_)
      case c1 =>
        intro j u hj
        match j, hj with
        | 0, hj => simp at hj; subst hj; simp [Addr.add]
      case c2 => intro u hu; simp at hu; subst hu; rfl
      case c3 => unfold maxLen; omega
      case c4 => omega
      case c5 => simp; omega
      · intro v' w1 hown' hgrow _
        have hb1 := (hbl.alloc hsz (.cells #[.bool false] 4)).grown hgrow (by simp; omega) (fun j hj => (HO.out.lt j hj).1)
        replace hown' := Lib.hid hown'
        go_wp2
        go_roundw
        case rel => exact ⟨k + 1, by go_num, by omega, Lib.hid (by rw [tab_succ]; exact hown'.out), hb1⟩
        case measure => simp [intOf]; omega
    · have hk4 : k = 4096 := by omega
      have ho := HO.out
      rw [hk4] at ho
      obtain ⟨g, cap, hv, hg1, hg2⟩ := row_form ho (by omega)
      subst hv
      rw [hk4] at hlt hk ⊢
      rw [show ((4096 : Nat) : Int) = 4096 from rfl]
      replace ho := Lib.hid ho
      replace hk4 := Lib.hid hk4
      clear HO
      go_wp2_with fail
      go_loopw [5, 6] (fun i _ wr2 => ∃ (k : Nat), i = .int .i64 (k : Int) ∧ k ≤ n ∧ Hid (wr2.ownsRow w.heap.size 4 1 (.slice (some ⟨g, 0, none⟩) 4096 cap) 4096 (tab (hasB (l.take k)) 4096)) ∧ Below w.heap.size w wr2)
        (fun i _ _ => n - (intOf i).toNat)
      case atStart => exact ⟨0, rfl, by omega, Lib.hid ho.out, hbl⟩
      case round =>
        obtain ⟨k2, rfl, hk2, HO, hbl2⟩ := hrel
        have hsz2 := hbl2.size
        by_cases hlt2 : k2 < n
        · obtain ⟨b, off, e, hb, d0, d1⟩ := (hp.out.below hbl2) k2 (by rw [← hn.out]; exact hlt2)
          subst e
          obtain ⟨s, hs⟩ : ∃ s, l.getD k2 (0, 0) = s := ⟨_, rfl⟩
          rw [hs] at d0 d1
          have hnext : ∀ j, hasB (l.take (k2 + 1)) j = (hasB (l.take k2) j || inB s j) := fun j => by
            rw [take_more (by rw [← hn.out]; exact hlt2), hasB_append, hasB_cons, hasB_nil, Bool.or_false, hs]
          replace hs := Lib.hid hs
          replace hnext := Lib.hid hnext
          obtain ⟨x, y⟩ := s
          dsimp only at d0 d1
          have hbb : b < wr.heap.size := Nat.lt_of_lt_of_le hb hsz2
          have hone := oneB_iff (x, y)
          cases ho1 : oneB (x, y)
          · have hin : ∀ j, inB (x, y) j = false := fun j => by unfold inB; rw [ho1]; rfl
            replace hin := Lib.hid hin
            replace ho1 := Lib.hid ho1
            clear hone
            go_wp2
            refine wp_loop_rounds 1 ?_
            rw [rounds_succ]
            go_wp2_with (go_at_call 38; (with_reducible refine (rone_any (x, y) _).mono ?_); rw [ho1.out]; rintro e w3 ⟨rfl, b3⟩)
            go_roundw
            case rel =>
              refine ⟨k2 + 1, by go_num, by omega, Lib.hid ?_, below_next hbl2 b3⟩
              have := row_below HO.out b3
              rwa [tab_congr (q := hasB (l.take (k2 + 1))) fun j _ => by rw [hnext.out, hin.out, Bool.or_false]] at this
            case measure => simp [intOf]; omega
          · have ho3 := hone.1 ho1
            dsimp only at ho3
            obtain ⟨o1, o2, o3⟩ := ho3
            obtain ⟨p, rfl⟩ : ∃ p : Nat, x = (p : Int) := ⟨x.toNat, by omega⟩
            replace ho1 := Lib.hid ho1
            clear hone
            go_wp2_with fail
            go_loopw [6] (fun s6 w3 => ∃ (m : Nat), s6 = .int .i64 (m : Int) ∧ p ≤ m ∧ (m : Int) ≤ y ∧ Hid (w3.ownsRow w.heap.size 4 1 (.slice (some ⟨g, 0, none⟩) 4096 cap) 4096 (tab (fun j => hasB (l.take k2) j || decide ((p : Int) ≤ j ∧ j < m)) 4096)) ∧ Below w.heap.size w w3)
              (fun s6 _ => (y - intOf s6).toNat)
            case atStart =>
              refine ⟨p, rfl, by omega, by omega, Lib.hid ?_, hbl2⟩
              rw [tab_congr (q := hasB (l.take k2)) fun j _ => by rw [decide_eq_false (by omega), Bool.or_false]]
              exact HO.out
            case round =>
              obtain ⟨m, rfl, hm1, hm2, HR, hbl3⟩ := hrel
              obtain ⟨b', off', e, _, e0, e1⟩ := (hp.out.below hbl3) k2 (by rw [← hn.out]; exact hlt2)
              cases e
              rw [hs.out] at e0 e1
              dsimp only at e0 e1
              have hbb3 : b < wr.heap.size := Nat.lt_of_lt_of_le hb hbl3.size
              by_cases hmy : (m : Int) < y
              · have hm4 : m < 4096 := by omega
                have hm4z : (m : Int) < 4096 := by omega
                go_wp2_with (go_at_call 38; (with_reducible refine (rone_any ((p : Int), y) _).mono ?_); rw [ho1.out]; rintro e w4 ⟨rfl, b4⟩; have f1 := (b4.cell (p := ⟨b, off + k2 * 2 + 1, none⟩) hbb3).trans e1; have cg := (World.ownsRow.cellAt (row_below HR.out b4) m (by omega)).trans (tab_get _ _ _ hm4); have fg := World.ownsRow.frozenAt (row_below HR.out b4) m)
                go_roundw
                case rel =>
                  refine ⟨m + 1, by go_num, by omega, by omega, Lib.hid ?_, (below_next hbl3 b4).setCell (by omega) _⟩
                  have := (World.ownsRow.stored (row_below HR.out b4) m (.bool true)).1
                  rw [tab_set _ _ _ hm4] at this
                  rwa [tab_congr (q := fun j => hasB (l.take k2) j || decide ((p : Int) ≤ j ∧ j < ((m + 1 : Nat) : Int))) fun j _ => ?_] at this
                  rw [Bool.or_assoc]
                  congr 1
                  rw [Bool.eq_iff_iff]
                  simp only [Bool.or_eq_true, decide_eq_true_eq]
                  omega
                case measure => simp [intOf]; omega
              · have hmy' : (m : Int) = y := by omega
                have hin : ∀ j, inB ((p : Int), y) j = decide ((p : Int) ≤ j ∧ j < m) := fun j => by
                  unfold inB
                  rw [ho1.out, Bool.true_and, hmy']
                replace hin := Lib.hid hin
                replace hmy' := Lib.hid hmy'
                go_wp2_with (go_at_call 38; (with_reducible refine (rone_any ((p : Int), y) _).mono ?_); rw [ho1.out]; rintro e w4 ⟨rfl, b4⟩; have f1 := (b4.cell (p := ⟨b, off + k2 * 2 + 1, none⟩) hbb3).trans e1)
                go_roundw
                case rel =>
                  refine ⟨k2 + 1, by go_num, by omega, Lib.hid ?_, below_next hbl3 b4⟩
                  have := row_below HR.out b4
                  rwa [tab_congr (q := hasB (l.take (k2 + 1))) fun j _ => by rw [hnext.out, hin.out]] at this
                case measure => simp [intOf]; omega
        · have hk' : l.take k2 = l := List.take_of_length_le (by rw [← hn.out]; omega)
          have hfin := HO.out
          rw [hk'] at hfin
          have HF := Lib.hid (KIn.of_row rfl hfin)
          replace hk' := Lib.hid hk'
          clear hfin HO
          go_wp2
          go_ret
          exact ⟨g, cap, rfl, HF.out, hbl2⟩
end Go.Proofs.Ytlbfcbmfpnfheaa


/-
  CONTRACTS of the document's Count, Set, Make.
-/
namespace Go.Proofs.Ytlbfcbmfpnfheaa
open Go.RowKit Go.Shelf

theorem cntB_chk' {l : List Sp} (h : chkB l = true) : cntB l = cardOf (hasB l) := by
  unfold cntB
  rw [if_pos h, sum_of_can (chkB_can h).1]
theorem limP_yes' {L : List Sp} (h : L.length ≤ 64) : limP L = (L, 0) := if_pos h
theorem limP_no' {L : List Sp} (h : ¬ L.length ≤ 64) : limP L = ([], 2) := if_neg h
/-- The set as Set has built it, below the key k. -/
def Runs (p : Int → Bool) (k : Nat) (L : List Sp) : Prop := canB (-1) L = true ∧ (∀ j, hasB L j = (decide (0 ≤ j ∧ j < k) && p j)) ∧ endOf (-1) L ≤ k ∧ (endOf (-1) L < k ∨ k = 4096 ∨ p k = false)
theorem Runs.start (p : Int → Bool) : Runs p 0 [] := ⟨rfl, fun j => by rw [hasB_nil, decide_eq_false (by omega)]; rfl, by show (-1 : Int) ≤ _; omega, .inl (by show (-1 : Int) < _; omega)⟩
theorem Runs.skip {p : Int → Bool} {k : Nat} {L : List Sp} (h : Runs p k L) (hp : p k = false) : Runs p (k + 1) L := by
  refine ⟨h.1, fun j => ?_, by have := h.2.2.1; omega, .inl (by have := h.2.2.1; omega)⟩
  rw [h.2.1]
  by_cases hj : j = k
  · subst hj; rw [hp, Bool.and_false, Bool.and_false]
  · rw [decide_eq_decide.2 (show (0 ≤ j ∧ j < (k : Int)) ↔ (0 ≤ j ∧ j < ((k + 1 : Nat) : Int)) by omega)]
theorem Runs.add {p : Int → Bool} {k m : Nat} {L : List Sp} (h : Runs p k L) (hkm : k < m) (hm : m ≤ 4096) (hall : ∀ i : Nat, k ≤ i → i < m → p i = true) (hend : m = 4096 ∨ p m = false) : Runs p m (L ++ [((k : Int), (m : Int))]) := by
  have hlt : endOf (-1) L < k := by
    rcases h.2.2.2 with h1 | h1 | h1
    · exact h1
    · omega
    · rw [hall k (Nat.le_refl _) hkm] at h1; cases h1
  refine ⟨(canB_snoc _ _ _).2 ⟨h.1, ⟨by dsimp only; omega, by dsimp only; omega, by dsimp only; omega⟩, hlt⟩, fun j => ?_, by rw [endOf_snoc]; exact Int.le_refl _, .inr hend⟩
  rw [hasB_append, h.2.1, hasB_cons, hasB_nil, Bool.or_false]
  by_cases hj : (k : Int) ≤ j ∧ j < m
  · have e := hall j.toNat (by omega) (by omega)
    rw [show ((j.toNat : Nat) : Int) = j by omega] at e
    rw [e, (inB_iff _ j).2 (by dsimp only; omega), Bool.or_true, decide_eq_true (by omega)]; rfl
  · have : inB ((k : Int), (m : Int)) j = false := by
      cases hi' : inB ((k : Int), (m : Int)) j
      · rfl
      · rw [inB_iff] at hi'; dsimp only at hi'; omega
    rw [this, Bool.or_false, decide_eq_decide.2 (show (0 ≤ j ∧ j < (k : Int)) ↔ (0 ≤ j ∧ j < (m : Int)) by omega)]
theorem Runs.done {p : Int → Bool} {L : List Sp} (h : Runs p 4096 L) : L = setOf p := setOf_eq h.1 fun j h0 h1 => by rw [h.2.1, decide_eq_true ⟨h0, h1⟩, Bool.true_and]
theorem Runs.len {p : Int → Bool} {k : Nat} {L : List Sp} (h : Runs p k L) : L.length ≤ 5000 := by
  by_cases hl : L = []
  · subst hl; simp
  · have := canB_len _ _ h.1 hl; omega

set_option maxRecDepth 100000 in
set_option maxHeartbeats 4000000 in
theorem rset_any (g cap : Nat) (p : Int → Bool) (w : World) (hk : KIn w g p) :
    Calls Try.prog 77 #[.slice (some ⟨g, 0, none⟩) 4096 cap] w (SetArg w (limP (setOf p))) := by
  obtain ⟨i0, hi, hz0, hz1, hz2⟩ := info_parts Try.infoRef
  replace hk := Lib.hid hk
  go_enter Try.func77, Try.ntmps77
  go_wp2_with fail
  go_loopw [4, 5, 6] (fun v i _ wr => ∃ (k : Nat) (L : List Sp), i = .int .i64 (k : Int) ∧ k ≤ 4096 ∧ Hid (OwnsP 33 wr w.heap.size v L ∧ Runs p k L) ∧ Below w.heap.size w wr)
    (fun _ i _ _ => 4096 - (intOf i).toNat)
  case atStart => exact ⟨0, [], rfl, by omega, Lib.hid ⟨OwnsP.nil _ _ _, Runs.start p⟩, Below.refl _ _⟩
  case round =>
    obtain ⟨k, L, rfl, hk4, HL, hbl⟩ := hrel
    have hsz := hbl.size
    have hlen := HL.out.2.len
    by_cases hlt : k < 4096
    · have hltz : (k : Int) < 4096 := by omega
      go_wp2_with fail
      go_loopw [5] (fun i wr' => ∃ (m : Nat), i = .int .i64 (m : Int) ∧ k ≤ m ∧ m ≤ 4096 ∧ Hid (∀ i : Nat, k ≤ i → i < m → p i = true) ∧ wr' = wr)
        (fun i _ => 4096 - (intOf i).toNat)
      case atStart => exact ⟨k, rfl, by omega, by omega, Lib.hid (fun i h1 h2 => by omega), rfl⟩
      case round =>
        obtain ⟨m, rfl, hm1, hm2, HM, rfl⟩ := hrel
        by_cases hml : m < 4096
        · have hmlz : (m : Int) < 4096 := by omega
          have cm := hk.out.2 m hml
          have cm' := (hbl.cell (p := ⟨g, m, none⟩) hk.out.1).trans cm
          clear cm
          cases hp : p (m : Int)
          · rw [hp] at cm'
            by_cases hkm : k < m
            · have hkmz : (k : Int) < (m : Int) := by omega
              have HR := Lib.hid (HL.out.2.add hkm hm2 HM.out (.inr hp))
              replace hp := Lib.hid hp
              go_wp2_with (at_builtin; refine wpList_append_own _ rfl _ _ 42 rfl w.heap.size 33 i0 (.agg #[.int .i64 0, .int .i64 0]) 2 16 Try.underlying42 hi hz0 hz1 hz2 rfl (by decide) _ _ _ rfl (World.ownsRow.alloc HL.out.1 _) ⟨wr.heap.size, 0, none⟩ 1 1 [.int .i64 (k : Int), .int .i64 (m : Int)] rfl rfl ?c1 ?c2 ?c3 ?c4 ?c5 ?_)
              case c1 =>
                intro j u hj
                match j, hj with
                | 0, hj => simp at hj; subst hj; simp [Addr.add]
                | 1, hj => simp at hj; subst hj; simp [Addr.add]
              case c2 => intro u hu; simp at hu; rcases hu with rfl | rfl <;> rfl
              case c3 => unfold maxLen; omega
              case c4 => omega
              case c5 => simp; omega
              · intro v' w1 hown' hgrow _
                have hb1 := (hbl.alloc hsz (.cells #[.int .i64 (k : Int), .int .i64 (m : Int)] 33)).grown hgrow (by simp; omega) (fun j hj => (HL.out.1.lt j hj).1)
                replace hown' := Lib.hid hown'
                go_wp2
                go_roundw
                case rel => exact ⟨m, L ++ [((k : Int), (m : Int))], rfl, hm2, Lib.hid ⟨OwnsP.snoc rfl hown'.out, HR.out⟩, hb1⟩
                case measure => simp [intOf]; omega
            · have hkm' : m = k := by omega
              subst hkm'
              have HR := Lib.hid (HL.out.2.skip hp)
              replace hp := Lib.hid hp
              go_wp2
              go_roundw
              case rel => exact ⟨m + 1, L, by go_num, by omega, Lib.hid ⟨HL.out.1, HR.out⟩, hbl⟩
              case measure => simp [intOf]; omega
          · rw [hp] at cm'
            have HM2 := Lib.hid (show ∀ i : Nat, k ≤ i → i < m + 1 → p i = true from fun i h1 h2 => by
              by_cases e : i = m
              · subst e; exact hp
              · exact HM.out i h1 (by omega))
            replace hp := Lib.hid hp
            go_wp2
            go_roundw
            case rel => exact ⟨m + 1, by go_num, by omega, by omega, HM2, trivial⟩
            case measure => simp [intOf]; omega
        · have hm4 : m = 4096 := by omega
          have hmlz : ¬ (m : Int) < 4096 := by omega
          have hkm : k < m := by omega
          have hkmz : (k : Int) < (m : Int) := by omega
          have HR := Lib.hid (HL.out.2.add hkm hm2 HM.out (.inl hm4))
          replace hm4 := Lib.hid hm4
          go_wp2_with (at_builtin; refine wpList_append_own _ rfl _ _ 42 rfl w.heap.size 33 i0 (.agg #[.int .i64 0, .int .i64 0]) 2 16 Try.underlying42 hi hz0 hz1 hz2 rfl (by decide) _ _ _ rfl (World.ownsRow.alloc HL.out.1 _) ⟨wr.heap.size, 0, none⟩ 1 1 [.int .i64 (k : Int), .int .i64 (m : Int)] rfl rfl ?_ ?_ ?_ ?_ ?_ ?_)
          · exact ⟨rfl, rfl⟩
          · unfold maxLen; omega
          · omega
          · omega
          · intro v' w1 hown' hgrow _
            have hb1 := (hbl.alloc hsz (.cells #[.int .i64 (k : Int), .int .i64 (m : Int)] 33)).grown hgrow (by simp; omega) (fun j hj => (HL.out.1.lt j hj).1)
            replace hown' := Lib.hid hown'
            go_wp2
            go_roundw
            case rel => exact ⟨m, L ++ [((k : Int), (m : Int))], rfl, hm2, Lib.hid ⟨OwnsP.snoc rfl hown'.out, HR.out⟩, hb1⟩
            case measure => simp [intOf]; omega
    · have hk' : k = 4096 := by omega
      have hnlt : ¬ (k : Int) < 4096 := by omega
      obtain ⟨ho, hr⟩ := HL.out
      rw [hk'] at hr
      have he := hr.done
      subst he
      obtain ⟨a6, c6, rfl, _⟩ := ho.arg
      have HA := Lib.hid (Arg.of_own ho rfl)
      replace hk' := Lib.hid hk'
      clear ho hr HL
      obtain ⟨S, hS⟩ : ∃ S, setOf p = S := ⟨_, rfl⟩
      rw [hS] at HA hlen ⊢
      replace hS := Lib.hid hS
      by_cases hL : S.length ≤ 64
      · have hLz : (S.length : Int) ≤ 64 := by omega
        have e := Lib.hid (limP_yes' hL)
        go_wp2
        go_ret2
        rw [hS.out, e.out]
        exact ⟨_, _, _, rfl, HA.out, hbl⟩
      · have hLz : ¬ (S.length : Int) ≤ 64 := by omega
        have e := Lib.hid (limP_no' hL)
        go_wp2
        go_ret2
        rw [hS.out, e.out]
        exact ⟨_, _, _, rfl, ⟨rfl, by simp, Nat.le_refl _, Nat.zero_le _, PIn.nil _ _ _⟩, hbl⟩

set_option maxRecDepth 100000 in
set_option maxHeartbeats 2000000 in
theorem rmake_any (a : Option Addr) (n c : Nat) (l : List Sp) (w : World) (h : Arg w a n c l) :
    Calls Try.prog 44 #[.slice a n c] w (SetArg w (makeP l)) := by
  have HA := Lib.hid h
  obtain ⟨hn, hz, _, _, hp⟩ := h
  have hnz : (n : Int) ≤ 9223372036854775807 := by omega
  replace hn := Lib.hid hn
  replace hp := Lib.hid hp
  go_enter Try.func44, Try.ntmps44
  go_wp2_with fail
  go_loopw [4] (fun i wr => ∃ (k : Nat), i = .int .i64 (k : Int) ∧ k ≤ n ∧ Hid (∀ s ∈ l.take k, oneB s = true) ∧ Below w.heap.size w wr)
    (fun i _ => n - (intOf i).toNat)
  case atStart => exact ⟨0, rfl, by omega, Lib.hid (by simp), Below.refl _ _⟩
  case round =>
    obtain ⟨k, rfl, hk, HK, hbl⟩ := hrel
    by_cases hlt : k < n
    · obtain ⟨b, off, e, hb, d0, d1⟩ := (hp.out.below hbl) k (by rw [← hn.out]; exact hlt)
      subst e
      obtain ⟨s, hs⟩ : ∃ s, l.getD k (0, 0) = s := ⟨_, rfl⟩
      rw [hs] at d0 d1
      have hkl : k < l.length := by rw [← hn.out]; exact hlt
      have hmem : s ∈ l := by rw [← hs]; exact List.mem_iff_getElem?.2 ⟨k, getD_of hkl⟩
      replace hs := Lib.hid hs
      obtain ⟨x, y⟩ := s
      dsimp only at d0 d1
      cases ho : oneB (x, y)
      · have hbad := Lib.hid (show makeP l = ([], 1) from if_neg fun hall => by rw [List.all_eq_true.1 hall _ hmem] at ho; cases ho)
        replace ho := Lib.hid ho
        go_wp2_with (go_at_call 38; (with_reducible refine (rone_any (x, y) _).mono ?_); rw [ho.out]; rintro e w2 ⟨rfl, b2⟩)
        go_ret2
        rw [hbad.out]
        exact ⟨_, _, _, rfl, ⟨rfl, by simp, Nat.le_refl _, Nat.zero_le _, PIn.nil _ _ _⟩, below_next hbl b2⟩
      · have HN := Lib.hid (show ∀ s ∈ l.take (k + 1), oneB s = true from fun s h => by
          rw [take_more hkl] at h
          rcases List.mem_append.1 h with h | h
          · exact HK.out s h
          · simp at h; rw [h]
            have := hs.out
            simp only [List.getD_eq_getElem?_getD] at this
            rw [this]; exact ho)
        replace ho := Lib.hid ho
        go_wp2_with (go_at_call 38; (with_reducible refine (rone_any (x, y) _).mono ?_); rw [ho.out]; rintro e w2 ⟨rfl, b2⟩)
        go_roundw
        case rel => exact ⟨k + 1, by go_num, by omega, HN, below_next hbl b2⟩
        case measure => simp [intOf]; omega
    · have hk' : l.take k = l := List.take_of_length_le (by rw [← hn.out]; omega)
      have hall := HK.out
      rw [hk'] at hall
      have hgood := Lib.hid (show makeP l = limP (setOf (hasB l)) from if_pos (List.all_eq_true.2 hall))
      obtain ⟨⟨S, x⟩, hS⟩ : ∃ r, limP (setOf (hasB l)) = r := ⟨_, rfl⟩
      replace hS := Lib.hid hS
      replace hk' := Lib.hid hk'
      clear hall HK
      go_wp2_with (first | (go_at_call 78; (with_reducible refine (keys_any a n c l _ (HA.out.below hbl)).mono ?_); rintro e w2 ⟨g, cap, rfl, hk2, b2⟩; have b12 := below_next hbl b2; replace hk2 := Lib.hid hk2) | (go_at_call 77; (with_reducible refine (rset_any g cap (hasB l) _ hk2.out).mono ?_); rw [hS.out]; rintro e w3 ⟨a3, n3, c3, rfl, h3, b3⟩))
      go_ret2
      rw [hgood.out, hS.out]
      exact ⟨_, _, _, rfl, h3, below_next b12 b3⟩
end Go.Proofs.Ytlbfcbmfpnfheaa


/-
  CONTRACTS of the document's Mix and Some.
-/
namespace Go.Proofs.Ytlbfcbmfpnfheaa
open Go.RowKit Go.Shelf

theorem new1 (w : World) (v : Value) (t : TypeId) (j : Nat) (u : Value) (hj : [v][j]? = some u) : (w.alloc (.cells #[v] t)).cell? ((⟨w.heap.size, 0, none⟩ : Addr).add j) = some u := by
  match j, hj with
  | 0, hj => simp at hj; subst hj; simp [Addr.add]
theorem one1 {v : Value} (h : v.oneCell' = true) : ∀ u ∈ [v], u.oneCell' = true := fun u hu => by simp at hu; subst hu; exact h

theorem mixP_yes' (f : Bool → Bool → Bool) {A B : List Sp} (hA : chkB A = true) (hB : chkB B = true) : mixP f A B = limP (setOf fun j => f (hasB A j) (hasB B j)) := if_pos ⟨hA, hB⟩
end Go.Proofs.Ytlbfcbmfpnfheaa


/-
  CONTRACTS of the document's Some.
-/
namespace Go.Proofs.Ytlbfcbmfpnfheaa
open Go.RowKit Go.Shelf

/-- Is there a key at which f holds of two sets? -/
def anyB (f : Bool → Bool → Bool) (A B : List Sp) : Bool := decide (∃ k : Nat, k < 4096 ∧ f (hasB A k) (hasB B k) = true)
theorem anyB_yes {f : Bool → Bool → Bool} {A B : List Sp} {k : Nat} (hk : k < 4096) (h : f (hasB A k) (hasB B k) = true) : anyB f A B = true := decide_eq_true ⟨k, hk, h⟩
theorem anyB_no {f : Bool → Bool → Bool} {A B : List Sp} (h : ∀ k : Nat, k < 4096 → f (hasB A k) (hasB B k) = false) : anyB f A B = false := decide_eq_false fun ⟨k, hk, e⟩ => by rw [h k hk] at e; cases e

/-- Within's answer, as Awake3 has it. -/
def withinB' (A B : List Sp) : Bool := decide ((meetP A B).2 = 0) && decide ((meetP A B).1 = A)
theorem touchB_some (A B : List Sp) : touchB A B = ((chkB A && chkB B) && anyB (fun x y => x && y) A B) := rfl
theorem withinB_some (A B : List Sp) : withinB' A B = ((chkB A && chkB B) && !anyB (fun x y => x && !y) A B) := by
  unfold withinB'
  cases kA : chkB A
  · rw [show meetP A B = ([], 1) from if_neg (by rw [kA]; simp), Bool.false_and, Bool.false_and]; simp
  · cases kB : chkB B
    · rw [show meetP A B = ([], 1) from if_neg (by rw [kB]; simp), Bool.and_false, Bool.false_and]; simp
    · rw [show meetP A B = limP (setOf fun j => (fun x y => x && y) (hasB A j) (hasB B j)) from mixP_yes' _ kA kB, Bool.true_and, Bool.true_and]
      have cA := (chkB_can kA).1
      cases hs : anyB (fun x y => x && !y) A B
      · have e : A = setOf fun j => (fun x y => x && y) (hasB A j) (hasB B j) := setOf_eq cA fun j h0 h1 => by
          cases hq : hasB A j && !hasB B j
          · revert hq; cases hasB A j <;> cases hasB B j <;> simp
          · have := anyB_yes (f := fun x y => x && !y) (A := A) (B := B) (k := j.toNat) (by omega) (by rw [show ((j.toNat : Nat) : Int) = j by omega]; exact hq)
            rw [hs] at this; cases this
        rw [← e, limP_yes' (chkB_can kA).2, decide_eq_true rfl, decide_eq_true rfl]; rfl
      · obtain ⟨k, hk, hq⟩ := of_decide_eq_true hs
        have hne : ¬ (setOf fun j => (fun x y => x && y) (hasB A j) (hasB B j)) = A := fun e => by
          have h1 := setOf_has (fun j => (fun x y => x && y) (hasB A j) (hasB B j)) (k : Int)
          rw [e, decide_eq_true (by omega), Bool.true_and] at h1
          revert hq h1
          dsimp only
          cases hasB A (k : Int) <;> cases hasB B (k : Int) <;> simp
        by_cases hl : (setOf fun j => (fun x y => x && y) (hasB A j) (hasB B j)).length ≤ 64
        · rw [limP_yes' hl, decide_eq_false hne, Bool.and_false]; rfl
        · rw [limP_no' hl]; rfl
end Go.Proofs.Ytlbfcbmfpnfheaa
