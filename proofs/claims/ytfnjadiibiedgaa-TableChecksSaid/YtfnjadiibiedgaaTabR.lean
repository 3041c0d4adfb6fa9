/-
  CONTRACTS: the document's Check and Get, of tables; THE WALK of TableChecks.
-/
import Derived.Test.YtfnjadiibiedgaaTabL
namespace Go.Proofs.Ytfnjadiibiedgaa
open Go.RowKit Go.Shelf Go.ChangeShapes Go.WideShapes Go.Deep

def prevK (l : List Sp) (k : Nat) : Int := if k = 0 then -1 else (l.getD (k - 1) (0, 0)).1
set_option maxRecDepth 100000 in
set_option maxHeartbeats 2000000 in
theorem rtcheck_any (a : Option Addr) (n c : Nat) (l : List Sp) (w : World) (h : Arg w a n c l) :
    Calls Try.prog 41 #[.slice a n c] w (Gives w (.bool (tblB l))) := by
  obtain ⟨hn, hz, _, _, hp⟩ := h
  have hnz : (n : Int) ≤ 9223372036854775807 := by omega
  obtain ⟨r, hr⟩ : ∃ r, tblB l = r := ⟨_, rfl⟩
  rw [hr]
  have H0 := Lib.hid (show tblF (prevK l 0) (l.drop 0) = r ∧ -1 ≤ prevK l 0 from ⟨hr, by unfold prevK; rw [if_pos rfl]; omega⟩)
  clear hr
  replace hn := Lib.hid hn
  replace hp := Lib.hid hp
  go_enter Try.func41, Try.ntmps41
  go_wp2_with fail
  go_loopw [3] (fun i wr => ∃ (k : Nat), i = .int .i64 (k : Int) ∧ k ≤ n ∧ Hid (tblF (prevK l k) (l.drop k) = r ∧ -1 ≤ prevK l k) ∧ Below w.heap.size w wr)
    (fun i _ => n - (intOf i).toNat)
  case atStart => exact ⟨0, rfl, by omega, H0, Below.refl _ _⟩
  case round =>
    obtain ⟨k, rfl, hk, HC, hbl⟩ := hrel
    by_cases hlt : k < n
    · have hkl : k < l.length := by rw [← hn.out]; exact hlt
      have hkz : (k : Int) < (n : Int) := by omega
      obtain ⟨b, off, e, hb, c0, c1⟩ := (hp.out.below hbl) k hkl
      subst e
      obtain ⟨s, hs⟩ : ∃ s, l.getD k (0, 0) = s := ⟨_, rfl⟩
      rw [hs] at c0 c1
      obtain ⟨hnext, hlow⟩ := HC.out
      rw [drop_more hkl, hs] at hnext
      have hprev : prevK l (k + 1) = s.1 := by unfold prevK; rw [if_neg (by omega), Nat.add_sub_cancel, hs]
      obtain ⟨x, y⟩ := s
      dsimp only at c0 c1 hprev
      replace hs := Lib.hid hs
      obtain ⟨z, hzp⟩ : ∃ z, prevK l k = z := ⟨_, rfl⟩
      rw [hzp] at hnext hlow
      have hd : tblF z ((x, y) :: l.drop (k + 1)) = (decide (z < x ∧ x < 4096) && decide (-1099511627776 ≤ y ∧ y ≤ 1099511627776) && tblF x (l.drop (k + 1))) := rfl
      rw [hd] at hnext
      clear hd
      by_cases h1 : x < 0
      · have hr := Lib.hid (show r = false by rw [← hnext, decide_eq_false (by omega)]; rfl)
        have d1 : decide (x < 0) = true := decide_eq_true h1
        clear hnext h1 hlow hprev hzp
        go_wp2_with fail
        go_ret
        exact ⟨ret_bool hr.out.symm, hbl⟩
      · have d1 : decide (x < 0) = false := decide_eq_false h1
        by_cases h2 : 4095 < x
        · have hr := Lib.hid (show r = false by rw [← hnext, decide_eq_false (by omega)]; rfl)
          have d2 : decide (4095 < x) = true := decide_eq_true h2
          clear hnext h1 h2 hlow hprev hzp
          go_wp2_with fail
          go_ret
          exact ⟨ret_bool hr.out.symm, hbl⟩
        · have d2 : decide (4095 < x) = false := decide_eq_false h2
          by_cases h3 : y < -1099511627776
          · have hr := Lib.hid (show r = false by rw [← hnext, decide_eq_false (show ¬ (-1099511627776 ≤ y ∧ y ≤ 1099511627776) by omega)]; simp)
            have d3 : decide (y < -1099511627776) = true := decide_eq_true h3
            clear hnext h1 h2 h3 hlow hprev hzp
            go_wp2_with fail
            go_ret
            exact ⟨ret_bool hr.out.symm, hbl⟩
          · have d3 : decide (y < -1099511627776) = false := decide_eq_false h3
            by_cases h4 : 1099511627776 < y
            · have hr := Lib.hid (show r = false by rw [← hnext, decide_eq_false (show ¬ (-1099511627776 ≤ y ∧ y ≤ 1099511627776) by omega)]; simp)
              have d4 : decide (1099511627776 < y) = true := decide_eq_true h4
              clear hnext h1 h2 h3 h4 hlow hprev hzp
              go_wp2_with fail
              go_ret
              exact ⟨ret_bool hr.out.symm, hbl⟩
            · have d4 : decide (1099511627776 < y) = false := decide_eq_false h4
              rcases Nat.eq_zero_or_pos k with hk0 | hk0
              · have hN := Lib.hid (show tblF (prevK l (k + 1)) (l.drop (k + 1)) = r ∧ -1 ≤ prevK l (k + 1) by
                  have hz1 : z = -1 := by rw [← hzp]; unfold prevK; rw [if_pos hk0]
                  rw [hprev]
                  refine ⟨?_, by omega⟩
                  rw [← hnext, decide_eq_true (show z < x ∧ x < 4096 by omega), decide_eq_true (show -1099511627776 ≤ y ∧ y ≤ 1099511627776 by omega)]; rfl)
                have d5 : decide ((0 : Int) < (k : Int)) = false := decide_eq_false (by omega)
                have d7 : decide (0 < k) = false := decide_eq_false (by omega)
                clear hnext h1 h2 h3 h4 hlow hprev hzp hk0
                go_wp2_with fail
                go_quiet (fail)
                go_wp2
                go_roundw
                case rel => exact ⟨k + 1, by go_num, by omega, hN, below_drewN hbl _⟩
                case measure => simp [intOf]; omega
              · obtain ⟨m, rfl⟩ : ∃ m, k = m + 1 := ⟨k - 1, by omega⟩
                obtain ⟨b', off', e', _, g0, _⟩ := (hp.out.below hbl) m (by rw [← hn.out]; omega)
                cases e'
                obtain ⟨pk, hpk⟩ : ∃ pk, (l.getD m (0, 0)).1 = pk := ⟨_, rfl⟩
                rw [hpk] at g0
                have hzk : z = pk := by rw [← hzp, ← hpk]; unfold prevK; rw [if_neg (by omega), Nat.add_sub_cancel]
                rw [show off + (m + 1) * 2 = off + m * 2 + 2 from by omega] at c0 c1
                have d5 : decide ((0 : Int) < (m : Int) + 1) = true := decide_eq_true (by omega)
                have hks : (m : Int) + 1 - 1 = m := by omega
                have hkw : IntKind.i64.wrap ((m : Int) + 1 - 1) = m := by rw [hks]; exact IntWalk.i64_in _ (by omega)
                have ht : ((m : Int) + 1).toNat = m + 1 := by omega
                have hoff : off + (m + 1) * 2 = off + m * 2 + 2 := by omega
                have hkz' : (m : Int) + 1 < (n : Int) := by omega
                have hmz : (m : Int) < (n : Int) := by omega
                replace hks := Lib.hid hks
                replace hpk := Lib.hid hpk
                by_cases h5 : x ≤ pk
                · have hr := Lib.hid (show r = false by rw [← hnext, decide_eq_false (by omega)]; rfl)
                  have d6 : decide (x ≤ pk) = true := decide_eq_true h5
                  clear hnext h1 h2 h3 h4 h5 hlow hprev hzp hzk
                  go_wp2_with fail
                  go_quiet (fail)
                  go_wp2
                  go_ret
                  exact ⟨ret_bool hr.out.symm, below_drewN hbl _⟩
                · have d6 : decide (x ≤ pk) = false := decide_eq_false h5
                  have hN := Lib.hid (show tblF (prevK l (m + 1 + 1)) (l.drop (m + 1 + 1)) = r ∧ -1 ≤ prevK l (m + 1 + 1) by
                    rw [hprev]
                    refine ⟨?_, by omega⟩
                    rw [← hnext, decide_eq_true (show z < x ∧ x < 4096 by omega), decide_eq_true (show -1099511627776 ≤ y ∧ y ≤ 1099511627776 by omega)]; rfl)
                  clear hnext h1 h2 h3 h4 h5 hlow hprev hzp hzk
                  go_wp2_with fail
                  go_quiet (fail)
                  go_wp2
                  go_roundw
                  case rel => exact ⟨m + 1 + 1, by go_num, by omega, hN, below_drewN hbl _⟩
                  case measure => simp [intOf]; omega
    · have hkl : l.drop k = [] := List.drop_eq_nil_of_le (by rw [← hn.out]; omega)
      have hkz : ¬ (k : Int) < (n : Int) := by omega
      have hfin := HC.out.1
      rw [hkl] at hfin
      have hr := Lib.hid (show r = true from hfin.symm)
      replace hkl := Lib.hid hkl
      clear hfin
      go_wp2
      go_ret
      exact ⟨ret_bool hr.out.symm, hbl⟩

def cellA (g : Option Int) : Value := .agg #[.int .i64 (g.getD 0), .bool g.isSome]
set_option maxRecDepth 100000 in
set_option maxHeartbeats 2000000 in
theorem rget_any (a : Option Addr) (n c : Nat) (l : List Sp) (key : Int) (w : World) (h : Arg w a n c l) :
    Calls Try.prog 39 #[.slice a n c, .int .i64 key] w (Gives w (cellA (getT l key))) := by
  obtain ⟨hn, hz, _, _, hp⟩ := h
  have hnz : (n : Int) ≤ 9223372036854775807 := by omega
  obtain ⟨R, hR⟩ : ∃ R, cellA (getT l key) = R := ⟨_, rfl⟩
  rw [hR]
  have H0 := Lib.hid (show getT (l.drop 0) key = getT l key from rfl)
  obtain ⟨W1, hW1⟩ : ∃ W1, w.alloc (.cells #[.int .i64 0, .bool false] 66) = W1 := ⟨_, rfl⟩
  have b1 : Below w.heap.size w W1 := by rw [← hW1]; exact (Below.refl _ _).alloc (Nat.le_refl _) _
  have s1 : w.heap.size < W1.heap.size := by rw [← hW1]; simp
  have e0 : W1.cell? ⟨w.heap.size, 0, none⟩ = some (.int .i64 0) := by rw [← hW1]; simp
  have e1 : W1.cell? ⟨w.heap.size, 1, none⟩ = some (.bool false) := by rw [← hW1]; simp
  have f0 : ∀ i, W1.frozen? ⟨w.heap.size, i, none⟩ = false := fun i => by rw [← hW1]; exact frozen_of_row _ _ _ _ _ (heap_alloc_new w _)
  have f00 := f0 0
  have f01 := f0 1
  replace hn := Lib.hid hn
  replace hp := Lib.hid hp
  replace hR := Lib.hid hR
  clear f0
  go_enter Try.func39, Try.ntmps39
  go_wp2_with fail
  replace hW1 := Lib.hid hW1
  go_loopw [5] (fun i wr => ∃ (k : Nat), i = .int .i64 (k : Int) ∧ k ≤ n ∧ Hid (getT (l.drop k) key = getT l key) ∧ wr = W1)
    (fun i _ => n - (intOf i).toNat)
  case atStart => exact ⟨0, rfl, Nat.zero_le _, H0, rfl⟩
  case round =>
    obtain ⟨k, rfl, hk, HK, rfl⟩ := hrel
    by_cases hlt : k < n
    · have hkl : k < l.length := by rw [← hn.out]; exact hlt
      have hkz : (k : Int) < (n : Int) := by omega
      obtain ⟨b, off, e, hb, c0, c1⟩ := (hp.out.below b1) k hkl
      subst e
      obtain ⟨s, hs⟩ : ∃ s, l.getD k (0, 0) = s := ⟨_, rfl⟩
      rw [hs] at c0 c1
      have hnext := HK.out
      rw [drop_more hkl, hs] at hnext
      replace hs := Lib.hid hs
      obtain ⟨x, y⟩ := s
      dsimp only at c0 c1
      have hd : getT ((x, y) :: l.drop (k + 1)) key = if x = key then some y else getT (l.drop (k + 1)) key := rfl
      rw [hd] at hnext
      clear hd
      by_cases hx : x = key
      · rw [if_pos hx] at hnext
        have hRR := Lib.hid (show R = .agg #[.int .i64 y, .bool true] by rw [← hR.out, ← hnext]; rfl)
        have hxb : (x == key) = true := by simpa using hx
        clear hnext hx
        go_wp2_with fail
        exact bodyPost_ret (v := .agg #[.int .i64 y, .bool true]) (by simp [results, Try.results39, go_sem, e0, e1]) rfl ⟨by rw [hRR.out], (b1.setCell (p := ⟨w.heap.size, 0, none⟩) (Nat.le_refl _) _).setCell (p := ⟨w.heap.size, 1, none⟩) (Nat.le_refl _) _⟩
      · rw [if_neg hx] at hnext
        have HN := Lib.hid hnext
        have hxb : (x == key) = false := by simpa using hx
        clear hnext hx
        go_wp2_with fail
        go_roundw
        case rel => exact ⟨k + 1, by go_num, by omega, HN, trivial⟩
        case measure => simp [intOf]; omega
    · have hkz : ¬ (k : Int) < (n : Int) := by omega
      have hRR := Lib.hid (show R = .agg #[.int .i64 0, .bool false] by
        have := HK.out
        rw [List.drop_eq_nil_of_le (by rw [← hn.out]; omega)] at this
        rw [← hR.out, ← this]; rfl)
      go_wp2
      exact bodyPost_ret (v := .agg #[.int .i64 0, .bool false]) (by simp [results, Try.results39, go_sem, e0, e1]) rfl ⟨by rw [hRR.out], (b1.setCell (p := ⟨w.heap.size, 0, none⟩) (Nat.le_refl _) _).setCell (p := ⟨w.heap.size, 1, none⟩) (Nat.le_refl _) _⟩
end Go.Proofs.Ytfnjadiibiedgaa
