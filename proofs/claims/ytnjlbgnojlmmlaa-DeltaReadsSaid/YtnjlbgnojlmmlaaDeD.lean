/-
  DELTA: the document's cell and Check, of turns (written by wip/tools/mkDeD.py).
-/
import Derived.Test.YtnjlbgnojlmmlaaDlQ
import Derived.Deep.Quiet
import Derived.Deep.QuietTactic
import Derived.BigQuiet
namespace Go.Proofs.Ytnjlbgnojlmmlaa
open Go.RowKit Go.Deep Go.Shelf

/-- A region that draws, over any class of worlds. -/
theorem wp_region_clsV {ι : Type} (f : ι → World) {P : Program} {id : Nat} {Q : Exit → Act → World → Prop} {a : Act} {w : World} {l : List Oper} (hm : P.follows .mixedOrders = true) (hB : Region.lexB .any l.toArray = true) (n0 : ι) (h0 : f n0 = w.drew)
    (h : wpQuiet P l.toArray (fun w' => ∃ n, w' = f n) (fun a' => ∀ w', (∃ n, w' = f n) → Q .normal a' w') l a) : (Code.region id l.toArray true).wp P Q a w :=
  wp_region_quiet (C := fun w' => ∃ n, w' = f n) hm hB ⟨n0, h0.symm⟩ (by simpa using h)
/-- All worlds above a base, as a family. -/
theorem family (B : World) : ∃ (ι : Type) (f : ι → World), (∀ n, Below B.heap.size B (f n)) ∧ ∀ W, Below B.heap.size B W → ∃ n, f n = W :=
  ⟨{W // Below B.heap.size B W}, Subtype.val, fun n => n.2, fun W h => ⟨⟨W, h⟩, rfl⟩⟩
theorem rcell_any (v : Int) (s r : Bool) (w : World) (h : cellB (v, s) = r) : Calls Try.prog 45 #[.agg #[.int .i64 v, .bool s]] w (Gives w (.bool r)) := by
  have B : Below w.heap.size w (w.alloc (.cells #[.int .i64 v, .bool s] 55)) := (Below.refl _ _).alloc (Nat.le_refl _) _
  subst h
  unfold cellB
  cases s with
  | false =>
    by_cases hv : v = 0
    · subst hv
      go_enter Try.func45, Try.ntmps45
      go_wp2_with fail
      go_ret
      exact ⟨by simp, B⟩
    · have hv2 : (v == 0) = false := by simpa using hv
      go_enter Try.func45, Try.ntmps45
      go_wp2_with fail
      go_ret
      exact ⟨by simp, B⟩
  | true =>
    by_cases h : -1099511627776 ≤ v
    · by_cases h2 : v ≤ 1099511627776
      · go_enter Try.func45, Try.ntmps45
        go_wp2_with fail
        go_ret
        exact ⟨by simp , B⟩
      · go_enter Try.func45, Try.ntmps45
        go_wp2_with fail
        go_ret
        exact ⟨by simp [h2], B⟩
    · have h2 : v ≤ 1099511627776 := by omega
      go_enter Try.func45, Try.ntmps45
      go_wp2_with fail
      go_ret
      exact ⟨by simp [h], B⟩
theorem eqlCell (x y : Int) (s t : Bool) (w : World) : (binOp .eql 55 (.agg #[.int .i64 x, .bool s]) (.agg #[.int .i64 y, .bool t])).run Try.prog w = .ok (.bool (x == y && s == t)) w := by
  rw [run_eql_struct, show (10000 : Nat) = 9997 + 3 from rfl, eqCellR]
  rfl
def prevT (l : List Tn) (k : Nat) : Int := if k = 0 then -1 else (l[k - 1]!).1
set_option maxRecDepth 100000 in
set_option maxHeartbeats 4000000 in
theorem rcheckT_any (a : Option Addr) (n c : Nat) (l : List Tn) (w : World) (h : RArg encT 5 w a n c l) :
    Calls Try.prog 27 #[.slice a n c] w (Gives w (.bool (chkB l))) := by
  have hp := Lib.hid h
  obtain ⟨rfl, hz, _, _, _⟩ := h
  obtain ⟨r, hr⟩ : ∃ r, chkB l = r := ⟨_, rfl⟩
  rw [hr]
  have H0 := Lib.hid (show chkF (prevT l 0) (l.drop 0) = r ∧ -1 ≤ prevT l 0 from ⟨hr, by unfold prevT; rw [if_pos rfl]; omega⟩)
  clear hr
  go_enter Try.func27, Try.ntmps27
  go_wp2_with fail
  go_loopw [3] (fun i wr => ∃ (k : Nat), i = .int .i64 (k : Int) ∧ k ≤ l.length ∧ Hid (chkF (prevT l k) (l.drop k) = r ∧ -1 ≤ prevT l k) ∧ Below w.heap.size w wr)
    (fun i _ => l.length - (intOf i).toNat)
  case atStart => exact ⟨0, rfl, by omega, H0, Below.refl _ _⟩
  case round =>
    obtain ⟨k, rfl, hk, HC, hbl⟩ := hrel
    by_cases hlt : k < l.length
    · have hkz : (k : Int) < (l.length : Int) := by omega
      have hk0 : (0 : Int) ≤ (k : Int) := by omega
      obtain ⟨b, off, e, hb, d0, d1, d2, d3, d4⟩ := (hp.out.below hbl).tns hlt
      subst e
      obtain ⟨hnext, hlow⟩ := HC.out
      rw [drop_moreG hlt] at hnext
      have hprev : prevT l (k + 1) = (l[k]!).1 := by unfold prevT; rw [if_neg (by omega), Nat.add_sub_cancel]
      generalize l[k]! = s at d0 d1 d2 d3 d4 hnext hprev
      obtain ⟨x, ⟨y, s1⟩, ⟨u, s2⟩⟩ := s
      dsimp only at d0 d1 d2 d3 d4 hprev
      obtain ⟨z, hzp⟩ : ∃ z, prevT l k = z := ⟨_, rfl⟩
      rw [hzp] at hnext hlow
      have hd : chkF z ((x, (y, s1), (u, s2)) :: l.drop (k + 1)) = ((decide (z < x ∧ x < 4096) && cellB (y, s1) && cellB (u, s2) && !decide (((y, s1) : Cl) = (u, s2))) && chkF x (l.drop (k + 1))) := rfl
      rw [hd] at hnext
      clear hd
      obtain ⟨ι, F, hF, hall⟩ := family wr
      obtain ⟨n0, h0⟩ := hall _ (Below.refl wr.heap.size wr).drew
      haveI : Nonempty ι := ⟨n0⟩
      have hself : ∀ n, ∃ m, F n = F m := fun n => ⟨n, rfl⟩
      have x0 := fun n => ((hF n).cell (p := ⟨b, off + k * 5, none⟩) hb).trans d0
      have x1 := fun n => ((hF n).cell (p := ⟨b, off + k * 5 + 1, none⟩) hb).trans d1
      have x2 := fun n => ((hF n).cell (p := ⟨b, off + k * 5 + 2, none⟩) hb).trans d2
      have x3 := fun n => ((hF n).cell (p := ⟨b, off + k * 5 + 3, none⟩) hb).trans d3
      have x4 := fun n => ((hF n).cell (p := ⟨b, off + k * 5 + 4, none⟩) hb).trans d4
      have hF' := Lib.hid hF
      have hall' := Lib.hid hall
      clear hF hall d1 d2 d3 d4
      have EQ := fun W => eqlCell y u s1 s2 W
      rw [show (y == u && s1 == s2) = decide (((y, s1) : Cl) = (u, s2)) by by_cases h1 : y = u <;> cases s1 <;> cases s2 <;> simp [h1]] at EQ
      by_cases h1 : x < 0
      · have e1 : decide (x < 0) = true := decide_eq_true h1
        clear EQ
        have hr := Lib.hid (show r = false by rw [← hnext]; rw [decide_eq_false (show ¬ (z < x ∧ x < 4096) by omega)]; rfl)
        clear hnext hlow hprev hzp
        go_wp2_with fail
        refine wp_region_clsV F (by kernel_rfl) (by kernel_rfl) n0 h0 ?_
        clear h0
        repeat (go_big_quiet_step ((first | fail)))
        refine wpQuiet_nil ?_
        intro wq hw'
        obtain ⟨nq, hw''⟩ := hw'
        subst hw''
        have hbq := hF'.out nq
        generalize F nq = W5 at hbq
        clear x0 x1 x2 x3 x4 hself hF' hall'
        go_wp2_with fail
        go_ret
        exact ⟨ret_bool hr.out.symm, below_next hbl hbq⟩
      have e1 : decide (x < 0) = false := decide_eq_false h1
      by_cases h2 : 4096 ≤ x
      · have e2 : decide (4096 ≤ x) = true := decide_eq_true h2
        clear EQ
        have hr := Lib.hid (show r = false by rw [← hnext]; rw [decide_eq_false (show ¬ (z < x ∧ x < 4096) by omega)]; rfl)
        clear hnext hlow hprev hzp
        go_wp2_with fail
        refine wp_region_clsV F (by kernel_rfl) (by kernel_rfl) n0 h0 ?_
        clear h0
        repeat (go_big_quiet_step ((first | fail)))
        refine wpQuiet_nil ?_
        intro wq hw'
        obtain ⟨nq, hw''⟩ := hw'
        subst hw''
        have hbq := hF'.out nq
        generalize F nq = W5 at hbq
        clear x0 x1 x2 x3 x4 hself hF' hall'
        go_wp2_with fail
        go_ret
        exact ⟨ret_bool hr.out.symm, below_next hbl hbq⟩
      have e2 : decide (4096 ≤ x) = false := decide_eq_false h2
      cases hc1 : cellB (y, s1) with
      | false =>
        have K1 := Lib.hid (fun W => rcell_any y s1 false W hc1)
        rw [hc1] at hnext
        clear EQ hc1
        have hr := Lib.hid (show r = false by rw [← hnext]; simp)
        clear hnext hlow hprev hzp
        go_wp2_with fail
        refine wp_region_clsV F (by kernel_rfl) (by kernel_rfl) n0 h0 ?_
        clear h0
        repeat (go_big_quiet_step ((first | (go_at_call 45; (with_reducible refine (K1.out _).mono ?_); rintro e wz ⟨rfl, hbz⟩; obtain ⟨nz, hz⟩ := hall'.out wz (below_next (hF'.out _) hbz); exact ⟨rfl, nz, hz.symm⟩))))
        refine wpQuiet_nil ?_
        intro wq hw'
        obtain ⟨nq, hw''⟩ := hw'
        subst hw''
        have hbq := hF'.out nq
        generalize F nq = W5 at hbq
        clear x0 x1 x2 x3 x4 hself hF' hall'
        go_wp2_with fail
        go_ret
        exact ⟨ret_bool hr.out.symm, below_next hbl hbq⟩
      | true =>
        have K1 := Lib.hid (fun W => rcell_any y s1 true W hc1)
        rw [hc1] at hnext
        cases hc2 : cellB (u, s2) with
        | false =>
          have K2 := Lib.hid (fun W => rcell_any u s2 false W hc2)
          rw [hc2] at hnext
          clear EQ hc2
          have hr := Lib.hid (show r = false by rw [← hnext]; simp)
          clear hnext hlow hprev hzp
          go_wp2_with fail
          refine wp_region_clsV F (by kernel_rfl) (by kernel_rfl) n0 h0 ?_
          clear h0
          repeat (go_big_quiet_step ((first | (go_at_call 45; (with_reducible refine (K1.out _).mono ?_); rintro e wz ⟨rfl, hbz⟩; obtain ⟨nz, hz⟩ := hall'.out wz (below_next (hF'.out _) hbz); exact ⟨rfl, nz, hz.symm⟩) | (go_at_call 45; (with_reducible refine (K2.out _).mono ?_); rintro e wz ⟨rfl, hbz⟩; obtain ⟨nz, hz⟩ := hall'.out wz (below_next (hF'.out _) hbz); exact ⟨rfl, nz, hz.symm⟩))))
          refine wpQuiet_nil ?_
          intro wq hw'
          obtain ⟨nq, hw''⟩ := hw'
          subst hw''
          have hbq := hF'.out nq
          generalize F nq = W5 at hbq
          clear x0 x1 x2 x3 x4 hself hF' hall'
          go_wp2_with fail
          go_ret
          exact ⟨ret_bool hr.out.symm, below_next hbl hbq⟩
        | true =>
          have K2 := Lib.hid (fun W => rcell_any u s2 true W hc2)
          rw [hc2] at hnext
          by_cases hsm : ((y, s1) : Cl) = (u, s2)
          · rw [decide_eq_true hsm] at EQ hnext
            clear hsm hc1 hc2
            have hr := Lib.hid (show r = false by rw [← hnext]; simp)
            clear hnext hlow hprev hzp
            go_wp2_with fail
            refine wp_region_clsV F (by kernel_rfl) (by kernel_rfl) n0 h0 ?_
            clear h0
            repeat (go_big_quiet_step ((first | (go_at_call 45; (with_reducible refine (K1.out _).mono ?_); rintro e wz ⟨rfl, hbz⟩; obtain ⟨nz, hz⟩ := hall'.out wz (below_next (hF'.out _) hbz); exact ⟨rfl, nz, hz.symm⟩) | (go_at_call 45; (with_reducible refine (K2.out _).mono ?_); rintro e wz ⟨rfl, hbz⟩; obtain ⟨nz, hz⟩ := hall'.out wz (below_next (hF'.out _) hbz); exact ⟨rfl, nz, hz.symm⟩))))
            refine wpQuiet_nil ?_
            intro wq hw'
            obtain ⟨nq, hw''⟩ := hw'
            subst hw''
            have hbq := hF'.out nq
            generalize F nq = W5 at hbq
            clear x0 x1 x2 x3 x4 hself hF' hall'
            go_wp2_with fail
            go_ret
            exact ⟨ret_bool hr.out.symm, below_next hbl hbq⟩
          · rw [decide_eq_false hsm] at EQ hnext
            clear hsm hc1 hc2
            go_wp2_with fail
            refine wp_region_clsV F (by kernel_rfl) (by kernel_rfl) n0 h0 ?_
            clear h0
            repeat (go_big_quiet_step ((first | (go_at_call 45; (with_reducible refine (K1.out _).mono ?_); rintro e wz ⟨rfl, hbz⟩; obtain ⟨nz, hz⟩ := hall'.out wz (below_next (hF'.out _) hbz); exact ⟨rfl, nz, hz.symm⟩) | (go_at_call 45; (with_reducible refine (K2.out _).mono ?_); rintro e wz ⟨rfl, hbz⟩; obtain ⟨nz, hz⟩ := hall'.out wz (below_next (hF'.out _) hbz); exact ⟨rfl, nz, hz.symm⟩))))
            refine wpQuiet_nil ?_
            intro wq hw'
            obtain ⟨nq, hw''⟩ := hw'
            subst hw''
            have hbq := hF'.out nq
            generalize F nq = W5 at hbq
            clear x0 x1 x2 x3 x4 hself hF' hall'
            have hb5 := Nat.lt_of_lt_of_le hb hbq.size
            have d0 := (hbq.cell (p := ⟨b, off + k * 5, none⟩) hb).trans d0
            have hb2 := below_next hbl hbq
            clear hbl EQ K1 K2
            rcases Nat.eq_zero_or_pos k with hkk | hkk
            · have hN := Lib.hid (show chkF (prevT l (k + 1)) (l.drop (k + 1)) = r ∧ -1 ≤ prevT l (k + 1) by
                have hz1 : z = -1 := by rw [← hzp]; unfold prevT; rw [if_pos hkk]
                rw [hprev]
                refine ⟨?_, by omega⟩
                rw [← hnext, decide_eq_true (show z < x ∧ x < 4096 by omega)]; rfl)
              have e5 : decide ((0 : Int) < (k : Int)) = false := decide_eq_false (by omega)
              have e7 : decide (0 < k) = false := decide_eq_false (by omega)
              clear hnext h1 h2 hlow hprev hzp hkk
              go_wp2_with fail
              go_quiet (fail)
              go_wp2
              go_roundw
              case rel => exact ⟨k + 1, by go_num, by omega, hN, below_drewN2 hb2 _⟩
              case measure => simp [intOf]; omega
            · obtain ⟨m, rfl⟩ : ∃ m, k = m + 1 := ⟨k - 1, by omega⟩
              obtain ⟨b', off', e', _, g0, _⟩ := (hp.out.below hb2).tns (show m < l.length by omega)
              cases e'
              obtain ⟨pk, hpk⟩ : ∃ pk, (l[m]!).1 = pk := ⟨_, rfl⟩
              rw [hpk] at g0
              have hzk : z = pk := by rw [← hzp, ← hpk]; unfold prevT; rw [if_neg (by omega), Nat.add_sub_cancel]
              rw [show off + (m + 1) * 5 = off + m * 5 + 5 from by omega] at d0
              have e5 : decide ((0 : Int) < (m : Int) + 1) = true := decide_eq_true (by omega)
              have hks : (m : Int) + 1 - 1 = m := by omega
              have hkw : IntKind.i64.wrap ((m : Int) + 1 - 1) = m := by rw [hks]; exact IntWalk.i64_in _ (by omega)
              have ht : ((m : Int) + 1).toNat = m + 1 := by omega
              have hoff : off + (m + 1) * 5 = off + m * 5 + 5 := by omega
              have hkz' : (m : Int) + 1 < (l.length : Int) := by omega
              have hmz : (m : Int) < (l.length : Int) := by omega
              replace hks := Lib.hid hks
              replace hpk := Lib.hid hpk
              by_cases h5 : x ≤ pk
              · have hr := Lib.hid (show r = false by rw [← hnext, decide_eq_false (show ¬ (z < x ∧ x < 4096) by omega)]; rfl)
                have e6 : decide (x ≤ pk) = true := decide_eq_true h5
                clear hnext h1 h2 h5 hlow hprev hzp hzk
                go_wp2_with fail
                go_quiet (fail)
                go_wp2
                go_ret
                exact ⟨ret_bool hr.out.symm, below_drewN2 hb2 _⟩
              · have e6 : decide (x ≤ pk) = false := decide_eq_false h5
                have hN := Lib.hid (show chkF (prevT l (m + 1 + 1)) (l.drop (m + 1 + 1)) = r ∧ -1 ≤ prevT l (m + 1 + 1) by
                  rw [hprev]
                  refine ⟨?_, by omega⟩
                  rw [← hnext, decide_eq_true (show z < x ∧ x < 4096 by omega)]; rfl)
                clear hnext h1 h2 h5 hlow hprev hzp hzk
                go_wp2_with fail
                go_quiet (fail)
                go_wp2
                go_roundw
                case rel => exact ⟨m + 1 + 1, by go_num, by omega, hN, below_drewN2 hb2 _⟩
                case measure => simp [intOf]; omega
    · have hkz : ¬ (k : Int) < (l.length : Int) := by omega
      have hfin := HC.out.1
      rw [List.drop_eq_nil_of_le (by omega)] at hfin
      have hr := Lib.hid (show r = true from hfin.symm)
      clear hfin
      go_wp2
      go_ret
      exact ⟨ret_bool hr.out.symm, hbl⟩
end Go.Proofs.Ytnjlbgnojlmmlaa
