/-
  DELTA: the document's Check and Get (as template TabR); the statements' own Refs, of pairs and of turns; the document's Same.
-/
import Derived.Test.YtmifjippdlmpiaaDlW
import Derived.Deep.RegionLaw
import Derived.Deep.AppendLies
namespace Go.Proofs.Ytmifjippdlmpiaa
open Go.RowKit Go.Deep Go.Shelf

theorem below_drewN2 {B : Nat} {a w : World} (h : Below B a w) (n : Nat) : Below B a (w.drewN n) := ⟨h.os, h.tape, h.output, h.size, h.block⟩
theorem drop_moreD {l : List Pr} {k : Nat} (h : k < l.length) : l.drop k = l.getD k (0, 0) :: l.drop (k + 1) := by
  rw [List.drop_eq_getElem_cons h]; simp [List.getD, List.getElem?_eq_getElem h]
theorem RIn.g2 {w : World} {B : Nat} {a : Option Addr} {l : List Pr} (h : RIn encP 2 w B a l) (k : Nat) (hk : k < l.length) :
    ∃ b off, a = some ⟨b, off, none⟩ ∧ b < B ∧ w.cell? ⟨b, off + k * 2, none⟩ = some (.int .i64 (l.getD k (0, 0)).1) ∧ w.cell? ⟨b, off + k * 2 + 1, none⟩ = some (.int .i64 (l.getD k (0, 0)).2) := by
  obtain ⟨b, off, e, hb, hc⟩ := h k hk
  have hg : l[k]! = l.getD k (0, 0) := by rw [getElem!_pos l k hk]; simp [List.getD, List.getElem?_eq_getElem hk]
  rw [hg] at hc
  exact ⟨b, off, e, hb, hc 0 _ rfl, hc 1 _ rfl⟩
def getT : List Pr → Int → Option Int
  | [], _ => none
  | p :: t, k => if p.1 = k then some p.2 else getT t k
theorem Try.infoRPair : (Try.prog.info? 86).map (fun i => (i.zero, i.size, i.bytes)) = some (some (.agg #[.int .i64 0, .int .i64 0]), 2, 16) := by kernel_rfl
theorem Try.infoRTurn : (Try.prog.info? 88).map (fun i => (i.zero, i.size, i.bytes)) = some (some (.agg #[.int .i64 0, .int .i64 0, .bool false, .int .i64 0, .bool false]), 5, 40) := by kernel_rfl
theorem cells_one_new2 (w : World) (x0 x1 : Value) (t : TypeId) : ∀ j u, [x0, x1][j]? = some u → (w.alloc (.cells #[x0, x1] t)).cell? ((⟨w.heap.size, 0, none⟩ : Addr).add j) = some u := by
  intro j u hj
  have h := heap_alloc_new w (.cells #[x0, x1] t)
  rw [addr_add, Nat.zero_add]
  match j, hj with
  | 0, hj => cases hj; exact cell_of_row _ _ 0 _ _ _ h
  | 1, hj => cases hj; exact cell_of_row _ _ 1 _ _ _ h
  | j + 2, hj => simp at hj
set_option maxRecDepth 100000 in
set_option maxHeartbeats 1000000 in
theorem refs5_any (a : Option Addr) (n c : Nat) (l : List Pr) (w : World) (hz : l.length ≤ 100000) (h : RArg encP 2 w a n c l) :
    Calls Try.prog 15 #[.slice a n c] w (RowArg encP 2 w l) := by
  obtain ⟨i0, hi, hz0, hz1, hz2⟩ := info_parts Try.infoRPair
  have hA := h
  obtain ⟨rfl, _, hc1, hc2, _⟩ := h
  replace hA := Lib.hid hA
  go_enter Try.func15, Try.ntmps15
  go_wp2_with fail
  go_loopw [3, 4] (fun v i wr => ∃ (k : Nat) (q : List Pr), i = .int .i64 (k : Int) ∧ k ≤ l.length ∧ q.length = k ∧ Hid (q = l.take k) ∧ Hid (OwnsR encP 2 86 wr w.heap.size v q) ∧ Below w.heap.size w wr)
    (fun _ i _ => l.length - (intOf i).toNat)
  case atStart => exact ⟨0, [], rfl, Nat.zero_le _, rfl, Lib.hid rfl, Lib.hid (OwnsR.nil _ _ _ _ _), Below.refl _ _⟩
  case round =>
    obtain ⟨k, q, rfl, hk, hqk, hq, HO, hbl⟩ := hrel
    have hsz := hbl.size
    by_cases hlt : k < l.length
    · have hkz : (k : Int) < (l.length : Int) := by omega
      obtain ⟨b, off, e, hb, d0, d1⟩ := (hA.out.below hbl).prs hlt
      subst e
      have hq2 := Lib.hid (show q ++ [l[k]!] = l.take (k + 1) by rw [take_moreG hlt, hq.out])
      generalize l[k]! = s at d0 d1 hq2
      obtain ⟨x, y⟩ := s
      dsimp only at d0 d1
      go_wp2_with (at_builtin; refine wpList_append_own _ rfl _ _ 32 rfl w.heap.size 86 i0 (.agg #[.int .i64 0, .int .i64 0]) 2 16 Try.underlying32 hi hz0 hz1 hz2 rfl (by decide) _ _ _ rfl (World.ownsRow.alloc HO.out _) ⟨wr.heap.size, 0, none⟩ 1 1 [.int .i64 x, .int .i64 y] rfl rfl ?c1 ?c2 ?c3 ?c4 ?c5 ?_)
      case c1 => exact cells_one_new2 _ _ _ _
      case c2 => intro u hu; simp at hu; rcases hu with rfl | rfl <;> rfl
      case c3 => unfold maxLen; omega
      case c4 => omega
      case c5 => simp; omega
      · intro v' w1 hown' hgrow _
        have hb1 := (hbl.alloc hsz (.cells #[.int .i64 x, .int .i64 y] 86)).grown hgrow (by simp; omega) (fun j hj => (World.ownsRow.lt HO.out j hj).1)
        have HO2 := Lib.hid (OwnsR.snoc (enc := encP) (l := q) (x := (x, y)) hqk hown')
        clear hown' hgrow HO
        go_wp2
        go_roundw
        case rel => exact ⟨k + 1, q ++ [(x, y)], by go_num, by omega, by simp [hqk], hq2, HO2, hb1⟩
        case measure => simp [intOf]; omega
    · have hkn : k = l.length := by omega
      subst hkn
      have hqe : q = l := by rw [hq.out, List.take_length]
      subst hqe
      obtain ⟨a6, c6, rfl, hR⟩ := OwnsR.arg encP_len HO.out
      have hkz : ¬ (q.length : Int) < (q.length : Int) := by omega
      replace hR := Lib.hid hR
      clear HO
      go_wp2
      go_ret
      exact ⟨_, _, _, rfl, hR.out, hbl⟩
theorem cellD5 (w : World) (x0 x1 x2 x3 x4 : Value) (t : TypeId) : ∀ j u, [x0, x1, x2, x3, x4][j]? = some u → ((w.alloc (.cells #[x0, x1, x2, x3, x4] t)).drew).cell? ((⟨w.heap.size, 0, none⟩ : Addr).add j) = some u := cells_one_new5 w x0 x1 x2 x3 x4 t _ rfl
theorem five_one (x y u : Int) (s1 s2 : Bool) : ∀ v ∈ [Value.int .i64 x, .int .i64 y, .bool s1, .int .i64 u, .bool s2], v.oneCell' = true := by
  intro u hu; simp at hu; rcases hu with rfl | rfl | rfl | rfl | rfl <;> rfl
set_option maxRecDepth 100000 in
set_option maxHeartbeats 2000000 in
theorem refsT_any (a : Option Addr) (n c : Nat) (l : List Tn) (w : World) (hz : l.length ≤ 100000) (h : RArg encT 5 w a n c l) :
    Calls Try.prog 17 #[.slice a n c] w (RowArg encT 5 w l) := by
  obtain ⟨i0, hi0, hz0, hz1, hz2⟩ := info_parts Try.infoRTurn
  have hA := h
  obtain ⟨rfl, _, hc1, hc2, _⟩ := h
  replace hA := Lib.hid hA
  go_enter Try.func17, Try.ntmps17
  go_wp2_with fail
  go_loopw [3, 4] (fun vo i wr => ∃ (k : Nat) (v : Value), v = vo ∧ i = .int .i64 (k : Int) ∧ k ≤ l.length ∧ Hid (OwnsR encT 5 88 wr w.heap.size v (l.take k)) ∧ Below w.heap.size w wr)
    (fun _ i _ => l.length - (intOf i).toNat)
  case atStart => exact ⟨0, _, rfl, rfl, by omega, Lib.hid (OwnsR.nil _ _ _ _ _), Below.refl _ _⟩
  case round =>
    obtain ⟨k, v, rfl, rfl, hk, HO, hbl⟩ := hrel
    have hsz := hbl.size
    by_cases hkl : k < l.length
    · have hkz : (k : Int) < (l.length : Int) := by omega
      obtain ⟨b, off, e, hb, d0, d1, d2, d3, d4⟩ := (hA.out.below hbl).tns hkl
      subst e
      have HT := Lib.hid (take_moreG hkl)
      generalize l[k]! = s at d0 d1 d2 d3 d4 HT
      obtain ⟨x, ⟨y, s1⟩, ⟨u, s2⟩⟩ := s
      dsimp only at d0 d1 d2 d3 d4
      have hlen : (l.take k).length = k := by rw [List.length_take]; omega
      have ho : wr.ownsRow w.heap.size 88 5 v k (flatR encT (l.take k)) := by
        have := HO.out
        unfold OwnsR at this
        rwa [hlen] at this
      have HD := Lib.hid (fun o => (ho.alloc o).drew)
      have HG := Lib.hid (fun o w1 (hg : ((wr.alloc o).drew).grownBy w1 v.ownBlock) => (show Below w.heap.size w w1 from by
        have hlt2 := ho.lt
        exact ((hbl.alloc hsz o).drew).grown hg (by simp; omega) (fun g e => (hlt2 g e).1)))
      have B63 := Lib.hid (show k + 1 ≤ maxLen by unfold maxLen; omega)
      have BBY := Lib.hid (show (k + 1) * 40 ≤ 140737488355328 by omega)
      have HBS := Lib.hid (fun o => (show w.heap.size ≤ ((wr.alloc o).drew).heap.size from by simp; omega))
      have HH := Lib.hid (fun o => (show ((wr.alloc o).drew).heap.size = wr.heap.size + 1 from by simp))
      clear ho
      go_wp2_with fail
      go_region_law (first | (refine step_append_lies _ rfl (.tmp 11) (.tmp 28) 29 rfl w.heap.size 88 i0 (.agg #[.int .i64 0, .int .i64 0, .bool false, .int .i64 0, .bool false]) 5 40 Try.underlying29 hi0 hz0 hz1 hz2 rfl (by decide) _ _ _ rfl (HD.out _) ⟨wr.heap.size, 0, none⟩ 1 1 [.int .i64 x, .int .i64 y, .bool s1, .int .i64 u, .bool s2] rfl rfl (cellD5 wr _ _ _ _ _ _) (five_one _ _ _ _ _) (by decide) B63.out BBY.out (HBS.out _) (wr.heap.size + 1) (HH.out _) ?_; intro g cap w1 hown1 hgrow1 _ _; have g1 := HG.out _ _ hgrow1; replace hown1 := Lib.hid hown1; clear hgrow1))
      all_goals
        go_wp2
        go_roundw
        case rel =>
          refine ⟨k + 1, _, rfl, by go_num, by omega, Lib.hid ?_, g1⟩
          rw [HT.out]
          exact OwnsR.snoc (x := ((x, (y, s1), (u, s2)) : Tn)) hlen hown1.out
        case measure => simp [intOf]; omega
    · have hk' : l.take k = l := List.take_of_length_le (by omega)
      have hkz : ¬ (k : Int) < (l.length : Int) := by omega
      have ho := HO.out
      rw [hk'] at ho
      obtain ⟨a6, c6, rfl, hR⟩ := OwnsR.arg encT_len ho
      replace hR := Lib.hid hR
      replace hk' := Lib.hid hk'
      clear ho HO
      go_wp2
      go_ret
      exact ⟨_, _, _, rfl, hR.out, hbl⟩
def prevK (l : List Pr) (k : Nat) : Int := if k = 0 then -1 else (l.getD (k - 1) (0, 0)).1
set_option maxRecDepth 100000 in
set_option maxHeartbeats 2000000 in
theorem rtcheck_any (a : Option Addr) (n c : Nat) (l : List Pr) (w : World) (h : RArg encP 2 w a n c l) :
    Calls Try.prog 43 #[.slice a n c] w (Gives w (.bool (tblB l))) := by
  obtain ⟨hn, hz, _, _, hp⟩ := h
  have hnz : (n : Int) ≤ 9223372036854775807 := by omega
  obtain ⟨r, hr⟩ : ∃ r, tblB l = r := ⟨_, rfl⟩
  rw [hr]
  have H0 := Lib.hid (show tblF (prevK l 0) (l.drop 0) = r ∧ -1 ≤ prevK l 0 from ⟨hr, by unfold prevK; rw [if_pos rfl]; omega⟩)
  clear hr
  replace hn := Lib.hid hn
  replace hp := Lib.hid hp
  go_enter Try.func43, Try.ntmps43
  go_wp2_with fail
  go_loopw [3] (fun i wr => ∃ (k : Nat), i = .int .i64 (k : Int) ∧ k ≤ n ∧ Hid (tblF (prevK l k) (l.drop k) = r ∧ -1 ≤ prevK l k) ∧ Below w.heap.size w wr)
    (fun i _ => n - (intOf i).toNat)
  case atStart => exact ⟨0, rfl, by omega, H0, Below.refl _ _⟩
  case round =>
    obtain ⟨k, rfl, hk, HC, hbl⟩ := hrel
    by_cases hlt : k < n
    · have hkl : k < l.length := by rw [← hn.out]; exact hlt
      have hkz : (k : Int) < (n : Int) := by omega
      obtain ⟨b, off, e, hb, c0, c1⟩ := (hp.out.below hbl).g2 k hkl
      subst e
      obtain ⟨s, hs⟩ : ∃ s, l.getD k (0, 0) = s := ⟨_, rfl⟩
      rw [hs] at c0 c1
      obtain ⟨hnext, hlow⟩ := HC.out
      rw [drop_moreD hkl, hs] at hnext
      have hprev : prevK l (k + 1) = s.1 := by unfold prevK; rw [if_neg (by omega), Nat.add_sub_cancel, hs]
      obtain ⟨x, y⟩ := s
      dsimp only at c0 c1 hprev
      replace hs := Lib.hid hs
      obtain ⟨z, hzp⟩ : ∃ z, prevK l k = z := ⟨_, rfl⟩
      rw [hzp] at hnext hlow
      have hd : tblF z ((x, y) :: l.drop (k + 1)) = (decide (z < x ∧ x < 4096) && decide (-1099511627776 ≤ y ∧ y ≤ 1099511627776) && tblF x (l.drop (k + 1))) := rfl
      rw [hd] at hnext
      clear hd
      by_cases h1 : x < 0
      · have hr := Lib.hid (show r = false by rw [← hnext, decide_eq_false (by omega)]; rfl)
        have d1 : decide (x < 0) = true := decide_eq_true h1
        clear hnext h1 hlow hprev hzp
        go_wp2_with fail
        go_ret
        exact ⟨ret_bool hr.out.symm, hbl⟩
      · have d1 : decide (x < 0) = false := decide_eq_false h1
        by_cases h2 : 4095 < x
        · have hr := Lib.hid (show r = false by rw [← hnext, decide_eq_false (by omega)]; rfl)
          have d2 : decide (4095 < x) = true := decide_eq_true h2
          clear hnext h1 h2 hlow hprev hzp
          go_wp2_with fail
          go_ret
          exact ⟨ret_bool hr.out.symm, hbl⟩
        · have d2 : decide (4095 < x) = false := decide_eq_false h2
          by_cases h3 : y < -1099511627776
          · have hr := Lib.hid (show r = false by rw [← hnext, decide_eq_false (show ¬ (-1099511627776 ≤ y ∧ y ≤ 1099511627776) by omega)]; simp)
            have d3 : decide (y < -1099511627776) = true := decide_eq_true h3
            clear hnext h1 h2 h3 hlow hprev hzp
            go_wp2_with fail
            go_ret
            exact ⟨ret_bool hr.out.symm, hbl⟩
          · have d3 : decide (y < -1099511627776) = false := decide_eq_false h3
            by_cases h4 : 1099511627776 < y
            · have hr := Lib.hid (show r = false by rw [← hnext, decide_eq_false (show ¬ (-1099511627776 ≤ y ∧ y ≤ 1099511627776) by omega)]; simp)
              have d4 : decide (1099511627776 < y) = true := decide_eq_true h4
              clear hnext h1 h2 h3 h4 hlow hprev hzp
              go_wp2_with fail
              go_ret
              exact ⟨ret_bool hr.out.symm, hbl⟩
            · have d4 : decide (1099511627776 < y) = false := decide_eq_false h4
              rcases Nat.eq_zero_or_pos k with hk0 | hk0
              · have hN := Lib.hid (show tblF (prevK l (k + 1)) (l.drop (k + 1)) = r ∧ -1 ≤ prevK l (k + 1) by
                  have hz1 : z = -1 := by rw [← hzp]; unfold prevK; rw [if_pos hk0]
                  rw [hprev]
                  refine ⟨?_, by omega⟩
                  rw [← hnext, decide_eq_true (show z < x ∧ x < 4096 by omega), decide_eq_true (show -1099511627776 ≤ y ∧ y ≤ 1099511627776 by omega)]; rfl)
                have d5 : decide ((0 : Int) < (k : Int)) = false := decide_eq_false (by omega)
                have d7 : decide (0 < k) = false := decide_eq_false (by omega)
                clear hnext h1 h2 h3 h4 hlow hprev hzp hk0
                go_wp2_with fail
                go_quiet (fail)
                go_wp2
                go_roundw
                case rel => exact ⟨k + 1, by go_num, by omega, hN, below_drewN2 hbl _⟩
                case measure => simp [intOf]; omega
              · obtain ⟨m, rfl⟩ : ∃ m, k = m + 1 := ⟨k - 1, by omega⟩
                obtain ⟨b', off', e', _, g0, _⟩ := (hp.out.below hbl).g2 m (by rw [← hn.out]; omega)
                cases e'
                obtain ⟨pk, hpk⟩ : ∃ pk, (l.getD m (0, 0)).1 = pk := ⟨_, rfl⟩
                rw [hpk] at g0
                have hzk : z = pk := by rw [← hzp, ← hpk]; unfold prevK; rw [if_neg (by omega), Nat.add_sub_cancel]
                rw [show off + (m + 1) * 2 = off + m * 2 + 2 from by omega] at c0 c1
                have d5 : decide ((0 : Int) < (m : Int) + 1) = true := decide_eq_true (by omega)
                have hks : (m : Int) + 1 - 1 = m := by omega
                have hkw : IntKind.i64.wrap ((m : Int) + 1 - 1) = m := by rw [hks]; exact IntWalk.i64_in _ (by omega)
                have ht : ((m : Int) + 1).toNat = m + 1 := by omega
                have hoff : off + (m + 1) * 2 = off + m * 2 + 2 := by omega
                have hkz' : (m : Int) + 1 < (n : Int) := by omega
                have hmz : (m : Int) < (n : Int) := by omega
                replace hks := Lib.hid hks
                replace hpk := Lib.hid hpk
                by_cases h5 : x ≤ pk
                · have hr := Lib.hid (show r = false by rw [← hnext, decide_eq_false (by omega)]; rfl)
                  have d6 : decide (x ≤ pk) = true := decide_eq_true h5
                  clear hnext h1 h2 h3 h4 h5 hlow hprev hzp hzk
                  go_wp2_with fail
                  go_quiet (fail)
                  go_wp2
                  go_ret
                  exact ⟨ret_bool hr.out.symm, below_drewN2 hbl _⟩
                · have d6 : decide (x ≤ pk) = false := decide_eq_false h5
                  have hN := Lib.hid (show tblF (prevK l (m + 1 + 1)) (l.drop (m + 1 + 1)) = r ∧ -1 ≤ prevK l (m + 1 + 1) by
                    rw [hprev]
                    refine ⟨?_, by omega⟩
                    rw [← hnext, decide_eq_true (show z < x ∧ x < 4096 by omega), decide_eq_true (show -1099511627776 ≤ y ∧ y ≤ 1099511627776 by omega)]; rfl)
                  clear hnext h1 h2 h3 h4 h5 hlow hprev hzp hzk
                  go_wp2_with fail
                  go_quiet (fail)
                  go_wp2
                  go_roundw
                  case rel => exact ⟨m + 1 + 1, by go_num, by omega, hN, below_drewN2 hbl _⟩
                  case measure => simp [intOf]; omega
    · have hkl : l.drop k = [] := List.drop_eq_nil_of_le (by rw [← hn.out]; omega)
      have hkz : ¬ (k : Int) < (n : Int) := by omega
      have hfin := HC.out.1
      rw [hkl] at hfin
      have hr := Lib.hid (show r = true from hfin.symm)
      replace hkl := Lib.hid hkl
      clear hfin
      go_wp2
      go_ret
      exact ⟨ret_bool hr.out.symm, hbl⟩

def cellA (g : Option Int) : Value := .agg #[.int .i64 (g.getD 0), .bool g.isSome]
set_option maxRecDepth 100000 in
set_option maxHeartbeats 2000000 in
theorem rget_any (a : Option Addr) (n c : Nat) (l : List Pr) (key : Int) (w : World) (h : RArg encP 2 w a n c l) :
    Calls Try.prog 32 #[.slice a n c, .int .i64 key] w (Gives w (cellA (getT l key))) := by
  obtain ⟨hn, hz, _, _, hp⟩ := h
  have hnz : (n : Int) ≤ 9223372036854775807 := by omega
  obtain ⟨R, hR⟩ : ∃ R, cellA (getT l key) = R := ⟨_, rfl⟩
  rw [hR]
  have H0 := Lib.hid (show getT (l.drop 0) key = getT l key from rfl)
  obtain ⟨W1, hW1⟩ : ∃ W1, w.alloc (.cells #[.int .i64 0, .bool false] 59) = W1 := ⟨_, rfl⟩
  have b1 : Below w.heap.size w W1 := by rw [← hW1]; exact (Below.refl _ _).alloc (Nat.le_refl _) _
  have s1 : w.heap.size < W1.heap.size := by rw [← hW1]; simp
  have e0 : W1.cell? ⟨w.heap.size, 0, none⟩ = some (.int .i64 0) := by rw [← hW1]; simp
  have e1 : W1.cell? ⟨w.heap.size, 1, none⟩ = some (.bool false) := by rw [← hW1]; simp
  have f0 : ∀ i, W1.frozen? ⟨w.heap.size, i, none⟩ = false := fun i => by rw [← hW1]; exact frozen_of_row _ _ _ _ _ (heap_alloc_new w _)
  have f00 := f0 0
  have f01 := f0 1
  replace hn := Lib.hid hn
  replace hp := Lib.hid hp
  replace hR := Lib.hid hR
  clear f0
  go_enter Try.func32, Try.ntmps32
  go_wp2_with fail
  replace hW1 := Lib.hid hW1
  go_loopw [5] (fun i wr => ∃ (k : Nat), i = .int .i64 (k : Int) ∧ k ≤ n ∧ Hid (getT (l.drop k) key = getT l key) ∧ wr = W1)
    (fun i _ => n - (intOf i).toNat)
  case atStart => exact ⟨0, rfl, Nat.zero_le _, H0, rfl⟩
  case round =>
    obtain ⟨k, rfl, hk, HK, rfl⟩ := hrel
    by_cases hlt : k < n
    · have hkl : k < l.length := by rw [← hn.out]; exact hlt
      have hkz : (k : Int) < (n : Int) := by omega
      obtain ⟨b, off, e, hb, c0, c1⟩ := (hp.out.below b1).g2 k hkl
      subst e
      obtain ⟨s, hs⟩ : ∃ s, l.getD k (0, 0) = s := ⟨_, rfl⟩
      rw [hs] at c0 c1
      have hnext := HK.out
      rw [drop_moreD hkl, hs] at hnext
      replace hs := Lib.hid hs
      obtain ⟨x, y⟩ := s
      dsimp only at c0 c1
      have hd : getT ((x, y) :: l.drop (k + 1)) key = if x = key then some y else getT (l.drop (k + 1)) key := rfl
      rw [hd] at hnext
      clear hd
      by_cases hx : x = key
      · rw [if_pos hx] at hnext
        have hRR := Lib.hid (show R = .agg #[.int .i64 y, .bool true] by rw [← hR.out, ← hnext]; rfl)
        have hxb : (x == key) = true := by simpa using hx
        clear hnext hx
        go_wp2_with fail
        exact bodyPost_ret (v := .agg #[.int .i64 y, .bool true]) (by simp [results, Try.results32, go_sem, e0, e1]) rfl ⟨by rw [hRR.out], (b1.setCell (p := ⟨w.heap.size, 0, none⟩) (Nat.le_refl _) _).setCell (p := ⟨w.heap.size, 1, none⟩) (Nat.le_refl _) _⟩
      · rw [if_neg hx] at hnext
        have HN := Lib.hid hnext
        have hxb : (x == key) = false := by simpa using hx
        clear hnext hx
        go_wp2_with fail
        go_roundw
        case rel => exact ⟨k + 1, by go_num, by omega, HN, trivial⟩
        case measure => simp [intOf]; omega
    · have hkz : ¬ (k : Int) < (n : Int) := by omega
      have hRR := Lib.hid (show R = .agg #[.int .i64 0, .bool false] by
        have := HK.out
        rw [List.drop_eq_nil_of_le (by rw [← hn.out]; omega)] at this
        rw [← hR.out, ← this]; rfl)
      go_wp2
      exact bodyPost_ret (v := .agg #[.int .i64 0, .bool false]) (by simp [results, Try.results32, go_sem, e0, e1]) rfl ⟨by rw [hRR.out], (b1.setCell (p := ⟨w.heap.size, 0, none⟩) (Nat.le_refl _) _).setCell (p := ⟨w.heap.size, 1, none⟩) (Nat.le_refl _) _⟩
end Go.Proofs.Ytmifjippdlmpiaa
