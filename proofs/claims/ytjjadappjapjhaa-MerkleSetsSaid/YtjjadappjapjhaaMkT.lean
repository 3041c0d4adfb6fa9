/-
  CONTRACTS of the document: Refs, Check, Number, Over.
-/
import Derived.Test.YtjjadappjapjhaaMkO
import Derived.Deep.RegionLaw
import Derived.Deep.AppendLies
namespace Go.Proofs.Ytjjadappjapjhaa
open Go.RowKit Go.Deep

set_option maxRecDepth 100000
set_option maxHeartbeats 2000000
theorem below_drewN2 {B : Nat} {a w : World} (h : Below B a w) (n : Nat) : Below B a (w.drewN n) := ⟨h.os, h.tape, h.output, h.size, h.block⟩
theorem drop_moreD {l : List Pr} {k : Nat} (h : k < l.length) : l.drop k = l.getD k (0, 0) :: l.drop (k + 1) := by
  rw [List.drop_eq_getElem_cons h]; simp [List.getD, List.getElem?_eq_getElem h]
theorem RIn.g2 {w : World} {B : Nat} {a : Option Addr} {l : List Pr} (h : RIn encP 2 w B a l) (k : Nat) (hk : k < l.length) :
    ∃ b off, a = some ⟨b, off, none⟩ ∧ b < B ∧ w.cell? ⟨b, off + k * 2, none⟩ = some (.int .i64 (l.getD k (0, 0)).1) ∧ w.cell? ⟨b, off + k * 2 + 1, none⟩ = some (.int .i64 (l.getD k (0, 0)).2) := by
  obtain ⟨b, off, e, hb, hc⟩ := h k hk
  have hg : l[k]! = l.getD k (0, 0) := by rw [getElem!_pos l k hk]; simp [List.getD, List.getElem?_eq_getElem hk]
  rw [hg] at hc
  exact ⟨b, off, e, hb, hc 0 _ rfl, hc 1 _ rfl⟩
theorem Try.infoRPair : (Try.prog.info? 92).map (fun i => (i.zero, i.size, i.bytes)) = some (some (.agg #[.int .i64 0, .int .i64 0]), 2, 16) := by kernel_rfl
theorem cells_one_new2 (w : World) (x0 x1 : Value) (t : TypeId) : ∀ j u, [x0, x1][j]? = some u → (w.alloc (.cells #[x0, x1] t)).cell? ((⟨w.heap.size, 0, none⟩ : Addr).add j) = some u := by
  intro j u hj
  have h := heap_alloc_new w (.cells #[x0, x1] t)
  rw [addr_add, Nat.zero_add]
  match j, hj with
  | 0, hj => cases hj; exact cell_of_row _ _ 0 _ _ _ h
  | 1, hj => cases hj; exact cell_of_row _ _ 1 _ _ _ h
  | j + 2, hj => simp at hj
set_option maxRecDepth 100000 in
set_option maxHeartbeats 1000000 in
theorem refs5_any (a : Option Addr) (n c : Nat) (l : List Pr) (w : World) (hz : l.length ≤ 100000) (h : RArg encP 2 w a n c l) :
    Calls Try.prog 16 #[.slice a n c] w (RowArg encP 2 w l) := by
  obtain ⟨i0, hi, hz0, hz1, hz2⟩ := info_parts Try.infoRPair
  have hA := h
  obtain ⟨rfl, _, hc1, hc2, _⟩ := h
  replace hA := Lib.hid hA
  go_enter Try.func16, Try.ntmps16
  go_wp2_with fail
  go_loopw [3, 4] (fun v i wr => ∃ (k : Nat) (q : List Pr), i = .int .i64 (k : Int) ∧ k ≤ l.length ∧ q.length = k ∧ Hid (q = l.take k) ∧ Hid (OwnsR encP 2 92 wr w.heap.size v q) ∧ Below w.heap.size w wr)
    (fun _ i _ => l.length - (intOf i).toNat)
  case atStart => exact ⟨0, [], rfl, Nat.zero_le _, rfl, Lib.hid rfl, Lib.hid (OwnsR.nil _ _ _ _ _), Below.refl _ _⟩
  case round =>
    obtain ⟨k, q, rfl, hk, hqk, hq, HO, hbl⟩ := hrel
    have hsz := hbl.size
    by_cases hlt : k < l.length
    · have hkz : (k : Int) < (l.length : Int) := by omega
      obtain ⟨b, off, e, hb, d0, d1⟩ := (hA.out.below hbl).prs hlt
      subst e
      have hq2 := Lib.hid (show q ++ [l[k]!] = l.take (k + 1) by rw [take_moreG hlt, hq.out])
      generalize l[k]! = s at d0 d1 hq2
      obtain ⟨x, y⟩ := s
      dsimp only at d0 d1
      go_wp2_with (at_builtin; refine wpList_append_own _ rfl _ _ 37 rfl w.heap.size 92 i0 (.agg #[.int .i64 0, .int .i64 0]) 2 16 Try.underlying37 hi hz0 hz1 hz2 rfl (by decide) _ _ _ rfl (World.ownsRow.alloc HO.out _) ⟨wr.heap.size, 0, none⟩ 1 1 [.int .i64 x, .int .i64 y] rfl rfl ?c1 ?c2 ?c3 ?c4 ?c5 ?_)
      case c1 => exact cells_one_new2 _ _ _ _
      case c2 => intro u hu; simp at hu; rcases hu with rfl | rfl <;> rfl
      case c3 => unfold maxLen; omega
      case c4 => omega
      case c5 => simp; omega
      · intro v' w1 hown' hgrow _
        have hb1 := (hbl.alloc hsz (.cells #[.int .i64 x, .int .i64 y] 92)).grown hgrow (by simp; omega) (fun j hj => (World.ownsRow.lt HO.out j hj).1)
        have HO2 := Lib.hid (OwnsR.snoc (enc := encP) (l := q) (x := (x, y)) hqk hown')
        clear hown' hgrow HO
        go_wp2
        go_roundw
        case rel => exact ⟨k + 1, q ++ [(x, y)], by go_num, by omega, by simp [hqk], hq2, HO2, hb1⟩
        case measure => simp [intOf]; omega
    · have hkn : k = l.length := by omega
      subst hkn
      have hqe : q = l := by rw [hq.out, List.take_length]
      subst hqe
      obtain ⟨a6, c6, rfl, hR⟩ := OwnsR.arg encP_len HO.out
      have hkz : ¬ (q.length : Int) < (q.length : Int) := by omega
      replace hR := Lib.hid hR
      clear HO
      go_wp2
      go_ret
      exact ⟨_, _, _, rfl, hR.out, hbl⟩
def prevK (l : List Pr) (k : Nat) : Int := if k = 0 then -1 else (l.getD (k - 1) (0, 0)).1
set_option maxRecDepth 100000 in
set_option maxHeartbeats 2000000 in
theorem rtcheck_any (a : Option Addr) (n c : Nat) (l : List Pr) (w : World) (h : RArg encP 2 w a n c l) :
    Calls Try.prog 15 #[.slice a n c] w (Gives w (.bool (tblB l))) := by
  obtain ⟨hn, hz, _, _, hp⟩ := h
  have hnz : (n : Int) ≤ 9223372036854775807 := by omega
  obtain ⟨r, hr⟩ : ∃ r, tblB l = r := ⟨_, rfl⟩
  rw [hr]
  have H0 := Lib.hid (show tblF (prevK l 0) (l.drop 0) = r ∧ -1 ≤ prevK l 0 from ⟨hr, by unfold prevK; rw [if_pos rfl]; omega⟩)
  clear hr
  replace hn := Lib.hid hn
  replace hp := Lib.hid hp
  go_enter Try.func15, Try.ntmps15
  go_wp2_with fail
  go_loopw [3] (fun i wr => ∃ (k : Nat), i = .int .i64 (k : Int) ∧ k ≤ n ∧ Hid (tblF (prevK l k) (l.drop k) = r ∧ -1 ≤ prevK l k) ∧ Below w.heap.size w wr)
    (fun i _ => n - (intOf i).toNat)
  case atStart => exact ⟨0, rfl, by omega, H0, Below.refl _ _⟩
  case round =>
    obtain ⟨k, rfl, hk, HC, hbl⟩ := hrel
    by_cases hlt : k < n
    · have hkl : k < l.length := by rw [← hn.out]; exact hlt
      have hkz : (k : Int) < (n : Int) := by omega
      obtain ⟨b, off, e, hb, c0, c1⟩ := (hp.out.below hbl).g2 k hkl
      subst e
      obtain ⟨s, hs⟩ : ∃ s, l.getD k (0, 0) = s := ⟨_, rfl⟩
      rw [hs] at c0 c1
      obtain ⟨hnext, hlow⟩ := HC.out
      rw [drop_moreD hkl, hs] at hnext
      have hprev : prevK l (k + 1) = s.1 := by unfold prevK; rw [if_neg (by omega), Nat.add_sub_cancel, hs]
      obtain ⟨x, y⟩ := s
      dsimp only at c0 c1 hprev
      replace hs := Lib.hid hs
      obtain ⟨z, hzp⟩ : ∃ z, prevK l k = z := ⟨_, rfl⟩
      rw [hzp] at hnext hlow
      have hd : tblF z ((x, y) :: l.drop (k + 1)) = (decide (z < x ∧ x < 4096) && decide (-1099511627776 ≤ y ∧ y ≤ 1099511627776) && tblF x (l.drop (k + 1))) := rfl
      rw [hd] at hnext
      clear hd
      by_cases h1 : x < 0
      · have hr := Lib.hid (show r = false by rw [← hnext, decide_eq_false (by omega)]; rfl)
        have d1 : decide (x < 0) = true := decide_eq_true h1
        clear hnext h1 hlow hprev hzp
        go_wp2_with fail
        go_ret
        exact ⟨ret_bool hr.out.symm, hbl⟩
      · have d1 : decide (x < 0) = false := decide_eq_false h1
        by_cases h2 : 4095 < x
        · have hr := Lib.hid (show r = false by rw [← hnext, decide_eq_false (by omega)]; rfl)
          have d2 : decide (4095 < x) = true := decide_eq_true h2
          clear hnext h1 h2 hlow hprev hzp
          go_wp2_with fail
          go_ret
          exact ⟨ret_bool hr.out.symm, hbl⟩
        · have d2 : decide (4095 < x) = false := decide_eq_false h2
          by_cases h3 : y < -1099511627776
          · have hr := Lib.hid (show r = false by rw [← hnext, decide_eq_false (show ¬ (-1099511627776 ≤ y ∧ y ≤ 1099511627776) by omega)]; simp)
            have d3 : decide (y < -1099511627776) = true := decide_eq_true h3
            clear hnext h1 h2 h3 hlow hprev hzp
            go_wp2_with fail
            go_ret
            exact ⟨ret_bool hr.out.symm, hbl⟩
          · have d3 : decide (y < -1099511627776) = false := decide_eq_false h3
            by_cases h4 : 1099511627776 < y
            · have hr := Lib.hid (show r = false by rw [← hnext, decide_eq_false (show ¬ (-1099511627776 ≤ y ∧ y ≤ 1099511627776) by omega)]; simp)
              have d4 : decide (1099511627776 < y) = true := decide_eq_true h4
              clear hnext h1 h2 h3 h4 hlow hprev hzp
              go_wp2_with fail
              go_ret
              exact ⟨ret_bool hr.out.symm, hbl⟩
            · have d4 : decide (1099511627776 < y) = false := decide_eq_false h4
              rcases Nat.eq_zero_or_pos k with hk0 | hk0
              · have hN := Lib.hid (show tblF (prevK l (k + 1)) (l.drop (k + 1)) = r ∧ -1 ≤ prevK l (k + 1) by
                  have hz1 : z = -1 := by rw [← hzp]; unfold prevK; rw [if_pos hk0]
                  rw [hprev]
                  refine ⟨?_, by omega⟩
                  rw [← hnext, decide_eq_true (show z < x ∧ x < 4096 by omega), decide_eq_true (show -1099511627776 ≤ y ∧ y ≤ 1099511627776 by omega)]; rfl)
                have d5 : decide ((0 : Int) < (k : Int)) = false := decide_eq_false (by omega)
                have d7 : decide (0 < k) = false := decide_eq_false (by omega)
                clear hnext h1 h2 h3 h4 hlow hprev hzp hk0
                go_wp2_with fail
                go_quiet (fail)
                go_wp2
                go_roundw
                case rel => exact ⟨k + 1, by go_num, by omega, hN, below_drewN2 hbl _⟩
                case measure => simp [intOf]; omega
              · obtain ⟨m, rfl⟩ : ∃ m, k = m + 1 := ⟨k - 1, by omega⟩
                obtain ⟨b', off', e', _, g0, _⟩ := (hp.out.below hbl).g2 m (by rw [← hn.out]; omega)
                cases e'
                obtain ⟨pk, hpk⟩ : ∃ pk, (l.getD m (0, 0)).1 = pk := ⟨_, rfl⟩
                rw [hpk] at g0
                have hzk : z = pk := by rw [← hzp, ← hpk]; unfold prevK; rw [if_neg (by omega), Nat.add_sub_cancel]
                rw [show off + (m + 1) * 2 = off + m * 2 + 2 from by omega] at c0 c1
                have d5 : decide ((0 : Int) < (m : Int) + 1) = true := decide_eq_true (by omega)
                have hks : (m : Int) + 1 - 1 = m := by omega
                have hkw : IntKind.i64.wrap ((m : Int) + 1 - 1) = m := by rw [hks]; exact IntWalk.i64_in _ (by omega)
                have ht : ((m : Int) + 1).toNat = m + 1 := by omega
                have hoff : off + (m + 1) * 2 = off + m * 2 + 2 := by omega
                have hkz' : (m : Int) + 1 < (n : Int) := by omega
                have hmz : (m : Int) < (n : Int) := by omega
                replace hks := Lib.hid hks
                replace hpk := Lib.hid hpk
                by_cases h5 : x ≤ pk
                · have hr := Lib.hid (show r = false by rw [← hnext, decide_eq_false (by omega)]; rfl)
                  have d6 : decide (x ≤ pk) = true := decide_eq_true h5
                  clear hnext h1 h2 h3 h4 h5 hlow hprev hzp hzk
                  go_wp2_with fail
                  go_quiet (fail)
                  go_wp2
                  go_ret
                  exact ⟨ret_bool hr.out.symm, below_drewN2 hbl _⟩
                · have d6 : decide (x ≤ pk) = false := decide_eq_false h5
                  have hN := Lib.hid (show tblF (prevK l (m + 1 + 1)) (l.drop (m + 1 + 1)) = r ∧ -1 ≤ prevK l (m + 1 + 1) by
                    rw [hprev]
                    refine ⟨?_, by omega⟩
                    rw [← hnext, decide_eq_true (show z < x ∧ x < 4096 by omega), decide_eq_true (show -1099511627776 ≤ y ∧ y ≤ 1099511627776 by omega)]; rfl)
                  clear hnext h1 h2 h3 h4 h5 hlow hprev hzp hzk
                  go_wp2_with fail
                  go_quiet (fail)
                  go_wp2
                  go_roundw
                  case rel => exact ⟨m + 1 + 1, by go_num, by omega, hN, below_drewN2 hbl _⟩
                  case measure => simp [intOf]; omega
    · have hkl : l.drop k = [] := List.drop_eq_nil_of_le (by rw [← hn.out]; omega)
      have hkz : ¬ (k : Int) < (n : Int) := by omega
      have hfin := HC.out.1
      rw [hkl] at hfin
      have hr := Lib.hid (show r = true from hfin.symm)
      replace hkl := Lib.hid hkl
      clear hfin
      go_wp2
      go_ret
      exact ⟨ret_bool hr.out.symm, hbl⟩


theorem refSumB_any (l : List UInt8) (w : World) (h : l.length ≤ 100000) : Calls Try.prog 36 #[.string ⟨l.toArray⟩] w fun e w' => e = .returned (.int .u32 (regI (sumL l))) ∧ w = w' := by
  have hz : ((⟨l.toArray⟩ : ByteArray).size : Int) ≤ 9000000000000000000 := by show ((l.toArray.size : Nat) : Int) ≤ _; simp only [List.size_toArray]; omega
  simpa using refSum_any ⟨l.toArray⟩ w hz
theorem be8_range (v : Int) : be8 v = (List.range 8).map (fun j => byI (v / 256 ^ (7 - j))) := by
  unfold be8 be4
  simp only [List.range_succ, List.range_zero, List.map_cons, List.map_nil, List.nil_append, List.cons_append]
  rw [show v / 4294967296 / 16777216 = v / 256 ^ (7 - 0) by omega, show v / 4294967296 / 65536 = v / 256 ^ (7 - 1) by omega, show v / 4294967296 / 256 = v / 256 ^ (7 - 2) by omega, show v / 4294967296 = v / 256 ^ (7 - 3) by omega, show v / 16777216 = v / 256 ^ (7 - 4) by omega, show v / 65536 = v / 256 ^ (7 - 5) by omega, show v / 256 = v / 256 ^ (7 - 6) by omega]
  rw [show v / 256 ^ (7 - 7) = v by omega]
theorem sh_byte {U v : Int} (h : U = v % 18446744073709551616) {j : Nat} (hj : j < 8) : U / 2 ^ (8 * (7 - j)) % 256 = ((byI (v / 256 ^ (7 - j))).toNat : Int) := by
  rw [byI_int, h]
  have hj2 : j = 0 ∨ j = 1 ∨ j = 2 ∨ j = 3 ∨ j = 4 ∨ j = 5 ∨ j = 6 ∨ j = 7 := by omega
  rcases hj2 with rfl | rfl | rfl | rfl | rfl | rfl | rfl | rfl
  · show v % 18446744073709551616 / 72057594037927936 % 256 = v / 72057594037927936 % 256; omega
  · show v % 18446744073709551616 / 281474976710656 % 256 = v / 281474976710656 % 256; omega
  · show v % 18446744073709551616 / 1099511627776 % 256 = v / 1099511627776 % 256; omega
  · show v % 18446744073709551616 / 4294967296 % 256 = v / 4294967296 % 256; omega
  · show v % 18446744073709551616 / 16777216 % 256 = v / 16777216 % 256; omega
  · show v % 18446744073709551616 / 65536 % 256 = v / 65536 % 256; omega
  · show v % 18446744073709551616 / 256 % 256 = v / 256 % 256; omega
  · show v % 18446744073709551616 / 1 % 256 = v / 1 % 256; omega
theorem be8_take (v : Int) {j : Nat} (hj : j < 8) : (be8 v).take (j + 1) = (be8 v).take j ++ [byI (v / 256 ^ (7 - j))] := by
  rw [be8_range, ← List.map_take, ← List.map_take, List.take_range, List.take_range, Nat.min_eq_left (by omega), Nat.min_eq_left (by omega), List.range_succ, List.map_append]
  rfl
theorem rnumber_any (v : Int) (s : Bool) (w : World) : Calls Try.prog 13 #[.agg #[.int .i64 v, .bool s]] w (Gives w (.int .u32 (regI (numO (if s then some v else none))))) := by
  cases s
  · go_enter Try.func13, Try.ntmps13
    go_wp2_with fail
    go_ret
    exact ⟨rfl, (Below.refl _ _).alloc (Nat.le_refl _) _⟩
  · obtain ⟨i0, hi, hz0, hz1, hz2⟩ := info_parts Try.infoByte
    obtain ⟨W1, hW1⟩ : ∃ W1, w.alloc (.cells #[.int .i64 v, .bool true] 31) = W1 := ⟨_, rfl⟩
    have b1 : Below w.heap.size w W1 := by rw [← hW1]; exact (Below.refl _ _).alloc (Nat.le_refl _) _
    have g1 : w.heap.size < W1.heap.size := by rw [← hW1]; simp
    have r1 : W1.heap[w.heap.size]? = some (.cells #[.int .i64 v, .bool true] 31 (0, 0)) := by rw [← hW1]; exact heap_alloc_new _ _
    obtain ⟨z0, z1⟩ := cells2M r1
    have O1 := Lib.hid (OwnsB.one W1 W1.heap.size (Nat.le_refl _))
    have BA := Lib.hid (show Below W1.heap.size W1 (W1.alloc (.cells #[.int .u8 1] 5)) from (Below.refl _ _).alloc (Nat.le_refl _) _)
    clear r1
    go_enter Try.func13, Try.ntmps13
    go_wp2_with fail
    obtain ⟨U, hU⟩ : ∃ U, IntKind.u64.wrap v = U := ⟨_, rfl⟩
    have hUv : U = v % 18446744073709551616 := by
      rw [← hU]
      simp only [IntKind.wrap, IntKind.bits, IntKind.signed]
      simp
    rw [hU]
    have hU0 : 0 ≤ U := by omega
    have hU1 : U ≤ 18446744073709551615 := by omega
    have HU := Lib.hid hUv
    clear hU hUv
    go_loopw [4, 5] (fun x i wr => ∃ j : Nat, i = .int .i64 (7 - (j : Int)) ∧ j ≤ 8 ∧ Hid (OwnsB wr W1.heap.size x (1 :: (be8 v).take j)) ∧ Hid (Below W1.heap.size W1 wr))
      (fun _ i _ => (intOf i + 1).toNat)
    case atStart => exact ⟨0, rfl, by omega, O1, BA⟩
    case round =>
      obtain ⟨j, rfl, hj, HO, HB⟩ := hrel
      by_cases hj8 : j < 8
      · have HO2 := Lib.hid (show wr.ownsRow W1.heap.size 5 1 _ (j + 1) (cellsB (1 :: (be8 v).take j)) from by
          have := HO.out
          unfold OwnsB at this
          rwa [List.length_cons, List.length_take, be8_len, Nat.min_eq_left (by omega)] at this)
        have hsz := HB.out.size
        have h0 : 0 ≤ 7 - (j : Int) := by omega
        have h7 : 7 - (j : Int) ≤ 7 := by omega
        go_wp2_with (first | (at_builtin; refine wpList_append_own _ rfl _ _ 81 rfl W1.heap.size 5 i0 (.int .u8 0) 1 1 Try.underlying81 hi hz0 hz1 hz2 rfl (by decide) _ _ _ rfl (World.ownsRow.alloc HO2.out _) ⟨wr.heap.size, 0, none⟩ 1 1 [.int .u8 (U / 2 ^ (8 * (7 - j)) % 256)] rfl rfl ?c1 ?c2 ?c3 ?c4 ?c5 ?_) | fail)
        case c1 => exact cell_one_new _ _ _
        case c2 => intro u hu; simp at hu; subst hu; rfl
        case c3 => unfold maxLen; omega
        case c4 => omega
        case c5 => simp; omega
        intro v1 w1 hown1 hg1 _
        have ho := OwnsB.push (l := 1 :: (be8 v).take j) (by rw [List.length_cons, List.length_take, be8_len, Nat.min_eq_left (by omega)]; exact hown1) (sh_byte HU.out hj8)
        have hb1 := Lib.hid (show Below W1.heap.size W1 w1 from (HB.out.alloc hsz _).grown hg1 (by simp; omega) (fun g hg => (World.ownsRow.lt HO2.out g hg).1))
        replace ho := Lib.hid (show OwnsB w1 W1.heap.size v1 (1 :: (be8 v).take (j + 1)) by rw [be8_take v hj8]; exact ho)
        clear hown1 hg1
        go_wp2_with fail
        go_roundw
        case rel => exact ⟨j + 1, by rw [show 7 - ((j + 1 : Nat) : Int) = 7 - (j : Int) - 1 by omega], by omega, ho, hb1⟩
        case measure => simp [intOf]; omega
      · obtain rfl : j = 8 := by omega
        have ho := HO.out
        rw [List.take_of_length_le (by rw [be8_len]; decide)] at ho
        have hc := ho.str
        clear ho
        have SM := Lib.hid (refSumB_any (1 :: be8 v) wr (by rw [List.length_cons, be8_len]; decide))
        go_wp2_with (first | (go_at_call 36; (with_reducible refine SM.out.mono ?_); rintro e w4 ⟨rfl, rfl⟩) | fail)
        go_ret
        exact ⟨rfl, below_next b1 HB.out⟩
theorem RArg.us {w : World} {a : Option Addr} {n c : Nat} {l : List (BitVec 32)} (h : RArg encU 1 w a n c l) {k : Nat} (hk : k < l.length) :
    ∃ b off, a = some ⟨b, off, none⟩ ∧ b < w.heap.size ∧ w.cell? ⟨b, off + k, none⟩ = some (.int .u32 (regI l[k]!)) := by
  obtain ⟨b, off, e, hb, hc⟩ := h.2.2.2.2 k hk
  have := hc 0 _ rfl
  rw [Nat.mul_one, Nat.add_zero] at this
  exact ⟨b, off, e, hb, this⟩
def RowBV (l : List (BitVec 32)) : List (BitVec 32) := l
theorem rover_any (a : Option Addr) (n c : Nat) (l : List (BitVec 32)) (w : World) (h : RArg encU 1 w a n c l) (hl : l.length ≤ 1000) : Calls Try.prog 49 #[.slice a n c] w (Gives w (.int .u32 (regI (overN l)))) := by
  obtain ⟨i0, hi, hz0, hz1, hz2⟩ := info_parts Try.infoByte
  have hn : n = l.length := h.1
  have hz : (n : Int) ≤ 9223372036854775807 := by omega
  have hn5 : n ≤ 1000 := by omega
  have H := Lib.hid h
  have HN := Lib.hid hn
  clear h hn
  go_enter Try.func49, Try.ntmps49
  go_wp2_with fail
  go_loopw [3, 4] (fun v i wr => ∃ k : Nat, i = .int .i64 (k : Int) ∧ k ≤ n ∧ Hid (OwnsB wr w.heap.size v ((l.take k).flatMap fun x => be4 (regI x))) ∧ Hid (Below w.heap.size w wr))
    (fun _ i _ => n - (intOf i).toNat)
  case atStart => exact ⟨0, rfl, by omega, Lib.hid (OwnsB.nil _ _), Lib.hid (Below.refl _ _)⟩
  case round =>
    obtain ⟨k, rfl, hk, HO, HB⟩ := hrel
    have hle : ((l.take k).flatMap fun x => be4 (regI x)).length = 4 * k := by rw [be4s_len, List.length_take, ← HN.out, Nat.min_eq_left hk]
    by_cases hlt : k < n
    · have hkl : k < l.length := by rw [← HN.out]; exact hlt
      have hT := take_kids hkl
      have KC := Lib.hid (fun W (hb : Below w.heap.size w W) => (H.out.below hb).us hkl)
      obtain ⟨x, hx⟩ : ∃ x, l[k]! = x := ⟨_, rfl⟩
      rw [hx] at hT KC
      obtain ⟨q1, q2⟩ := regI_bd x
      obtain ⟨R, hR⟩ : ∃ R, regI x = R := ⟨_, rfl⟩
      rw [hR] at hT KC q1 q2
      obtain ⟨b, off, e, hb, c0⟩ := KC.out _ HB.out
      subst e
      have KD := Lib.hid (fun W (hw : Below w.heap.size w W) => (show W.cell? ⟨b, off + k, none⟩ = some (.int .u32 R) from by
        obtain ⟨b', off', e, _, c⟩ := KC.out W hw
        cases e
        exact c))
      have HT := Lib.hid hT
      obtain ⟨P, hP⟩ : ∃ P, ((l.take k).flatMap fun x => be4 (regI x)) = P := ⟨_, rfl⟩
      rw [hP] at HO HT hle
      have HO2 := Lib.hid (show wr.ownsRow w.heap.size 5 1 _ P.length (cellsB P) from HO.out)
      have hP4 : P.length ≤ 4000 := by omega
      have HPL := Lib.hid hle
      have HBI := Lib.hid (And.intro (byI_int (R / 16777216)) (And.intro (byI_int (R / 65536)) (And.intro (byI_int (R / 256)) (byI_int R))))
      have hsz := HB.out.size
      clear hT hx hR hP hle hkl
      go_wp2_with (first | (at_builtin; refine wpList_append_own _ rfl (.tmp 11) (.tmp 18) 81 rfl w.heap.size 5 i0 (.int .u8 0) 1 1 Try.underlying81 hi hz0 hz1 hz2 rfl (by decide) _ _ _ rfl (World.ownsRow.alloc HO2.out _) ⟨wr.heap.size, 0, none⟩ 1 1 [.int .u8 (R / 16777216)] rfl rfl ?c1 ?c2 ?c3 ?c4 ?c5 ?_) | fail)
      case c1 => exact cell_one_new _ _ _
      case c2 => intro u hu; simp at hu; subst hu; rfl
      case c3 => unfold maxLen; omega
      case c4 => omega
      case c5 => simp; omega
      intro v1 w1 hown1 hg1 _
      have b1 := Lib.hid (show Below w.heap.size w w1 from (HB.out.alloc hsz _).grown hg1 (by simp; omega) (fun g hg => (World.ownsRow.lt HO2.out g hg).1))
      have o1 := Lib.hid (show w1.ownsRow w.heap.size 5 1 v1 (P.length + 1) (cellsB P ++ [.int .u8 (R / 16777216)]) from by simpa using hown1)
      have s1 := b1.out.size
      have k1 := KD.out _ b1.out
      clear hown1 hg1 c0
      go_wp2_with (first | (at_builtin; refine wpList_append_own _ rfl (.tmp 20) (.tmp 27) 81 rfl w.heap.size 5 i0 (.int .u8 0) 1 1 Try.underlying81 hi hz0 hz1 hz2 rfl (by decide) _ _ _ rfl (World.ownsRow.alloc o1.out _) ⟨w1.heap.size, 0, none⟩ 1 1 [.int .u8 (R / 65536 % 256)] rfl rfl ?c1 ?c2 ?c3 ?c4 ?c5 ?_) | fail)
      case c1 => exact cell_one_new _ _ _
      case c2 => intro u hu; simp at hu; subst hu; rfl
      case c3 => unfold maxLen; omega
      case c4 => omega
      case c5 => simp; omega
      intro v2 w2 hown2 hg2 _
      have b2 := Lib.hid (show Below w.heap.size w w2 from (b1.out.alloc s1 _).grown hg2 (by simp; omega) (fun g hg => (World.ownsRow.lt o1.out g hg).1))
      have o2 := Lib.hid (show w2.ownsRow w.heap.size 5 1 v2 (P.length + 2) (cellsB P ++ [.int .u8 (R / 16777216), .int .u8 (R / 65536 % 256)]) from by simpa using hown2)
      have s2 := b2.out.size
      have k2 := KD.out _ b2.out
      clear hown2 hg2 k1
      go_wp2_with (first | (at_builtin; refine wpList_append_own _ rfl (.tmp 29) (.tmp 36) 81 rfl w.heap.size 5 i0 (.int .u8 0) 1 1 Try.underlying81 hi hz0 hz1 hz2 rfl (by decide) _ _ _ rfl (World.ownsRow.alloc o2.out _) ⟨w2.heap.size, 0, none⟩ 1 1 [.int .u8 (R / 256 % 256)] rfl rfl ?c1 ?c2 ?c3 ?c4 ?c5 ?_) | fail)
      case c1 => exact cell_one_new _ _ _
      case c2 => intro u hu; simp at hu; subst hu; rfl
      case c3 => unfold maxLen; omega
      case c4 => omega
      case c5 => simp; omega
      intro v3 w3 hown3 hg3 _
      have b3 := Lib.hid (show Below w.heap.size w w3 from (b2.out.alloc s2 _).grown hg3 (by simp; omega) (fun g hg => (World.ownsRow.lt o2.out g hg).1))
      have o3 := Lib.hid (show w3.ownsRow w.heap.size 5 1 v3 (P.length + 3) (cellsB P ++ [.int .u8 (R / 16777216), .int .u8 (R / 65536 % 256), .int .u8 (R / 256 % 256)]) from by simpa using hown3)
      have s3 := b3.out.size
      have k3 := KD.out _ b3.out
      clear hown3 hg3 k2
      go_wp2_with (first | (at_builtin; refine wpList_append_own _ rfl (.tmp 38) (.tmp 44) 81 rfl w.heap.size 5 i0 (.int .u8 0) 1 1 Try.underlying81 hi hz0 hz1 hz2 rfl (by decide) _ _ _ rfl (World.ownsRow.alloc o3.out _) ⟨w3.heap.size, 0, none⟩ 1 1 [.int .u8 (R % 256)] rfl rfl ?c1 ?c2 ?c3 ?c4 ?c5 ?_) | fail)
      case c1 => exact cell_one_new _ _ _
      case c2 => intro u hu; simp at hu; subst hu; rfl
      case c3 => unfold maxLen; omega
      case c4 => omega
      case c5 => simp; omega
      intro v4 w4 hown4 hg4 _
      have b4 := Lib.hid (show Below w.heap.size w w4 from (b3.out.alloc s3 _).grown hg4 (by simp; omega) (fun g hg => (World.ownsRow.lt o3.out g hg).1))
      have o4 : w4.ownsRow w.heap.size 5 1 v4 (P.length + 4) (cellsB P ++ [.int .u8 (R / 16777216), .int .u8 (R / 65536 % 256), .int .u8 (R / 256 % 256), .int .u8 (R % 256)]) := by simpa using hown4
      have o5 := Lib.hid (OwnsB.push4 q1 q2 o4)
      clear hown4 hg4 o4 k3
      go_wp2_with fail
      go_roundw
      case rel => exact ⟨k + 1, by go_num, by omega, Lib.hid (by rw [HT.out]; exact o5.out), b4⟩
      case measure => simp [intOf]; omega
    · obtain rfl : k = n := by omega
      have ho := HO.out
      rw [List.take_of_length_le (by rw [HN.out]; exact Nat.le_refl _)] at ho
      have hc := ho.str
      clear ho
      have SM := Lib.hid (refSumB_any (l.flatMap fun x => be4 (regI x)) wr (by rw [be4s_len]; omega))
      go_wp2_with (first | (go_at_call 36; (with_reducible refine SM.out.mono ?_); rintro e w4 ⟨rfl, rfl⟩) | fail)
      go_ret
      exact ⟨rfl, HB.out⟩
end Go.Proofs.Ytjjadappjapjhaa
