/-
  DELTA: the document's Text.
-/
import Derived.Test.YtnjlbgnojlmmlaaDeO
import Derived.Deep.RegionHeld3
namespace Go.Proofs.Ytnjlbgnojlmmlaa
open Go.RowKit Go.Deep Go.Shelf Go.ChangeShapes Go.WideShapes

theorem num_one (k : Nat) (h : k < 128) : numS (k : Int) = ⟨#[(UInt8.ofNat k)]⟩ := by
  unfold numS
  rw [if_neg (by omega), Int.toNat_natCast]
  unfold numL
  rw [if_pos (by omega)]
theorem ba_app_size (a b : ByteArray) : (a ++ b).size = a.size + b.size := by rw [ba_size, ba_app, List.length_append, ← ba_size, ← ba_size]
set_option maxRecDepth 100000 in
set_option maxHeartbeats 4000000 in
theorem rtext23_any (a : Option Addr) (n c : Nat) (l : List Tn) (w : World) (hA : RArg encT 5 w a n c l) (hl : l.length ≤ 2000) :
    Calls Try.prog 9 #[.slice a n c] w (Gives w (.string (ofL (textD l)))) := by
  have CT := Lib.hid (fun W (h : Below w.heap.size w W) => rcheckT_any a n c l W (hA.below h))
  cases ht : chkB l with
  | false =>
    rw [show textD l = [] from if_neg (by rw [ht]; simp)]
    have h1 := Lib.hid ht
    clear hA
    go_enter Try.func9, Try.ntmps9
    go_wp2_with (go_at_call 27; (with_reducible refine (CT.out _ (Below.refl _ _)).mono ?_); rw [h1.out]; rintro e w2 ⟨rfl, b2⟩)
    go_ret
    exact ⟨rfl, b2⟩
  | true =>
    obtain rfl := hA.1
    have hnb : (l.length : Int) ≤ 9223372036854775807 := by omega
    obtain ⟨R, hR⟩ : ∃ R, ofL (textD l) = R := ⟨_, rfl⟩
    have H0 := Lib.hid (show numS (l.length : Int) ++ ofL (turnsT (prevT l 0) (l.drop 0)) = R by
      rw [← hR, show textD l = bl (numS (l.length : Int)) ++ turnsT (-1) l from if_pos ht, ofL_app, ofL_bl]; rfl)
    have HC0 := Lib.hid (show chkF (prevT l 0) (l.drop 0) = true from ht)
    have HA := Lib.hid hA
    have h1 := Lib.hid ht
    rw [hR]
    clear hA ht hR
    go_enter Try.func9, Try.ntmps9
    go_wp2_with (first
      | (go_at_call 27; (with_reducible refine (CT.out _ (Below.refl _ _)).mono ?_); rw [h1.out]; rintro e w2 ⟨rfl, b2⟩)
      | (go_at_call 28; (with_reducible refine (refNum_any (l.length : Int) _ hnb).mono ?_); rintro e w3 ⟨rfl, b3⟩; have B3 := below_next b2 b3))
    have hs0 := numS_size (n := (l.length : Int)) hnb
    clear CT b2 b3
    go_loopw [3, 4] (fun v i wr => ∃ (j : Nat) (t : ByteArray), v = .string t ∧ i = .int .i64 (j : Int) ∧ j ≤ l.length ∧ t.size ≤ 9 + 36 * j ∧ Hid (t ++ ofL (turnsT (prevT l j) (l.drop j)) = R) ∧ Hid (chkF (prevT l j) (l.drop j) = true) ∧ Below w.heap.size w wr)
      (fun _ i _ => l.length - (intOf i).toNat)
    case atStart => exact ⟨0, _, rfl, rfl, by omega, by omega, H0, HC0, B3⟩
    case round =>
      obtain ⟨j, t, rfl, rfl, hj, hts, HT, HC, hbl⟩ := hrel
      by_cases hlt : j < l.length
      · have hjz : (j : Int) < (l.length : Int) := by omega
        have hj0 : (0 : Int) ≤ (j : Int) := by omega
        obtain ⟨b, off, e, hb, d0, d1, d2, d3, d4⟩ := (HA.out.below hbl).tns hlt
        subst e
        have hd := drop_moreG hlt
        have hpv : prevT l (j + 1) = (l[j]!).1 := by unfold prevT; rw [if_neg (by omega), Nat.add_sub_cancel]
        have hcc := HC.out
        rw [hd] at hcc
        have htt := HT.out
        rw [hd] at htt
        generalize l[j]! = q at d0 d1 d2 d3 d4 hpv hcc htt
        obtain ⟨k1, k2, k3, k4, k5, k6⟩ := chkF_cons hcc
        obtain ⟨x, ⟨y, s1⟩, ⟨u, s2⟩⟩ := q
        dsimp only at d0 d1 d2 d3 d4 hpv k1 k2 k3 k4 k5 k6
        rw [← hpv] at k6
        have ky := k3
        have ku := k4
        have hy := cellB_bd k3
        have hu := cellB_bd k4
        have HC1 := Lib.hid k6
        obtain ⟨z, hz⟩ : ∃ z, prevT l j = z := ⟨_, rfl⟩
        rw [hz] at htt k1
        rw [show turnsT z ((x, (y, s1), (u, s2)) :: l.drop (j + 1)) = turnT z (x, (y, s1), (u, s2)) ++ turnsT x (l.drop (j + 1)) from rfl, show turnsT x (l.drop (j + 1)) = turnsT (prevT l (j + 1)) (l.drop (j + 1)) by rw [hpv], ofL_app] at htt
        have hz0 : -1 ≤ z := by
          rw [← hz]
          unfold prevT
          split
          · omega
          · have h9 := (chkB_iff l).1 h1.out
            have hm : l[j - 1]! ∈ l := getElem!_mem (by omega)
            have := asc_mem h9.1 hm
            exact Int.le_of_lt this
        obtain ⟨f3, f1, f2, _⟩ := turnT_ba z x y u (ofL (turnsT (prevT l (j + 1)) (l.drop (j + 1))))
        obtain ⟨W1, hW1⟩ : ∃ W1, wr.alloc (.cells #[.int .i64 x, .int .i64 y, .bool s1, .int .i64 u, .bool s2] 57) = W1 := ⟨_, rfl⟩
        have b1 : Below wr.heap.size wr W1 := by rw [← hW1]; exact (Below.refl _ _).alloc (Nat.le_refl _) _
        have HX := Lib.hid (show XB 57 W1 wr.heap.size [.int .i64 x, .int .i64 y, .bool s1, .int .i64 u, .bool s2] by rw [← hW1]; exact heap_alloc_new wr _)
        obtain ⟨B, hB⟩ : ∃ B, wr.heap.size = B := ⟨_, rfl⟩
        rw [hB] at HX
        have q0 := HX.out.at 0 _ rfl
        have hg1 := numS_size (n := x - z - 1) (by omega)
        have hw1 := wholeS_size y
        have hw2 := wholeS_size (u - y)
        have hw3 := wholeS_size u
        have hbl1 := below_next hbl b1
        have hwr : IntKind.i64.wrap (u - y) = u - y := IntWalk.i64_in _ (by omega)
        clear hcc hd HT HC k3 k4
        rcases Nat.eq_zero_or_pos j with hjj | hjj
        · have hzm : z = -1 := by rw [← hz]; unfold prevT; rw [if_pos hjj]
          have hje : ((j : Int) == 0) = true := beq_yes (by omega)
          have hjn : (j == 0) = true := by rw [hjj]; rfl
          replace hjj := Lib.hid hjj
          cases s1 with
          | true =>
            cases s2 with
            | true =>
              have hgx := numS_size (n := x) (by omega)
              have hgk : (⟨#[3]⟩ : ByteArray).size = 1 := rfl
              have HN := Lib.hid (show t ++ numS x ++ ⟨#[3]⟩ ++ wholeS y ++ wholeS (u - y) ++ ofL (turnsT (prevT l (j + 1)) (l.drop (j + 1))) = R by
                rw [← htt, f3, show numS (3 : Int) = ⟨#[3]⟩ from num_one 3 (by omega), show x - z - 1 = x by omega]
                simp only [ba_assoc])
              have HZ := Lib.hid (show (t ++ numS x ++ ⟨#[3]⟩ ++ wholeS y ++ wholeS (u - y)).size ≤ 9 + 36 * (j + 1) by
                simp only [ba_app_size]
                omega)
              clear f1 f2 f3 htt hz
              have hn0 : (¬ 9223372036854775807 < (t).size + (numS x).size) := by omega
              have hn1 : (¬ 9223372036854775807 < (t).size + (numS x).size + 1) := by omega
              have hn2 : (¬ 9223372036854775806 < (t).size + (numS x).size) := by omega
              have hn3 : (¬ 9223372036854775807 < (t).size + (numS x).size + 1 + (wholeS y).size) := by omega
              have hn4 : (¬ 9223372036854775807 < (t).size + (numS x).size + 1 + (wholeS y).size + (wholeS (u - y)).size) := by omega
              have hr0 : (¬ 9223372036854775807 < (t ++ numS x).size + (⟨#[3]⟩ : ByteArray).size) := by simp only [ba_app_size]; omega
              have hr1 : (¬ 9223372036854775807 < (t ++ numS x ++ ⟨#[3]⟩).size + (wholeS y).size) := by simp only [ba_app_size]; omega
              have hr2 : (¬ 9223372036854775807 < (t ++ numS x ++ ⟨#[3]⟩ ++ wholeS y).size + (wholeS (u - y)).size) := by simp only [ba_app_size]; omega
              go_wp2_with (go_at_call 28; (with_reducible refine (refNum_any x _ (by omega)).mono ?_); rintro e w4 ⟨rfl, b4⟩; (have HB := Lib.hid b4); (have X4 := XB.below HX.out HB.out); (have q1 := X4.at 1 _ rfl); (have q2 := X4.at 2 _ rfl); (have q3 := X4.at 3 _ rfl); (have q4 := X4.at 4 _ rfl); (replace X4 := Lib.hid X4); clear b4)
              have KS2 := Lib.hid (fun W' (hb' : Below w4.heap.size w4 W') => (show W'.cell? ⟨B, 1, none⟩ = some (.int .i64 y) ∧ W'.cell? ⟨B, 3, none⟩ = some (.int .i64 u) from ⟨(XB.below X4.out hb').at 1 _ rfl, (XB.below X4.out hb').at 3 _ rfl⟩))
              have HD := Lib.hid (Below.refl w4.heap.size w4)
              go_wp2_with fail
              (first | go_region_held3 (fun W => W.cell? ⟨B, 1, none⟩ = some (.int .i64 y) ∧ W.cell? ⟨B, 3, none⟩ = some (.int .i64 u)) (exact KS2.out _ (by repeat (first | with_reducible exact HD.out | with_reducible refine toDr ?_))) ((first
                | (go_at_call 29; (with_reducible refine (refWhole_any y _).mono ?_); rintro e w5 ⟨rfl, b5⟩; replace HD := Lib.hid (below_next (w := w4) (by repeat (first | with_reducible exact HD.out | with_reducible refine toDr ?_)) b5); clear b5)
                | (go_at_call 29; (with_reducible refine (refWhole_any (u - y) _).mono ?_); rintro e w5 ⟨rfl, b5⟩; replace HD := Lib.hid (below_next (w := w4) (by repeat (first | with_reducible exact HD.out | with_reducible refine toDr ?_)) b5); clear b5))) | fail)
              all_goals
                go_wp2_with fail
                go_roundw
                case rel => exact ⟨j + 1, t ++ numS x ++ ⟨#[3]⟩ ++ wholeS y ++ wholeS (u - y), rfl, by go_num, by omega, HZ.out, HN, HC1, below_next hbl1 (below_next HB.out HD.out)⟩
                case measure => simp [intOf]; omega
            | false =>
              have hgx := numS_size (n := x) (by omega)
              have hgk : (⟨#[1]⟩ : ByteArray).size = 1 := rfl
              have HN := Lib.hid (show t ++ numS x ++ ⟨#[1]⟩ ++ wholeS y ++ ofL (turnsT (prevT l (j + 1)) (l.drop (j + 1))) = R by
                rw [← htt, f1, show numS (1 : Int) = ⟨#[1]⟩ from num_one 1 (by omega), show x - z - 1 = x by omega]
                simp only [ba_assoc])
              have HZ := Lib.hid (show (t ++ numS x ++ ⟨#[1]⟩ ++ wholeS y).size ≤ 9 + 36 * (j + 1) by
                simp only [ba_app_size]
                omega)
              clear f1 f2 f3 htt hz
              have hn0 : (¬ 9223372036854775807 < (t).size + (numS x).size) := by omega
              have hn1 : (¬ 9223372036854775807 < (t).size + (numS x).size + 1) := by omega
              have hn2 : (¬ 9223372036854775806 < (t).size + (numS x).size) := by omega
              have hn3 : (¬ 9223372036854775807 < (t).size + (numS x).size + 1 + (wholeS y).size) := by omega
              have hr0 : (¬ 9223372036854775807 < (t ++ numS x).size + (⟨#[1]⟩ : ByteArray).size) := by simp only [ba_app_size]; omega
              have hr1 : (¬ 9223372036854775807 < (t ++ numS x ++ ⟨#[1]⟩).size + (wholeS y).size) := by simp only [ba_app_size]; omega
              replace hW1 := Lib.hid hW1
              go_wp2_with fail
              rw [hW1.out]
              go_wp2_with (go_at_call 28; (with_reducible refine (refNum_any x _ (by omega)).mono ?_); rintro e w4 ⟨rfl, b4⟩; (have HB := Lib.hid b4); (have X4 := XB.below HX.out HB.out); (have q1 := X4.at 1 _ rfl); (have q2 := X4.at 2 _ rfl); (have q3 := X4.at 3 _ rfl); (have q4 := X4.at 4 _ rfl); (replace X4 := Lib.hid X4); clear b4)
              go_wp2_with (go_at_call 29; (with_reducible refine (refWhole_any y _).mono ?_); rintro e w5 ⟨rfl, b5⟩)
              go_roundw
              case rel => exact ⟨j + 1, t ++ numS x ++ ⟨#[1]⟩ ++ wholeS y, rfl, by go_num, by omega, HZ.out, HN, HC1, below_next hbl1 (below_next HB.out b5)⟩
              case measure => simp [intOf]; omega
          | false =>
            cases s2 with
            | true =>
              have hy0 := Lib.hid (show y = 0 by unfold cellB at ky; simpa using ky)
              rw [show u - y = u by have := hy0.out; omega] at f2
              have hgx := numS_size (n := x) (by omega)
              have hgk : (⟨#[2]⟩ : ByteArray).size = 1 := rfl
              have HN := Lib.hid (show t ++ numS x ++ ⟨#[2]⟩ ++ wholeS u ++ ofL (turnsT (prevT l (j + 1)) (l.drop (j + 1))) = R by
                rw [← htt, f2, show numS (2 : Int) = ⟨#[2]⟩ from num_one 2 (by omega), show x - z - 1 = x by omega]
                simp only [ba_assoc])
              have HZ := Lib.hid (show (t ++ numS x ++ ⟨#[2]⟩ ++ wholeS u).size ≤ 9 + 36 * (j + 1) by
                simp only [ba_app_size]
                omega)
              clear f1 f2 f3 htt hz
              have hn0 : (¬ 9223372036854775807 < (t).size + (numS x).size) := by omega
              have hn1 : (¬ 9223372036854775807 < (t).size + (numS x).size + 1) := by omega
              have hn2 : (¬ 9223372036854775806 < (t).size + (numS x).size) := by omega
              have hn3 : (¬ 9223372036854775807 < (t).size + (numS x).size + 1 + (wholeS u).size) := by omega
              have hr0 : (¬ 9223372036854775807 < (t ++ numS x).size + (⟨#[2]⟩ : ByteArray).size) := by simp only [ba_app_size]; omega
              have hr1 : (¬ 9223372036854775807 < (t ++ numS x ++ ⟨#[2]⟩).size + (wholeS u).size) := by simp only [ba_app_size]; omega
              go_wp2_with (go_at_call 28; (with_reducible refine (refNum_any x _ (by omega)).mono ?_); rintro e w4 ⟨rfl, b4⟩; (have HB := Lib.hid b4); (have X4 := XB.below HX.out HB.out); (have q1 := X4.at 1 _ rfl); (have q2 := X4.at 2 _ rfl); (have q3 := X4.at 3 _ rfl); (have q4 := X4.at 4 _ rfl); (replace X4 := Lib.hid X4); clear b4)
              go_wp2_with (go_at_call 29; (with_reducible refine (refWhole_any u _).mono ?_); rintro e w5 ⟨rfl, b5⟩)
              go_roundw
              case rel => exact ⟨j + 1, t ++ numS x ++ ⟨#[2]⟩ ++ wholeS u, rfl, by go_num, by omega, HZ.out, HN, HC1, below_next hbl1 (below_next HB.out b5)⟩
              case measure => simp [intOf]; omega
            | false =>
              exfalso
              unfold cellB at ky ku
              simp at ky ku
              exact k5 (by rw [ky, ku])
        · obtain ⟨m, rfl⟩ : ∃ m, j = m + 1 := ⟨j - 1, by omega⟩
          obtain ⟨b', off', e', hbm0, g0, _⟩ := (HA.out.below hbl1).tns (show m < l.length by omega)
          cases e'
          have hbm : b < W1.heap.size := hbm0
          obtain ⟨pk, hpk⟩ : ∃ pk, (l[m]!).1 = pk := ⟨_, rfl⟩
          rw [hpk] at g0
          have hzk : z = pk := by rw [← hz, ← hpk]; unfold prevT; rw [if_neg (by omega), Nat.add_sub_cancel]
          have hks : (m : Int) + 1 - 1 = m := by omega
          have hkw : IntKind.i64.wrap ((m : Int) + 1 - 1) = m := by rw [hks]; exact IntWalk.i64_in _ (by omega)
          have hkw2 : IntKind.i64.wrap (m : Int) = m := IntWalk.i64_in _ (by omega)
          have hkg1 : IntKind.i64.wrap (x - pk) = x - pk := IntWalk.i64_in _ (by omega)
          have hkg : IntKind.i64.wrap (x - pk - 1) = x - pk - 1 := IntWalk.i64_in _ (by omega)
          have hmz : (m : Int) < (l.length : Int) := by omega
          have hm0 : (0 : Int) ≤ (m : Int) := by omega
          have hje : (((m : Int) + 1) == 0) = false := beq_no (by omega)
          have hjn : ((m + 1) == 0) = false := rfl
          replace hks := Lib.hid hks
          replace hpk := Lib.hid hpk
          cases s1 with
          | true =>
            cases s2 with
            | true =>
              have hgx := numS_size (n := (x - pk - 1)) (by omega)
              have hgk : (⟨#[3]⟩ : ByteArray).size = 1 := rfl
              have HN := Lib.hid (show t ++ numS (x - pk - 1) ++ ⟨#[3]⟩ ++ wholeS y ++ wholeS (u - y) ++ ofL (turnsT (prevT l (m + 1 + 1)) (l.drop (m + 1 + 1))) = R by
                rw [← htt, f3, show numS (3 : Int) = ⟨#[3]⟩ from num_one 3 (by omega), show x - z - 1 = x - pk - 1 by omega]
                simp only [ba_assoc])
              have HZ := Lib.hid (show (t ++ numS (x - pk - 1) ++ ⟨#[3]⟩ ++ wholeS y ++ wholeS (u - y)).size ≤ 9 + 36 * (m + 1 + 1) by
                simp only [ba_app_size]
                omega)
              clear f1 f2 f3 htt hz
              have hn0 : (¬ 9223372036854775807 < (t).size + (numS (x - pk - 1)).size) := by omega
              have hn1 : (¬ 9223372036854775807 < (t).size + (numS (x - pk - 1)).size + 1) := by omega
              have hn2 : (¬ 9223372036854775806 < (t).size + (numS (x - pk - 1)).size) := by omega
              have hn3 : (¬ 9223372036854775807 < (t).size + (numS (x - pk - 1)).size + 1 + (wholeS y).size) := by omega
              have hn4 : (¬ 9223372036854775807 < (t).size + (numS (x - pk - 1)).size + 1 + (wholeS y).size + (wholeS (u - y)).size) := by omega
              have hr0 : (¬ 9223372036854775807 < (t ++ numS (x - pk - 1)).size + (⟨#[3]⟩ : ByteArray).size) := by simp only [ba_app_size]; omega
              have hr1 : (¬ 9223372036854775807 < (t ++ numS (x - pk - 1) ++ ⟨#[3]⟩).size + (wholeS y).size) := by simp only [ba_app_size]; omega
              have hr2 : (¬ 9223372036854775807 < (t ++ numS (x - pk - 1) ++ ⟨#[3]⟩ ++ wholeS y).size + (wholeS (u - y)).size) := by simp only [ba_app_size]; omega
              have KS := Lib.hid (fun W' (hb' : Below W1.heap.size W1 W') => (show W'.cell? ⟨B, 0, none⟩ = some (.int .i64 x) ∧ W'.cell? ⟨b, off + m * 5, none⟩ = some (.int .i64 pk) from ⟨(XB.below HX.out hb').at 0 _ rfl, (hb'.cell (p := ⟨b, off + m * 5, none⟩) hbm).trans g0⟩))
              have HB := Lib.hid (Below.refl W1.heap.size W1)
              go_wp2_with fail
              (first | go_region_held3 (fun W => W.cell? ⟨B, 0, none⟩ = some (.int .i64 x) ∧ W.cell? ⟨b, off + m * 5, none⟩ = some (.int .i64 pk)) (exact KS.out _ (by repeat (first | with_reducible exact HB.out | with_reducible refine toDr ?_))) ((go_at_call 28; (with_reducible refine (refNum_any (x - pk - 1) _ (by omega)).mono ?_); rintro e w4 ⟨rfl, b4⟩; (have HB' := Lib.hid ((show Below W1.heap.size W1 W1.drew from toDr HB.out).trans (b4.mono (Nat.le_refl _)))); clear HB; (have HB := HB'); clear HB'; (have X4 := XB.below HX.out HB.out); (have q1 := X4.at 1 _ rfl); (have q2 := X4.at 2 _ rfl); (have q3 := X4.at 3 _ rfl); (have q4 := X4.at 4 _ rfl); (replace X4 := Lib.hid X4); clear b4)))
              all_goals
                have KS2 := Lib.hid (fun W' (hb' : Below w4.heap.size w4 W') => (show W'.cell? ⟨B, 1, none⟩ = some (.int .i64 y) ∧ W'.cell? ⟨B, 3, none⟩ = some (.int .i64 u) from ⟨(XB.below X4.out hb').at 1 _ rfl, (XB.below X4.out hb').at 3 _ rfl⟩))
                have HD := Lib.hid (Below.refl w4.heap.size w4)
                go_wp2_with fail
                (first | go_region_held3 (fun W => W.cell? ⟨B, 1, none⟩ = some (.int .i64 y) ∧ W.cell? ⟨B, 3, none⟩ = some (.int .i64 u)) (exact KS2.out _ (by repeat (first | with_reducible exact HD.out | with_reducible refine toDr ?_))) ((first
                  | (go_at_call 29; (with_reducible refine (refWhole_any y _).mono ?_); rintro e w5 ⟨rfl, b5⟩; replace HD := Lib.hid (below_next (w := w4) (by repeat (first | with_reducible exact HD.out | with_reducible refine toDr ?_)) b5); clear b5)
                  | (go_at_call 29; (with_reducible refine (refWhole_any (u - y) _).mono ?_); rintro e w5 ⟨rfl, b5⟩; replace HD := Lib.hid (below_next (w := w4) (by repeat (first | with_reducible exact HD.out | with_reducible refine toDr ?_)) b5); clear b5))) | fail)
                all_goals
                  go_wp2_with fail
                  go_roundw
                  case rel => exact ⟨m + 1 + 1, t ++ numS (x - pk - 1) ++ ⟨#[3]⟩ ++ wholeS y ++ wholeS (u - y), rfl, by go_num, by omega, HZ.out, HN, HC1, below_next hbl1 (below_next HB.out HD.out)⟩
                  case measure => simp [intOf]; omega
            | false =>
              have hgx := numS_size (n := (x - pk - 1)) (by omega)
              have hgk : (⟨#[1]⟩ : ByteArray).size = 1 := rfl
              have HN := Lib.hid (show t ++ numS (x - pk - 1) ++ ⟨#[1]⟩ ++ wholeS y ++ ofL (turnsT (prevT l (m + 1 + 1)) (l.drop (m + 1 + 1))) = R by
                rw [← htt, f1, show numS (1 : Int) = ⟨#[1]⟩ from num_one 1 (by omega), show x - z - 1 = x - pk - 1 by omega]
                simp only [ba_assoc])
              have HZ := Lib.hid (show (t ++ numS (x - pk - 1) ++ ⟨#[1]⟩ ++ wholeS y).size ≤ 9 + 36 * (m + 1 + 1) by
                simp only [ba_app_size]
                omega)
              clear f1 f2 f3 htt hz
              have hn0 : (¬ 9223372036854775807 < (t).size + (numS (x - pk - 1)).size) := by omega
              have hn1 : (¬ 9223372036854775807 < (t).size + (numS (x - pk - 1)).size + 1) := by omega
              have hn2 : (¬ 9223372036854775806 < (t).size + (numS (x - pk - 1)).size) := by omega
              have hn3 : (¬ 9223372036854775807 < (t).size + (numS (x - pk - 1)).size + 1 + (wholeS y).size) := by omega
              have hr0 : (¬ 9223372036854775807 < (t ++ numS (x - pk - 1)).size + (⟨#[1]⟩ : ByteArray).size) := by simp only [ba_app_size]; omega
              have hr1 : (¬ 9223372036854775807 < (t ++ numS (x - pk - 1) ++ ⟨#[1]⟩).size + (wholeS y).size) := by simp only [ba_app_size]; omega
              replace hW1 := Lib.hid hW1
              go_wp2_with fail
              rw [hW1.out]
              have KS := Lib.hid (fun W' (hb' : Below W1.heap.size W1 W') => (show W'.cell? ⟨B, 0, none⟩ = some (.int .i64 x) ∧ W'.cell? ⟨b, off + m * 5, none⟩ = some (.int .i64 pk) from ⟨(XB.below HX.out hb').at 0 _ rfl, (hb'.cell (p := ⟨b, off + m * 5, none⟩) hbm).trans g0⟩))
              have HB := Lib.hid (Below.refl W1.heap.size W1)
              go_wp2_with fail
              (first | go_region_held3 (fun W => W.cell? ⟨B, 0, none⟩ = some (.int .i64 x) ∧ W.cell? ⟨b, off + m * 5, none⟩ = some (.int .i64 pk)) (exact KS.out _ (by repeat (first | with_reducible exact HB.out | with_reducible refine toDr ?_))) ((go_at_call 28; (with_reducible refine (refNum_any (x - pk - 1) _ (by omega)).mono ?_); rintro e w4 ⟨rfl, b4⟩; (have HB' := Lib.hid ((show Below W1.heap.size W1 W1.drew from toDr HB.out).trans (b4.mono (Nat.le_refl _)))); clear HB; (have HB := HB'); clear HB'; (have X4 := XB.below HX.out HB.out); (have q1 := X4.at 1 _ rfl); (have q2 := X4.at 2 _ rfl); (have q3 := X4.at 3 _ rfl); (have q4 := X4.at 4 _ rfl); (replace X4 := Lib.hid X4); clear b4)))
              all_goals
                go_wp2_with (go_at_call 29; (with_reducible refine (refWhole_any y _).mono ?_); rintro e w5 ⟨rfl, b5⟩)
                go_roundw
                case rel => exact ⟨m + 1 + 1, t ++ numS (x - pk - 1) ++ ⟨#[1]⟩ ++ wholeS y, rfl, by go_num, by omega, HZ.out, HN, HC1, below_next hbl1 (below_next HB.out b5)⟩
                case measure => simp [intOf]; omega
          | false =>
            cases s2 with
            | true =>
              have hy0 := Lib.hid (show y = 0 by unfold cellB at ky; simpa using ky)
              rw [show u - y = u by have := hy0.out; omega] at f2
              have hgx := numS_size (n := (x - pk - 1)) (by omega)
              have hgk : (⟨#[2]⟩ : ByteArray).size = 1 := rfl
              have HN := Lib.hid (show t ++ numS (x - pk - 1) ++ ⟨#[2]⟩ ++ wholeS u ++ ofL (turnsT (prevT l (m + 1 + 1)) (l.drop (m + 1 + 1))) = R by
                rw [← htt, f2, show numS (2 : Int) = ⟨#[2]⟩ from num_one 2 (by omega), show x - z - 1 = x - pk - 1 by omega]
                simp only [ba_assoc])
              have HZ := Lib.hid (show (t ++ numS (x - pk - 1) ++ ⟨#[2]⟩ ++ wholeS u).size ≤ 9 + 36 * (m + 1 + 1) by
                simp only [ba_app_size]
                omega)
              clear f1 f2 f3 htt hz
              have hn0 : (¬ 9223372036854775807 < (t).size + (numS (x - pk - 1)).size) := by omega
              have hn1 : (¬ 9223372036854775807 < (t).size + (numS (x - pk - 1)).size + 1) := by omega
              have hn2 : (¬ 9223372036854775806 < (t).size + (numS (x - pk - 1)).size) := by omega
              have hn3 : (¬ 9223372036854775807 < (t).size + (numS (x - pk - 1)).size + 1 + (wholeS u).size) := by omega
              have hr0 : (¬ 9223372036854775807 < (t ++ numS (x - pk - 1)).size + (⟨#[2]⟩ : ByteArray).size) := by simp only [ba_app_size]; omega
              have hr1 : (¬ 9223372036854775807 < (t ++ numS (x - pk - 1) ++ ⟨#[2]⟩).size + (wholeS u).size) := by simp only [ba_app_size]; omega
              have KS := Lib.hid (fun W' (hb' : Below W1.heap.size W1 W') => (show W'.cell? ⟨B, 0, none⟩ = some (.int .i64 x) ∧ W'.cell? ⟨b, off + m * 5, none⟩ = some (.int .i64 pk) from ⟨(XB.below HX.out hb').at 0 _ rfl, (hb'.cell (p := ⟨b, off + m * 5, none⟩) hbm).trans g0⟩))
              have HB := Lib.hid (Below.refl W1.heap.size W1)
              go_wp2_with fail
              (first | go_region_held3 (fun W => W.cell? ⟨B, 0, none⟩ = some (.int .i64 x) ∧ W.cell? ⟨b, off + m * 5, none⟩ = some (.int .i64 pk)) (exact KS.out _ (by repeat (first | with_reducible exact HB.out | with_reducible refine toDr ?_))) ((go_at_call 28; (with_reducible refine (refNum_any (x - pk - 1) _ (by omega)).mono ?_); rintro e w4 ⟨rfl, b4⟩; (have HB' := Lib.hid ((show Below W1.heap.size W1 W1.drew from toDr HB.out).trans (b4.mono (Nat.le_refl _)))); clear HB; (have HB := HB'); clear HB'; (have X4 := XB.below HX.out HB.out); (have q1 := X4.at 1 _ rfl); (have q2 := X4.at 2 _ rfl); (have q3 := X4.at 3 _ rfl); (have q4 := X4.at 4 _ rfl); (replace X4 := Lib.hid X4); clear b4)))
              all_goals
                go_wp2_with (go_at_call 29; (with_reducible refine (refWhole_any u _).mono ?_); rintro e w5 ⟨rfl, b5⟩)
                go_roundw
                case rel => exact ⟨m + 1 + 1, t ++ numS (x - pk - 1) ++ ⟨#[2]⟩ ++ wholeS u, rfl, by go_num, by omega, HZ.out, HN, HC1, below_next hbl1 (below_next HB.out b5)⟩
                case measure => simp [intOf]; omega
            | false =>
              exfalso
              unfold cellB at ky ku
              simp at ky ku
              exact k5 (by rw [ky, ku])
      · have hjl : l.drop j = [] := List.drop_eq_nil_of_le (by omega)
        have hfin := Lib.hid (show t = R by
          have := HT.out
          rw [hjl] at this
          rw [← this]
          exact (ba_ext (by rw [ba_app]; simp [ofL, turnsT])))
        have hjz : ¬ (j : Int) < (l.length : Int) := by omega
        clear hjl
        go_wp2
        go_ret
        exact ⟨by rw [hfin.out]; rfl, hbl⟩
end Go.Proofs.Ytnjlbgnojlmmlaa
