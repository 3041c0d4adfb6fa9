/-
  CONTRACTS of the document: Above, Levels, levels.
-/
import Derived.Test.YtjjadappjapjhaaMkU
namespace Go.Proofs.Ytjjadappjapjhaa
open Go.RowKit Go.Deep

def blankB (f : Nat → BitVec 32) (q j : Nat) : Bool := (List.range j).all fun t => f (q + t) == 0#32
theorem blankB_succ (f : Nat → BitVec 32) (q j : Nat) : blankB f q (j + 1) = (blankB f q j && (f (q + j) == 0#32)) := by
  unfold blankB
  rw [List.range_succ, List.all_append]
  simp
theorem blank_kids {f : Nat → BitVec 32} {m : Nat} (h : blankB f (m * 16) 16 = true) : kidsF f m = List.replicate 16 0#32 := by
  unfold blankB at h
  rw [List.all_eq_true] at h
  unfold kidsF
  apply List.ext_getElem?
  intro j
  by_cases hj : j < 16
  · have := h j (List.mem_range.2 hj)
    rw [List.getElem?_replicate, if_pos hj, List.getElem?_map, List.getElem?_range hj]
    simpa using this
  · rw [List.getElem?_eq_none (by simp; omega), List.getElem?_eq_none (by rw [List.length_replicate]; omega)]
theorem regI_zero (x : BitVec 32) : (regI x == 0) = (x == 0#32) := regI_eq x 0#32
theorem slU_16 (b off n c q : Nat) (hq : q + 16 ≤ c) (w : World) : (Instr.slice 43 (.slice (some ⟨b, off, none⟩) n c) (some (.int .i64 (q : Int))) (some (.int .i64 ((q : Int) + 16))) none).run Try.prog w = .ok (.slice (some ⟨b, off + q, none⟩) 16 (c - q)) w := by
  rw [run_slice_lh w 43 (some ⟨b, off, none⟩) n c Try.undU .i64 .i64 _ _ (by omega) (by omega) (by omega), sizeElemU]
  simp only [sliced, Result.andThen_ok]
  rw [show ((q : Int) + 16).toNat = q + 16 by omega, Int.toNat_natCast, if_neg (by omega)]
  simp [addr_add]
theorem sub_row {w : World} {b off n c : Nat} {f : Nat → BitVec 32} {z : Nat} (h : RArg encU 1 w (some ⟨b, off, none⟩) n c (rowL f (z * 16))) {m : Nat} (hm : m < z) : RArg encU 1 w (some ⟨b, off + m * 16, none⟩) 16 (c - m * 16) (kidsF f m) := by
  have hn : n = z * 16 := by have := h.1; rwa [rowL_len] at this
  have hc := h.2.2.1
  refine ⟨by rw [kidsF_len], by rw [kidsF_len]; decide, by rw [kidsF_len]; rw [rowL_len] at hc; omega, Nat.le_trans (Nat.sub_le _ _) h.2.2.2.1, fun j hj => ?_⟩
  rw [kidsF_len] at hj
  obtain ⟨b', off', e, hb, hcc⟩ := h.2.2.2.2 (m * 16 + j) (by rw [rowL_len]; omega)
  cases e
  refine ⟨b, off + m * 16, rfl, hb, fun i v hi => ?_⟩
  have := hcc i v (by
    rw [getElem!_pos _ _ (by rw [rowL_len]; omega)]
    rw [getElem!_pos _ _ (by rw [kidsF_len]; exact hj)] at hi
    have e1 := rowL_get f (z * 16) (m * 16 + j) (by omega)
    have e2 := kidsF_get f m j hj
    rw [List.getElem?_eq_getElem (by rw [rowL_len]; omega)] at e1
    rw [List.getElem?_eq_getElem (by rw [kidsF_len]; exact hj)] at e2
    injection e1 with e1
    injection e2 with e2
    rw [e1]
    rwa [e2] at hi)
  rwa [show off + (m * 16 + j) * 1 + i = off + m * 16 + j * 1 + i by omega] at this
theorem rowL_succ (f : Nat → BitVec 32) (n : Nat) : rowL f (n + 1) = rowL f n ++ [f n] := by unfold rowL; rw [List.range_succ, List.map_append]; rfl
theorem OwnsR.belowU {w w' : World} {base n : Nat} {v : Value} {xs : List Value} {t : TypeId} (h : w.ownsRow base t 1 v n xs) (hb : Below w.heap.size w w') : w'.ownsRow base t 1 v n xs := by
  cases hv : v.ownBlock with
  | none => exact h.kept (below_grown (row := some w.heap.size) hb) (.inl hv)
  | some g => exact h.kept (below_grown (row := none) hb) (.inr (by rw [hv]; simp))
set_option maxRecDepth 100000 in
set_option maxHeartbeats 4000000 in
theorem above_any (a : Option Addr) (n c : Nat) (f : Nat → BitVec 32) (z : Nat) (w : World) (h : RArg encU 1 w a n c (rowL f (z * 16))) (hz256 : z ≤ 256) :
    Calls Try.prog 32 #[.slice a n c] w (RowP (rowL (upN f) z) w) := by
  obtain ⟨i0, hi, hz0, hz1, hz2⟩ := info_parts Try.infoU
  have hn : n = z * 16 := by have := h.1; rwa [rowL_len] at this
  have hz : (n : Int) ≤ 9223372036854775807 := by omega
  have H := Lib.hid h
  have HN := Lib.hid hn
  have hn4 : n ≤ 4096 := by omega
  clear h hn
  go_enter Try.func32, Try.ntmps32
  go_wp2_with fail
  go_loopw [3, 4] (fun v i wr => ∃ k : Nat, i = .int .i64 (k : Int) ∧ k ≤ 16 ∧ Hid (OwnsR encU 1 28 wr w.heap.size v (List.replicate k 0#32)) ∧ Hid (Below w.heap.size w wr))
    (fun _ i _ => 16 - (intOf i).toNat)
  case atStart => exact ⟨0, rfl, by omega, Lib.hid (OwnsR.nil _ _ _ _ _), Lib.hid (Below.refl _ _)⟩
  case round =>
    obtain ⟨k, rfl, hk, HO, HB⟩ := hrel
    by_cases hlt : k < 16
    · have HO2 := Lib.hid (show wr.ownsRow w.heap.size 28 1 _ k (flatR encU (List.replicate k 0#32)) from by have := HO.out; unfold OwnsR at this; rwa [List.length_replicate] at this)
      have hsz := HB.out.size
      go_wp2_with (first | (at_builtin; refine wpList_append_own _ rfl _ _ 43 rfl w.heap.size 28 i0 (.int .u32 0) 1 4 Try.underlying43 hi hz0 hz1 hz2 rfl (by decide) _ _ _ rfl (World.ownsRow.alloc HO2.out _) ⟨wr.heap.size, 0, none⟩ 1 1 [.int .u32 0] rfl rfl ?c1 ?c2 ?c3 ?c4 ?c5 ?_) | fail)
      case c1 => exact cell_one_new _ _ _
      case c2 => intro u hu; simp at hu; subst hu; rfl
      case c3 => unfold maxLen; omega
      case c4 => omega
      case c5 => simp; omega
      intro v1 w1 hown1 hg1 _
      have ho := Lib.hid (OwnsR.snoc (enc := encU) (l := List.replicate k 0#32) (x := 0#32) (List.length_replicate) hown1)
      have hb1 := Lib.hid (show Below w.heap.size w w1 from (HB.out.alloc hsz _).grown hg1 (by simp; omega) (fun g hg => (World.ownsRow.lt HO2.out g hg).1))
      clear hown1 hg1 HO2
      go_wp2_with fail
      go_roundw
      case rel => exact ⟨k + 1, by go_num, by omega, Lib.hid (by rw [List.replicate_succ']; exact ho.out), hb1⟩
      case measure => simp [intOf]; omega
    · obtain rfl : k = 16 := by omega
      have hr := HO.out.argN encU_len
      obtain ⟨a1, n1, c1, rfl, hr1⟩ := hr
      have OV := Lib.hid (rover_any a1 n1 c1 (List.replicate 16 0#32) wr hr1 (by rw [List.length_replicate]; decide))
      obtain ⟨Z, hZ⟩ : ∃ Z, overN (List.replicate 16 0#32) = Z := ⟨_, rfl⟩
      rw [hZ] at OV
      have HZ := Lib.hid hZ
      clear hZ hr1 HO
      go_wp2_with (first | (go_at_call 49; (with_reducible refine OV.out.mono ?_); rintro e w2 ⟨rfl, hb2⟩) | fail)
      have HB2 := Lib.hid (HB.out.trans (hb2.mono HB.out.size))
      clear hb2
      go_loopw [6, 7] (fun v i wq => ∃ (m q : Nat), i = .int .i64 (q : Int) ∧ q = m * 16 ∧ m ≤ z ∧ Hid (OwnsR encU 1 28 wq w.heap.size v (rowL (upN f) m)) ∧ Hid (Below w.heap.size w wq))
        (fun _ i _ => n - (intOf i).toNat)
      case atStart => exact ⟨0, 0, rfl, rfl, by omega, Lib.hid (OwnsR.nil _ _ _ _ _), HB2⟩
      case round =>
        obtain ⟨m, q, rfl, hq, hm, HP, HC⟩ := hrel
        have hnz := HN.out
        have hq4 : q ≤ 4096 := by omega
        by_cases hmz : m < z
        · have hle : (q : Int) + 16 ≤ (n : Int) := by omega
          have hqn : q + 16 ≤ n := by omega
          obtain ⟨b, off, e, _⟩ := H.out.us (k := q) (by rw [rowL_len]; omega)
          subst e
          have hc16 : n ≤ c := by have := H.out.2.2.1; rw [rowL_len] at this; omega
          have HQ := Lib.hid hq
          have HMZ := Lib.hid hmz
          have KC := Lib.hid (fun W (hb : Below w.heap.size w W) j (hj : j < 16) => (show W.cell? ⟨b, off + (q + j), none⟩ = some (.int .u32 (regI (f (q + j)))) from by
            obtain ⟨b', off', e', _, hc⟩ := (H.out.below hb).us (k := q + j) (by rw [rowL_len]; omega)
            cases e'
            rw [hc, getElem!_pos _ _ (by rw [rowL_len]; omega)]
            have e1 := rowL_get f (z * 16) (q + j) (by omega)
            rw [List.getElem?_eq_getElem (by rw [rowL_len]; omega)] at e1
            injection e1 with e1
            rw [e1]))
          clear hq hnz
          go_wp2_with fail
          go_loop [8, 9] (fun x i => ∃ (p j : Nat), i = .int .i64 (p : Int) ∧ p = q + j ∧ j ≤ 16 ∧ x = .bool (blankB f q j))
            (fun _ i => q + 16 - (intOf i).toNat)
          case atStart => exact ⟨q, 0, rfl, rfl, by omega, rfl⟩
          case round =>
            obtain ⟨p, j, rfl, hp, hj, rfl⟩ := hrel
            by_cases hj16 : j < 16
            · have hpl : (p : Int) < (q : Int) + 16 := by omega
              have hpn : (p : Int) < (n : Int) := by omega
              have hc0 := KC.out _ HC.out j hj16
              have hbs := blankB_succ f q j
              rw [← hp] at hc0 hbs
              have hrz := regI_zero (f p)
              generalize f p = x at hc0 hbs hrz
              obtain ⟨R, hR⟩ : ∃ R, regI x = R := ⟨_, rfl⟩
              rw [hR] at hc0 hrz
              generalize blankB f q j = bj at hbs
              obtain ⟨d, hd⟩ : ∃ d, (x == 0#32) = d := ⟨_, rfl⟩
              rw [hd] at hrz hbs
              have HBS := Lib.hid hbs
              have HPj := Lib.hid hp
              clear hbs hd hR hp
              cases bj
              · go_wp2_with fail
                go_round
                case rel => exact ⟨p + 1, j + 1, by go_num, by have := HPj.out; omega, by omega, by rw [HBS.out]; rfl⟩
                case measure => have := HPj.out; simp [intOf]; omega
              · go_wp2_with fail
                go_round
                case rel => exact ⟨p + 1, j + 1, by go_num, by have := HPj.out; omega, by omega, by rw [HBS.out]; rfl⟩
                case measure => have := HPj.out; simp [intOf]; omega
            · obtain rfl : j = 16 := by omega
              have hpl : ¬ (p : Int) < (q : Int) + 16 := by omega
              have HO2 := Lib.hid (show wr.ownsRow w.heap.size 28 1 _ m (flatR encU (rowL (upN f) m)) from by have := HP.out; unfold OwnsR at this; rwa [rowL_len] at this)
              have hsz := HC.out.size
              have hm256 : m ≤ 256 := by omega
              have hk : kidsF f m = kidsF f m := rfl
              have HUP := Lib.hid (show upN f m = overN (kidsF f m) from rfl)
              have hbk : blankB f q 16 = true → overN (kidsF f m) = Z := fun hb => by
                rw [HQ.out] at hb
                rw [blank_kids hb, HZ.out]
              clear hp hk
              cases hbb : blankB f q 16
              · clear hbk
                obtain ⟨Y, hY⟩ : ∃ Y, overN (kidsF f m) = Y := ⟨_, rfl⟩
                have hsub : RArg encU 1 wr (some ⟨b, off + q, none⟩) 16 (c - q) (kidsF f m) := by
                  have := sub_row (H.out.below HC.out) HMZ.out
                  rw [← HQ.out] at this
                  exact this
                have OV2 := Lib.hid (hY ▸ rover_any (some ⟨b, off + q, none⟩) 16 (c - q) (kidsF f m) wr hsub (by rw [kidsF_len]; decide))
                have HV := Lib.hid (HUP.out.trans hY)
                have SL := fun (w : World) => slU_16 b off n c q (by omega) w
                clear hsub hY hbb
                go_wp2_with (first | (go_at_call 49; (with_reducible refine OV2.out.mono ?_); rintro e w7 ⟨rfl, hb7⟩; replace hb7 := Lib.hid hb7) | (at_builtin; refine wpList_append_own _ rfl _ _ 43 rfl w.heap.size 28 i0 (.int .u32 0) 1 4 Try.underlying43 hi hz0 hz1 hz2 rfl (by decide) _ _ _ rfl (World.ownsRow.alloc (OwnsR.belowU HO2.out hb7.out) _) ⟨w7.heap.size, 0, none⟩ 1 1 [.int .u32 (regI Y)] rfl rfl ?e1 ?e2 ?e3 ?e4 ?e5 ?_) | fail)
                try case e1 => exact cell_one_new _ _ _
                case e2 => first | rfl | (intro u hu; simp at hu; subst hu; rfl)
                case e3 => unfold maxLen; omega
                case e4 => omega
                case e5 => have := hb7.out.size; first | omega | (simp; omega)
                intro v1 w1 hown1 hg1 _
                have ho := Lib.hid (OwnsR.snoc (enc := encU) (l := rowL (upN f) m) (x := Y) (rowL_len _ _) hown1)
                have hb1 := Lib.hid (show Below w.heap.size w w1 from ((HC.out.trans (hb7.out.mono hsz)).alloc (Nat.le_trans hsz hb7.out.size) _).grown hg1 (by have := hb7.out.size; simp; omega) (fun g hg => (World.ownsRow.lt HO2.out g hg).1))
                clear hown1 hg1 HO2
                go_wp2_with fail
                go_roundw
                case rel => exact ⟨m + 1, q + 16, by go_num, by have := HQ.out; omega, by omega, Lib.hid (by rw [rowL_succ, HV.out]; exact ho.out), hb1⟩
                case measure => simp [intOf]; omega
              · have HV := Lib.hid (HUP.out.trans (hbk hbb))
                clear hbk hbb
                go_wp2_with (first | (at_builtin; refine wpList_append_own _ rfl _ _ 43 rfl w.heap.size 28 i0 (.int .u32 0) 1 4 Try.underlying43 hi hz0 hz1 hz2 rfl (by decide) _ _ _ rfl (World.ownsRow.alloc HO2.out _) ⟨wr.heap.size, 0, none⟩ 1 1 [.int .u32 (regI Z)] rfl rfl ?d1 ?d2 ?d3 ?d4 ?d5 ?_) | fail)
                try case d1 => exact cell_one_new _ _ _
                case d2 => first | rfl | (intro u hu; simp at hu; subst hu; rfl)
                case d3 => unfold maxLen; omega
                case d4 => omega
                case d5 => first | omega | (simp; omega)
                intro v1 w1 hown1 hg1 _
                have ho := Lib.hid (OwnsR.snoc (enc := encU) (l := rowL (upN f) m) (x := Z) (rowL_len _ _) hown1)
                have hb1 := Lib.hid (show Below w.heap.size w w1 from (HC.out.alloc hsz _).grown hg1 (by simp; omega) (fun g hg => (World.ownsRow.lt HO2.out g hg).1))
                clear hown1 hg1 HO2
                go_wp2_with fail
                go_roundw
                case rel => exact ⟨m + 1, q + 16, by go_num, by have := HQ.out; omega, by omega, Lib.hid (by rw [rowL_succ, HV.out]; exact ho.out), hb1⟩
                case measure => simp [intOf]; omega
        · obtain rfl : m = z := by omega
          have hle : (n : Int) < (q : Int) + 16 := by omega
          obtain ⟨a2, n2, c2, rfl, hr2⟩ := HP.out.argN encU_len
          have HR := Lib.hid hr2
          clear hr2 hq hnz
          go_wp2_with fail
          go_ret
          exact ⟨_, _, _, rfl, HR.out, HC.out⟩
/-- All numbers of a table in memory: four rows behind one slice. -/
def AllP (C : Nat → Option Int) (w : World) (e : Ending) (w' : World) : Prop := ∃ g a0 n0 c0 a1 n1 c1 a2 n2 c2 a3 n3 c3, e = .returned (.slice (some ⟨g, 0, none⟩) 4 4) ∧ g < w'.heap.size ∧ w'.heap[g]? = some (.cells #[.slice a0 n0 c0, .slice a1 n1 c1, .slice a2 n2 c2, .slice a3 n3 c3] 43 (0, 0)) ∧
  RArg encU 1 w' a0 n0 c0 (rowL (lvN C 0) 4096) ∧ RArg encU 1 w' a1 n1 c1 (rowL (lvN C 1) 256) ∧ RArg encU 1 w' a2 n2 c2 (rowL (lvN C 2) 16) ∧ RArg encU 1 w' a3 n3 c3 (rowL (lvN C 3) 1) ∧ Below w.heap.size w w'
set_option maxRecDepth 100000 in
set_option maxHeartbeats 2000000 in
theorem rlevels_any (a : Option Addr) (n c : Nat) (l : List Pr) (w : World) (h : RArg encP 2 w a n c l) (ht : tblB l = true) :
    Calls Try.prog 40 #[.slice a n c] w (AllP (tabC l) w) := by
  have LV := Lib.hid (leaves_any a n c l w h ht)
  clear h ht
  go_enter Try.func40, Try.ntmps40
  go_wp2_with (go_at_call 50; (with_reducible refine LV.out.mono ?_); rintro e w1 ⟨a0, n0, c0, rfl, r0, hb1⟩)
  have A1 := Lib.hid (above_any a0 n0 c0 (lvN (tabC l) 0) 256 w1 r0 (by decide))
  have R0 := Lib.hid r0
  clear r0
  go_wp2_with (go_at_call 32; (with_reducible refine A1.out.mono ?_); rintro e w2 ⟨a1, n1, c1, rfl, r1, hb2⟩)
  have A2 := Lib.hid (above_any a1 n1 c1 (lvN (tabC l) 1) 16 w2 r1 (by decide))
  have R1 := Lib.hid r1
  clear r1
  go_wp2_with (go_at_call 32; (with_reducible refine A2.out.mono ?_); rintro e w3 ⟨a2, n2, c2, rfl, r2, hb3⟩)
  have A3 := Lib.hid (above_any a2 n2 c2 (lvN (tabC l) 2) 1 w3 r2 (by decide))
  have R2 := Lib.hid r2
  clear r2
  go_wp2_with (go_at_call 32; (with_reducible refine A3.out.mono ?_); rintro e w4 ⟨a3, n3, c3, rfl, r3, hb4⟩)
  go_ret
  have b5 : Below w4.heap.size w4 (w4.alloc (.cells #[.slice a0 n0 c0, .slice a1 n1 c1, .slice a2 n2 c2, .slice a3 n3 c3] 43)) := (Below.refl _ _).alloc (Nat.le_refl _) _
  have b45 := below_next hb4 b5
  have b345 := below_next hb3 b45
  have b25 := below_next hb2 b345
  exact ⟨_, a0, n0, c0, a1, n1, c1, a2, n2, c2, a3, n3, c3, rfl, by simp, heap_alloc_new _ _, R0.out.below b25, R1.out.below b345, R2.out.below b45, r3.below b5, below_next hb1 b25⟩
theorem levels_any (a : Option Addr) (n c : Nat) (l : List Pr) (w : World) (h : RArg encP 2 w a n c l) (ht : tblB l = true) (hl : l.length ≤ 100000) :
    Calls Try.prog 17 #[.slice a n c] w (AllP (tabC l) w) := by
  have RF := Lib.hid (refs5_any a n c l w hl h)
  have HT := Lib.hid ht
  clear h ht
  go_enter Try.func17, Try.ntmps17
  go_wp2_with (go_at_call 16; (with_reducible refine RF.out.mono ?_); rintro e w1 ⟨a1, n1, c1, rfl, hr1, hb1⟩)
  have LV := Lib.hid (rlevels_any a1 n1 c1 l w1 hr1 HT.out)
  clear hr1
  go_wp2_with (go_at_call 40; (with_reducible refine LV.out.mono ?_); rintro e w2 ⟨g, a0, n0, c0, a1, n1, c1, a2, n2, c2, a3, n3, c3, rfl, hg, hh, r0, r1, r2, r3, hb2⟩)
  go_ret
  exact ⟨g, a0, n0, c0, a1, n1, c1, a2, n2, c2, a3, n3, c3, rfl, hg, hh, r0, r1, r2, r3, below_next hb1 hb2⟩
end Go.Proofs.Ytjjadappjapjhaa
