/-
  THE LAW MerkleProves: its walk.
-/
import Derived.Test.YtjjadappjapjhaaMkX
namespace Go.Proofs.Ytjjadappjapjhaa
open Go.RowKit Go.Deep

set_option maxRecDepth 100000 in
theorem uCells {H : Type} {enc : TypeId × Value → H} {w : World} {base : Nat} {spare : Nat → Bool} {held : Bool} (n : Nat) (cs : List Value) (y : DataW H × List MemPlace)
    (h : DataW.trod enc Try.prog w base spare held n 28 cs = some y) : ∃ q : BitVec 32, cs = encU q := by
  obtain ⟨x, e, _, wf⟩ := DataW.trod_int Try.underlying28 h
  obtain ⟨h0, h1⟩ := bounds_u32 wf
  refine ⟨BitVec.ofNat 32 x.toNat, ?_⟩
  rw [e]
  unfold encU regI
  rw [BitVec.toNat_ofNat, Nat.mod_eq_of_lt (by omega), Int.toNat_of_nonneg h0]
theorem uArg_of {H : Type} {enc : TypeId × Value → H} {w : World} {base : Nat} {spare : Nat → Bool} {held : Bool} {a : Option Addr} {len cap : Nat} {d : DataW H} {p : List MemPlace}
    (h : DataW.Trod enc Try.prog w base spare held 43 (.slice a len cap) d p) : ∃ l, RArg encU 1 w a len cap l := by
  obtain ⟨fuel, hf⟩ := h
  obtain ⟨a', n', c', l, e, hR⟩ := rarg_of encU 1 (by omega) encU_len Try.underlying43 (by kernel_rfl) uCells hf
  have e' : Value.slice a len cap = .slice a' n' c' := by simpa [Value.cells] using e
  cases e'
  exact ⟨l, hR⟩
set_option maxRecDepth 100000 in
theorem prove_bad (b : Nat) (k : Int) (w : World) (hk : keyB k = false) : Calls Try.prog 25 #[.pointer (some ⟨b, 0, none⟩), .int .i64 k] w fun e w' => e = .returned (.tuple #[.slice none 0 0, .int .i64 1]) ∧ w = w' := by
  have KY := Lib.hid (fun W => isKeyF_any k W hk)
  clear hk
  go_enter Try.func25, Try.ntmps25
  go_wp2_with (first | (go_at_call 41; (with_reducible refine (KY.out _).mono ?_); rintro e w4 ⟨rfl, rfl⟩) | fail)
  go_ret2
  exact ⟨rfl, rfl⟩
theorem cellO (o : Option Int) : (if o.isSome = true then some (o.getD 0) else none) = o := by cases o <;> rfl
/-- Whether numbers that came in lead to a root, said of both. -/
def verD (k : Int) (root n0 : BitVec 32) (l : List (BitVec 32)) : Bool := decide (l.length = 45) && keyB k && (verN l k.toNat n0 3 == root)
theorem verD_any (k : Int) (root : BitVec 32) (v : Int) (sm : Bool) (a : Option Addr) (n c : Nat) (l : List (BitVec 32)) (w : World) (h : RArg encU 1 w a n c l) :
    Calls Try.prog 26 #[.int .u32 (regI root), .int .i64 k, .agg #[.int .i64 v, .bool sm], .slice a n c] w (Gives w (.bool (verD k root (numO (if sm then some v else none)) l))) := by
  have hn : n = l.length := h.1
  by_cases h45 : l.length = 45
  · cases hk : keyB k
    · have := verify_bad (regI root) k v sm a n c w (by have := h.2.1; omega) (.inr hk)
      unfold verD
      rw [hk, Bool.and_false, Bool.false_and]
      exact this
    · obtain ⟨q, rfl, hq⟩ := keyB_nat hk
      rw [h45] at hn
      subst hn
      have := verify_any q root v sm a c l w h hq
      unfold verD
      rw [hk, decide_eq_true h45, Bool.true_and, Bool.true_and]
      exact this
  · have := verify_bad (regI root) k v sm a n c w (by have := h.2.1; omega) (.inl (by omega))
    unfold verD
    rw [decide_eq_false h45, Bool.false_and, Bool.false_and]
    exact this
theorem rverD_any (k : Int) (root : BitVec 32) (v : Int) (sm : Bool) (a : Option Addr) (n c : Nat) (l : List (BitVec 32)) (w : World) (h : RArg encU 1 w a n c l) :
    Calls Try.prog 28 #[.int .u32 (regI root), .int .i64 k, .agg #[.int .i64 v, .bool sm], .slice a n c] w (Gives w (.bool (verD k root (numO (if sm then some v else none)) l))) := by
  have hn : n = l.length := h.1
  by_cases h45 : l.length = 45
  · cases hk : keyB k
    · have := rverify_bad (regI root) k v sm a n c w (by have := h.2.1; omega) (.inr hk)
      unfold verD
      rw [hk, Bool.and_false, Bool.false_and]
      exact this
    · obtain ⟨q, rfl, hq⟩ := keyB_nat hk
      rw [h45] at hn
      subst hn
      have := rverify_any q root v sm a c l w h hq
      unfold verD
      rw [hk, decide_eq_true h45, Bool.true_and, Bool.true_and]
      exact this
  · have := rverify_bad (regI root) k v sm a n c w (by have := h.2.1; omega) (.inl (by omega))
    unfold verD
    rw [decide_eq_false h45, Bool.false_and, Bool.false_and]
    exact this
set_option maxRecDepth 100000 in
set_option maxHeartbeats 8000000 in
theorem merkleProves_walk (a : Option Addr) (n c : Nat) (l : List Pr) (key : Int) (a3 : Option Addr) (n3 c3 : Nat) (ot : List (BitVec 32)) (w : World) (h : RArg encP 2 w a n c l) (_hk : (Lit.int .i64 key).wf = true) (h3 : RArg encU 1 w a3 n3 c3 ot) :
    Calls Try.prog 5 #[.slice a n c, .int .i64 key, .slice a3 n3 c3] w (TruePost w) := by
  have hz : (n : Int) ≤ 9223372036854775807 := by have := h.1; have := h.2.1; omega
  have hz3 : (n3 : Int) ≤ 9223372036854775807 := by have := h3.1; have := h3.2.1; omega
  have FW := Lib.hid (fun W => few20_any a n c W hz)
  cases ht : tblB l
  · have NW := Lib.hid (new_no a n c l w h ht)
    clear ht h h3
    cases hf : decide (n ≤ 60)
    all_goals
      rw [hf] at FW
      clear hf
      go_enter Try.func5, Try.ntmps5
      go_wp2_with (first | (go_at_call 14; (with_reducible refine NW.out.mono ?_); rintro e w1 ⟨rfl, hb1⟩) | (go_at_call 10; (with_reducible refine (FW.out _).mono ?_); rintro e w2 ⟨rfl, rfl⟩) | (go_at_call 11; (with_reducible refine (awake20_any _).mono ?_); rintro e w9 ⟨rfl, hb9⟩) | fail)
      go_ret
      exact ⟨rfl, below_next hb1 hb9⟩
  · have NW := Lib.hid (new_ok a n c l w h ht)
    cases hf : decide (n ≤ 60)
    · rw [hf] at FW
      clear hf ht h h3
      go_enter Try.func5, Try.ntmps5
      go_wp2_with (first | (go_at_call 14; (with_reducible refine NW.out.mono ?_); rintro e w1 ⟨b1, rfl, t1, _, hb1⟩) | (go_at_call 10; (with_reducible refine (FW.out _).mono ?_); rintro e w2 ⟨rfl, rfl⟩) | (go_at_call 11; (with_reducible refine (awake20_any _).mono ?_); rintro e w9 ⟨rfl, hb9⟩) | fail)
      go_ret
      exact ⟨rfl, below_next hb1 hb9⟩
    · rw [hf] at FW
      have h60 : n ≤ 60 := of_decide_eq_true hf
      by_cases h100 : 100 < n3
      · have h100i : (100 : Int) < (n3 : Int) := by omega
        clear hf ht h h3
        go_enter Try.func5, Try.ntmps5
        go_wp2_with (first | (go_at_call 14; (with_reducible refine NW.out.mono ?_); rintro e w1 ⟨b1, rfl, t1, _, hb1⟩) | (go_at_call 10; (with_reducible refine (FW.out _).mono ?_); rintro e w2 ⟨rfl, rfl⟩) | (go_at_call 11; (with_reducible refine (awake20_any _).mono ?_); rintro e w9 ⟨rfl, hb9⟩) | fail)
        go_ret
        exact ⟨rfl, below_next hb1 hb9⟩
      · have h100i : ¬ (100 : Int) < (n3 : Int) := by omega
        have hlen : l.length ≤ 100000 := by have := h.1; omega
        have H3 := Lib.hid h3
        have LV := Lib.hid (fun W (hb : Below w.heap.size w W) => levelsA_any a n c l W (h.below hb) ht hlen)
        obtain ⟨C, hC⟩ : ∃ C, tabC l = C := ⟨_, rfl⟩
        rw [hC] at NW LV
        clear hf ht h h3 hC hlen
        cases hkb : keyB key
        · have hr6 : key < 0 ∨ 4096 ≤ key := by
            unfold keyB at hkb
            simp at hkb
            omega
          have GT := Lib.hid (fun b W => get20_bad (.pointer (some ⟨b, 0, none⟩)) key W (.inr ⟨b, rfl⟩) (.inl hkb))
          have PV := Lib.hid (fun b W => prove_bad b key W hkb)
          have VR := Lib.hid (fun r v sm W => verify_bad r key v sm a3 n3 c3 W hz3 (.inr hkb))
          clear hkb
          rcases hr6 with hr6 | hr6
          all_goals
            go_enter Try.func5, Try.ntmps5
            go_upto_region 7 with (first
              | (go_at_call 14; (with_reducible refine NW.out.mono ?_); rintro e w1 ⟨b1, rfl, t1, _, hb1⟩)
              | (go_at_call 10; (with_reducible refine (FW.out _).mono ?_); rintro e w2 ⟨rfl, rfl⟩)
              | (go_at_call 22; (with_reducible refine (GT.out _ _).mono ?_); rintro e w4 ⟨rfl, hb4⟩)
              | (go_at_call 25; (with_reducible refine (PV.out _ _).mono ?_); rintro e w5 ⟨rfl, rfl⟩)
              | fail)
            have T4 := Lib.hid (t1.below hb4)
            have hb14 := below_next hb1 hb4
            obtain ⟨W5, hW5⟩ : ∃ W5, w4.alloc (.cells #[.int .i64 0, .bool false] 25) = W5 := ⟨_, rfl⟩
            have b5 : Below w4.heap.size w4 W5 := by rw [← hW5]; exact (Below.refl _ _).alloc (Nat.le_refl _) _
            have g5 : w4.heap.size < W5.heap.size := by rw [← hW5]; simp
            have r5 : W5.heap[w4.heap.size]? = some (.cells #[.int .i64 0, .bool false] 25 (0, 0)) := by rw [← hW5]; exact heap_alloc_new _ _
            rw [hW5]
            have RT := Lib.hid (fun W (hb : Below W5.heap.size W5 W) => root20_any b1 C W (T4.out.below (below_next b5 hb)))
            have KS := Lib.hid (fun W (hb : Below W5.heap.size W5 W) => cells2M ((hb.block _ g5).trans r5))
            have HB5 := Lib.hid (below_next hb14 b5)
            obtain ⟨z0, z1⟩ := KS.out _ (Below.refl _ _)
            have HBD : Below W5.heap.size W5 W5 := Below.refl _ _
            clear hW5 b5 r5 hb14 hb4 hb1 t1
            go_region_held3 (fun W => W.cell? ⟨w4.heap.size, 0, none⟩ = some (.int .i64 0) ∧ W.cell? ⟨w4.heap.size, 1, none⟩ = some (.bool false)) (exact KS.out _ (by repeat (first | exact HBD | with_reducible refine Below.drew ?_))) ((first
              | (go_at_call 11; (with_reducible refine (awake20_any _).mono ?_); rintro e w9 ⟨rfl, b9⟩; replace HBD := below_next (show Below W5.heap.size W5 _ from by repeat (first | exact HBD | with_reducible refine Below.drew ?_)) b9; clear b9)
              | (go_at_call 20; (with_reducible refine (RT.out _ (by repeat (first | exact HBD | with_reducible refine Below.drew ?_))).mono ?_); rintro e w10 ⟨rfl, rfl⟩)
              | (go_at_call 26; (with_reducible refine (VR.out _ _ _ _).mono ?_); rintro e w11 ⟨rfl, b11⟩; replace HBD := below_next (show Below W5.heap.size W5 _ from by repeat (first | exact HBD | with_reducible refine Below.drew ?_)) b11; clear b11)
              | fail))
            all_goals
              go_wp2_with fail
              go_ret
              exact ⟨rfl, below_next HB5.out (by repeat (first | exact HBD | with_reducible refine Below.drew ?_))⟩
        · obtain ⟨k, rfl, hk4⟩ := keyB_nat hkb
          have hki : (k : Int) < 4096 := by omega
          have GT := Lib.hid (fun b W h => get20_any b C k W h hk4)
          have PV := Lib.hid (fun b W h => prove_any b k C W h hk4)
          have hcell := cellO (C k)
          obtain ⟨cv, hcv⟩ : ∃ cv, (C k).getD 0 = cv := ⟨_, rfl⟩
          obtain ⟨cs, hcs⟩ : ∃ cs, (C k).isSome = cs := ⟨_, rfl⟩
          rw [hcv, hcs] at GT hcell
          have HCL := Lib.hid hcell
          have hpl := proofT_len C k 3
          have HPL := Lib.hid hpl
          clear hkb hcv hcs hcell hpl
          go_enter Try.func5, Try.ntmps5
          go_wp2_with (first
              | (go_at_call 14; (with_reducible refine NW.out.mono ?_); rintro e w1 ⟨b1, rfl, t1, _, hb1⟩)
              | (go_at_call 10; (with_reducible refine (FW.out _).mono ?_); rintro e w2 ⟨rfl, rfl⟩)
              | (go_at_call 22; (with_reducible refine (GT.out _ _ t1).mono ?_); rintro e w4 ⟨rfl, hb4⟩)
              | fail)
          have T4 := Lib.hid (t1.below hb4)
          have hb14 := below_next hb1 hb4
          obtain ⟨W5, hW5⟩ : ∃ W5, w4.alloc (.cells #[.int .i64 cv, .bool cs] 25) = W5 := ⟨_, rfl⟩
          have b5 : Below w4.heap.size w4 W5 := by rw [← hW5]; exact (Below.refl _ _).alloc (Nat.le_refl _) _
          have g5 : w4.heap.size < W5.heap.size := by rw [← hW5]; simp
          have r5 : W5.heap[w4.heap.size]? = some (.cells #[.int .i64 cv, .bool cs] 25 (0, 0)) := by rw [← hW5]; exact heap_alloc_new _ _
          rw [hW5]
          have T5 := Lib.hid (T4.out.below b5)
          have KB := Lib.hid (fun W (hb : Below W5.heap.size W5 W) => cells2M ((hb.block _ g5).trans r5))
          have HB5 := Lib.hid (below_next hb14 b5)
          clear hW5 b5 r5 hb14 hb4 hb1 t1
          go_wp2_with (first
              | (go_at_call 25; (with_reducible refine (PV.out _ _ T5.out).mono ?_); rintro e w6 ⟨v6, rfl, o6, hb6⟩; obtain ⟨a6, c6, rfl, hr6⟩ : ∃ a c, v6 = .slice a 45 c ∧ RArg encU 1 w6 a 45 c (proofT C k 3) := (by have := o6.arg encU_len; rw [HPL.out] at this; exact this); replace hr6 := Lib.hid hr6; clear o6)
              | (go_at_call 17; (with_reducible refine (LV.out _ (below_next HB5.out hb6)).mono ?_); rintro e w7 ⟨g, rfl, hA, hb7⟩)
              | (go_at_call 27; (with_reducible refine (rprove_any g k C _ hA hk4).mono ?_); rintro e w8 ⟨v8, rfl, o8, hb8⟩; obtain ⟨a8, c8, rfl, hr8⟩ : ∃ a c, v8 = .slice a 45 c ∧ RArg encU 1 w8 a 45 c (proofT C k 3) := (by have := o8.arg encU_len; rw [HPL.out] at this; exact this); replace hr8 := Lib.hid hr8; clear o8)
              | fail)
          have R6 := Lib.hid (hr6.out.below (below_next hb7 hb8))
          have HB58 := Lib.hid (below_next hb6 (below_next hb7 hb8))
          clear hA hb6 hb7 hb8 hr6
          go_loopw [13] (fun i wr => ∃ j : Nat, i = .int .i64 (j : Int) ∧ j ≤ 45 ∧ Hid (Below w8.heap.size w8 wr))
            (fun i _ => 45 - (intOf i).toNat)
          case atStart => exact ⟨0, rfl, by omega, Lib.hid (Below.refl _ _)⟩
          case round =>
            obtain ⟨j, rfl, hj, HBr⟩ := hrel
            by_cases hj45 : j < 45
            · obtain ⟨p1, q1, e1, _, d1⟩ := (R6.out.below HBr.out).us (k := j) (by rw [HPL.out]; exact hj45)
              obtain ⟨p2, q2, e2, _, d2⟩ := (hr8.out.below HBr.out).us (k := j) (by rw [HPL.out]; exact hj45)
              subst e1 e2
              obtain ⟨Y, hY⟩ : ∃ Y, regI (proofT C k 3)[j]! = Y := ⟨_, rfl⟩
              rw [hY] at d1 d2
              have hji : (j : Int) < 45 := by omega
              have hj0 : 0 ≤ (j : Int) := by omega
              clear hY
              go_wp2_with fail
              go_quiet (fail)
              have HBn := Lib.hid (show Below w8.heap.size w8 (wr.drewN nq) from ⟨HBr.out.os, HBr.out.tape, HBr.out.output, HBr.out.size, HBr.out.block⟩)
              clear d1 d2
              generalize wr.drewN nq = wn at HBn ⊢
              go_wp2_with fail
              go_roundw
              case rel => exact ⟨j + 1, by go_num, by omega, HBn⟩
              case measure => simp [intOf]; omega
            · obtain rfl : j = 45 := by omega
              have HBx := Lib.hid (below_next HB58.out HBr.out)
              have RT := Lib.hid (fun W (hb : Below wr.heap.size wr W) => root20_any b1 C W (T5.out.below (below_next HBx.out hb)))
              have hvr := ver_root C k hk4 (lvN C 0 k)
              rw [beq_self_eq_true] at hvr
              have HVR := Lib.hid hvr
              have VP := Lib.hid (fun W (hb : Below wr.heap.size wr W) => (show Calls Try.prog 26 #[.int .u32 (regI (lvN C 3 0)), .int .i64 (k : Int), .agg #[.int .i64 cv, .bool cs], .slice a6 45 c6] W (Gives W (.bool true)) from by
                have := verify_any k (lvN C 3 0) cv cs a6 c6 (proofT C k 3) W (R6.out.below (below_next HBr.out hb)) hk4
                rw [HCL.out, show numO (C k) = lvN C 0 k from rfl, HVR.out] at this
                exact this))
              obtain ⟨D, hD⟩ : ∃ D, verD (k : Int) (lvN C 3 0) (numO (if cs then some cv else none)) ot = D := ⟨_, rfl⟩
              have VO := Lib.hid (fun W (hb : Below wr.heap.size wr W) => hD ▸ verD_any (k : Int) (lvN C 3 0) cv cs a3 n3 c3 ot W (H3.out.below (below_next HB5.out (below_next HBx.out hb))))
              have VD := Lib.hid (fun W (hb : Below wr.heap.size wr W) => hD ▸ rverD_any (k : Int) (lvN C 3 0) cv cs a3 n3 c3 ot W (H3.out.below (below_next HB5.out (below_next HBx.out hb))))
              obtain ⟨rt, hrt⟩ : ∃ rt, regI (lvN C 3 0) = rt := ⟨_, rfl⟩
              rw [hrt] at RT VP VO VD
              have KS := Lib.hid (fun W (hb : Below wr.heap.size wr W) => KB.out W (below_next HBx.out hb))
              have hji : ¬ ((45 : Nat) : Int) < 45 := by omega
              clear hvr hD hrt
              go_upto_region 16 with fail
              obtain ⟨z0, z1⟩ := KS.out _ (Below.refl _ _)
              have HBD : Below wr.heap.size wr wr := Below.refl _ _
              go_region_held3 (fun W => W.cell? ⟨w4.heap.size, 0, none⟩ = some (.int .i64 cv) ∧ W.cell? ⟨w4.heap.size, 1, none⟩ = some (.bool cs)) (exact KS.out _ (by repeat (first | exact HBD | with_reducible refine Below.drew ?_))) ((first
                | (go_at_call 11; (with_reducible refine (awake20_any _).mono ?_); rintro e w9 ⟨rfl, b9⟩; replace HBD := below_next (show Below wr.heap.size wr _ from by repeat (first | exact HBD | with_reducible refine Below.drew ?_)) b9; clear b9)
                | (go_at_call 20; (with_reducible refine (RT.out _ (by repeat (first | exact HBD | with_reducible refine Below.drew ?_))).mono ?_); rintro e w10 ⟨rfl, rfl⟩)
                | (go_at_call 26; (with_reducible refine (VP.out _ (by repeat (first | exact HBD | with_reducible refine Below.drew ?_))).mono ?_); rintro e w11 ⟨rfl, b11⟩; replace HBD := below_next (show Below wr.heap.size wr _ from by repeat (first | exact HBD | with_reducible refine Below.drew ?_)) b11; clear b11)
                | (go_at_call 26; (with_reducible refine (VO.out _ (by repeat (first | exact HBD | with_reducible refine Below.drew ?_))).mono ?_); rintro e w12 ⟨rfl, b12⟩; replace HBD := below_next (show Below wr.heap.size wr _ from by repeat (first | exact HBD | with_reducible refine Below.drew ?_)) b12; clear b12)
                | (go_at_call 28; (with_reducible refine (VD.out _ (by repeat (first | exact HBD | with_reducible refine Below.drew ?_))).mono ?_); rintro e w13 ⟨rfl, b13⟩; replace HBD := below_next (show Below wr.heap.size wr _ from by repeat (first | exact HBD | with_reducible refine Below.drew ?_)) b13; clear b13)
                | fail))
              all_goals
                go_wp2_with fail
                go_ret
                exact ⟨by first | rfl | (cases D <;> rfl), below_next HB5.out (below_next HBx.out (by repeat (first | exact HBD | with_reducible refine Below.drew ?_)))⟩
end Go.Proofs.Ytjjadappjapjhaa
