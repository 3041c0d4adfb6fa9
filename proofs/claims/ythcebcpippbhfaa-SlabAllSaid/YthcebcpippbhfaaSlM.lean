/-
  SLABS: SlabDown.
-/
import Derived.Test.YthcebcpippbhfaaSlL
import Derived.Deep.QuietTactic
import Derived.StillTailTactics
namespace Go.Proofs.Ythcebcpippbhfaa
open Go.RowKit Go.Maps Go.ChangeMaps Go.ChangeShapes Go.WideShapes Go.Deep

theorem write_down {w : World} {p db mb : Nat} {s : St} (h : Sl w p db mb s) (hd : s.down = true) (k : Int) (t : ByteArray) :
    Calls Try.prog 16 #[.pointer (some ⟨p, 0, none⟩), .int .i64 k, .string t] w fun e w' => e = .returned (.int .i64 9) ∧ w' = w := by
  obtain ⟨_, _, _, h⟩ := h
  obtain ⟨_, c1, c2, _⟩ := h.cells
  rw [hd] at c2
  go_enter Try.func16, Try.ntmps16
  go_wp2
  go_ret
  exact ⟨rfl, rfl⟩
theorem read_down {w : World} {p db mb : Nat} {s : St} (h : Sl w p db mb s) (hd : s.down = true) (k : Int) :
    Calls Try.prog 24 #[.pointer (some ⟨p, 0, none⟩), .int .i64 k] w fun e w' => e = .returned (.tuple #[.string ⟨#[]⟩, .int .i64 9]) ∧ w' = w := by
  obtain ⟨_, _, _, h⟩ := h
  obtain ⟨_, c1, c2, _⟩ := h.cells
  rw [hd] at c2
  go_enter Try.func24, Try.ntmps24
  go_wp2
  go_ret2
  exact ⟨rfl, rfl⟩
theorem flush_down {w : World} {p db mb : Nat} {s : St} (h : Sl w p db mb s) (hd : s.down = true) :
    Calls Try.prog 17 #[.pointer (some ⟨p, 0, none⟩)] w fun e w' => e = .returned (.int .i64 9) ∧ w' = w := by
  obtain ⟨_, _, _, h⟩ := h
  obtain ⟨_, c1, c2, _⟩ := h.cells
  rw [hd] at c2
  go_enter Try.func17, Try.ntmps17
  go_wp2
  go_ret
  exact ⟨rfl, rfl⟩
/-- What setting a trip makes of a slab. -/
def tripS (s : St) (n : Int) (zs : List Int) (torn at_ : Int) : St := if 0 < n then { s with left := n, zs := zs, torn := torn, at_ := at_ } else restS s
theorem trip_any {w : World} {p db mb : Nat} {s : St} (h : Sl w p db mb s) {n : Int} (hn : (Lit.int .i64 n).wf = true) {a : Option Addr} {m c : Nat} {zs : List Int} (hz : KRow w p db mb a m c zs) (hm : m ≤ 100000) {torn at_ : Int} (ht : (Lit.int .i64 torn).wf = true) (ha : (Lit.int .i64 at_).wf = true) :
    Calls Try.prog 22 #[.pointer (some ⟨p, 0, none⟩), .int .i64 n, .agg #[.slice a m c, .int .i64 torn, .int .i64 at_]] w (SPost p db mb (.tuple #[]) (tripS s n zs torn at_) w) := by
  unfold tripS
  by_cases h0 : 0 < n
  · rw [if_pos h0]; exact tripN_any h h0 hn hz hm ht ha
  · rw [if_neg h0]
    obtain ⟨ka, kn, kc, h⟩ := h
    exact trip0_any h n (by omega) a m c torn at_
theorem tripS_bs (s : St) (n : Int) (zs : List Int) (torn at_ : Int) : (tripS s n zs torn at_).bs = s.bs ∧ (tripS s n zs torn at_).down = s.down := by
  unfold tripS restS
  split <;> exact ⟨rfl, rfl⟩
theorem fail_bs {s : St} (hd : s.down = true) (zs : List Int) (torn at_ : Int) : failS s zs torn at_ = s := by unfold failS; rw [if_pos hd]
/-- A slab to whose block 2 a text was written and flushed, and whose power failed. -/
def downS (t : ByteArray) : St := failS { newS 8 with bs := flushP (giveP (newS 8).bs 2 t) } [] 0 0
theorem downS_two {t : ByteArray} (ht : t.size ≤ 256) : atB (downS t).bs 2 = (t, none) := by
  have hf : (downS t).bs = failP (flushP (giveP (newS 8).bs 2 t)) [] 0 0 := rfl
  have h2 : atB (giveP (newS 8).bs 2 t) 2 = (⟨#[]⟩, some t) := rfl
  have e := fail_at (((Fits.new 8).give 2 ht).flush) [] 0 0 2
  rw [hf]
  refine e.trans ?_
  rw [flush_at]
  rw [show atB (giveP (List.replicate 8 bk0) 2 t) 2 = (⟨#[]⟩, some t) from h2]
  rfl
theorem downS_len (t : ByteArray) : (downS t).bs.length = 8 := by
  show (failP (flushP (giveP (newS 8).bs 2 t)) [] 0 0).length = 8
  rw [failP_length, flushP_length, giveP_length]; simp [newS]
theorem downS_fits {t : ByteArray} (ht : t.size ≤ 256) : Fits (downS t).bs := (((Fits.new 8).give 2 ht).flush).fail [] 0 0
theorem below_refl_drewN (w : World) (n : Nat) : Below w.heap.size w (w.drewN n) := ⟨rfl, rfl, rfl, Nat.le_refl _, fun _ _ => rfl⟩
set_option maxRecDepth 100000 in
set_option maxHeartbeats 4000000 in
theorem slabDown_walk (t : ByteArray) (a : Option Addr) (len cap : Nat) (l : List ActV) (w : World) (ht : t.size ≤ maxLen) (hX : XArg w a len cap l) :
    Calls Try.prog 7 #[.string t, .slice a len cap] w (TruePost w) := by
  unfold maxLen at ht
  have hcap := hX.cap
  by_cases hbig : 256 < t.size
  · have hbz : (256 : Int) < (t.size : Int) := by omega
    go_enter Try.func7, Try.ntmps7
    go_wp2_with (first
      | (go_at_call 10; refine (new_any 8 (by decide) (by decide) w).mono ?_; rintro e w1 ⟨p, db, mb, rfl, hs1, p1, p2, p3, b1⟩)
      | (go_at_call 12; have _t := b1; (with_reducible refine (awake7_any w1).mono ?_); rintro e w2 ⟨rfl, b2⟩; have b12 := b1.trans (b2.mono b1.size); clear b1)
      | (go_at_call 12; (with_reducible refine (awake7_any w2).mono ?_); rintro e w3 ⟨rfl, b3⟩))
    go_ret
    exact ⟨rfl, b12.trans (b3.mono b12.size)⟩
  · have hbz : ¬ ((256 : Int) < (t.size : Int)) := by omega
    have ht2 : t.size ≤ 256 := by omega
    have E1 : writeS (newS 8) 2 t = ({ newS 8 with bs := giveP (newS 8).bs 2 t }, 0) := write_calm (i := 2) rfl rfl (by simp [newS]) ht2
    have E2 : flushS { newS 8 with bs := giveP (newS 8).bs 2 t } = ({ newS 8 with bs := flushP (giveP (newS 8).bs 2 t) }, 0) := flush_calm rfl rfl
    have E3 : failS { newS 8 with bs := flushP (giveP (newS 8).bs 2 t) } [] 0 0 = downS t := rfl
    have D1 : (downS t).down = true := rfl
    have D2 := downS_two ht2
    have D3 := downS_len t
    have D4 := downS_fits ht2
    generalize downS t = sd at E3 D1 D2 D3 D4
    generalize ({ newS 8 with bs := flushP (giveP (newS 8).bs 2 t) } : St) = sf at E2 E3
    generalize ({ newS 8 with bs := giveP (newS 8).bs 2 t } : St) = sw at E1 E2
    replace E1 := Lib.hid E1
    replace E2 := Lib.hid E2
    replace E3 := Lib.hid E3
    replace D1 := Lib.hid D1
    replace D2 := Lib.hid D2
    replace D3 := Lib.hid D3
    go_enter Try.func7, Try.ntmps7
    go_wp2_with (first
      | (go_at_call 10; refine (new_any 8 (by decide) (by decide) w).mono ?_; rintro e w1 ⟨p, db, mb, rfl, hs1, p1, p2, p3, b1⟩)
      | (go_at_call 12; (with_reducible refine (awake7_any w1).mono ?_); rintro e w2 ⟨rfl, b2⟩; have b12 := b1.trans (b2.mono b1.size); have hs2 := hs1.same b2)
      | (go_at_call 16; (with_reducible refine (writeE hs2 E1.out (by unfold maxLen; omega)).mono ?_); rintro e w3 ⟨rfl, hs3, b3⟩)
      | (go_at_call 17; (with_reducible refine (flushE hs3 E2.out).mono ?_); rintro e w4 ⟨rfl, hs4, b4⟩)
      | (go_at_call 20; refine (failE hs4 (KRow.nil w4 p db mb) (by decide) E3.out).mono ?_; rintro e w5 ⟨rfl, hs5, b5⟩))
    have B5 : Below w.heap.size w w5 := b12.trans (((b3.trans b4).trans b5).below b12.size p1 p2 p3)
    clear b1 b2 b3 b4 b5 b12 hs1 hs2 hs3 hs4 E1 E2 E3
    go_loopw [6, 7, 8] (fun i _ _ wr => ∃ (j : Nat) (s : St), i = .int .i64 (j : Int) ∧ j ≤ 20 ∧ Sl wr p db mb s ∧ Hid (s.down = true) ∧ Hid (s.bs = sd.bs) ∧ Below w.heap.size w wr)
      (fun i _ _ _ => 20 - (intOf i).toNat)
    case atStart => exact ⟨0, sd, rfl, by decide, hs5, D1, Lib.hid rfl, B5⟩
    case round =>
      obtain ⟨j, s, rfl, hj, hs, hsd, hsb, hb⟩ := hrel
      by_cases hin : j < len ∧ j < 20
      · obtain ⟨hjl, hj20⟩ := hin
        have hjs : j < l.length := by rw [← hX.len]; exact hjl
        obtain ⟨xb, off, rfl, hxb, hc⟩ := hX.cells (Below.refl _ _) hjs
        have hok := hX.ok _ (List.getElem_mem hjs)
        generalize l[j] = x at hok hc
        have zl : (j : Int) < (len : Int) := by omega
        have z2 : (j : Int) < 20 := by omega
        have o : ∀ W, Below w.heap.size w W → W.cell? ⟨xb, off + j * 6, none⟩ = some (.int .i64 x.kind) ∧ W.cell? ⟨xb, off + j * 6 + 1, none⟩ = some (.int .i64 x.n) ∧ W.cell? ⟨xb, off + j * 6 + 2, none⟩ = some (.string x.s) ∧ W.cell? ⟨xb, off + j * 6 + 3, none⟩ = some (.slice x.ka x.kn x.kc) ∧ W.cell? ⟨xb, off + j * 6 + 4, none⟩ = some (.int .i64 x.torn) ∧ W.cell? ⟨xb, off + j * 6 + 5, none⟩ = some (.int .i64 x.at_) := fun W hB => by
          have q := fun i => hB.cell (p := ⟨xb, off + j * 6 + i, none⟩) hxb
          exact ⟨(q 0).trans hc.1, (q 1).trans hc.2.1, (q 2).trans hc.2.2.1, (q 3).trans hc.2.2.2.1, (q 4).trans hc.2.2.2.2.1, (q 5).trans hc.2.2.2.2.2⟩
        replace o := Lib.hid o
        clear hc
        obtain ⟨y0, y1, y2, y3, y4, y5⟩ := o.out _ hb
        by_cases h5 : x.kind = 5
        · rw [h5] at y0
          go_wp2
          go_roundw
          case rel => exact ⟨j + 1, s, by go_num, by omega, hs, hsd, hsb, hb⟩
          case measure => simp [intOf]; omega
        · have h5z : (x.kind == 5) = false := by simpa using h5
          have HL := light_any x wr (hok.below hb)
          cases hlx : lightX x with
          | false =>
            rw [hlx] at HL
            go_wp2_with (go_at_call 13; refine HL.mono ?_; rintro e w6 ⟨rfl, b6⟩)
            have hs6 := hs.same b6
            have hb6 : Below w.heap.size w w6 := hb.trans (b6.mono hb.size)
            go_roundw
            case rel => exact ⟨j + 1, s, by go_num, by omega, hs6, hsd, hsb, hb6⟩
            case measure => simp [intOf]; omega
          | true =>
            rw [hlx] at HL
            have hkn : x.kn ≤ 50 := by unfold lightX at hlx; simp at hlx; exact hlx.2
            go_wp2_with (first
              | (go_at_call 13; refine HL.mono ?_; rintro e w6 ⟨rfl, b6⟩; have hs6 := hs.same b6; have hb6 := hb.trans (b6.mono hb.size); obtain ⟨x0, x1, x2, x3, x4, x5⟩ := o.out _ hb6)
              | (go_at_call 24; refine (read_down hs6 hsd.out _).mono ?_; rintro e w7 ⟨rfl, hw7⟩; subst w7))
            go_quiet ((first
              | (go_at_call 16; refine Calls.quiet_of_same (write_down (hs6.same (below_refl_drewN _ _)) hsd.out _ _))
              | (go_at_call 17; refine Calls.quiet_of_same (flush_down (hs6.same (below_refl_drewN _ _)) hsd.out))
              | (go_at_call 23; refine Calls.quiet_of_same (downE (hs6.same (below_refl_drewN _ _)) hsd.out))))
            have b8 := below_refl_drewN w6 nq
            have hs8 := hs6.same b8
            have hb8 : Below w.heap.size w (w6.drewN nq) := hb6.trans (b8.mono hb6.size)
            clear b8
            generalize w6.drewN nq = w8 at hs8 hb8
            obtain ⟨v0, v1, v2, v3, v4, v5⟩ := o.out _ hb8
            have kr8 := hok.keep.krow hb8 p1 p2 p3
            go_wp2_with (go_at_call 20; refine (failE hs8 kr8 hok.torn (fail_bs hsd.out _ _ _)).mono ?_; rintro e w9 ⟨rfl, hs9, b9⟩; have hb9 : Below w.heap.size w w9 := hb8.trans (b9.below hb8.size p1 p2 p3))
            obtain ⟨u0, u1, u2, u3, u4, u5⟩ := o.out _ hb9
            have kr9 := hok.keep.krow (hb9.trans (Below.refl _ _).drew) p1 p2 p3
            have hs10 := hs9.same (Below.refl _ _).drew
            have hb10 : Below w.heap.size w w9.drew := hb9.drew
            go_still_tail 11, (by kernel_rfl)
            change wpList _ _ _ _ _ w9.drew
            clear hs6 hs8 hs9 hb6 hb8 hb9 b6 b9 kr8
            generalize w9.drew = w10 at kr9 hs10 hb10
            have HT := trip_any hs10 hok.n kr9 (by omega) hok.torn hok.at_
            have hbs := tripS_bs s x.n x.zs x.torn x.at_
            go_wp2_with (go_at_call 22; refine HT.mono ?_; rintro e w11 ⟨rfl, hs11, b11⟩)
            have hb11 : Below w.heap.size w w11 := hb10.trans (b11.below hb10.size p1 p2 p3)
            have hsd' : Hid ((tripS s x.n x.zs x.torn x.at_).down = true) := Lib.hid (hbs.2.trans hsd.out)
            have hsb' : Hid ((tripS s x.n x.zs x.torn x.at_).bs = sd.bs) := Lib.hid (hbs.1.trans hsb.out)
            go_roundw
            case rel => exact ⟨j + 1, _, by go_num, by omega, hs11, hsd', hsb', hb11⟩
            case measure => simp [intOf]; omega
      · have hcond : ((j : Int) < (len : Int) ∧ ¬ ((j : Int) < 20)) ∨ ¬ ((j : Int) < (len : Int)) := by omega
        have v1 : (wakeS s).bs = sd.bs := hsb.out
        have v2 : (wakeS s).down = false := rfl
        have v3 : (wakeS s).left = 0 := rfl
        have v4 : (wakeS s).bs.length = 8 := by rw [v1]; exact D3.out
        have R1 : readS (wakeS s) 2 = (t, 0) := by
          have := read_at v2 (k := 2) (by rw [v4]; decide)
          rw [v1, D2.out] at this
          exact this
        have R2 : writeS (wakeS s) 1 t = ({ wakeS s with bs := giveP (wakeS s).bs 1 t }, 0) := write_calm (i := 1) v2 v3 (by rw [v4]; decide) ht2
        have R3 : ({ wakeS s with bs := giveP (wakeS s).bs 1 t } : St).down = false := rfl
        have R0 : wakeS s = wakeS s := rfl
        generalize ({ wakeS s with bs := giveP (wakeS s).bs 1 t } : St) = se at R2 R3
        obtain ⟨sv, hsv⟩ : ∃ sv, wakeS s = sv := ⟨_, rfl⟩
        rw [hsv] at R1 R2
        replace hsv := Lib.hid hsv
        replace R1 := Lib.hid R1
        replace R2 := Lib.hid R2
        replace R3 := Lib.hid R3
        clear v1 v2 v3 v4 R0
        rcases hcond with ⟨hjlz, hj20⟩ | hjlz
        all_goals
          go_wp2_with (first
            | (go_at_call 21; refine (wakeE hs hsv.out).mono ?_; rintro e w7 ⟨rfl, hs7, b7⟩)
            | (go_at_call 24; refine (readE hs7 (by decide) R1.out).mono ?_; rintro e w8 ⟨rfl, b8⟩; have hs8 := hs7.same b8)
            | (go_at_call 16; refine (writeE hs8 R2.out (by unfold maxLen; omega)).mono ?_; rintro e w9 ⟨rfl, hs9, b9⟩)
            | (go_at_call 23; refine (downE hs9 R3.out).mono ?_; rintro e w10 ⟨rfl, hw10⟩; subst w10))
          go_ret
          exact ⟨rfl, hb.trans (((b7.trans (But.of_below b8)).trans b9).below hb.size p1 p2 p3)⟩
end Go.Proofs.Ythcebcpippbhfaa
