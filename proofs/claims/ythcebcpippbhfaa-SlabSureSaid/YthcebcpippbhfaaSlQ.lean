/-
  SLABS: SlabSure.
-/
import Derived.Test.YthcebcpippbhfaaSlO
namespace Go.Proofs.Ythcebcpippbhfaa
open Go.RowKit Go.Maps Go.ChangeMaps Go.ChangeShapes Go.WideShapes Go.Deep

/-- But for those that were written to, the blocks are as they were. -/
def Kept8 (bs0 bs : List Bk) (on : Nat → Bool) : Prop := ∀ k, k < 8 → on k = false → atB bs k = atB bs0 k
theorem sure_end {s : St} (h : Up s) {bs0 : List Bk} {on : Nat → Bool} (hI : Kept8 bs0 s.bs on) (hc : ∀ k, (atB bs0 k).2 = none) (zs : List Int) (torn at_ : Int) {k : Nat} (hk : k < 8) (ho : on k = false) :
    all8 (wakeS (failS s zs torn at_)) k = seeB (atB bs0 k) := by
  rw [woken_read h.fit h.down (by rw [h.len]; decide) zs torn at_ hk, hI k hk ho]
  unfold leftB seeB
  rw [hc k]
  rfl
theorem flush_calm_at (bs : List Bk) (k : Nat) : (atB (flushP bs) k).2 = none := by rw [flush_at]
theorem Kept8.give {bs0 bs : List Bk} {on : Nat → Bool} (h : Kept8 bs0 bs on) {i : Nat} (hi : i < bs.length) (t : ByteArray) : Kept8 bs0 (giveP bs i t) (fun k => if k = i then true else on k) := fun k hk ho => by
  by_cases e : k = i
  · subst e; simp at ho
  · dsimp only at ho
    rw [if_neg e] at ho
    rw [give_at hi, if_neg e]
    exact h k hk ho
/-- What a writing makes, in one word. -/
theorem Up.writes {s : St} (h : Up s) (k : Int) (t : ByteArray) : ∃ s' v, writeS s k t = (s', v) ∧ Up s' ∧ (v = 0 ∨ v = 1) ∧ (v = 0 → ∃ i : Nat, i < 8 ∧ k = (i : Int) ∧ s'.bs = giveP s.bs i t) ∧ (v = 1 → s' = s) := by
  rcases h.write k t with e | ⟨i, hi, hk, _, e, hu⟩
  · exact ⟨s, 1, e, h, .inr rfl, fun q => absurd q (by decide), fun _ => rfl⟩
  · exact ⟨_, 0, e, hu, .inl rfl, fun _ => ⟨i, hi, hk, rfl⟩, fun q => absurd q (by decide)⟩
def Own3 (p db mb : Nat) (i : Nat) : Prop := i = p ∨ i = db ∨ i = mb
theorem Off.step {p db mb : Nat} {a w w' : World} (h : Off (Own3 p db mb) a w) (hb : But p db mb w w') : Off (Own3 p db mb) a w' := h.trans (Off.but hb (.inl rfl) (.inr (.inl rfl)) (.inr (.inr rfl)))
def Own4 (p db mb g : Nat) (i : Nat) : Prop := i = p ∨ i = db ∨ i = mb ∨ i = g
theorem Off.step4 {p db mb g : Nat} {a w w' : World} (h : Off (Own4 p db mb g) a w) (hb : But p db mb w w') : Off (Own4 p db mb g) a w' := h.trans (Off.but hb (.inl rfl) (.inr (.inl rfl)) (.inr (.inr (.inl rfl))))
theorem Sl.drewR {w : World} {p db mb : Nat} {s : St} (h : Sl w p db mb s) : Sl w.drew p db mb s := h.same (Below.refl _ _).drew
theorem lowDrew {B : Nat} {a X : World} (h : Below B a X) : Below B a X.drew := ⟨h.os, h.tape, h.output, h.size, h.block⟩
set_option maxRecDepth 100000 in
set_option maxHeartbeats 8000000 in
theorem slabSure_walk (a : Option Addr) (len cap : Nat) (l : List ActV) (a2 : Option Addr) (len2 cap2 : Nat) (l2 : List ActV) (la : Option Addr) (ln lc : Nat) (zs : List Int) (torn at_ : Int) (w : World) (hX : XArg w a len cap l) (hX2 : XArg w a2 len2 cap2 l2)
    (hl : KArg w la ln lc zs ∧ (Lit.int .i64 torn).wf = true ∧ (Lit.int .i64 at_).wf = true) :
    Calls Try.prog 4 #[.slice a len cap, .slice a2 len2 cap2, .agg #[.slice la ln lc, .int .i64 torn, .int .i64 at_]] w (TruePost w) := by
  obtain ⟨hK, hto, hat⟩ := hl
  have hcap := hX.cap
  have hcap2 := hX2.cap
  have hcapk := hK.cap
  obtain ⟨W1, hW1⟩ : ∃ W1, w.alloc (.cells #[.slice la ln lc, .int .i64 torn, .int .i64 at_] 35) = W1 := ⟨_, rfl⟩
  have B1 : Below w.heap.size w W1 := by rw [← hW1]; exact (Below.refl _ _).alloc (Nat.le_refl _) _
  have hbx : W1.heap[w.heap.size]? = some (.cells #[.slice la ln lc, .int .i64 torn, .int .i64 at_] 35) := by rw [← hW1]; exact heap_alloc_new _ _
  have z1 : w.heap.size < W1.heap.size := by rw [← hW1]; simp
  have HN := new_any 8 (by decide) (by decide) W1
  go_enter Try.func4, Try.ntmps4
  by_cases hbig : 50 < ln
  · have hbz : (50 : Int) < (ln : Int) := by omega
    go_wp2_with (first
      | (go_at_call 10; (try rw [hW1]); refine HN.mono ?_; rintro e w1 ⟨p, db, mb, rfl, hs1, p1, p2, p3, b1⟩; have hbx1 := (b1.block _ z1).trans hbx)
      | (go_at_call 12; have _t := hbx1; (with_reducible refine (awake7_any w1).mono ?_); rintro e w2 ⟨rfl, b2⟩; have hbx2 := (b2.block _ (Nat.lt_of_lt_of_le z1 b1.size)).trans hbx1; obtain ⟨y0, y1, y2⟩ := three_of hbx2; have b12 := (B1.trans ((b1.mono B1.size).trans (b2.mono (Nat.le_trans B1.size b1.size)))); clear hbx1)
      | (go_at_call 12; (with_reducible refine (awake7_any w2).mono ?_); rintro e w3 ⟨rfl, b3⟩))
    go_ret
    exact ⟨rfl, b12.trans (b3.mono b12.size)⟩
  · have hbz : ¬ ((50 : Int) < (ln : Int)) := by omega
    go_wp2_with (first
      | (go_at_call 10; (try rw [hW1]); refine HN.mono ?_; rintro e w1 ⟨p, db, mb, rfl, hs1, p1, p2, p3, b1⟩; have hbx1 := (b1.block _ z1).trans hbx)
      | (go_at_call 12; have _t := hbx1; (with_reducible refine (awake7_any w1).mono ?_); rintro e w2 ⟨rfl, b2⟩; have hbx2 := (b2.block _ (Nat.lt_of_lt_of_le z1 b1.size)).trans hbx1; obtain ⟨y0, y1, y2⟩ := three_of hbx2; have b12 := (B1.trans ((b1.mono B1.size).trans (b2.mono (Nat.le_trans B1.size b1.size)))); have hs2 := hs1.same b2; clear hbx1))
    clear HN
    have B2 : Below W1.heap.size W1 w2 := b1.trans (b2.mono b1.size)
    have S2 : W1.heap.size ≤ w2.heap.size := B2.size
    have OW := Lib.hid (fun W (hO : Off (Own3 p db mb) w2 W) => (show Below w.heap.size w W ∧ W.heap[w.heap.size]? = some (.cells #[.slice la ln lc, .int .i64 torn, .int .i64 at_] 35) from
      ⟨b12.trans (hO.below b12.size (fun i hi => by have := B1.size; rcases hi with rfl | rfl | rfl <;> omega)), (hO.block _ (by omega) (by rintro (q | q | q) <;> omega)).trans hbx2⟩))
    go_loopw [8] (fun i wr => ∃ (j : Nat) (s : St), i = .int .i64 (j : Int) ∧ j ≤ 30 ∧ Up s ∧ Sl wr p db mb s ∧ Off (Own3 p db mb) w2 wr)
      (fun i _ => 30 - (intOf i).toNat)
    case atStart => exact ⟨0, _, rfl, by decide, Up.start, hs2, Off.refl _ _⟩
    case round =>
      obtain ⟨j, s, rfl, hj, hU, hs, hO⟩ := hrel
      obtain ⟨hb, hlb⟩ := OW.out _ hO
      by_cases hin : j < len ∧ j < 30
      · obtain ⟨hjl, hj30⟩ := hin
        have hjs : j < l.length := by rw [← hX.len]; exact hjl
        obtain ⟨xb, off, rfl, hxb, hc⟩ := hX.cells (Below.refl _ _) hjs
        have hok := hX.ok _ (List.getElem_mem hjs)
        generalize l[j] = x at hok hc
        have zl : (j : Int) < (len : Int) := by omega
        have z2 : (j : Int) < 30 := by omega
        have o : ∀ W, Below w.heap.size w W → W.cell? ⟨xb, off + j * 6, none⟩ = some (.int .i64 x.kind) ∧ W.cell? ⟨xb, off + j * 6 + 1, none⟩ = some (.int .i64 x.n) ∧ W.cell? ⟨xb, off + j * 6 + 2, none⟩ = some (.string x.s) ∧ W.cell? ⟨xb, off + j * 6 + 3, none⟩ = some (.slice x.ka x.kn x.kc) ∧ W.cell? ⟨xb, off + j * 6 + 4, none⟩ = some (.int .i64 x.torn) ∧ W.cell? ⟨xb, off + j * 6 + 5, none⟩ = some (.int .i64 x.at_) := fun W hB => by
          have q := fun i => hB.cell (p := ⟨xb, off + j * 6 + i, none⟩) hxb
          exact ⟨(q 0).trans hc.1, (q 1).trans hc.2.1, (q 2).trans hc.2.2.1, (q 3).trans hc.2.2.2.1, (q 4).trans hc.2.2.2.2.1, (q 5).trans hc.2.2.2.2.2⟩
        replace o := Lib.hid o
        clear hc
        obtain ⟨y0, y1, y2, y3, y4, y5⟩ := o.out _ hb
        by_cases h0 : x.kind = 0
        · rw [h0] at y0
          have HL := light_any x wr (hok.below hb)
          rw [h0] at HL
          cases hlx : lightX x with
          | false =>
            rw [hlx] at HL
            go_wp2_with (go_at_call 13; refine HL.mono ?_; rintro e w6 ⟨rfl, b6⟩)
            have hs6 := hs.same b6
            have hO6 := hO.trans (Off.low b6)
            go_roundw
            case rel => exact ⟨j + 1, s, by go_num, by omega, hU, hs6, hO6⟩
            case measure => simp [intOf]; omega
          | true =>
            rw [hlx] at HL
            go_wp2_with (go_at_call 13; refine HL.mono ?_; rintro e w6 ⟨rfl, b6⟩; have hs6 := hs.same b6; have hb6 := hb.trans (b6.mono hb.size); obtain ⟨x0, x1, x2, x3, x4, x5⟩ := o.out _ hb6)
            have hO6 := hO.trans (Off.low b6)
            go_still_tail 11, (by kernel_rfl)
            change wpList _ _ _ _ _ w6.drew
            have hs7 := hs6.same (Below.refl _ _).drew
            have hO7 : Off (Own3 p db mb) w2 w6.drew := hO6.drew
            obtain ⟨s', v, hw, hU', hv, hv0, hv1⟩ := hU.writes x.n x.s
            have HW := writeE hs7 hw hok.s
            replace hw := Lib.hid hw
            clear hs6 hO6 b6 hb6
            generalize w6.drew = w7 at hs7 hO7 HW
            go_wp2_with (go_at_call 16; refine HW.mono ?_; rintro e w8 ⟨rfl, hs8, b8⟩)
            have hO8 := hO7.step b8
            go_roundw
            case rel => exact ⟨j + 1, s', by go_num, by omega, hU', hs8, hO8⟩
            case measure => simp [intOf]; omega
        · have h0z : (x.kind == 0) = false := by simpa using h0
          go_wp2
          go_roundw
          case rel => exact ⟨j + 1, s, by go_num, by omega, hU, hs, hO⟩
          case measure => simp [intOf]; omega
      · have hcond : ((j : Int) < (len : Int) ∧ ¬ ((j : Int) < 30)) ∨ ¬ ((j : Int) < (len : Int)) := by omega
        obtain ⟨E1, hU1⟩ := hU.flush
        have HC : Calm ({ s with bs := flushP s.bs } : St).bs := Calm.flush _
        have HQ : ∀ k, (atB ({ s with bs := flushP s.bs } : St).bs k).2 = none := fun k => flush_calm_at s.bs k
        generalize ({ s with bs := flushP s.bs } : St) = s1 at E1 hU1 HC HQ
        have hf : ∀ k, k < 8 → all8 s1 k = seeB (atB s1.bs k) := fun k hk => all8_at hU1.down (by rw [hU1.len]; decide) hk
        obtain ⟨f0, hf0⟩ : ∃ f0, all8 s1 = f0 := ⟨_, rfl⟩
        rw [hf0] at hf
        have HF := flushE hs E1
        replace E1 := Lib.hid E1
        replace hf0 := Lib.hid hf0
        replace hf := Lib.hid hf
        rcases hcond with ⟨hjlz, hj30⟩ | hjlz
        all_goals
          go_wp2_with (first
            | (go_at_call 17; refine HF.mono ?_; rintro e w5 ⟨rfl, hs5, b5⟩)
            | (go_at_call 18; refine (loose_calm hs5 HC).mono ?_; rintro e w6 ⟨rfl, b6⟩; have hs6 := hs5.same b6)
            | (go_at_call 19; refine (show Calls Try.prog 19 #[.pointer (some ⟨p, 0, none⟩)] w6 (RPost (.agg #[.string (f0 0), .string (f0 1), .string (f0 2), .string (f0 3), .string (f0 4), .string (f0 5), .string (f0 6), .string (f0 7)]) w6) from (by have := read8_any hs6; rwa [hf0.out] at this)).mono ?_; rintro e w7 ⟨rfl, b7⟩; have hs7 := hs6.same b7))
          have hO7 := ((hO.step b5).trans (Off.low b6)).trans (Off.low b7)
          obtain ⟨W8, hW8⟩ : ∃ W8, w7.alloc (.cells #[.string (f0 0), .string (f0 1), .string (f0 2), .string (f0 3), .string (f0 4), .string (f0 5), .string (f0 6), .string (f0 7)] 45) = W8 := ⟨_, rfl⟩
          obtain ⟨W9, hW9⟩ : ∃ W9, W8.alloc (.cells #[.bool false, .bool false, .bool false, .bool false, .bool false, .bool false, .bool false, .bool false] 47) = W9 := ⟨_, rfl⟩
          have c8 : Below w7.heap.size w7 W8 := by rw [← hW8]; exact (Below.refl _ _).alloc (Nat.le_refl _) _
          have c9 : Below W8.heap.size W8 W9 := by rw [← hW9]; exact (Below.refl _ _).alloc (Nat.le_refl _) _
          have g8 : w7.heap.size < W8.heap.size := by rw [← hW8]; simp
          have g9 : W8.heap.size < W9.heap.size := by rw [← hW9]; simp
          have k8 : W9.heap[w7.heap.size]? = some (.cells (r8 f0) 45) := by rw [c9.block _ g8, ← hW8]; exact heap_alloc_new _ _
          have k9 : W9.heap[W8.heap.size]? = some (.cells (b8 fun _ => false) 47) := by rw [← hW9]; exact heap_alloc_new _ _
          have hs9 := (hs7.same c8).same c9
          have hO9 := (hO7.trans (Off.low c8)).trans (Off.low c9)
          (try rw [hW8]); (try rw [hW9])
          replace hW8 := Lib.hid hW8
          replace hW9 := Lib.hid hW9
          obtain ⟨l1, l2', l3⟩ : p < w7.heap.size ∧ db < w7.heap.size ∧ mb < w7.heap.size := by obtain ⟨_, _, _, h⟩ := hs7; exact h.lt
          have hb9 := (OW.out _ hO9).1
          have hl9 := (OW.out _ hO9).2
          have hlo : w.heap.size < W9.heap.size := Nat.lt_of_lt_of_le z1 (Nat.le_trans S2 hO9.size)
          have OX := Lib.hid (fun W (hO : Off (Own4 p db mb (w7.heap.size + 1)) W9 W) => (show Below w.heap.size w W ∧ W.heap[w.heap.size]? = some (.cells #[.slice la ln lc, .int .i64 torn, .int .i64 at_] 35) ∧ W.heap[w7.heap.size]? = some (.cells (r8 f0) 45) from
            ⟨hb9.trans (hO.below hb9.size (fun i hi => by rcases hi with rfl | rfl | rfl | rfl <;> omega)), (hO.block _ hlo (by rintro (q | q | q | q) <;> omega)).trans hl9, (hO.block _ (by omega) (by rintro (q | q | q | q) <;> omega)).trans k8⟩))
          have g8e : W8.heap.size = w7.heap.size + 1 := by rw [← hW8.out]; simp
          rw [g8e] at k9 g9
          replace g8e := Lib.hid g8e
          clear hs5 hs6 hs7 b5 b6 b7 c8 c9 hO7 hO9 k8
          go_loopw [11] (fun i wr => ∃ (j : Nat) (s : St) (on : Nat → Bool), i = .int .i64 (j : Int) ∧ j ≤ 30 ∧ Up s ∧ Sl wr p db mb s ∧ wr.heap[(w7.heap.size + 1)]? = some (.cells (b8 on) 47) ∧ Kept8 s1.bs s.bs on ∧ Off (Own4 p db mb (w7.heap.size + 1)) W9 wr)
            (fun i _ => 30 - (intOf i).toNat)
          case atStart => exact ⟨0, s1, _, rfl, by decide, hU1, hs9, k9, fun k _ _ => rfl, Off.refl _ _⟩
          case round =>
            clear hs hO hb hlb hU hin hj
            obtain ⟨j, s, on, rfl, hj, hU, hs, hon, hI, hO⟩ := hrel
            obtain ⟨hb, hlb, hws⟩ := OX.out _ hO
            by_cases hin : j < len2 ∧ j < 30
            · obtain ⟨hjl, hj30'⟩ := hin
              have hjs : j < l2.length := by rw [← hX2.len]; exact hjl
              obtain ⟨xb, off, rfl, hxb, hc⟩ := hX2.cells (Below.refl _ _) hjs
              have hok := hX2.ok _ (List.getElem_mem hjs)
              generalize l2[j] = x at hok hc
              have zl : (j : Int) < (len2 : Int) := by omega
              have z2 : (j : Int) < 30 := by omega
              have o : ∀ W, Below w.heap.size w W → W.cell? ⟨xb, off + j * 6, none⟩ = some (.int .i64 x.kind) ∧ W.cell? ⟨xb, off + j * 6 + 1, none⟩ = some (.int .i64 x.n) ∧ W.cell? ⟨xb, off + j * 6 + 2, none⟩ = some (.string x.s) ∧ W.cell? ⟨xb, off + j * 6 + 3, none⟩ = some (.slice x.ka x.kn x.kc) ∧ W.cell? ⟨xb, off + j * 6 + 4, none⟩ = some (.int .i64 x.torn) ∧ W.cell? ⟨xb, off + j * 6 + 5, none⟩ = some (.int .i64 x.at_) := fun W hB => by
                have q := fun i => hB.cell (p := ⟨xb, off + j * 6 + i, none⟩) hxb
                exact ⟨(q 0).trans hc.1, (q 1).trans hc.2.1, (q 2).trans hc.2.2.1, (q 3).trans hc.2.2.2.1, (q 4).trans hc.2.2.2.2.1, (q 5).trans hc.2.2.2.2.2⟩
              replace o := Lib.hid o
              clear hc
              have HL := Lib.hid (fun W (hB : Below w.heap.size w W) => light_any x W (hok.below hB))
              cases hlx : lightX x with
              | false =>
                rw [hlx] at HL
                go_wp2
                obtain ⟨ι, F, hF, hall⟩ := family wr
                obtain ⟨n0, h0⟩ := hall _ (Below.refl wr.heap.size wr).drew
                haveI : Nonempty ι := ⟨n0⟩
                have hself : ∀ n, ∃ m, F n = F m := fun n => ⟨n, rfl⟩
                have hFb := Lib.hid (fun n => (show Below w.heap.size w (F n) from hb.trans ((hF n).mono hb.size)))
                have x0 := fun n => (o.out (F n) (hFb.out n)).1
                have x1 := fun n => (o.out (F n) (hFb.out n)).2.1
                have x2 := fun n => (o.out (F n) (hFb.out n)).2.2.1
                have x3 := fun n => (o.out (F n) (hFb.out n)).2.2.2.1
                have x4 := fun n => (o.out (F n) (hFb.out n)).2.2.2.2.1
                have x5 := fun n => (o.out (F n) (hFb.out n)).2.2.2.2.2
                have hF' := Lib.hid hF
                have hall' := Lib.hid hall
                clear hF hall
                refine wp_region_clsV F (by kernel_rfl) (by kernel_rfl) n0 h0 ?_
                clear h0
                repeat (go_big_quiet_step ((first | (go_at_call 13; (with_reducible refine (HL.out _ (hFb.out _)).mono ?_); rintro e wz ⟨rfl, hbz⟩; obtain ⟨nz, hz⟩ := hall'.out wz (below_nextS (hF'.out _) hbz); exact ⟨rfl, nz, hz.symm⟩))))
                refine wpQuiet_nil ?_
                intro wq hw'
                obtain ⟨nq, hw''⟩ := hw'
                subst hw''
                have hbq := hF'.out nq
                clear x0 x1 x2 x3 x4 x5 hFb
                generalize F nq = w10 at hbq
                clear hself hF' hall'
                have hs10 := hs.same hbq
                have hO10 : Off (Own4 p db mb (w7.heap.size + 1)) W9 w10 := hO.trans (Off.low hbq)
                have hon10 := (hbq.block _ (Array.getElem?_eq_some_iff.1 hon).1).trans hon
                go_wp2
                go_roundw
                case rel => exact ⟨j + 1, s, on, by go_num, by omega, hU, hs10, hon10, hI, hO10⟩
                case measure => simp [intOf]; omega
              | true =>
                rw [hlx] at HL
                obtain ⟨s', v, hw, hU', hv, hv0, hv1⟩ := hU.writes x.n x.s
                have HW := Lib.hid (fun W (h : Sl W p db mb s) => writeE h hw hok.s)
                replace hw := Lib.hid hw
                obtain ⟨x0, x1, x2, x3, x4, x5⟩ := o.out _ hb
                have HB := Lib.hid hb
                have HSL := Lib.hid hs
                have HO := Lib.hid hO
                clear hb hs hO hlb hws
                have HON := Lib.hid hon
                clear hon
                replace hI := Lib.hid hI
                rcases hv with rfl | rfl
                · obtain ⟨i, hi8, hni, hbs⟩ := hv0 rfl
                  clear hv0 hv1
                  have hin2 : i = x.n.toNat := by omega
                  subst hin2
                  have nlo : 0 ≤ x.n := by omega
                  have nhi : x.n < 8 := by omega
                  clear hni
                  replace hbs := Lib.hid hbs
                  go_wp2
                  (first | go_region_held3 (fun W => W.cell? ⟨xb, off + j * 6, none⟩ = some (.int .i64 x.kind) ∧ W.cell? ⟨xb, off + j * 6 + 1, none⟩ = some (.int .i64 x.n) ∧ W.cell? ⟨xb, off + j * 6 + 2, none⟩ = some (.string x.s) ∧ W.cell? ⟨xb, off + j * 6 + 3, none⟩ = some (.slice x.ka x.kn x.kc) ∧ W.cell? ⟨xb, off + j * 6 + 4, none⟩ = some (.int .i64 x.torn) ∧ W.cell? ⟨xb, off + j * 6 + 5, none⟩ = some (.int .i64 x.at_)) (exact o.out _ (by repeat (first | with_reducible exact HB.out | with_reducible refine lowDrew ?_))) ((first | (go_at_call 13; (with_reducible refine (HL.out _ (by repeat (first | with_reducible exact HB.out | with_reducible refine lowDrew ?_))).mono ?_); rintro e wz ⟨rfl, hbz⟩; have HSL := Lib.hid (show Sl wz p db mb s from Sl.same (by repeat (first | with_reducible exact HSL.out | with_reducible refine Sl.drewR ?_)) hbz); have HO := Lib.hid (show Off (Own4 p db mb (w7.heap.size + 1)) W9 wz from Off.trans (by repeat (first | with_reducible exact HO.out | with_reducible refine Off.drew ?_)) (Off.low hbz)); have HON := Lib.hid (show wz.heap[w7.heap.size + 1]? = some (.cells (b8 on) 47) from (hbz.block _ (Array.getElem?_eq_some_iff.1 HON.out).1).trans HON.out); have HB := Lib.hid (show Below w.heap.size w wz from below_nextS (by repeat (first | with_reducible exact HB.out | with_reducible refine lowDrew ?_)) hbz)) | (go_at_call 16; (with_reducible refine (HW.out _ (by repeat (first | with_reducible exact HSL.out | with_reducible refine Sl.drewR ?_))).mono ?_); rintro e wz ⟨rfl, hsz, hbz⟩; have HO := Lib.hid (show Off (Own4 p db mb (w7.heap.size + 1)) W9 wz from Off.step4 (by repeat (first | with_reducible exact HO.out | with_reducible refine Off.drew ?_)) hbz); have HSL := Lib.hid hsz; have HON := Lib.hid (show wz.heap[w7.heap.size + 1]? = some (.cells (b8 on) 47) from (hbz.block _ (Array.getElem?_eq_some_iff.1 HON.out).1 (by omega) (by omega) (by omega)).trans HON.out); have HB := Lib.hid (show Below w.heap.size w wz from (OX.out _ HO.out).1)))) | fail)
                  all_goals
                    have hs12 := HSL.out
                    have hO12 := HO.out
                    have hon12 := HON.out
                    obtain ⟨v0, v1, v2, v3, v4, v5⟩ := o.out _ HB.out
                    have q1 := (cell_of_row _ _ x.n.toNat _ _ _ hon12).trans (b8_get on hi8)
                    have q2 := frozen_of_row _ _ x.n.toNat _ _ hon12
                    have q3 := heap_setCell_same _ _ x.n.toNat _ _ (.bool true) hon12
                    rw [b8_set on hi8] at q3
                    have hI12 : Kept8 s1.bs s'.bs (fun k => if k = x.n.toNat then true else on k) := by rw [hbs.out]; exact hI.out.give (by rw [hU.len]; exact hi8) x.s
                    clear HSL HO HON
                    go_wp2
                    have hs13 := hs12.setOther hU'.zs (g := w7.heap.size + 1) (by omega) (by omega) (by omega) x.n.toNat (.bool true)
                    have hO13 : Off (Own4 p db mb (w7.heap.size + 1)) W9 (wz.setCell ⟨w7.heap.size + 1, x.n.toNat, none⟩ (.bool true)) := hO12.set (.inl (.inr (.inr (.inr rfl)))) _
                    go_roundw
                    case rel => exact ⟨j + 1, s', _, by go_num, by omega, hU', hs13, q3, hI12, hO13⟩
                    case measure => simp [intOf]; omega
                · have hss := hv1 rfl
                  subst s'
                  clear hv0 hv1
                  go_wp2
                  (first | go_region_held3 (fun W => W.cell? ⟨xb, off + j * 6, none⟩ = some (.int .i64 x.kind) ∧ W.cell? ⟨xb, off + j * 6 + 1, none⟩ = some (.int .i64 x.n) ∧ W.cell? ⟨xb, off + j * 6 + 2, none⟩ = some (.string x.s) ∧ W.cell? ⟨xb, off + j * 6 + 3, none⟩ = some (.slice x.ka x.kn x.kc) ∧ W.cell? ⟨xb, off + j * 6 + 4, none⟩ = some (.int .i64 x.torn) ∧ W.cell? ⟨xb, off + j * 6 + 5, none⟩ = some (.int .i64 x.at_)) (exact o.out _ (by repeat (first | with_reducible exact HB.out | with_reducible refine lowDrew ?_))) ((first | (go_at_call 13; (with_reducible refine (HL.out _ (by repeat (first | with_reducible exact HB.out | with_reducible refine lowDrew ?_))).mono ?_); rintro e wz ⟨rfl, hbz⟩; have HSL := Lib.hid (show Sl wz p db mb s from Sl.same (by repeat (first | with_reducible exact HSL.out | with_reducible refine Sl.drewR ?_)) hbz); have HO := Lib.hid (show Off (Own4 p db mb (w7.heap.size + 1)) W9 wz from Off.trans (by repeat (first | with_reducible exact HO.out | with_reducible refine Off.drew ?_)) (Off.low hbz)); have HON := Lib.hid (show wz.heap[w7.heap.size + 1]? = some (.cells (b8 on) 47) from (hbz.block _ (Array.getElem?_eq_some_iff.1 HON.out).1).trans HON.out); have HB := Lib.hid (show Below w.heap.size w wz from below_nextS (by repeat (first | with_reducible exact HB.out | with_reducible refine lowDrew ?_)) hbz)) | (go_at_call 16; (with_reducible refine (HW.out _ (by repeat (first | with_reducible exact HSL.out | with_reducible refine Sl.drewR ?_))).mono ?_); rintro e wz ⟨rfl, hsz, hbz⟩; have HO := Lib.hid (show Off (Own4 p db mb (w7.heap.size + 1)) W9 wz from Off.step4 (by repeat (first | with_reducible exact HO.out | with_reducible refine Off.drew ?_)) hbz); have HSL := Lib.hid hsz; have HON := Lib.hid (show wz.heap[w7.heap.size + 1]? = some (.cells (b8 on) 47) from (hbz.block _ (Array.getElem?_eq_some_iff.1 HON.out).1 (by omega) (by omega) (by omega)).trans HON.out); have HB := Lib.hid (show Below w.heap.size w wz from (OX.out _ HO.out).1)))) | fail)
                  all_goals
                    have hs12 := HSL.out
                    have hO12 := HO.out
                    have hon12 := HON.out
                    clear HSL HO HON
                    go_wp2
                    go_roundw
                    case rel => exact ⟨j + 1, s, on, by go_num, by omega, hU, hs12, hon12, hI.out, hO12⟩
                    case measure => simp [intOf]; omega
            · have hcond : ((j : Int) < (len2 : Int) ∧ ¬ ((j : Int) < 30)) ∨ ¬ ((j : Int) < (len2 : Int)) := by omega
              have krl := hK.krow hb (p := p) (db := db) (mb := mb) (by have := B1.size; omega) (by have := B1.size; omega) (by have := B1.size; omega)
              obtain ⟨s6, hs6⟩ : ∃ s6, failS s zs torn at_ = s6 := ⟨_, rfl⟩
              obtain ⟨s7, hs7⟩ : ∃ s7, wakeS s6 = s7 := ⟨_, rfl⟩
              obtain ⟨f1, hf1⟩ : ∃ f1, all8 s7 = f1 := ⟨_, rfl⟩
              have hEq : ∀ k, k < 8 → on k = false → f1 k = f0 k := fun k hk ho => by
                rw [← hf1, ← hs7, ← hs6, sure_end hU hI HQ zs torn at_ hk ho, hf.out k hk]
              have HFa := failE hs krl hto hs6
              obtain ⟨y0, y1, y2⟩ := three_of hlb
              replace hs6 := Lib.hid hs6
              replace hs7 := Lib.hid hs7
              replace hf1 := Lib.hid hf1
              replace hEq := Lib.hid hEq
              rcases hcond with ⟨hjlz2, hj302⟩ | hjlz2
              all_goals
                go_wp2_with (first
                  | (go_at_call 20; refine HFa.mono ?_; rintro e w11 ⟨rfl, hs11, b11⟩)
                  | (go_at_call 21; refine (wakeE hs11 hs7.out).mono ?_; rintro e w12 ⟨rfl, hs12, b12'⟩)
                  | (go_at_call 19; refine (show Calls Try.prog 19 #[.pointer (some ⟨p, 0, none⟩)] w12 (RPost (.agg #[.string (f1 0), .string (f1 1), .string (f1 2), .string (f1 3), .string (f1 4), .string (f1 5), .string (f1 6), .string (f1 7)]) w12) from (by have := read8_any hs12; rwa [hf1.out] at this)).mono ?_; rintro e w13 ⟨rfl, b13⟩))
                have hO13 := ((hO.step4 b11).step4 b12').trans (Off.low b13)
                have hon11 := ((b11.trans b12').block _ (Array.getElem?_eq_some_iff.1 hon).1 (by omega) (by omega) (by omega)).trans hon
                have hon13 := (b13.block _ (Array.getElem?_eq_some_iff.1 hon11).1).trans hon11
                have hws13 := (OX.out _ hO13).2.2
                have hb13 := (OX.out _ hO13).1
                obtain ⟨W14, hW14⟩ : ∃ W14, w13.alloc (.cells #[.string (f1 0), .string (f1 1), .string (f1 2), .string (f1 3), .string (f1 4), .string (f1 5), .string (f1 6), .string (f1 7)] 45) = W14 := ⟨_, rfl⟩
                have b14 : Below w13.heap.size w13 W14 := by rw [← hW14]; exact (Below.refl _ _).alloc (Nat.le_refl _) _
                have hn14 : W14.heap[w13.heap.size]? = some (.cells (r8 f1) 45) := by rw [← hW14]; exact heap_alloc_new _ _
                have z14 : w13.heap.size < W14.heap.size := by rw [← hW14]; simp
                have hon14 := (b14.block _ (Array.getElem?_eq_some_iff.1 hon13).1).trans hon13
                have hws14 := (b14.block _ (Array.getElem?_eq_some_iff.1 hws13).1).trans hws13
                have hb14 : Below w.heap.size w W14 := hb13.trans (b14.mono hb13.size)
                have q1 := (Array.getElem?_eq_some_iff.1 hon14).1
                have q2 := (Array.getElem?_eq_some_iff.1 hws14).1
                (try rw [hW14])
                replace hW14 := Lib.hid hW14
                go_loopw [13] (fun i wr => ∃ (j : Nat), i = .int .i64 (j : Int) ∧ j ≤ 8 ∧ Below W14.heap.size W14 wr)
                  (fun i _ => 8 - (intOf i).toNat)
                case atStart => exact ⟨0, rfl, by decide, Below.refl _ _⟩
                case round =>
                  clear hs hb hj hin
                  obtain ⟨j, rfl, hj, hb⟩ := hrel
                  by_cases hlt : j < 8
                  · have hltz : (j : Int) < 8 := by omega
                    have m1 := (cell_of_row _ _ j _ _ _ ((hb.block _ q1).trans hon14)).trans (b8_get on hlt)
                    have m2 := (cell_of_row _ _ j _ _ _ ((hb.block _ z14).trans hn14)).trans (r8_get f1 hlt)
                    have m3 := (cell_of_row _ _ j _ _ _ ((hb.block _ q2).trans hws14)).trans (r8_get f0 hlt)
                    cases hoj : on j with
                    | true =>
                      rw [hoj] at m1
                      go_wp2
                      go_quiet (fail)
                      go_wp2
                      have hb' : Below W14.heap.size W14 (wr.drewN nq) := hb.trans ((below_refl_drewN wr nq).mono hb.size)
                      go_roundw
                      case rel => exact ⟨j + 1, by go_num, by omega, hb'⟩
                      case measure => simp [intOf]; omega
                    | false =>
                      rw [hoj] at m1
                      rw [hEq.out j hlt hoj] at m2
                      generalize f0 j = tj at m2 m3
                      go_wp2
                      go_quiet (fail)
                      go_wp2
                      have hb' : Below W14.heap.size W14 (wr.drewN nq) := hb.trans ((below_refl_drewN wr nq).mono hb.size)
                      go_roundw
                      case rel => exact ⟨j + 1, by go_num, by omega, hb'⟩
                      case measure => simp [intOf]; omega
                  · have hj8 : ¬ ((j : Int) < 8) := by omega
                    go_wp2
                    go_ret
                    exact ⟨rfl, hb14.trans (hb.mono hb14.size)⟩
end Go.Proofs.Ythcebcpippbhfaa
