/-
  CONTRACT of table.Apply.
-/
import Derived.Test.YtfnjadiibiedgaaTabG
namespace Go.Proofs.Ytfnjadiibiedgaa
open Go.RowKit Go.Shelf Go.Lib

theorem move_pos {c s k : Int} {ps : List Sp} {lo hi old : Int} (hc : chkM c s k ps lo hi old = true) (k2 : k ≠ 2) : okPs ps = true ∧ (k = 5 → ∀ j, j < ps.length → 0 ≤ (ps.getD j (0, 0)).2) := by
  rcases fits_cases (chkM_and hc).2.2.2 with ⟨k1, ho, _⟩ | ⟨h2, _⟩ | ⟨h, p, rfl, hp⟩ | ⟨h5, p, q, rfl, hp, hq, _, hpq, h0⟩
  · exact ⟨ho, fun h => by omega⟩
  · exact absurd h2 k2
  · exact ⟨by simp [okPs, hp], fun h => by omega⟩
  · refine ⟨by simp [okPs, hp, hq], fun _ j hj => ?_⟩
    match j, hj with
    | 0, _ => exact h0
    | 1, _ => show 0 ≤ q.2; omega
theorem tab_step {k old : Int} {i : Nat} {p : Sp} {l : List Sp} {v : Int} (hp : okP p = true) (h5 : k = 5 → 0 ≤ p.2) (hl : tblB l = true) (h : nextV k old i p (getT l p.1) = some v) : tblB (putT l p.1 v) = true := by
  have hb := okP_bd hp
  exact tblF_put l (-1) p.1 v hl (by omega) (by omega) (nextV_val ((isVal_iff p.2).2 hb.2) h5 (getT_val hl) h)
/-- What Apply answers. -/
def AppPost (r : List Sp × Bool) (w : World) (e : Ending) (w' : World) : Prop := ∃ v, e = .returned (.tuple #[v, .bool r.2]) ∧ OwnsP 90 w' w.heap.size v r.1 ∧ Below w.heap.size w w'
theorem appP_cons (k old : Int) (on : List Sp) (i : Nat) (p : Sp) (t l : List Sp) : appP k old on i (p :: t) l = if hasB on p.1 = true then (match nextV k old i p (getT l p.1) with | none => (l, false) | some v => appP k old on (i + 1) t (putT l p.1 v)) else appP k old on (i + 1) t l := rfl

set_option maxRecDepth 100000 in
set_option maxHeartbeats 2000000 in
theorem apply_bad (a : Option Addr) (n cp : Nat) (l : List Sp) (c s k : Int) (a2 : Option Addr) (n2 cp2 : Nat) (ps : List Sp) (lo hi old : Int) (a3 : Option Addr) (n3 cp3 : Nat) (on : List Sp) (w : World) (hL : Arg w a n cp l) (hA : Arg w a2 n2 cp2 ps) (ho : Arg w a3 n3 cp3 on)
    (hbad : tblB l = false ∨ (tblB l = true ∧ chkM c s k ps lo hi old = false) ∨ (tblB l = true ∧ chkM c s k ps lo hi old = true ∧ chkB on = false)) :
    Calls Try.prog 43 #[.slice a n cp, .agg #[.int .i64 c, .int .i64 s, .int .i64 k, .slice a2 n2 cp2, .int .i64 lo, .int .i64 hi, .int .i64 old], .slice a3 n3 cp3] w (AppPost ([], false) w) := by
  obtain ⟨W1, hW1⟩ : ∃ W1, (w.alloc (.cells #[.int .i64 c, .int .i64 s, .int .i64 k, .slice a2 n2 cp2, .int .i64 lo, .int .i64 hi, .int .i64 old] 26)) = W1 := ⟨_, rfl⟩
  have K7 := Lib.hid (fun W (h : Below W1.heap.size W1 W) => box7 (w := w) (t := 26) (v0 := .int .i64 c) (v1 := .int .i64 s) (v2 := .int .i64 k) (v3 := .slice a2 n2 cp2) (v4 := .int .i64 lo) (v5 := .int .i64 hi) (v6 := .int .i64 old) (w' := W) (by rw [hW1]; exact h))
  have bw : Below w.heap.size w W1 := by rw [← hW1]; exact (Below.refl _ _).alloc (Nat.le_refl _) _
  have CT := Lib.hid (fun W (h : Below w.heap.size w W) => tcheck_any a n cp l W (hL.below h))
  have CC := Lib.hid (fun W (h : Below w.heap.size w W) => mcheck_any c s k a2 n2 cp2 ps lo hi old W (hA.below h))
  have CS := Lib.hid (fun W (h : Below w.heap.size w W) => check_arg on a3 n3 cp3 W (ho.below h))
  clear hL hA ho
  rcases hbad with h1 | ⟨h1, h2⟩ | ⟨h1, h2, h3⟩
  · replace h1 := Lib.hid h1
    go_enter Try.func43, Try.ntmps43
    go_wp2_with (go_at_call 42; (with_reducible refine (CT.out _ bw).mono ?_); rw [h1.out]; rintro e w2 ⟨rfl, b2⟩)
    go_ret2
    exact ⟨_, rfl, OwnsP.nil _ _ _, below_next bw b2⟩
  · replace h1 := Lib.hid h1
    replace h2 := Lib.hid h2
    go_enter Try.func43, Try.ntmps43
    go_wp2_with (first | (go_at_call 42; (with_reducible refine (CT.out _ bw).mono ?_); rw [h1.out]; rintro e w2 ⟨rfl, b2⟩; obtain ⟨z0, z1, z2, z3, z4, z5, z6⟩ := K7.out _ b2; have b02 := below_next bw b2) | (go_at_call 32; (with_reducible refine (CC.out _ b02).mono ?_); rw [h2.out]; rintro e w3 ⟨rfl, b3⟩))
    go_ret2
    exact ⟨_, rfl, OwnsP.nil _ _ _, below_next b02 b3⟩
  · replace h1 := Lib.hid h1
    replace h2 := Lib.hid h2
    replace h3 := Lib.hid h3
    go_enter Try.func43, Try.ntmps43
    go_wp2_with (first | (go_at_call 42; (with_reducible refine (CT.out _ bw).mono ?_); rw [h1.out]; rintro e w2 ⟨rfl, b2⟩; obtain ⟨z0, z1, z2, z3, z4, z5, z6⟩ := K7.out _ b2; have b02 := below_next bw b2) | (go_at_call 32; (with_reducible refine (CC.out _ b02).mono ?_); rw [h2.out]; rintro e w3 ⟨rfl, b3⟩; have b03 := below_next b02 b3) | (go_at_call 19; (with_reducible refine (CS.out _ b03).mono ?_); rw [h3.out]; rintro e w4 ⟨rfl, b4⟩))
    go_ret2
    exact ⟨_, rfl, OwnsP.nil _ _ _, below_next b03 b4⟩

set_option maxRecDepth 100000 in
set_option maxHeartbeats 2000000 in
theorem apply_del (a : Option Addr) (n cp : Nat) (l : List Sp) (c s : Int) (a2 : Option Addr) (n2 cp2 : Nat) (ps : List Sp) (lo hi old : Int) (a3 : Option Addr) (n3 cp3 : Nat) (on : List Sp) (w : World) (hL : Arg w a n cp l) (hA : Arg w a2 n2 cp2 ps) (ho : Arg w a3 n3 cp3 on)
    (ht : tblB l = true) (hc : chkM c s 2 ps lo hi old = true) (hon : chkB on = true) :
    Calls Try.prog 43 #[.slice a n cp, .agg #[.int .i64 c, .int .i64 s, .int .i64 2, .slice a2 n2 cp2, .int .i64 lo, .int .i64 hi, .int .i64 old], .slice a3 n3 cp3] w (AppPost (l.filter (fun p => !(inB (lo, hi) p.1 && hasB on p.1)), true) w) := by
  have hone : oneB (lo, hi) = true := by
    rcases fits_kind (chkM_and hc).2.2.2 with h | h
    · exact h.2.2
    · omega
  have hle := tbl_le ht
  obtain ⟨W1, hW1⟩ : ∃ W1, (w.alloc (.cells #[.int .i64 c, .int .i64 s, .int .i64 2, .slice a2 n2 cp2, .int .i64 lo, .int .i64 hi, .int .i64 old] 26)) = W1 := ⟨_, rfl⟩
  have K7 := Lib.hid (fun W (h : Below W1.heap.size W1 W) => box7 (w := w) (t := 26) (v0 := .int .i64 c) (v1 := .int .i64 s) (v2 := .int .i64 2) (v3 := .slice a2 n2 cp2) (v4 := .int .i64 lo) (v5 := .int .i64 hi) (v6 := .int .i64 old) (w' := W) (by rw [hW1]; exact h))
  have bw : Below w.heap.size w W1 := by rw [← hW1]; exact (Below.refl _ _).alloc (Nat.le_refl _) _
  have CT := Lib.hid (fun W (h : Below w.heap.size w W) => tcheck_any a n cp l W (hL.below h))
  have CC := Lib.hid (fun W (h : Below w.heap.size w W) => mcheck_any c s 2 a2 n2 cp2 ps lo hi old W (hA.below h))
  have CS := Lib.hid (fun W (h : Below w.heap.size w W) => check_arg on a3 n3 cp3 W (ho.below h))
  have CW := Lib.hid (fun W (h : Below w.heap.size w W) => without_any a n cp l lo hi a3 n3 cp3 on W (hL.below h) (ho.below h) (by omega) hone hon)
  have h1 := Lib.hid ht
  have h2 := Lib.hid hc
  have h3 := Lib.hid hon
  clear hL hA ho ht hc hon hone
  go_enter Try.func43, Try.ntmps43
  go_wp2_with (first | (go_at_call 42; (with_reducible refine (CT.out _ bw).mono ?_); rw [h1.out]; rintro e w2 ⟨rfl, b2⟩; obtain ⟨z0, z1, z2, z3, z4, z5, z6⟩ := K7.out _ b2; have b02 := below_next bw b2) | (go_at_call 32; (with_reducible refine (CC.out _ b02).mono ?_); rw [h2.out]; rintro e w3 ⟨rfl, b3⟩; have b03 := below_next b02 b3; have b13 := below_next b2 b3) | (go_at_call 19; (with_reducible refine (CS.out _ b03).mono ?_); rw [h3.out]; rintro e w4 ⟨rfl, b4⟩; have b04 := below_next b03 b4; obtain ⟨z0, z1, z2, z3, z4, z5, z6⟩ := K7.out _ (below_next b13 b4)) | (go_at_call 82; (with_reducible refine (CW.out _ b04).mono ?_); rintro e w5 ⟨v5, rfl, o5, b5⟩))
  go_ret2
  exact ⟨_, rfl, o5.base_le b04.size, below_next b04 b5⟩

set_option maxRecDepth 100000 in
set_option maxHeartbeats 4000000 in
theorem apply_pairs (a : Option Addr) (n cp : Nat) (l : List Sp) (c s k : Int) (a2 : Option Addr) (n2 cp2 : Nat) (ps : List Sp) (lo hi old : Int) (a3 : Option Addr) (n3 cp3 : Nat) (on : List Sp) (w : World) (hL : Arg w a n cp l) (hA : Arg w a2 n2 cp2 ps) (ho : Arg w a3 n3 cp3 on)
    (ht : tblB l = true) (hc : chkM c s k ps lo hi old = true) (hon : chkB on = true) (hk2 : k ≠ 2) :
    Calls Try.prog 43 #[.slice a n cp, .agg #[.int .i64 c, .int .i64 s, .int .i64 k, .slice a2 n2 cp2, .int .i64 lo, .int .i64 hi, .int .i64 old], .slice a3 n3 cp3] w (AppPost (appP k old on 0 ps l) w) := by
  have hle := tbl_le ht
  obtain ⟨hok, h5⟩ := move_pos hc hk2
  have hn2 := hA.1
  have hz2 : (n2 : Int) ≤ 9223372036854775807 := by have := hA.2.1; omega
  have hkn : (k == 2) = false := by simpa using hk2
  obtain ⟨W1, hW1⟩ : ∃ W1, (w.alloc (.cells #[.int .i64 c, .int .i64 s, .int .i64 k, .slice a2 n2 cp2, .int .i64 lo, .int .i64 hi, .int .i64 old] 26)) = W1 := ⟨_, rfl⟩
  have K7 := Lib.hid (fun W (h : Below W1.heap.size W1 W) => box7 (w := w) (t := 26) (v0 := .int .i64 c) (v1 := .int .i64 s) (v2 := .int .i64 k) (v3 := .slice a2 n2 cp2) (v4 := .int .i64 lo) (v5 := .int .i64 hi) (v6 := .int .i64 old) (w' := W) (by rw [hW1]; exact h))
  have bw : Below w.heap.size w W1 := by rw [← hW1]; exact (Below.refl _ _).alloc (Nat.le_refl _) _
  have s1 : w.heap.size ≤ W1.heap.size := bw.size
  have CT := Lib.hid (fun W (h : Below w.heap.size w W) => tcheck_any a n cp l W (hL.below h))
  have CC := Lib.hid (fun W (h : Below w.heap.size w W) => mcheck_any c s k a2 n2 cp2 ps lo hi old W (hA.below h))
  have CS := Lib.hid (fun W (h : Below w.heap.size w W) => check_arg on a3 n3 cp3 W (ho.below h))
  have CL := Lib.hid (fun W (h : Below w.heap.size w W) => clonePair_any a n cp l W (by omega) (hL.below h))
  have CH := Lib.hid (fun W x (h : Below w.heap.size w W) => has_arg on x a3 n3 cp3 W (ho.below h))
  have CN := Lib.hid (fun W a' n' cp' cur i (h : Below w.heap.size w W) (hcur : Arg W a' n' cp' cur) (htc : tblB cur = true) (hij : i < n2) => next_any a' n' cp' cur c s k a2 n2 cp2 ps lo hi old i W hcur (hA.below h) htc hij (okPs_get hok (by omega)) (fun e => h5 e i (by omega)))
  have HA := Lib.hid hA
  have h1 := Lib.hid ht
  have h2 := Lib.hid hc
  have h3 := Lib.hid hon
  have HOK := Lib.hid hok
  have H5 := Lib.hid h5
  obtain ⟨R, hR⟩ : ∃ R, appP k old on 0 ps l = R := ⟨_, rfl⟩
  rw [hR]
  have H0 := Lib.hid (show appP k old on 0 (ps.drop 0) l = R from hR)
  replace hn2 := Lib.hid hn2
  clear hL hA ho ht hc hon hok h5 hR hk2
  go_enter Try.func43, Try.ntmps43
  go_wp2_with (first | (go_at_call 42; (with_reducible refine (CT.out _ bw).mono ?_); rw [h1.out]; rintro e w2 ⟨rfl, b2⟩; obtain ⟨z0, z1, z2, z3, z4, z5, z6⟩ := K7.out _ b2; have b02 := below_next bw b2) | (go_at_call 32; (with_reducible refine (CC.out _ b02).mono ?_); rw [h2.out]; rintro e w3 ⟨rfl, b3⟩; have b03 := below_next b02 b3; have b13 := below_next b2 b3) | (go_at_call 19; (with_reducible refine (CS.out _ b03).mono ?_); rw [h3.out]; rintro e w4 ⟨rfl, b4⟩; have b04 := below_next b03 b4; have b14 := below_next b13 b4; obtain ⟨z0, z1, z2, z3, z4, z5, z6⟩ := K7.out _ b14) | (go_at_call 83; (with_reducible refine (CL.out _ b04).mono ?_); rintro e w5 ⟨v5, rfl, o5, b5⟩; have b15 := below_next b14 b5; obtain ⟨z0, z1, z2, z3, z4, z5, z6⟩ := K7.out _ b15; replace o5 := Lib.hid (o5.base_le b14.size)))
  clear z0 z1 z2 z3 z4 z5 z6
  replace hW1 := Lib.hid hW1
  go_loopw [6, 8, 9, 10, 11, 38] (fun v _ _ _ _ i wr => ∃ (j : Nat) (cur : List Sp), i = .int .i64 (j : Int) ∧ j ≤ n2 ∧ Hid (tblB cur = true ∧ appP k old on j (ps.drop j) cur = R) ∧ Hid (OwnsP 90 wr W1.heap.size v cur) ∧ Hid (Below W1.heap.size W1 wr))
    (fun _ _ _ _ _ i _ => n2 - (intOf i).toNat)
  case atStart => exact ⟨0, l, rfl, Nat.zero_le _, Lib.hid ⟨h1.out, H0.out⟩, o5, Lib.hid b15⟩
  case round =>
    obtain ⟨j, cur, rfl, hj, HI, HO, HB⟩ := hrel
    have bwr : Below w.heap.size w wr := bw.trans (HB.out.mono s1)
    have hsw := HB.out.size
    by_cases hlt : j < n2
    · have hjl : j < ps.length := by rw [← hn2.out]; exact hlt
      have hjz : (j : Int) < (n2 : Int) := by omega
      obtain ⟨b, off, e, hb, c0, c1⟩ := (HA.out.2.2.2.2.below bwr) j hjl
      subst e
      obtain ⟨p, hp⟩ : ∃ p, ps.getD j (0, 0) = p := ⟨_, rfl⟩
      have hokp := okPs_get HOK.out hjl
      have h5p := fun e => H5.out e j hjl
      have hnext := HI.out.2
      rw [drop_more hjl, hp, appP_cons] at hnext
      rw [hp] at c0 c1 hokp h5p
      replace hp := Lib.hid hp
      obtain ⟨x, y⟩ := p
      dsimp only at c0 c1 hnext
      obtain ⟨Wb, hWb⟩ : ∃ Wb, wr.alloc (.cells #[.int .i64 x, .int .i64 y] 90) = Wb := ⟨_, rfl⟩
      have bb : Below wr.heap.size wr Wb := by rw [← hWb]; exact (Below.refl _ _).alloc (Nat.le_refl _) _
      have d0 : Wb.cell? ⟨wr.heap.size, 0, none⟩ = some (.int .i64 x) := by rw [← hWb]; simp
      have hsb : wr.heap.size < Wb.heap.size := by rw [← hWb]; simp
      have bwb := below_next bwr bb
      have b1b : Below W1.heap.size W1 Wb := HB.out.trans (bb.mono hsw)
      cases hx : hasB on x
      · rw [hx, if_neg (by simp)] at hnext
        have HN := Lib.hid hnext
        have hxh := Lib.hid hx
        clear hnext hx
        go_wp2_with (go_at_call 20; (with_reducible refine (CH.out _ x bwb).mono ?_); rw [hxh.out]; rintro e w6 ⟨rfl, b6⟩)
        go_roundw
        case rel => exact ⟨j + 1, cur, by go_num, by omega, Lib.hid ⟨HI.out.1, HN.out⟩, Lib.hid (HO.out.below (bb.trans (b6.mono bb.size))), Lib.hid (below_next b1b b6)⟩
        case measure => simp [intOf]; omega
      · rw [hx, if_pos rfl] at hnext
        obtain ⟨a', cp', hv', _⟩ := HO.out.arg
        obtain ⟨n', hn'⟩ : ∃ n', cur.length = n' := ⟨_, rfl⟩
        rw [hn'] at hv'
        subst hv'
        replace hn' := Lib.hid hn'
        have HAC := Lib.hid (fun W (h : Below wr.heap.size wr W) => Arg.of_own (HO.out.below h) hn'.out.symm)
        have hxh := Lib.hid hx
        obtain ⟨q, hq⟩ : ∃ q, nextV k old j (x, y) (getT cur x) = q := ⟨_, rfl⟩
        rw [hq] at hnext
        have CN1 := fun W (h : Below w.heap.size w W) (hcur : Arg W a' n' cp' cur) => CN.out W a' n' cp' cur j h hcur HI.out.1 hlt
        rw [hp.out] at CN1
        dsimp only at CN1
        rw [hq] at CN1
        replace CN1 := Lib.hid CN1
        have hWb' := Lib.hid hWb
        cases q with
        | none =>
          have hRR := Lib.hid (show R = (cur, false) from hnext.symm)
          clear hnext hx hq
          go_wp2_with (first | (go_at_call 20; (with_reducible refine (CH.out _ x bwb).mono ?_); rw [hxh.out]; rintro e w6 ⟨rfl, b6⟩; have bw6 := below_next bwb b6; have b16 := below_next b1b b6; have br6 := below_next bb b6; obtain ⟨z0, z1, z2, z3, z4, z5, z6⟩ := K7.out _ b16) | (go_at_call 84; (with_reducible refine (CN1.out _ bw6 (HAC.out _ br6)).mono ?_); rintro e w7 ⟨v7, d7, rfl, h7, b7⟩; have hd7 : d7 = false := (by cases d7; rfl; simp at h7); subst hd7))
          go_ret2
          exact ⟨_, by rw [hRR.out]; rfl, by rw [hRR.out]; exact (HO.out.below (below_next br6 b7)).base_le s1, below_next bw6 b7⟩
        | some u =>
          have HN := Lib.hid (show appP k old on (j + 1) (ps.drop (j + 1)) (putT cur x u) = R from hnext)
          have HT := Lib.hid (tab_step hokp h5p HI.out.1 hq)
          dsimp only at HT
          clear hnext hx hq
          go_wp2_with (first | (go_at_call 20; (with_reducible refine (CH.out _ x bwb).mono ?_); rw [hxh.out]; rintro e w6 ⟨rfl, b6⟩; have bw6 := below_next bwb b6; have b16 := below_next b1b b6; have br6 := below_next bb b6; obtain ⟨z0, z1, z2, z3, z4, z5, z6⟩ := K7.out _ b16) | (go_at_call 84; (with_reducible refine (CN1.out _ bw6 (HAC.out _ br6)).mono ?_); rintro e w7 ⟨v7, d7, rfl, h7, b7⟩; obtain ⟨hd7, hv7⟩ : d7 = true ∧ v7 = u := (by cases d7; simp at h7; simpa using h7); subst hd7; subst hv7; have br7 := below_next br6 b7; have d1 := ((below_next b6 b7).cell (p := ⟨wr.heap.size, 0, none⟩) hsb).trans d0; have hs7 := br7.size) | (go_at_call 85; (with_reducible refine (with_any _ W1.heap.size cur x v7 w7 HI.out.1 (by omega) (HO.out.below br7)).mono ?_); rintro e w8 ⟨v8, rfl, o8, b8⟩; replace o8 := Lib.hid o8))
          go_roundw
          case rel => exact ⟨j + 1, _, by go_num, by omega, Lib.hid ⟨HT.out, HN.out⟩, o8, Lib.hid ((b16.trans (b7.mono b16.size)).trans b8)⟩
          case measure => simp [intOf]; omega
    · have hjz : ¬ (j : Int) < (n2 : Int) := by omega
      have hRR := Lib.hid (show R = (cur, true) by
        have := HI.out.2
        rw [List.drop_eq_nil_of_le (by rw [← hn2.out]; omega)] at this
        exact this.symm)
      obtain ⟨a', cp', hv', _⟩ := HO.out.arg
      subst hv'
      go_wp2
      go_ret2
      exact ⟨_, by rw [hRR.out]; rfl, by rw [hRR.out]; exact HO.out.base_le s1, bwr⟩

theorem apply_any (a : Option Addr) (n cp : Nat) (l : List Sp) (c s k : Int) (a2 : Option Addr) (n2 cp2 : Nat) (ps : List Sp) (lo hi old : Int) (a3 : Option Addr) (n3 cp3 : Nat) (on : List Sp) (w : World) (hL : Arg w a n cp l) (hA : Arg w a2 n2 cp2 ps) (ho : Arg w a3 n3 cp3 on) :
    Calls Try.prog 43 #[.slice a n cp, .agg #[.int .i64 c, .int .i64 s, .int .i64 k, .slice a2 n2 cp2, .int .i64 lo, .int .i64 hi, .int .i64 old], .slice a3 n3 cp3] w (AppPost (applyP l c s k ps lo hi old on) w) := by
  cases ht : tblB l
  · rw [show applyP l c s k ps lo hi old on = ([], false) from if_neg (by rw [ht]; simp)]
    exact apply_bad a n cp l c s k a2 n2 cp2 ps lo hi old a3 n3 cp3 on w hL hA ho (.inl ht)
  · cases hc : chkM c s k ps lo hi old
    · rw [show applyP l c s k ps lo hi old on = ([], false) from if_neg (by rw [hc]; simp)]
      exact apply_bad a n cp l c s k a2 n2 cp2 ps lo hi old a3 n3 cp3 on w hL hA ho (.inr (.inl ⟨ht, hc⟩))
    · cases hon : chkB on
      · rw [show applyP l c s k ps lo hi old on = ([], false) from if_neg (by rw [hon]; simp)]
        exact apply_bad a n cp l c s k a2 n2 cp2 ps lo hi old a3 n3 cp3 on w hL hA ho (.inr (.inr ⟨ht, hc, hon⟩))
      · rw [show applyP l c s k ps lo hi old on = appT l k ps lo hi old on from if_pos ⟨ht, hc, hon⟩]
        by_cases hk : k = 2
        · subst hk
          exact apply_del a n cp l c s a2 n2 cp2 ps lo hi old a3 n3 cp3 on w hL hA ho ht hc hon
        · rw [show appT l k ps lo hi old on = appP k old on 0 ps l from if_neg hk]
          exact apply_pairs a n cp l c s k a2 n2 cp2 ps lo hi old a3 n3 cp3 on w hL hA ho ht hc hon hk
end Go.Proofs.Ytfnjadiibiedgaa
