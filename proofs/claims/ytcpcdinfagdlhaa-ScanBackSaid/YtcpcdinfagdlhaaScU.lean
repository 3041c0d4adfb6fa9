/-
  CONTRACTS of scan.Text, readSpans, Read.
-/
import Derived.Test.YtcpcdinfagdlhaaScT
import Derived.Lib.MinMax
namespace Go.Proofs.Ytcpcdinfagdlhaa
open Go.RowKit Go.Shelf Go.ChangeShapes Go.WideShapes Go.Deep

theorem toDU {B : Nat} {a X : World} (h : Below B a X) : Below B a X.drew := ⟨h.os, h.tape, h.output, h.size, h.block⟩
theorem c3S {W : World} {b : Nat} {x y z : Value} {t : TypeId} (h : W.heap[b]? = some (.cells #[x, y, z] t)) : W.cell? ⟨b, 0, none⟩ = some x ∧ W.cell? ⟨b, 1, none⟩ = some y ∧ W.cell? ⟨b, 2, none⟩ = some z :=
  ⟨cell_of_row _ _ 0 _ _ _ h, cell_of_row _ _ 1 _ _ _ h, cell_of_row _ _ 2 _ _ _ h⟩
theorem f3S {W : World} {b : Nat} {x y z : Value} {t : TypeId} (h : W.heap[b]? = some (.cells #[x, y, z] t)) : W.frozen? ⟨b, 0, none⟩ = false ∧ W.frozen? ⟨b, 1, none⟩ = false ∧ W.frozen? ⟨b, 2, none⟩ = false :=
  ⟨frozen_of_row _ _ 0 _ _ h, frozen_of_row _ _ 1 _ _ h, frozen_of_row _ _ 2 _ _ h⟩
theorem spsT_drop {l : List Sp} {j : Nat} (h : j < l.length) : spsT (l.drop j) = spT (l.getD j (0, 0)) ++ spsT (l.drop (j + 1)) := by rw [drop_more h]; rfl
set_option maxRecDepth 100000 in
set_option maxHeartbeats 4000000 in
theorem stext_any (on : List Sp) (af lim : Int) (a : Option Addr) (n c : Nat) (w : World) (h : Arg w a n c on) :
    Calls Try.prog 49 #[.agg #[.slice a n c, .int .i64 af, .int .i64 lim]] w (Gives w (.string (ofK (textK on af lim)))) := by
  obtain ⟨W1, hW1⟩ : ∃ W1, w.alloc (.cells #[.slice a n c, .int .i64 af, .int .i64 lim] 69) = W1 := ⟨_, rfl⟩
  have bw : Below w.heap.size w W1 := by rw [← hW1]; exact (Below.refl _ _).alloc (Nat.le_refl _) _
  have g1 : w.heap.size < W1.heap.size := by rw [← hW1]; simp
  have hr1 : W1.heap[w.heap.size]? = some (.cells #[.slice a n c, .int .i64 af, .int .i64 lim] 69) := by rw [← hW1]; exact heap_alloc_new _ _
  obtain ⟨q0, q1, q2⟩ := c3S hr1
  have KS := Lib.hid (fun W (h : Below W1.heap.size W1 W) => c3S ((h.block _ g1).trans hr1))
  have CT := Lib.hid (fun W (hb : Below w.heap.size w W) => isCursor_any a n c on af lim W (h.below hb))
  cases ht : curB on af lim with
  | false =>
    rw [show textK on af lim = [] from if_neg (by rw [ht]; simp)]
    have h1 := Lib.hid ht
    clear h hr1
    go_enter Try.func49, Try.ntmps49
    go_wp2_with (go_at_call 85; (with_reducible refine (CT.out _ bw).mono ?_); rw [h1.out]; rintro e w2 ⟨rfl, b2⟩)
    go_ret
    exact ⟨rfl, below_next bw b2⟩
  | true =>
    have hn := Lib.hid h.1
    obtain ⟨hf, hl, haf, hlim, _⟩ := cur_parts ht
    rw [← hn.out] at hl
    have hnb : (n : Int) ≤ 9223372036854775807 := by omega
    have hlb : lim ≤ 9223372036854775807 := by omega
    have HF := Lib.hid hf
    have HA := Lib.hid h
    have h1 := Lib.hid ht
    obtain ⟨R, hR⟩ : ∃ R, textK on af lim = R := ⟨_, rfl⟩
    have HT := Lib.hid (show bl (wholeS af) ++ bl (numS lim) ++ bl (numS (n : Int)) ++ spsT (on.drop 0) = R by rw [← hR, show textK on af lim = bodyK on af lim from if_pos ht, hn.out]; rfl)
    rw [hR]
    clear h ht hR hr1 hf
    go_enter Try.func49, Try.ntmps49
    go_wp2_with (first
      | (go_at_call 85; (with_reducible refine (CT.out _ bw).mono ?_); rw [h1.out]; rintro e w2 ⟨rfl, b2⟩; obtain ⟨W3, hW3⟩ : ∃ W3, w2.alloc (.cells #[.pointer none, .slice none 0 0] 139) = W3 := ⟨_, rfl⟩; have b23 : Below w2.heap.size w2 W3 := (by rw [← hW3]; exact (Below.refl _ _).alloc (Nat.le_refl _) _); have hB3 : w2.heap.size < W3.heap.size := (by rw [← hW3]; simp); have bB0 : Bld w2.heap.size w2.heap.size [] W3 := (by rw [← hW3]; exact bld_new w2); have HB := Lib.hid (TS.mk (w0 := W3) (B := w2.heap.size) (L := []) (m := 0) (W := W3) bB0 (Nat.le_refl _) (Below.refl _ _) (KeptO.refl _) hB3); have b03 := below_next bw (below_next b2 b23); have b13 := below_next b2 b23; obtain ⟨q0, q1, q2⟩ := KS.out _ b13; have hgB := b2.size; clear bB0 b23)
      | (go_at_call 104; (with_reducible refine (whole_ts HB.out af).mono ?_); rintro e w' ⟨rfl, hh⟩; replace HB := Lib.hid hh)
      | (go_at_call 79; (with_reducible refine (write_ts HB.out (wholeS af) (wholeS_size af) (by omega)).mono ?_); rintro e w' ⟨rfl, hh⟩; replace HB := Lib.hid hh; obtain ⟨q0, q1, q2⟩ := KS.out _ (b13.trans (HB.out.low.mono hgB)))
      | (go_at_call 80; (with_reducible refine (num_ts HB.out lim hlb).mono ?_); rintro e w' ⟨rfl, hh⟩; replace HB := Lib.hid hh)
      | (go_at_call 79; (with_reducible refine (write_ts HB.out (numS lim) (numS_size hlb) (by omega)).mono ?_); rintro e w' ⟨rfl, hh⟩; replace HB := Lib.hid hh; obtain ⟨q0, q1, q2⟩ := KS.out _ (b13.trans (HB.out.low.mono hgB)))
      | (go_at_call 80; (with_reducible refine (num_ts HB.out (n : Int) hnb).mono ?_); rintro e w' ⟨rfl, hh⟩; replace HB := Lib.hid hh)
      | (go_at_call 79; (with_reducible refine (write_ts HB.out (numS (n : Int)) (numS_size hnb) (by omega)).mono ?_); rintro e w' ⟨rfl, hh⟩; replace HB := Lib.hid hh; obtain ⟨q0, q1, q2⟩ := KS.out _ (b13.trans (HB.out.low.mono hgB))))
    replace hW1 := Lib.hid hW1
    replace hW3 := Lib.hid hW3
    generalize w2.heap.size = B at *
    have hwB : w.heap.size ≤ B := Nat.le_trans bw.size hgB
    clear q0 q1 q2
    go_loopw [5, 25] (fun _ i wr => ∃ (j : Nat) (p : List UInt8), i = .int .i64 (j : Int) ∧ j ≤ n ∧ Hid (p ++ spsT (on.drop j) = R) ∧ Hid (TS W3 B p (27 + 18 * j) wr))
      (fun _ i _ => n - (intOf i).toNat)
    case atStart => exact ⟨0, _, rfl, by omega, HT, Lib.hid (HB.out.cast (by simp) (by omega))⟩
    case round =>
      obtain ⟨j, p, rfl, hj, HPt, HS⟩ := hrel
      have bw' : Below w.heap.size w wr := b03.trans (HS.out.low.mono hwB)
      clear HB
      by_cases hlt : j < n
      · have hjl : j < on.length := by rw [← hn.out]; exact hlt
        have hjz : (j : Int) < (n : Int) := by omega
        obtain ⟨b, off, e, hb, d0, d1⟩ := (HA.out.below bw').2.2.2.2 j hjl
        subst e
        have hf := HF.out (on.getD j (0, 0)) (by rw [List.getD_eq_getElem?_getD, List.getElem?_eq_getElem hjl]; exact List.getElem_mem hjl)
        have hp := HPt.out
        rw [spsT_drop hjl] at hp
        generalize on.getD j (0, 0) = sh at d0 d1 hf hp
        obtain ⟨lo, hi⟩ := sh
        dsimp only at d0 d1
        obtain ⟨f0, f1, f2, f3⟩ := hf
        dsimp only at f0 f1 f2 f3
        have hib : lo ≤ 9223372036854775807 := by omega
        have hhb : hi ≤ 9223372036854775807 := by omega
        have HP2 := Lib.hid (show p ++ (spT (lo, hi) ++ spsT (on.drop (j + 1))) = R from hp)
        clear hp HPt
        obtain ⟨Wp, hWp⟩ : ∃ Wp, wr.alloc (.cells #[.int .i64 lo, .int .i64 hi] 33) = Wp := ⟨_, rfl⟩
        have hgp : Wp.heap[wr.heap.size]? = some (.cells #[.int .i64 lo, .int .i64 hi] 33 (0, 0)) := by rw [← hWp]; exact heap_alloc_new wr _
        have e0 : Wp.cell? ⟨wr.heap.size, 0, none⟩ = some (.int .i64 lo) := cell_of_row _ _ 0 _ _ _ hgp
        have HPs := Lib.hid (HS.out.below (W' := Wp) (by rw [← hWp]; exact (Below.refl _ _).alloc (Nat.le_refl _) _))
        have HB := Lib.hid HPs.out.base
        replace hgp := Lib.hid hgp
        go_wp2_with (first
          | (go_at_call 80; (with_reducible refine (num_ts HB.out lo hib).mono ?_); rintro e w' ⟨rfl, hh⟩; replace HB := Lib.hid hh)
          | (go_at_call 79; (with_reducible refine (write_ts HB.out (numS lo) (numS_size hib) (by omega)).mono ?_); rintro e w' ⟨rfl, hh⟩; replace HB := Lib.hid hh; have e1 := cellsKept (i := 1) HB.out.kept hgp.out (by decide) (by decide))
          | (go_at_call 80; (with_reducible refine (num_ts HB.out hi hhb).mono ?_); rintro e w' ⟨rfl, hh⟩; replace HB := Lib.hid hh)
          | (go_at_call 79; (with_reducible refine (write_ts HB.out (numS hi) (numS_size hhb) (by omega)).mono ?_); rintro e w' ⟨rfl, hh⟩; replace HB := Lib.hid hh))
        go_roundw
        case rel => exact ⟨j + 1, p ++ spT (lo, hi), by go_num, by omega, Lib.hid (by rw [← HP2.out, List.append_assoc]), Lib.hid ((HPs.out.comp HB.out).cast (by unfold spT; simp [List.append_assoc]) (by omega))⟩
        case measure => simp [intOf]; omega
      · have hjz : ¬ (j : Int) < (n : Int) := by omega
        have hpr : p = R := by have := HPt.out; rw [List.drop_eq_nil_of_le (by rw [← hn.out]; omega)] at this; simpa [spsT] using this
        subst hpr
        go_wp2_with (go_at_call 81; (with_reducible refine (string_ts HS.out).mono ?_); rintro e w' ⟨rfl, bs⟩)
        go_ret
        exact ⟨rfl, b03.trans (bs.mono hwB)⟩
def SpnPost (w : World) (g : Nat) (l : List Sp) (r : ByteArray × Int) (e : Ending) (w' : World) : Prop :=
  ∃ v, e = .returned v ∧ OwnsP 33 w' w.heap.size v l ∧ Rd w' g r.1 r.2 ∧ w.grownBy w' (some g)
set_option maxRecDepth 100000 in
set_option maxHeartbeats 4000000 in
theorem rspans_any {w : World} {g : Nat} {s : ByteArray} {e : Int} (h : Rd w g s e) (hs : (s.size : Int) ≤ 1000000000000) (n : Nat) (hn : n ≤ 64) {l : List Sp} {t : ByteArray} {e9 : Int} (hr : rKs n [] s e = (l, t, e9)) :
    Calls Try.prog 106 #[.pointer (some ⟨g, 0, none⟩), .int .i64 (n : Int)] w (SpnPost w g (if e9 = 0 then l else []) (t, e9)) := by
  have hg := h.lt
  obtain ⟨i0, hi, hz0, hz1, hz2⟩ := info_parts Try.infoSpan
  replace hr := Lib.hid hr
  obtain ⟨R, hR⟩ : ∃ R, (if e9 = 0 then l else []) = R := ⟨_, rfl⟩
  rw [hR]
  replace hR := Lib.hid hR
  go_enter Try.func106, Try.ntmps106
  go_wp2_with fail
  go_loopw [5, 7] (fun v i wr => ∃ (k : Nat) (acc : List Sp) (u : ByteArray) (e2 : Int), i = .int .i64 (k : Int) ∧ k ≤ n ∧ acc.length = k ∧ u.size ≤ s.size ∧ OwnsP 33 wr w.heap.size v acc ∧ Rd wr g u e2 ∧ w.grownBy wr (some g) ∧ Hid (rKs (n - k) acc u e2 = (l, t, e9)))
    (fun _ i _ => n - (intOf i).toNat)
  case atStart => exact ⟨0, [], s, e, rfl, by omega, rfl, by omega, OwnsP.nil _ _ _, h, World.grownBy.refl _ _, hr⟩
  case round =>
    obtain ⟨k, acc, u, e2, rfl, hk, hac, hus, hown, RR, G, HE⟩ := hrel
    have hsz := G.size
    by_cases hlt : k < n
    · have hkz : (k : Int) < (n : Int) := by omega
      obtain ⟨x, s1, e3, hA⟩ : ∃ x s1 e3, rNum u e2 = (x, s1, e3) := ⟨_, _, _, rfl⟩
      obtain ⟨y, s2, e4, hB⟩ : ∃ y s2 e4, rNum s1 e3 = (y, s2, e4) := ⟨_, _, _, rfl⟩
      have hs1 : s1.size ≤ u.size := by have := rNum_size u e2; rw [hA] at this; exact this
      have hs2 : s2.size ≤ s1.size := by have := rNum_size s1 e3; rw [hB] at this; exact this
      have CN : Hid (∀ W, Rd W g u e2 → Calls Try.prog 74 #[.pointer (some ⟨g, 0, none⟩)] W (RdPost W g (.int .i64 x) (s1, e3))) :=
        Lib.hid fun W hR => (rnum_any hR (by omega)).mono fun e w' h => by rw [hA] at h; exact h
      have CM : Hid (∀ W, Rd W g s1 e3 → Calls Try.prog 74 #[.pointer (some ⟨g, 0, none⟩)] W (RdPost W g (.int .i64 y) (s2, e4))) :=
        Lib.hid fun W hR => (rnum_any hR (by omega)).mono fun e w' h => by rw [hB] at h; exact h
      have HG := Lib.hid (rKs_go (n := n - (k + 1)) (acc := acc) hA hB)
      clear hA hB
      obtain ⟨a6, cap6, hv6, _, _, _, _⟩ := hown.arg
      subst hv6
      obtain ⟨m, hm⟩ : ∃ m, acc.length = m := ⟨_, rfl⟩
      have hrow : wr.ownsRow w.heap.size 33 2 (.slice a6 m cap6) m (flatP acc) := by rw [← hm]; exact hown
      rw [hm] at hac ⊢
      have hkm : (m : Int) ≤ 64 := by omega
      replace hm := Lib.hid hm
      replace hac := Lib.hid hac
      have hne : (Value.slice a6 m cap6).ownBlock = none ∨ (Value.slice a6 m cap6).ownBlock ≠ some g := by right; intro hv; have := (hrow.lt g hv).1; omega
      have hlo : ∀ k, (Value.slice a6 m cap6).ownBlock = some k → w.heap.size ≤ k := fun k hk => (hrow.lt k hk).1
      have HRW : Hid (∀ w1 w2, wr.grownBy w1 (some g) → w1.grownBy w2 (some g) → w2.ownsRow w.heap.size 33 2 (.slice a6 m cap6) m (flatP acc)) := Lib.hid fun w1 w2 g1 g2 => (hrow.kept g1 hne).kept g2 hne
      replace hne := Lib.hid hne
      replace hlo := Lib.hid hlo
      clear hown hrow
      go_wp2_with (first
        | (go_at_call 74; refine (CN.out _ RR).mono ?_; rintro en w1 ⟨rfl, R1, G1⟩)
        | (go_at_call 74; refine (CM.out _ R1).mono ?_; rintro en w2 ⟨rfl, R2, G2⟩)
        | (at_builtin; refine wpList_append_own _ rfl _ _ 25 rfl w.heap.size 33 i0 (.agg #[.int .i64 0, .int .i64 0]) 2 16 Try.underlying25 hi hz0 hz1 hz2 rfl (by decide) _ _ _ rfl ((HRW.out w1 w2 G1 G2).alloc _) ⟨w2.heap.size, 0, none⟩ 1 1 [.int .i64 x, .int .i64 y] rfl ?c1 ?c2 ?c3 ?c4 ?c5 ?c6 ?_))
      all_goals first
        | rfl
        | (intro j u hj
           match j, hj with
           | 0, hj => simp at hj; subst hj; simp [Addr.add]
           | 1, hj => simp at hj; subst hj; simp [Addr.add])
        | (intro u hu; simp at hu; rcases hu with rfl | rfl <;> rfl)
        | (unfold maxLen; omega)
        | omega
        | (have := G1.size; have := G2.size; simp; omega)
        | skip
      intro v' w5 hown' hgrow _
      have hlo' := hlo.out
      have G5 := grown_over (grown_over (grown_trans (grown_trans G G1) G2) (World.grownBy_alloc w2 (Obj.cells #[.int .i64 x, .int .i64 y] 33) none) (by intro k hk; cases hk)) hgrow hlo'
      have R5 := rd_grown (rd_grown R2 (World.grownBy_alloc w2 (Obj.cells #[.int .i64 x, .int .i64 y] 33) none) (by simp)) hgrow (by intro hv; have := hlo' g hv.symm; omega)
      have ho := OwnsP.snoc hm.out hown'
      clear hown' hgrow hlo'
      go_wp2
      go_roundw
      case rel => exact ⟨k + 1, acc ++ [(x, y)], s2, e4, by go_num, by omega, by rw [List.length_append, hm.out, hac.out]; rfl, by omega, ho, R5, G5, Lib.hid (by rw [← HE.out, show n - k = n - (k + 1) + 1 by omega, HG.out])⟩
      case measure => simp [intOf]; omega
    · have hkn : n - k = 0 := by omega
      have hkz : ¬ (k : Int) < (n : Int) := by omega
      have hfin := HE.out
      rw [hkn, rKs] at hfin
      cases hfin
      have CE := Lib.hid (err_any RR)
      replace hkn := Lib.hid hkn
      by_cases he : e9 = 0
      · have d1 : (e9 == 0) = true := by simpa using he
        have d2 : (e9 != 0) = false := by simpa using he
        have hq := hR.out
        rw [if_pos he] at hq
        subst hq
        replace he := Lib.hid he
        go_wp2_with (go_at_call 107; (with_reducible refine CE.out.mono ?_); rintro en w5 ⟨rfl, rfl⟩)
        go_ret
        exact ⟨_, rfl, hown, RR, G⟩
      · have d1 : (e9 == 0) = false := by simpa using he
        have d2 : (e9 != 0) = true := by simpa using he
        have hq := hR.out
        rw [if_neg he] at hq
        subst hq
        replace he := Lib.hid he
        go_wp2_with (go_at_call 107; (with_reducible refine CE.out.mono ?_); rintro en w5 ⟨rfl, rfl⟩)
        go_ret
        exact ⟨_, rfl, OwnsP.nil _ _ _, RR, G⟩
end Go.Proofs.Ytcpcdinfagdlhaa
