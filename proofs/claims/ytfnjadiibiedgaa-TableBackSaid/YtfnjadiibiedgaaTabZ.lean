/-
  TableBack in one text (TabL, TabV, TabW, TabX, TabY: a claim holds 60 files).
-/
import Derived.Test.YtfnjadiibiedgaaTabJ
import Derived.Test.YtfnjadiibiedgaaMutG
import Derived.Test.YtfnjadiibiedgaaPlainB
namespace Go.Proofs.Ytfnjadiibiedgaa
open Go.RowKit Go.Shelf

theorem Try.infoRPair : (Try.prog.info? 96).map (fun i => (i.zero, i.size, i.bytes)) = some (some (.agg #[.int .i64 0, .int .i64 0]), 2, 16) := by kernel_rfl
set_option maxRecDepth 100000 in
set_option maxHeartbeats 1000000 in
theorem refs5_any (a : Option Addr) (n c : Nat) (l : List Sp) (w : World) (hz : l.length ≤ 100000) (h : Arg w a n c l) :
    Calls Try.prog 40 #[.slice a n c] w (ListArg w l) := by
  obtain ⟨i0, hi, hz0, hz1, hz2⟩ := info_parts Try.infoRPair
  obtain ⟨hn, _, hc1, hc2, hp⟩ := h
  have hn1 : n ≤ 100000 := by omega
  replace hn := Lib.hid hn
  replace hp := Lib.hid hp
  go_enter Try.func40, Try.ntmps40
  go_wp2_with fail
  go_loopw [3, 4] (fun v i wr => ∃ (k : Nat), i = .int .i64 (k : Int) ∧ k ≤ n ∧ Hid (wr.ownsRow w.heap.size 96 2 v k (flatP (l.take k))) ∧ Below w.heap.size w wr)
    (fun _ i _ => n - (intOf i).toNat)
  case atStart => exact ⟨0, rfl, by omega, Lib.hid ⟨rfl, .inl ⟨rfl, rfl⟩⟩, Below.refl _ _⟩
  case round =>
    obtain ⟨k, rfl, hk, HO, hbl⟩ := hrel
    have hsz := hbl.size
    by_cases hlt : k < n
    · obtain ⟨b, off, e, hb, d0, d1⟩ := (hp.out.below hbl) k (by rw [← hn.out]; exact hlt)
      subst e
      obtain ⟨s, hs⟩ : ∃ s, l.getD k (0, 0) = s := ⟨_, rfl⟩
      rw [hs] at d0 d1
      replace hs := Lib.hid hs
      obtain ⟨x, y⟩ := s
      dsimp only at d0 d1
      go_wp2_with (at_builtin; refine wpList_append_own _ rfl _ _ 32 rfl w.heap.size 96 i0 (.agg #[.int .i64 0, .int .i64 0]) 2 16 Try.underlying32 hi hz0 hz1 hz2 rfl (by decide) _ _ _ rfl (HO.out.alloc _) ⟨wr.heap.size, 0, none⟩ 1 1 [.int .i64 x, .int .i64 y] rfl rfl ?c1 ?c2 ?c3 ?c4 ?c5 ?_)
      case c1 =>
        intro j u hj
        match j, hj with
        | 0, hj => simp at hj; subst hj; simp [Addr.add]
        | 1, hj => simp at hj; subst hj; simp [Addr.add]
      case c2 => intro u hu; simp at hu; rcases hu with rfl | rfl <;> rfl
      case c3 => unfold maxLen; omega
      case c4 => omega
      case c5 => simp; omega
      · intro v' w1 hown' hgrow _
        have hb1 := (hbl.alloc hsz (.cells #[.int .i64 x, .int .i64 y] 96)).grown hgrow (by simp; omega) (fun j hj => (HO.out.lt j hj).1)
        replace hown' := Lib.hid hown'
        go_wp2
        go_roundw
        case rel =>
          refine ⟨k + 1, by go_num, by omega, Lib.hid ?_, hb1⟩
          rw [take_more (by rw [← hn.out]; exact hlt), flatP_append, hs.out]
          exact hown'.out
        case measure => simp [intOf]; omega
    · have hk' : l.take k = l := List.take_of_length_le (by rw [← hn.out]; omega)
      have hkn : k = n := by omega
      subst hkn
      have ho := HO.out
      rw [hk'] at ho
      have ho' := ownsP_of_row ho hn.out
      obtain ⟨a6, c6, rfl, _⟩ := ho'.arg
      have HA := Lib.hid (Arg.of_own ho' rfl)
      replace hk' := Lib.hid hk'
      clear ho ho' HO
      go_wp2
      go_ret
      exact ⟨_, _, _, rfl, HA.out, hbl⟩

theorem neqRPair (x y p q : Int) (w : World) : (binOp .neq 96 (.agg #[.int .i64 x, .int .i64 y]) (.agg #[.int .i64 p, .int .i64 q])).run Try.prog w = .ok (.bool (!decide ((x, y) = (p, q)))) w := by
  have u3 := Try.underlying3
  have a3 := Try.isAgg3
  have z3 := Try.sizeOf3
  have hS : Try.prog.underlying 96 = some (.struct (Try.prog.fieldsOf 96)) := by kernel_rfl
  have hp : Try.prog.stoodInHeld 96 = false := by kernel_rfl
  rw [run_neq_struct, show (10000 : Nat) = 9999 + 1 from rfl, run_equalIn_agg w 9999 96 _ _ hS hp]
  simp only [Program.fieldsOf, Try.underlying96]
  go_simp
  by_cases h1 : x = p <;> by_cases h2 : y = q <;> simp [h1, h2]

set_option maxRecDepth 100000 in
set_option maxHeartbeats 1000000 in
theorem same5_any (a b : Option Addr) (n m c d : Nat) (l k : List Sp) (w : World) (hA : Arg w a n c l) (hB : Arg w b m d k) :
    Calls Try.prog 45 #[.slice a n c, .slice b m d] w (Gives w (.bool (decide (l = k)))) := by
  obtain ⟨hn, zn, hc1, hc2, hp⟩ := hA
  obtain ⟨hm, zm, hd1, hd2, hq⟩ := hB
  have zn' : (n : Int) ≤ 9223372036854775807 := by omega
  have zm' : (m : Int) ≤ 9223372036854775807 := by omega
  obtain ⟨r, hr⟩ : ∃ r, decide (l = k) = r := ⟨_, rfl⟩
  rw [hr]
  replace hr := Lib.hid hr
  replace hp := Lib.hid hp
  replace hq := Lib.hid hq
  replace hn := Lib.hid hn
  replace hm := Lib.hid hm
  by_cases hnm : n = m
  · subst hnm
    go_enter Try.func45, Try.ntmps45
    go_wp2_with fail
    go_loopw [5] (fun i wr => ∃ (j : Nat), i = .int .i64 (j : Int) ∧ j ≤ n ∧ Hid (l.take j = k.take j) ∧ Below w.heap.size w wr)
      (fun i _ => n - (intOf i).toNat)
    case atStart => exact ⟨0, rfl, by omega, Lib.hid rfl, Below.refl _ _⟩
    case round =>
      obtain ⟨j, rfl, hj, HJ, hbl⟩ := hrel
      by_cases hlt : j < n
      · obtain ⟨b1, o1, e1, _, x0, x1⟩ := (hp.out.below hbl) j (by rw [← hn.out]; exact hlt)
        obtain ⟨b2, o2, e2, _, y0, y1⟩ := (hq.out.below hbl) j (by rw [← hm.out]; exact hlt)
        subst e1
        subst e2
        obtain ⟨s, hs⟩ : ∃ s, l.getD j (0, 0) = s := ⟨_, rfl⟩
        obtain ⟨t, ht⟩ : ∃ s, k.getD j (0, 0) = s := ⟨_, rfl⟩
        rw [hs] at x0 x1
        rw [ht] at y0 y1
        replace hs := Lib.hid hs
        replace ht := Lib.hid ht
        obtain ⟨x, y⟩ := s
        obtain ⟨p, q⟩ := t
        dsimp only at x0 x1 y0 y1
        have NE := fun w => neqRPair x y p q w
        have hltz : (j : Int) < (n : Int) := by omega
        cases hd : decide ((x, y) = (p, q))
        · simp only [hd] at NE
          replace hd := Lib.hid hd
          go_wp2_with fail
          go_quiet (fail)
          go_wp2
          go_ret
          refine ⟨ret_bool ?_, below_drewN hbl _⟩
          rw [← hr.out]
          refine (decide_eq_false fun e => ?_).symm
          have := of_decide_eq_false hd.out
          rw [← hs.out, ← ht.out, e] at this
          exact this rfl
        · simp only [hd] at NE
          replace hd := Lib.hid hd
          go_wp2_with fail
          go_quiet (fail)
          go_wp2
          go_roundw
          case rel =>
            refine ⟨j + 1, by go_num, by omega, Lib.hid ?_, below_drewN hbl _⟩
            rw [take_more (by rw [← hn.out]; exact hlt), take_more (by rw [← hm.out]; exact hlt), HJ.out, hs.out, ht.out, of_decide_eq_true hd.out]
          case measure => simp [intOf]; omega
      · have e1 : l.take j = l := List.take_of_length_le (by rw [← hn.out]; omega)
        have e2 : k.take j = k := List.take_of_length_le (by rw [← hm.out]; omega)
        have e := HJ.out
        rw [e1, e2] at e
        replace e := Lib.hid e
        clear e1 e2 HJ
        go_wp2
        go_ret
        exact ⟨ret_bool (by rw [← hr.out]; exact (decide_eq_true e.out).symm), hbl⟩
  · have hne : ¬ (n : Int) = (m : Int) := by omega
    have hnb : ((n : Int) != (m : Int)) = true := by simp; omega
    go_enter Try.func45, Try.ntmps45
    go_wp2
    go_ret
    refine ⟨ret_bool ?_, Below.refl _ _⟩
    rw [← hr.out]
    exact (decide_eq_false fun e => hnm (by rw [hn.out, hm.out, e])).symm
end Go.Proofs.Ytfnjadiibiedgaa

namespace Go.Proofs.Ytfnjadiibiedgaa
open Go.RowKit Go.Shelf

def bodyV (l : List Sp) : List UInt8 := bl (numS (l.length : Int)) ++ pairsT l
def textV (l : List Sp) : List UInt8 := if tblB l = true then bodyV l else []

set_option maxRecDepth 100000 in
set_option maxHeartbeats 4000000 in
theorem ttext_any (a : Option Addr) (n cp : Nat) (l : List Sp) (w : World) (hA : Arg w a n cp l) :
    Calls Try.prog 52 #[.slice a n cp] w (Gives w (.string ⟨(textV l).toArray⟩)) := by
  have CT := Lib.hid (fun W (h : Below w.heap.size w W) => tcheck_any a n cp l W (hA.below h))
  cases ht : tblB l
  · rw [show textV l = [] from if_neg (by rw [ht]; simp)]
    have h1 := Lib.hid ht
    clear hA
    go_enter Try.func52, Try.ntmps52
    go_wp2_with (go_at_call 42; (with_reducible refine (CT.out _ (Below.refl _ _)).mono ?_); rw [h1.out]; rintro e w2 ⟨rfl, b2⟩)
    go_ret
    exact ⟨rfl, b2⟩
  · have hle := tbl_le ht
    have hn := hA.1
    have hn1 : n ≤ 4096 := by omega
    have hnb : (n : Int) ≤ 9223372036854775807 := by omega
    have HT := Lib.hid (show textV l = bl (numS (n : Int)) ++ pairsT l by rw [show textV l = bodyV l from if_pos ht, hn]; rfl)
    have HR := Lib.hid (tblF_get l (-1))
    have HA := Lib.hid hA
    have h1 := Lib.hid ht
    replace hn := Lib.hid hn
    obtain ⟨R, hR⟩ : ∃ R, textV l = R := ⟨_, rfl⟩
    rw [hR] at HT ⊢
    replace hR := Lib.hid hR
    clear hA hle ht
    go_enter Try.func52, Try.ntmps52
    go_wp2_with (go_at_call 42; (with_reducible refine (CT.out _ (Below.refl _ _)).mono ?_); rw [h1.out]; rintro e w2 ⟨rfl, b2⟩; obtain ⟨W3, hW3⟩ : ∃ W3, w2.alloc (.cells #[.pointer none, .slice none 0 0] 104) = W3 := ⟨_, rfl⟩; have b23 : Below w2.heap.size w2 W3 := (by rw [← hW3]; exact (Below.refl _ _).alloc (Nat.le_refl _) _); have hB3 : w2.heap.size < W3.heap.size := (by rw [← hW3]; simp); have bB0 : Bld w2.heap.size w2.heap.size [] W3 := (by rw [← hW3]; exact bld_new w2); have HB := Lib.hid (TS.mk (w0 := W3) (B := w2.heap.size) (L := []) (m := 0) (W := W3) bB0 (Nat.le_refl _) (Below.refl _ _) (KeptO.refl _) hB3); have b03 := below_next b2 b23; have hgB := b2.size; clear bB0 b23)
    replace hW3 := Lib.hid hW3
    generalize w2.heap.size = B at *
    go_wp2_with (first | (go_at_call 63; (with_reducible refine (num_ts HB.out (n : Int) hnb).mono ?_); rintro e w' ⟨rfl, hh⟩; replace HB := Lib.hid hh) | (go_at_call 62; (with_reducible refine (write_ts HB.out (numS (n : Int)) (numS_size hnb) (by omega)).mono ?_); rintro e w' ⟨rfl, hh⟩; replace HB := Lib.hid hh))
    go_loopw [5, 15] (fun _ i wr => ∃ (j : Nat), i = .int .i64 (j : Int) ∧ j ≤ n ∧ Hid (TS W3 B (bl (numS (n : Int)) ++ pairsT (l.take j)) (9 + 18 * j) wr))
      (fun _ i _ => n - (intOf i).toNat)
    case atStart => exact ⟨0, rfl, by omega, Lib.hid (HB.out.cast (by simp [pairsT]) (by omega))⟩
    case round =>
      obtain ⟨j, rfl, hj, HC⟩ := hrel
      have bw : Below w.heap.size w wr := b03.trans (HC.out.low.mono hgB)
      by_cases hlt : j < n
      · have hjl : j < l.length := by rw [← hn.out]; exact hlt
        have hjz : (j : Int) < (n : Int) := by omega
        obtain ⟨b, off, e, hb, d0, d1⟩ := (HA.out.2.2.2.2.below bw) j hjl
        subst e
        obtain ⟨p, hp⟩ : ∃ t, l.getD j (0, 0) = t := ⟨_, rfl⟩
        rw [hp] at d0 d1
        have hbd := HR.out j h1.out hjl
        rw [hp] at hbd
        have hnext : pairsT (l.take (j + 1)) = pairsT (l.take j) ++ bl (numS p.1) ++ bl (wholeS p.2) := by rw [take_more hjl, pairsT_snoc, hp]
        replace hnext := Lib.hid hnext
        replace hp := Lib.hid hp
        obtain ⟨x, y⟩ := p
        dsimp only at d0 d1 hbd
        have hxb : x ≤ 9223372036854775807 := by omega
        clear hbd
        obtain ⟨Wp, hWp⟩ : ∃ Wp, wr.alloc (.cells #[.int .i64 x, .int .i64 y] 90) = Wp := ⟨_, rfl⟩
        have hgp : Wp.heap[wr.heap.size]? = some (.cells #[.int .i64 x, .int .i64 y] 90 (0, 0)) := by rw [← hWp]; exact heap_alloc_new wr _
        have e0 : Wp.cell? ⟨wr.heap.size, 0, none⟩ = some (.int .i64 x) := by rw [← hWp]; simp
        have HP := Lib.hid (HC.out.below (W' := Wp) (by rw [← hWp]; exact (Below.refl _ _).alloc (Nat.le_refl _) _))
        have HB := Lib.hid HP.out.base
        replace hgp := Lib.hid hgp
        go_wp2_with (first | (go_at_call 63; (with_reducible refine (num_ts HB.out x hxb).mono ?_); rintro e w' ⟨rfl, hh⟩; replace HB := Lib.hid hh) | (go_at_call 62; (with_reducible refine (write_ts HB.out (numS x) (numS_size hxb) (by omega)).mono ?_); rintro e w' ⟨rfl, hh⟩; replace HB := Lib.hid hh; have e1 : World.cell? w' ⟨wr.heap.size, 1, none⟩ = some (.int .i64 y) := cellsKept (i := 1) HB.out.kept hgp.out (by decide) (by decide)) | (go_at_call 64; (with_reducible refine (whole_ts HB.out y).mono ?_); rintro e w' ⟨rfl, hh⟩; replace HB := Lib.hid hh) | (go_at_call 62; (with_reducible refine (write_ts HB.out (wholeS y) (wholeS_size y) (by omega)).mono ?_); rintro e w' ⟨rfl, hh⟩; replace HB := Lib.hid hh))
        go_roundw
        case rel => exact ⟨j + 1, by go_num, by omega, Lib.hid ((HP.out.comp HB.out).cast (by rw [hnext.out]; simp [List.append_assoc]) (by omega))⟩
        case measure => simp [intOf]; omega
      · have hjn : j = n := by omega
        have hB5 : TS W3 B (bl (numS (n : Int)) ++ pairsT l) (9 + 18 * n) wr := by have := HC.out; rw [hjn, show l.take n = l from List.take_of_length_le (by rw [hn.out]; omega)] at this; exact this
        replace HB := Lib.hid hB5
        have hjz : ¬ (j : Int) < (n : Int) := by omega
        clear hB5
        replace hjn := Lib.hid hjn
        go_wp2_with (go_at_call 65; (with_reducible refine (string_ts HB.out).mono ?_); rintro e w9 ⟨rfl, b9⟩)
        go_ret
        exact ⟨ret_str HT.out.symm, b03.trans (b9.mono hgB)⟩
end Go.Proofs.Ytfnjadiibiedgaa

namespace Go.Proofs.Ytfnjadiibiedgaa
open Go.RowKit Go.Shelf

def rPs : Nat → List Sp → ByteArray → Int → List Sp × ByteArray × Int
  | 0, acc, s, e => (acc, s, e)
  | n + 1, acc, s, e =>
    if (rWhole (rNum s e).2.1 (rNum s e).2.2).2.2 = 0 then rPs n (if acc.length ≤ 4096 then acc ++ [((rNum s e).1, (rWhole (rNum s e).2.1 (rNum s e).2.2).1)] else acc) (rWhole (rNum s e).2.1 (rNum s e).2.2).2.1 (rWhole (rNum s e).2.1 (rNum s e).2.2).2.2
    else ([], (rWhole (rNum s e).2.1 (rNum s e).2.2).2)
def rPairs (s : ByteArray) (e : Int) : List Sp × ByteArray × Int := rPs (rNum s e).1.toNat [] (rNum s e).2.1 (rNum s e).2.2
def PsPost (w : World) (g : Nat) (l : List Sp) (r : ByteArray × Int) (e : Ending) (w' : World) : Prop :=
  ∃ v, e = .returned v ∧ OwnsP 90 w' w.heap.size v l ∧ Rd w' g r.1 r.2 ∧ w.grownBy w' (some g)

theorem rPs_go {n : Nat} {acc : List Sp} {s : ByteArray} {e x y : Int} {s1 s2 : ByteArray} {e1 e2 : Int} (h1 : rNum s e = (x, s1, e1)) (h2 : rWhole s1 e1 = (y, s2, e2)) (h : e2 = 0) :
    rPs (n + 1) acc s e = rPs n (if acc.length ≤ 4096 then acc ++ [(x, y)] else acc) s2 e2 := by
  rw [rPs, h1]; dsimp only; rw [h2, if_pos h]
theorem rPs_stop {n : Nat} {acc : List Sp} {s : ByteArray} {e x y : Int} {s1 s2 : ByteArray} {e1 e2 : Int} (h1 : rNum s e = (x, s1, e1)) (h2 : rWhole s1 e1 = (y, s2, e2)) (h : e2 ≠ 0) :
    rPs (n + 1) acc s e = ([], s2, e2) := by
  rw [rPs, h1]; dsimp only; rw [h2, if_neg h]

set_option maxRecDepth 100000 in
set_option maxHeartbeats 2000000 in
theorem rpairs_any {w : World} {g : Nat} {s : ByteArray} {e : Int} (h : Rd w g s e) (hs : (s.size : Int) ≤ 1000000000000) :
    Calls Try.prog 95 #[.pointer (some ⟨g, 0, none⟩)] w (PsPost w g (rPairs s e).1 (rPairs s e).2) := by
  obtain ⟨v0, v1⟩ := rNum_val s e
  have hz := rNum_size s e
  have hg := h.lt
  obtain ⟨n, hn⟩ : ∃ n : Nat, (rNum s e).1 = (n : Int) := ⟨(rNum s e).1.toNat, by omega⟩
  obtain ⟨u, hu⟩ : ∃ u, (rNum s e).2.1 = u := ⟨_, rfl⟩
  obtain ⟨e1, he1⟩ : ∃ e1, (rNum s e).2.2 = e1 := ⟨_, rfl⟩
  have HL := Lib.hid (show rPairs s e = rPs n [] u e1 by unfold rPairs; rw [hn, hu, he1]; rfl)
  have HC : Hid (∀ w : World, Rd w g s e → Calls Try.prog 69 #[.pointer (some ⟨g, 0, none⟩)] w (RdPost w g (.int .i64 (n : Int)) (u, e1))) :=
    Lib.hid fun w h => (rnum_any h (by omega)).mono fun e w' h => by rw [hn] at h; rw [← hu, ← he1]; exact h
  rw [hu] at hz
  rw [hn] at v1
  have hn1 : (n : Int) ≤ 9223372036854775807 := v1
  clear hn hu he1 v0 v1
  obtain ⟨i0, hi, hz0, hz1, hz2⟩ := info_parts Try.infoPair
  go_enter Try.func95, Try.ntmps95
  go_wp2_with (go_at_call 69; refine (HC.out _ h).mono ?_; rintro en w0 ⟨rfl, R0, G0⟩)
  go_loopw [3, 4, 7] (fun v _ i wr => ∃ (k : Nat) (acc : List Sp) (t : ByteArray) (e2 : Int), i = .int .i64 (k : Int) ∧ k ≤ n ∧ acc.length ≤ 4097 ∧ t.size ≤ s.size ∧ OwnsP 90 wr w.heap.size v acc ∧ Rd wr g t e2 ∧ w.grownBy wr (some g) ∧ rPs (n - k) acc t e2 = rPs n [] u e1)
    (fun _ _ i _ => n - (intOf i).toNat)
  case atStart => exact ⟨0, [], u, e1, rfl, by omega, by simp, hz, OwnsP.nil _ _ _, R0, G0, rfl⟩
  case round =>
    obtain ⟨k, acc, t, e2, rfl, hk, hac, hsum, hown, R, G, heq⟩ := hrel
    have HE := Lib.hid heq
    clear heq
    have hsz := G.size
    by_cases hlt : k < n
    · have hkz : (k : Int) < (n : Int) := by omega
      obtain ⟨x, s1, e3, hA⟩ : ∃ x s1 e3, rNum t e2 = (x, s1, e3) := ⟨_, _, _, rfl⟩
      obtain ⟨y, s2, e4, hB⟩ : ∃ y s2 e4, rWhole s1 e3 = (y, s2, e4) := ⟨_, _, _, rfl⟩
      have hs1 : s1.size ≤ t.size := by have := rNum_size t e2; rw [hA] at this; exact this
      have hs2 : s2.size ≤ s1.size := by have := rWhole_size s1 e3; rw [hB] at this; exact this
      have CN : Hid (∀ W, Rd W g t e2 → Calls Try.prog 69 #[.pointer (some ⟨g, 0, none⟩)] W (RdPost W g (.int .i64 x) (s1, e3))) :=
        Lib.hid fun W hR => (rnum_any hR (by omega)).mono fun e w' h => by rw [hA] at h; exact h
      have CW : Hid (∀ W, Rd W g s1 e3 → Calls Try.prog 71 #[.pointer (some ⟨g, 0, none⟩)] W (RdPost W g (.int .i64 y) (s2, e4))) :=
        Lib.hid fun W hR => (rwhole_any hR (by omega)).mono fun e w' h => by rw [hB] at h; exact h
      by_cases he : e4 = 0
      · have hd : (e4 == 0) = true := by simpa using he
        have hd2 : (e4 != 0) = false := by simpa using he
        have HG := Lib.hid (rPs_go (n := n - (k + 1)) (acc := acc) hA hB he)
        clear he hA hB
        obtain ⟨a6, cap6, hv6, hkc, hcm, _, _⟩ := hown.arg
        subst hv6
        have hkc0 := hcm
        unfold maxLen at hkc0
        obtain ⟨m, hm⟩ : ∃ m, acc.length = m := ⟨_, rfl⟩
        have hrow : wr.ownsRow w.heap.size 90 2 (.slice a6 m cap6) m (flatP acc) := by rw [← hm]; exact hown
        rw [hm] at hac hkc ⊢
        replace hm := Lib.hid hm
        have hne : (Value.slice a6 m cap6).ownBlock = none ∨ (Value.slice a6 m cap6).ownBlock ≠ some g := by right; intro hv; have := (hrow.lt g hv).1; omega
        have hlo : ∀ k, (Value.slice a6 m cap6).ownBlock = some k → w.heap.size ≤ k := fun k hk => (hrow.lt k hk).1
        have HRW : Hid (∀ w1 w2, wr.grownBy w1 (some g) → w1.grownBy w2 (some g) → w2.ownsRow w.heap.size 90 2 (.slice a6 m cap6) m (flatP acc)) := Lib.hid fun w1 w2 g1 g2 => (hrow.kept g1 hne).kept g2 hne
        replace hne := Lib.hid hne
        replace hlo := Lib.hid hlo
        clear hown hrow
        by_cases hl : m ≤ 4096
        · have hlz : (m : Int) ≤ 4096 := by omega
          go_wp2_with (first | (go_at_call 69; refine (CN.out _ R).mono ?_; rintro en w1 ⟨rfl, R1, G1⟩) | (go_at_call 71; refine (CW.out _ R1).mono ?_; rintro en w2 ⟨rfl, R2, G2⟩) | (go_at_call 110; refine (err_any (rd_grown R2 (World.grownBy_alloc w2 (Obj.cells #[.int .i64 x, .int .i64 y] 90) none) (by simp))).mono ?_; rintro e w' ⟨rfl, rfl⟩) | (at_builtin; refine wpList_append_own _ rfl _ _ 22 rfl w.heap.size 90 i0 (.agg #[.int .i64 0, .int .i64 0]) 2 16 Try.underlying22 hi hz0 hz1 hz2 rfl (by decide) _ _ _ rfl (((HRW.out w1 w2 G1 G2).alloc _).alloc _) ⟨w2.heap.size + 1, 0, none⟩ 1 1 [.int .i64 x, .int .i64 y] rfl ?c1 ?c2 ?c3 ?c4 ?c5 ?c6 ?_))
          all_goals first
            | rfl
            | (intro j u hj
               match j, hj with
               | 0, hj => simp at hj; subst hj; simp [Addr.add]
               | 1, hj => simp at hj; subst hj; simp [Addr.add])
            | (intro u hu; simp at hu; rcases hu with rfl | rfl <;> rfl)
            | (unfold maxLen; omega)
            | omega
            | (have := G1.size; have := G2.size; simp; omega)
            | skip
          intro v' w5 hown' hgrow _
          have hlo' := hlo.out
          have hne' := hne.out
          have G5 := grown_over (grown_over (grown_over (grown_trans (grown_trans G G1) G2) (World.grownBy_alloc w2 (Obj.cells #[.int .i64 x, .int .i64 y] 90) none) (by intro k hk; cases hk)) (World.grownBy_alloc _ (Obj.cells #[.int .i64 x, .int .i64 y] 90) none) (by intro k hk; cases hk)) hgrow hlo'
          have R5 := rd_grown (rd_grown (rd_grown R2 (World.grownBy_alloc w2 (Obj.cells #[.int .i64 x, .int .i64 y] 90) none) (by simp)) (World.grownBy_alloc _ (Obj.cells #[.int .i64 x, .int .i64 y] 90) none) (by simp)) hgrow (by intro hv; have := hlo' g hv.symm; omega)
          have ho := OwnsP.snoc hm.out hown'
          clear hown' hgrow hlo' hne'
          go_wp2
          go_roundw
          case rel => exact ⟨k + 1, acc ++ [(x, y)], s2, e4, by go_num, by omega, by rw [List.length_append, hm.out]; simp; omega, by omega, ho, R5, G5, by rw [← HE.out, show n - k = n - (k + 1) + 1 by omega, HG.out, if_pos (by rw [hm.out]; exact hl)]⟩
          case measure => simp [intOf]; omega
        · have hlz : ¬ (m : Int) ≤ 4096 := by omega
          go_wp2_with (first | (go_at_call 69; refine (CN.out _ R).mono ?_; rintro en w1 ⟨rfl, R1, G1⟩) | (go_at_call 71; refine (CW.out _ R1).mono ?_; rintro en w2 ⟨rfl, R2, G2⟩) | (go_at_call 110; refine (err_any (rd_grown R2 (World.grownBy_alloc w2 (Obj.cells #[.int .i64 x, .int .i64 y] 90) none) (by simp))).mono ?_; rintro e w' ⟨rfl, rfl⟩))
          have G5 := grown_over (grown_trans (grown_trans G G1) G2) (World.grownBy_alloc w2 (Obj.cells #[.int .i64 x, .int .i64 y] 90) none) (by intro k hk; cases hk)
          have R5 := rd_grown R2 (World.grownBy_alloc w2 (Obj.cells #[.int .i64 x, .int .i64 y] 90) none) (by simp)
          have ho : OwnsP 90 (w2.alloc (Obj.cells #[.int .i64 x, .int .i64 y] 90)) w.heap.size (.slice a6 m cap6) acc := by unfold OwnsP; rw [hm.out]; exact (HRW.out w1 w2 G1 G2).alloc _
          go_roundw
          case rel => exact ⟨k + 1, acc, s2, e4, by go_num, by omega, by rw [hm.out]; omega, by omega, ho, R5, G5, by rw [← HE.out, show n - k = n - (k + 1) + 1 by omega, HG.out, if_neg (by rw [hm.out]; exact hl)]⟩
          case measure => simp [intOf]; omega
      · have hd : (e4 == 0) = false := by simpa using he
        have hd2 : (e4 != 0) = true := by simpa using he
        have HG := Lib.hid (rPs_stop (n := n - (k + 1)) (acc := acc) hA hB he)
        clear he hA hB
        go_wp2_with (first | (go_at_call 69; refine (CN.out _ R).mono ?_; rintro en w1 ⟨rfl, R1, G1⟩) | (go_at_call 71; refine (CW.out _ R1).mono ?_; rintro en w2 ⟨rfl, R2, G2⟩) | (go_at_call 110; refine (err_any (rd_grown R2 (World.grownBy_alloc w2 (Obj.cells #[.int .i64 x, .int .i64 y] 90) none) (by simp))).mono ?_; rintro e w' ⟨rfl, rfl⟩))
        go_ret
        have G5 := grown_over (grown_trans (grown_trans G G1) G2) (World.grownBy_alloc w2 (Obj.cells #[.int .i64 x, .int .i64 y] 90) none) (by intro k hk; cases hk)
        have R5 := rd_grown R2 (World.grownBy_alloc w2 (Obj.cells #[.int .i64 x, .int .i64 y] 90) none) (by simp)
        have HR : rPairs s e = ([], s2, e4) := by rw [HL.out, ← HE.out, show n - k = n - (k + 1) + 1 by omega, HG.out]
        rw [HR]
        exact ⟨_, rfl, OwnsP.nil _ _ _, R5, G5⟩
    · have hkn : n - k = 0 := by omega
      have hkz : ¬ (k : Int) < (n : Int) := by omega
      have HK := Lib.hid hkn
      clear hkn
      go_wp2
      go_ret
      have HR : rPairs s e = (acc, t, e2) := by rw [HL.out, ← HE.out, HK.out]; rfl
      rw [HR]
      exact ⟨_, rfl, hown, R, G⟩
end Go.Proofs.Ytfnjadiibiedgaa

namespace Go.Proofs.Ytfnjadiibiedgaa
open Go.RowKit Go.Shelf

theorem pairsT_cons (p : Sp) (l : List Sp) : pairsT (p :: l) = bl (numS p.1) ++ bl (wholeS p.2) ++ pairsT l := by simp [pairsT]
def ofL (l : List UInt8) : ByteArray := ⟨l.toArray⟩
theorem ofL_app (a b : List UInt8) : ofL (a ++ b) = ofL a ++ ofL b := ba_ext (by rw [ba_app]; simp [ofL])
theorem ofL_bl (s : ByteArray) : ofL (bl s) = s := ba_ext (by simp [ofL, bl])
theorem rPs_back : ∀ (m acc : List Sp) (r : ByteArray), (∀ p ∈ m, 0 ≤ p.1 ∧ p.1 ≤ 4096 ∧ mayZ p.2 = true) → acc.length + m.length ≤ 4097 → rPs m.length acc (ofL (pairsT m) ++ r) 0 = (acc ++ m, r, 0)
  | [], acc, r, _, _ => by
    rw [List.append_nil]
    show (acc, ofL [] ++ r, (0 : Int)) = _
    rw [show ofL [] ++ r = r from ba_ext (by rw [ba_app]; simp [ofL])]
  | p :: m, acc, r, h, hl => by
    obtain ⟨h0, h1, h2⟩ := h p (by simp)
    rw [List.length_cons] at hl ⊢
    have e : ofL (pairsT (p :: m)) ++ r = numS p.1 ++ (wholeS p.2 ++ (ofL (pairsT m) ++ r)) := by rw [pairsT_cons, ofL_app, ofL_app, ofL_bl, ofL_bl, ba_assoc, ba_assoc]
    rw [e, rPs_go (rNum_back h0 (by omega) _) (rWhole_back h2 _) rfl, if_pos (by omega)]
    rw [rPs_back m (acc ++ [(p.1, p.2)]) r (fun q hq => h q (by simp [hq])) (by rw [List.length_append]; simp; omega)]
    simp
theorem rPs_once : ∀ (n : Nat) (acc : List Sp) (s : ByteArray) (l : List Sp) (t : ByteArray), rPs n acc s 0 = (l, t, 0) → ∃ m, (acc ++ m).length ≤ l.length ∧ (l.length ≤ 4096 → l = acc ++ m ∧ m.length = n ∧ s = ofL (pairsT m) ++ t)
  | 0, acc, s, l, t, h => by
    rw [rPs] at h
    cases h
    exact ⟨[], by simp, fun _ => ⟨by simp, rfl, ba_ext (by rw [ba_app]; simp [ofL, pairsT])⟩⟩
  | n + 1, acc, s, l, t, h => by
    obtain ⟨x, s1, e3, hA⟩ : ∃ x s1 e3, rNum s 0 = (x, s1, e3) := ⟨_, _, _, rfl⟩
    obtain ⟨y, s2, e4, hB⟩ : ∃ y s2 e4, rWhole s1 e3 = (y, s2, e4) := ⟨_, _, _, rfl⟩
    by_cases he : e4 = 0
    · rw [rPs_go hA hB he] at h
      subst he
      have he3 : e3 = 0 := by
        apply Classical.byContradiction
        intro hne
        unfold rWhole at hB
        rw [rNum_err hne] at hB
        cases hB
        exact hne rfl
      subst he3
      have w1 := rNum_once (s := s) (e := 0) (by rw [hA])
      rw [hA] at w1
      have w2 := rWhole_once (s := s1) (e := 0) (by rw [hB])
      rw [hB] at w2
      dsimp only at w1 w2
      by_cases hl : acc.length ≤ 4096
      · rw [if_pos hl] at h
        obtain ⟨m, h1, h2⟩ := rPs_once n _ _ _ _ h
        refine ⟨(x, y) :: m, by simpa using h1, fun hle => ?_⟩
        obtain ⟨a, b, c⟩ := h2 hle
        refine ⟨by rw [a]; simp, by rw [List.length_cons, b], ?_⟩
        rw [pairsT_cons, ofL_app, ofL_app, ofL_bl, ofL_bl, ba_assoc, ba_assoc, ← c]
        dsimp only
        rw [w2, w1]
      · rw [if_neg hl] at h
        obtain ⟨m, h1, h2⟩ := rPs_once n _ _ _ _ h
        rw [List.length_append] at h1
        exact ⟨m, by rw [List.length_append]; exact h1, fun hle => by omega⟩
    · rw [rPs_stop hA hB he] at h
      cases h
      exact absurd rfl he
def readT (s : ByteArray) : List Sp × Int := if rEnd (rPairs s 0).2.1 (rPairs s 0).2.2 = 0 then (if tblB (rPairs s 0).1 = true then ((rPairs s 0).1, 0) else ([], 3)) else ([], rEnd (rPairs s 0).2.1 (rPairs s 0).2.2)
theorem tbl_item {l : List Sp} (h : tblB l = true) : ∀ p ∈ l, 0 ≤ p.1 ∧ p.1 ≤ 4096 ∧ mayZ p.2 = true := fun p hp => by
  obtain ⟨i, hi⟩ := List.mem_iff_getElem?.1 hp
  obtain ⟨hl, he⟩ := List.getElem?_eq_some_iff.1 hi
  have := tblF_get l (-1) i h hl
  rw [show l.getD i (0, 0) = p by rw [List.getD, hi]; rfl] at this
  exact ⟨by omega, by omega, decide_eq_true (by omega)⟩
theorem readT_back {l : List Sp} (h : tblB l = true) : readT (ofL (textV l)) = (l, 0) := by
  have hl := tbl_le h
  have e : rPairs (ofL (textV l)) 0 = (l, ofL [], 0) := by
    rw [show textV l = bodyV l from if_pos h]
    unfold bodyV
    rw [ofL_app, ofL_bl]
    unfold rPairs
    rw [rNum_back (by omega) (by omega)]
    dsimp only
    have := rPs_back l [] (ofL []) (tbl_item h) (by simp; omega)
    rw [show ofL (pairsT l) ++ ofL [] = ofL (pairsT l) by rw [← ofL_app, List.append_nil]] at this
    rw [Int.toNat_natCast, this]; rfl
  unfold readT
  rw [e]
  rw [if_pos (show rEnd (ofL []) 0 = 0 from rfl), if_pos h]
theorem readT_once {s : ByteArray} (h : (readT s).2 = 0) : tblB (readT s).1 = true ∧ ofL (textV (readT s).1) = s := by
  unfold readT at h ⊢
  by_cases h1 : rEnd (rPairs s 0).2.1 (rPairs s 0).2.2 = 0
  · rw [if_pos h1] at h ⊢
    by_cases h2 : tblB (rPairs s 0).1 = true
    · rw [if_pos h2] at h ⊢
      refine ⟨h2, ?_⟩
      dsimp only
      obtain ⟨l, t, e, hr⟩ : ∃ l t e, rPairs s 0 = (l, t, e) := ⟨_, _, _, rfl⟩
      rw [hr] at h1 h2 ⊢
      dsimp only at h1 h2 ⊢
      have he : e = 0 := by
        unfold rEnd at h1
        by_cases hq : e = 0
        · exact hq
        · rw [if_neg hq] at h1; exact h1
      subst he
      have ht : t.data.toList = [] := by
        unfold rEnd at h1
        rw [if_pos rfl] at h1
        cases hq : t.data.toList with
        | nil => rfl
        | cons a b => rw [hq] at h1; cases h1
      obtain ⟨x, s1, e3, hA⟩ : ∃ x s1 e3, rNum s 0 = (x, s1, e3) := ⟨_, _, _, rfl⟩
      unfold rPairs at hr
      rw [hA] at hr
      dsimp only at hr
      by_cases h3 : e3 = 0
      · subst h3
        have w1 := rNum_once (s := s) (e := 0) (by rw [hA])
        rw [hA] at w1
        have hx := (rNum_val s 0).1
        rw [hA] at hx
        obtain ⟨m, _, hm⟩ := rPs_once _ _ _ _ _ hr
        obtain ⟨a, b, c⟩ := hm (tbl_le h2)
        rw [List.nil_append] at a
        subst a
        rw [show textV l = bodyV l from if_pos h2]
        unfold bodyV
        rw [ofL_app, ofL_bl, b, Int.toNat_of_nonneg hx]
        rw [show ofL (pairsT l) = s1 from ?_]
        · exact w1
        · rw [c]; exact ba_ext (by rw [ba_app, ht, List.append_nil])
      · exfalso
        have hz : x = 0 := by
          cases hs : scanN 0 s.data.toList with
          | error k => rw [rNum_bad rfl hs] at hA; cases hA; rfl
          | ok p => obtain ⟨p, q⟩ := p; rw [rNum_good rfl hs] at hA; cases hA; exact absurd rfl h3
        subst hz
        rw [show (0 : Int).toNat = 0 from rfl, rPs] at hr
        cases hr
        exact h3 rfl
    · rw [if_neg h2] at h; cases h
  · rw [if_neg h1] at h; exact absurd h h1

set_option maxRecDepth 100000 in
set_option maxHeartbeats 2000000 in
theorem tread_any (s : ByteArray) (w : World) (hs : (s.size : Int) ≤ 1000000000000) : Calls Try.prog 50 #[.string s] w (SetPost w (readT s)) := by
  obtain ⟨l, t, e, hr⟩ : ∃ l t e, rPairs s 0 = (l, t, e) := ⟨_, _, _, rfl⟩
  obtain ⟨x, hx⟩ : ∃ x, rEnd t e = x := ⟨_, rfl⟩
  obtain ⟨W, hW⟩ : ∃ W, w.alloc (.cells #[.string s, .int .i64 0] 149) = W := ⟨_, rfl⟩
  have hsz : w.heap.size < W.heap.size := by rw [← hW]; simp
  have C0 : Calls Try.prog 68 #[.string s] w fun e w' => e = .returned (.pointer (some ⟨w.heap.size, 0, none⟩)) ∧ W = w' := by rw [← hW]; exact from_any s w
  have b0 : Below w.heap.size w W := by rw [← hW]; exact (Below.refl _ _).alloc (Nat.le_refl _) _
  have C1 : Calls Try.prog 95 #[.pointer (some ⟨w.heap.size, 0, none⟩)] W fun en w1 => ∃ a c, en = .returned (.slice a l.length c) ∧ l.length ≤ c ∧ c ≤ maxLen ∧ PIn w1 w1.heap.size a l ∧ Rd w1 w.heap.size t e ∧ Below w.heap.size w w1 := by
    have := rpairs_any (w := W) (g := w.heap.size) (s := s) (e := 0) (by rw [← hW]; exact Rd.new w s 0) hs
    rw [hr] at this
    refine this.mono ?_
    rintro en w1 ⟨v, rfl, ho, hR, hG⟩
    obtain ⟨a, c, rfl, h1, h2, h3, _⟩ := ho.arg
    exact ⟨a, c, rfl, h1, h2, h3, hR, b0.grown hG (Nat.le_of_lt hsz) (fun k hk => by cases hk; exact Nat.le_refl _)⟩
  have hT : readT s = if x = 0 then (if tblB l = true then (l, 0) else ([], 3)) else ([], x) := by unfold readT; rw [hr]; dsimp only; rw [hx]
  have C0 := Lib.hid C0
  have C1 := Lib.hid C1
  replace hr := Lib.hid hr
  have CE := Lib.hid (fun W (h : Rd W w.heap.size t e) => hx ▸ end_any h)
  replace hx := Lib.hid hx
  replace hW := Lib.hid hW
  obtain ⟨R, hR⟩ : ∃ R, readT s = R := ⟨_, rfl⟩
  rw [hR] at hT ⊢
  replace hR := Lib.hid hR
  by_cases h0 : x = 0
  · rw [if_pos h0] at hT
    have d1 : (x == 0) = true := by simpa using h0
    have d2 : (x != 0) = false := by simpa using h0
    replace h0 := Lib.hid h0
    cases ht : tblB l
    · rw [if_neg (by rw [ht]; simp)] at hT
      subst hT
      have CK : Hid (∀ W a c, l.length ≤ c → c ≤ maxLen → PIn W W.heap.size a l → Calls Try.prog 42 #[.slice a l.length c] W (Gives W (.bool false))) := Lib.hid fun W a c h1 h2 h3 => ht ▸ tcheck_any a _ c l W ⟨rfl, by unfold maxLen at h2; omega, h1, h2, h3⟩
      have h1 := Lib.hid ht
      clear ht
      go_enter Try.func50, Try.ntmps50
      go_wp2_with (first | (go_at_call 68; refine C0.out.mono ?_; rintro en w0 ⟨rfl, rfl⟩) | (go_at_call 95; refine C1.out.mono ?_; rintro en w1 ⟨a, c, rfl, hc1, hc2, hp, hR, b1⟩) | (go_at_call 72; refine (CE.out _ hR).mono ?_; rintro en w' ⟨rfl, rfl⟩) | (go_at_call 42; (with_reducible refine (CK.out w1 a c hc1 hc2 hp).mono ?_); rintro en w2 ⟨rfl, b2⟩))
      go_ret2
      exact SetPost.nil (below_next b1 b2)
    · rw [if_pos ht] at hT
      subst hT
      have CK : Hid (∀ W a c, l.length ≤ c → c ≤ maxLen → PIn W W.heap.size a l → Calls Try.prog 42 #[.slice a l.length c] W (Gives W (.bool true))) := Lib.hid fun W a c h1 h2 h3 => ht ▸ tcheck_any a _ c l W ⟨rfl, by unfold maxLen at h2; omega, h1, h2, h3⟩
      have h1 := Lib.hid ht
      clear ht
      go_enter Try.func50, Try.ntmps50
      go_wp2_with (first | (go_at_call 68; refine C0.out.mono ?_; rintro en w0 ⟨rfl, rfl⟩) | (go_at_call 95; refine C1.out.mono ?_; rintro en w1 ⟨a, c, rfl, hc1, hc2, hp, hR, b1⟩) | (go_at_call 72; refine (CE.out _ hR).mono ?_; rintro en w' ⟨rfl, rfl⟩) | (go_at_call 42; (with_reducible refine (CK.out w1 a c hc1 hc2 hp).mono ?_); rintro en w2 ⟨rfl, b2⟩))
      go_ret2
      exact ⟨a, c, rfl, hc1, hc2, (hp.belowMore b2), below_next b1 b2⟩
  · rw [if_neg h0] at hT
    have d1 : (x == 0) = false := by simpa using h0
    have d2 : (x != 0) = true := by simpa using h0
    replace h0 := Lib.hid h0
    subst hT
    go_enter Try.func50, Try.ntmps50
    go_wp2_with (first | (go_at_call 68; refine C0.out.mono ?_; rintro en w0 ⟨rfl, rfl⟩) | (go_at_call 95; refine C1.out.mono ?_; rintro en w1 ⟨a, c, rfl, hc1, hc2, hp, hR, b1⟩) | (go_at_call 72; refine (CE.out _ hR).mono ?_; rintro en w' ⟨rfl, rfl⟩))
    go_ret2
    exact SetPost.nil b1
end Go.Proofs.Ytfnjadiibiedgaa

namespace Go.Proofs.Ytfnjadiibiedgaa
open Go.RowKit Go.Shelf

theorem pairsT_len (l : List Sp) (h : tblB l = true) : (pairsT l).length ≤ 18 * l.length := by
  have hb := tbl_item h
  clear h
  induction l with
  | nil => simp [pairsT]
  | cons p t ih =>
    have h1 := ih (fun q hq => hb q (by simp [hq]))
    have hp := hb p (by simp)
    rw [pairsT_cons, List.length_append, List.length_append, List.length_cons]
    have h2 : (bl (wholeS p.2)).length ≤ 9 := by have := wholeS_size p.2; have e : (bl (wholeS p.2)).length = (wholeS p.2).size := Array.length_toList; omega
    have h3 : (bl (numS p.1)).length ≤ 9 := by have := numS_size (n := p.1) (by omega); have e : (bl (numS p.1)).length = (numS p.1).size := Array.length_toList; omega
    omega

set_option maxRecDepth 100000 in
set_option maxHeartbeats 4000000 in
theorem tableBack_walk (a : Option Addr) (n cp : Nat) (l : List Sp) (s : ByteArray) (w : World) (hL : Arg w a n cp l) (_hs : s.size ≤ maxLen) :
    Calls Try.prog 13 #[.slice a n cp, .string s] w (TruePost w) := by
  have z1 : (n : Int) ≤ 9223372036854775807 := by have := hL.1; have := hL.2.1; omega
  have hsz : (s.size : Int) ≤ 9223372036854775807 := by unfold maxLen at _hs; omega
  clear _hs
  have HS := Lib.hid ((Env.mk (L := []) (Below.refl w.heap.size w) (by simp)).add hL)
  have F1 := Lib.hid (fun W => few5_any a n cp 0 0 0 none 0 0 0 0 0 none 0 0 W z1 (by omega) (by omega))
  cases hf : fewB n 0 0
  · rw [hf] at F1
    clear hL hf
    go_enter Try.func13, Try.ntmps13
    go_wp2_with (first | (go_at_call 36; (with_reducible refine (F1.out _).mono ?_); rintro e w' ⟨rfl, hb⟩; replace HS := Lib.hid (HS.out.step hb); clear hb) | (go_at_call 37; (with_reducible refine (awake5_any _).mono ?_); rintro e w' ⟨rfl, hb⟩; replace HS := Lib.hid (HS.out.step hb); clear hb))
    go_ret
    exact ⟨rfl, HS.out.low⟩
  · rw [hf] at F1
    have zl : l.length ≤ 100000 := by unfold fewB at hf; simp at hf; have := hL.1; omega
    have zl2 : l.length ≤ 200 := by unfold fewB at hf; simp at hf; have := hL.1; omega
    by_cases hbig : (s.size : Int) ≤ 5000
    · have RS0 := fun W => tread_any s W (by omega)
      obtain ⟨k, x, hk⟩ : ∃ k x, readT s = (k, x) := ⟨_, _, rfl⟩
      rw [hk] at RS0
      have RS := Lib.hid (fun W => (RS0 W).mono fun _ _ h => h.arg)
      have hone := fun hx => readT_once (s := s) hx
      have hbad : x ≠ 0 → k = [] := fun hx => by
        unfold readT at hk
        split at hk
        · split at hk
          · cases hk; exact absurd rfl hx
          · cases hk; rfl
        · cases hk; rfl
      rw [hk] at hone
      dsimp only at hone RS
      cases ht : tblB l
      · have T1 := Lib.hid (fun W h => ht ▸ tcheck_any a n cp l W h)
        by_cases hx : x = 0
        · have hx1 : (x == 0) = true := by simpa using hx
          have hx2 : (x != 0) = false := by simpa using hx
          have TY : Hid (∀ a n c W, Arg W a n c k → Calls Try.prog 52 #[.slice a n c] W (Gives W (.string s))) := Lib.hid fun a n c W h => by have := ttext_any a n c k W h; rw [show (⟨(textV k).toArray⟩ : ByteArray) = s from (hone hx).2] at this; exact this
          replace hx := Lib.hid hx
          replace hk := Lib.hid hk
          replace ht := Lib.hid ht
          clear hL hf hone hbad RS0
          go_enter Try.func13, Try.ntmps13
          go_wp2_with (first | (go_at_call 36; (with_reducible refine (F1.out _).mono ?_); rintro e w' ⟨rfl, hb⟩; replace HS := Lib.hid (HS.out.step hb); clear hb) | (go_at_call 37; (with_reducible refine (awake5_any _).mono ?_); rintro e w' ⟨rfl, hb⟩; replace HS := Lib.hid (HS.out.step hb); clear hb) | (go_at_call 42; (with_reducible refine (T1.out _ (HS.out.get (by repeat (first | exact List.mem_cons_self | apply List.mem_cons_of_mem)))).mono ?_); rintro e w' ⟨rfl, hb⟩; replace HS := Lib.hid (HS.out.step hb); clear hb) | (go_at_call 50; (with_reducible refine (RS.out _).mono ?_); rintro e w' ⟨ar, nr, cr, rfl, hr, hb⟩; replace HS := Lib.hid ((HS.out.step hb).add hr); clear hb hr) | (go_at_call 52; (with_reducible refine (TY.out ar nr cr _ (HS.out.get (by repeat (first | exact List.mem_cons_self | apply List.mem_cons_of_mem)))).mono ?_); rintro e w' ⟨rfl, hb⟩; replace HS := Lib.hid (HS.out.step hb); clear hb))
          go_ret
          exact ⟨ret_bool (by simp), HS.out.low⟩
        · have hx1 : (x == 0) = false := by simpa using hx
          have hx2 : (x != 0) = true := by simpa using hx
          have hk0 := hbad hx
          replace hx := Lib.hid hx
          replace hk := Lib.hid hk
          subst hk0
          replace ht := Lib.hid ht
          clear hL hf hone hbad RS0
          go_enter Try.func13, Try.ntmps13
          go_wp2_with (first | (go_at_call 36; (with_reducible refine (F1.out _).mono ?_); rintro e w' ⟨rfl, hb⟩; replace HS := Lib.hid (HS.out.step hb); clear hb) | (go_at_call 37; (with_reducible refine (awake5_any _).mono ?_); rintro e w' ⟨rfl, hb⟩; replace HS := Lib.hid (HS.out.step hb); clear hb) | (go_at_call 42; (with_reducible refine (T1.out _ (HS.out.get (by repeat (first | exact List.mem_cons_self | apply List.mem_cons_of_mem)))).mono ?_); rintro e w' ⟨rfl, hb⟩; replace HS := Lib.hid (HS.out.step hb); clear hb) | (go_at_call 50; (with_reducible refine (RS.out _).mono ?_); rintro e w' ⟨ar, nr, cr, rfl, hr, hb⟩; have hnr := hr.1; replace HS := Lib.hid ((HS.out.step hb).add hr); clear hb hr) | (go_at_call 52; (with_reducible refine (TY.out ar nr cr _ (HS.out.get (by repeat (first | exact List.mem_cons_self | apply List.mem_cons_of_mem)))).mono ?_); rintro e w' ⟨rfl, hb⟩; replace HS := Lib.hid (HS.out.step hb); clear hb))
          go_ret
          exact ⟨ret_bool (by simp), HS.out.low⟩
      · have T1 := Lib.hid (fun W h => ht ▸ tcheck_any a n cp l W h)
        have SM : Hid (∀ au nu cu av nv cv W, Arg W au nu cu l → Arg W av nv cv l → Calls Try.prog 45 #[.slice au nu cu, .slice av nv cv] W (Gives W (.bool true))) := Lib.hid fun au nu cu av nv cv W h h' => by have := same5_any au av nu nv cu cv l l W h h'; rw [decide_eq_true rfl] at this; exact this
        have TX := Lib.hid (fun W h => ttext_any a n cp l W h)
        have hts : ((ofL (textV l)).size : Int) ≤ 1000000000000 := by
          rw [show textV l = bodyV l from if_pos ht]
          have e : (ofL (bodyV l)).size = (bodyV l).length := by rw [ba_size]; simp [ofL]
          have h1 := pairsT_len l ht
          have h2 : (bl (numS (l.length : Int))).length ≤ 9 := by have := numS_size (n := (l.length : Int)) (by omega); have e : (bl (numS (l.length : Int))).length = (numS (l.length : Int)).size := Array.length_toList; omega
          have h3 : (bodyV l).length = (bl (numS (l.length : Int))).length + (pairsT l).length := by unfold bodyV; rw [List.length_append]
          omega
        have RB : Hid (∀ W, Calls Try.prog 50 #[.string ⟨(textV l).toArray⟩] W (SetArg W (l, 0))) := Lib.hid fun W => (readT_back ht ▸ tread_any (ofL (textV l)) W hts).mono fun _ _ h => h.arg
        by_cases hx : x = 0
        · have hx1 : (x == 0) = true := by simpa using hx
          have hx2 : (x != 0) = false := by simpa using hx
          have TY : Hid (∀ a n c W, Arg W a n c k → Calls Try.prog 52 #[.slice a n c] W (Gives W (.string s))) := Lib.hid fun a n c W h => by have := ttext_any a n c k W h; rw [show (⟨(textV k).toArray⟩ : ByteArray) = s from (hone hx).2] at this; exact this
          replace hx := Lib.hid hx
          replace hk := Lib.hid hk
          replace ht := Lib.hid ht
          clear hL hf hone hbad RS0
          go_enter Try.func13, Try.ntmps13
          go_wp2_with (first | (go_at_call 36; (with_reducible refine (F1.out _).mono ?_); rintro e w' ⟨rfl, hb⟩; replace HS := Lib.hid (HS.out.step hb); clear hb) | (go_at_call 37; (with_reducible refine (awake5_any _).mono ?_); rintro e w' ⟨rfl, hb⟩; replace HS := Lib.hid (HS.out.step hb); clear hb) | (go_at_call 42; (with_reducible refine (T1.out _ (HS.out.get (by repeat (first | exact List.mem_cons_self | apply List.mem_cons_of_mem)))).mono ?_); rintro e w' ⟨rfl, hb⟩; replace HS := Lib.hid (HS.out.step hb); clear hb) | (go_at_call 52; (with_reducible refine (TX.out _ (HS.out.get (by repeat (first | exact List.mem_cons_self | apply List.mem_cons_of_mem)))).mono ?_); rintro e w' ⟨rfl, hb⟩; replace HS := Lib.hid (HS.out.step hb); clear hb) | (go_at_call 50; (with_reducible refine (RB.out _).mono ?_); rintro e w' ⟨am, nm, cm, rfl, hm, hb⟩; replace HS := Lib.hid ((HS.out.step hb).add hm); clear hb hm) | (go_at_call 40; (with_reducible refine (refs5_any am nm cm l _ zl (HS.out.get (by repeat (first | exact List.mem_cons_self | apply List.mem_cons_of_mem)))).mono ?_); rintro e w' ⟨au, nu, cu, rfl, hu, hb⟩; replace HS := Lib.hid ((HS.out.step hb).add hu); clear hb hu) | (go_at_call 40; (with_reducible refine (refs5_any a n cp l _ zl (HS.out.get (by repeat (first | exact List.mem_cons_self | apply List.mem_cons_of_mem)))).mono ?_); rintro e w' ⟨av, nv, cv, rfl, hv, hb⟩; replace HS := Lib.hid ((HS.out.step hb).add hv); clear hb hv) | (go_at_call 45; (with_reducible refine (SM.out au nu cu av nv cv _ (HS.out.get (by repeat (first | exact List.mem_cons_self | apply List.mem_cons_of_mem))) (HS.out.get (by repeat (first | exact List.mem_cons_self | apply List.mem_cons_of_mem)))).mono ?_); rintro e w' ⟨rfl, hb⟩; replace HS := Lib.hid (HS.out.step hb); clear hb) | (go_at_call 50; (with_reducible refine (RS.out _).mono ?_); rintro e w' ⟨ar, nr, cr, rfl, hr, hb⟩; replace HS := Lib.hid ((HS.out.step hb).add hr); clear hb hr) | (go_at_call 52; (with_reducible refine (TY.out ar nr cr _ (HS.out.get (by repeat (first | exact List.mem_cons_self | apply List.mem_cons_of_mem)))).mono ?_); rintro e w' ⟨rfl, hb⟩; replace HS := Lib.hid (HS.out.step hb); clear hb))
          go_ret
          exact ⟨ret_bool (by simp), HS.out.low⟩
        · have hx1 : (x == 0) = false := by simpa using hx
          have hx2 : (x != 0) = true := by simpa using hx
          have hk0 := hbad hx
          replace hx := Lib.hid hx
          replace hk := Lib.hid hk
          subst hk0
          replace ht := Lib.hid ht
          clear hL hf hone hbad RS0
          go_enter Try.func13, Try.ntmps13
          go_wp2_with (first | (go_at_call 36; (with_reducible refine (F1.out _).mono ?_); rintro e w' ⟨rfl, hb⟩; replace HS := Lib.hid (HS.out.step hb); clear hb) | (go_at_call 37; (with_reducible refine (awake5_any _).mono ?_); rintro e w' ⟨rfl, hb⟩; replace HS := Lib.hid (HS.out.step hb); clear hb) | (go_at_call 42; (with_reducible refine (T1.out _ (HS.out.get (by repeat (first | exact List.mem_cons_self | apply List.mem_cons_of_mem)))).mono ?_); rintro e w' ⟨rfl, hb⟩; replace HS := Lib.hid (HS.out.step hb); clear hb) | (go_at_call 52; (with_reducible refine (TX.out _ (HS.out.get (by repeat (first | exact List.mem_cons_self | apply List.mem_cons_of_mem)))).mono ?_); rintro e w' ⟨rfl, hb⟩; replace HS := Lib.hid (HS.out.step hb); clear hb) | (go_at_call 50; (with_reducible refine (RB.out _).mono ?_); rintro e w' ⟨am, nm, cm, rfl, hm, hb⟩; replace HS := Lib.hid ((HS.out.step hb).add hm); clear hb hm) | (go_at_call 40; (with_reducible refine (refs5_any am nm cm l _ zl (HS.out.get (by repeat (first | exact List.mem_cons_self | apply List.mem_cons_of_mem)))).mono ?_); rintro e w' ⟨au, nu, cu, rfl, hu, hb⟩; replace HS := Lib.hid ((HS.out.step hb).add hu); clear hb hu) | (go_at_call 40; (with_reducible refine (refs5_any a n cp l _ zl (HS.out.get (by repeat (first | exact List.mem_cons_self | apply List.mem_cons_of_mem)))).mono ?_); rintro e w' ⟨av, nv, cv, rfl, hv, hb⟩; replace HS := Lib.hid ((HS.out.step hb).add hv); clear hb hv) | (go_at_call 45; (with_reducible refine (SM.out au nu cu av nv cv _ (HS.out.get (by repeat (first | exact List.mem_cons_self | apply List.mem_cons_of_mem))) (HS.out.get (by repeat (first | exact List.mem_cons_self | apply List.mem_cons_of_mem)))).mono ?_); rintro e w' ⟨rfl, hb⟩; replace HS := Lib.hid (HS.out.step hb); clear hb) | (go_at_call 50; (with_reducible refine (RS.out _).mono ?_); rintro e w' ⟨ar, nr, cr, rfl, hr, hb⟩; have hnr := hr.1; replace HS := Lib.hid ((HS.out.step hb).add hr); clear hb hr) | (go_at_call 52; (with_reducible refine (TY.out ar nr cr _ (HS.out.get (by repeat (first | exact List.mem_cons_self | apply List.mem_cons_of_mem)))).mono ?_); rintro e w' ⟨rfl, hb⟩; replace HS := Lib.hid (HS.out.step hb); clear hb))
          go_ret
          exact ⟨ret_bool (by simp), HS.out.low⟩
    · have hbig' : ¬ (s.size : Int) ≤ 5000 := hbig
      clear hL hf
      go_enter Try.func13, Try.ntmps13
      go_wp2_with (first | (go_at_call 36; (with_reducible refine (F1.out _).mono ?_); rintro e w' ⟨rfl, hb⟩; replace HS := Lib.hid (HS.out.step hb); clear hb) | (go_at_call 37; (with_reducible refine (awake5_any _).mono ?_); rintro e w' ⟨rfl, hb⟩; replace HS := Lib.hid (HS.out.step hb); clear hb))
      go_ret
      exact ⟨rfl, HS.out.low⟩
end Go.Proofs.Ytfnjadiibiedgaa

