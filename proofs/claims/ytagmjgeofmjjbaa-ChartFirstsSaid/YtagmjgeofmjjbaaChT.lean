/-
  THE STATEMENT 'splicelaw08.ChartSets'.
-/
import Derived.Test.YtagmjgeofmjjbaaChO
import Derived.Test.YtagmjgeofmjjbaaChW
import Derived.Test.YtagmjgeofmjjbaaSB
import Derived.Test.YtagmjgeofmjjbaaSC
import Derived.Lib.MinMax
import Derived.Deep.DeepCutAuto
namespace Go.Proofs.Ytagmjgeofmjjbaa
open Go.RowKit Go.Shelf Go.ChangeShapes Go.WideShapes Go.Deep

theorem toDK {B : Nat} {a X : World} (h : Below B a X) : Below B a X.drew := ⟨h.os, h.tape, h.output, h.size, h.block⟩
def encI (z : Int) : List Value := [.int .i64 z]
theorem encI_len (z : Int) : (encI z).length = 1 := rfl
theorem flatI (zs : List Int) : flatR encI zs = zs.map (Value.int .i64) := by
  induction zs with
  | nil => rfl
  | cons z t ih =>
    show encI z ++ flatR encI t = _
    rw [ih]
    rfl
theorem OwnsI.rarg {w : World} {base : Nat} {v : Value} {zs : List Int} (h : OwnsI w base v zs) : ∃ a c, v = .slice a zs.length c ∧ RArg encI 1 w a zs.length c zs := by
  refine OwnsR.arg (t := 3) (base := base) encI_len ?_
  unfold OwnsR
  rw [flatI]
  exact h
theorem RIn.int {w : World} {B : Nat} {a : Option Addr} {l : List Int} (h : RIn encI 1 w B a l) (j : Nat) (hj : j < l.length) : ∃ b off, a = some ⟨b, off, none⟩ ∧ b < B ∧ w.cell? ⟨b, off + j, none⟩ = some (.int .i64 l[j]!) := by
  obtain ⟨b, off, e, hb, hc⟩ := h j hj
  have := hc 0 _ rfl
  rw [Nat.mul_one, Nat.add_zero] at this
  exact ⟨b, off, e, hb, this⟩
theorem few8_any (ep nx : Int) (a : Option Addr) (n c : Nat) (w : World) (hz : (n : Int) ≤ 9223372036854775807) {r : Bool} (hr : decide (n ≤ 60) = r) : Calls Try.prog 15 #[.agg #[.int .i64 ep, .int .i64 nx, .slice a n c]] w (Gives w (.bool r)) := by
  cases r
  · have h : ¬ n ≤ 60 := of_decide_eq_false hr
    have hz2 : ¬ (n : Int) ≤ 60 := by omega
    go_enter Try.func15, Try.ntmps15
    go_wp2
    go_ret
    exact ⟨rfl, (Below.refl _ _).alloc (Nat.le_refl _) _⟩
  · have h : n ≤ 60 := of_decide_eq_true hr
    have hz2 : (n : Int) ≤ 60 := by omega
    go_enter Try.func15, Try.ntmps15
    go_wp2
    go_ret
    exact ⟨rfl, (Below.refl _ _).alloc (Nat.le_refl _) _⟩
theorem getD_bang {l : List Sp} {m : Nat} (h : m < l.length) : l.getD m (0, 0) = l[m]! := by
  rw [getElem!_pos l m h, List.getD_eq_getElem?_getD, List.getElem?_eq_getElem h]
  rfl
theorem heap_lt {W : World} {b : Nat} {o : Obj} (h : W.heap[b]? = some o) : b < W.heap.size := (Array.getElem?_eq_some_iff.1 h).1
theorem any_more {α : Type} [Inhabited α] {p : α → Bool} {l : List α} {k : Nat} (h : k < l.length) : (l.take (k + 1)).any p = ((l.take k).any p || p l[k]!) := by
  rw [take_moreG h, List.any_append]
  simp
theorem cell4K {W : World} {x y z u : Value} {t : TypeId} : (W.alloc (.cells #[x, y, z, u] t)).cell? ⟨W.heap.size, 0, none⟩ = some x ∧ (W.alloc (.cells #[x, y, z, u] t)).cell? ⟨W.heap.size, 1, none⟩ = some y ∧ (W.alloc (.cells #[x, y, z, u] t)).cell? ⟨W.heap.size, 2, none⟩ = some z ∧ (W.alloc (.cells #[x, y, z, u] t)).cell? ⟨W.heap.size, 3, none⟩ = some u :=
  ⟨cell_of_row _ _ 0 _ _ _ (heap_alloc_new _ _), cell_of_row _ _ 1 _ _ _ (heap_alloc_new _ _), cell_of_row _ _ 2 _ _ _ (heap_alloc_new _ _), cell_of_row _ _ 3 _ _ _ (heap_alloc_new _ _)⟩
theorem set4K {W : World} {b : Nat} {x y z u x' y' z' u' : Value} {t : TypeId} (h : W.heap[b]? = some (.cells #[x, y, z, u] t)) :
    (((W.setCell ⟨b, 0, none⟩ x').setCell ⟨b, 1, none⟩ y').setCell ⟨b, 2, none⟩ z' |>.setCell ⟨b, 3, none⟩ u').heap[b]? = some (.cells #[x', y', z', u'] t) :=
  by
  have h0 := heap_setCell_same _ _ 0 _ _ x' h
  have h1 := heap_setCell_same _ _ 1 _ _ y' h0
  have h2 := heap_setCell_same _ _ 2 _ _ z' h1
  exact heap_setCell_same _ _ 3 _ _ u' h2

set_option maxRecDepth 100000 in
set_option maxHeartbeats 2500000 in
theorem chartSets_walk (ep nx : Int) (a : Option Addr) (n c : Nat) (l : List Sd) (a3 : Option Addr) (n3 c3 : Nat) (K : List Sp) (key : Int) (w : World) (h : RArg encS 4 w a n c l) (hK : Arg w a3 n3 c3 K) (_hk : (Lit.int .i64 key).wf = true) :
    Calls Try.prog 8 #[.agg #[.int .i64 ep, .int .i64 nx, .slice a n c], .slice a3 n3 c3, .int .i64 key] w (TruePost w) := by
  obtain ⟨W1, hW1⟩ : ∃ W1, w.alloc (.cells #[.int .i64 ep, .int .i64 nx, .slice a n c] 24) = W1 := ⟨_, rfl⟩
  have bw : Below w.heap.size w W1 := by rw [← hW1]; exact (Below.refl _ _).alloc (Nat.le_refl _) _
  have g1 : w.heap.size < W1.heap.size := by rw [← hW1]; simp
  have KX := Lib.hid (fun W (h : Below W1.heap.size W1 W) => box3D (w := w) (t := 24) (x := .int .i64 ep) (y := .int .i64 nx) (z := .slice a n c) (w' := W) (by rw [hW1]; exact h))
  have HP := Lib.hid (h.below bw)
  have HK := Lib.hid (hK.below bw)
  have HB := Lib.hid (Below.refl W1.heap.size W1)
  have hz1 := h.2.1
  have hn := h.1
  have hnz : (n : Int) ≤ 9223372036854775807 := by omega
  have hz3 := hK.2.1
  have hn3 := hK.1
  have hnz3 : (n3 : Int) ≤ 9223372036854775807 := by omega
  obtain ⟨q0, q1, q2⟩ := KX.out _ HB.out
  obtain ⟨r1, hr1⟩ : ∃ r, decide (n ≤ 60) = r := ⟨_, rfl⟩
  obtain ⟨r3, hr3⟩ : ∃ r, chkC ep nx l = r := ⟨_, rfl⟩
  obtain ⟨r4, hr4⟩ : ∃ r, chkB K = r := ⟨_, rfl⟩
  have FW := Lib.hid (fun W => few8_any ep nx a n c W hnz hr1)
  have CK := Lib.hid (fun W hh => hr3 ▸ chk_any ep nx a n c l W hh)
  have RC := Lib.hid (fun W (a8 : Option Addr) (n8 c8 : Nat) (hh : Arg W a8 n8 c8 K) => hr4 ▸ rcheck_any a8 n8 c8 K W hh)
  by_cases hgood : r1 = true ∧ n3 ≤ 100 ∧ r3 = true ∧ r4 = true
  · obtain ⟨rfl, hn100, rfl, rfl⟩ := hgood
    have hn100z : ¬ (n3 : Int) > 100 := by omega
    have hn100y : (n3 : Int) ≤ 100 := by omega
    have hK100 : K.length ≤ 100 := by omega
    have MO := Lib.hid (fun z (hz : z ∈ ownersC ep nx l K) => owners_math hr3 hz)
    have MI := Lib.hid (fun (o : Sd) (hk : hasB K key = true) (ho : srchC (ownP key) ep nx l = (o, true)) => owner_in hr3 hr4 hk ho)
    obtain ⟨zs, hzs⟩ : ∃ zs, ownersC ep nx l K = zs := ⟨_, rfl⟩
    have hzlen : zs.length ≤ 100 := by
      have h24 := (chkC_parts hr3).2.2.1.2
      rw [← hzs]
      unfold ownersC
      rw [if_pos hr3]
      have := ownL_len K l
      omega
    have HZ := Lib.hid hzs
    have OW := Lib.hid (fun W (h1 : RArg encS 4 W a n c l) (h2 : Arg W a3 n3 c3 K) => hzs ▸ owners_any ep nx a n c l a3 n3 c3 K W h1 h2)
    clear h hK hr1 hr3 hr4 hzs hz1 hz3
    replace hn := Lib.hid hn
    replace hn3 := Lib.hid hn3
    go_enter Try.func8, Try.ntmps8
    go_wp2_with (first | (go_at_call 15; (with_reducible refine (FW.out _).mono ?_); rintro e wf ⟨rfl, hbf⟩; replace HB := Lib.hid (below_next HB.out hbf); clear hbf; obtain ⟨q0, q1, q2⟩ := KX.out _ HB.out) | (go_at_call 14; (with_reducible refine (CK.out _ (HP.out.below HB.out)).mono ?_); rintro e wf ⟨rfl, hbf⟩; replace HB := Lib.hid (below_next HB.out hbf); clear hbf; obtain ⟨q0, q1, q2⟩ := KX.out _ HB.out) | (go_at_call 25; (with_reducible refine (refs_any a3 n3 c3 K _ (by omega) (HK.out.below HB.out)).mono ?_); rintro e wf ⟨a8, n8, c8, rfl, h8, hbf⟩; have H8 := Lib.hid h8; clear h8; replace HB := Lib.hid (below_next HB.out hbf); clear hbf; obtain ⟨q0, q1, q2⟩ := KX.out _ HB.out) | (go_at_call 34; (with_reducible refine (RC.out _ _ _ _ H8.out).mono ?_); rintro e wf ⟨rfl, hbf⟩; replace HB := Lib.hid (below_next HB.out hbf); clear hbf; obtain ⟨q0, q1, q2⟩ := KX.out _ HB.out) | (go_at_call 11; (with_reducible refine (awake8_any _).mono ?_); rintro e wf ⟨rfl, hbf⟩; replace HB := Lib.hid (below_next HB.out hbf); clear hbf; obtain ⟨q0, q1, q2⟩ := KX.out _ HB.out) | (go_at_call 23; (with_reducible refine (OW.out _ (HP.out.below HB.out) (HK.out.below HB.out)).mono ?_); rintro e wf ⟨v, rfl, ho, hbf⟩; obtain ⟨ao, co, hv, hro⟩ := ho.rarg; subst hv; have HRO := Lib.hid hro; clear hro; have HO := Lib.hid ho; clear ho; replace HB := Lib.hid (below_next HB.out hbf); clear hbf; obtain ⟨q0, q1, q2⟩ := KX.out _ HB.out))
    replace hW1 := Lib.hid hW1
    obtain ⟨W2, hW2⟩ : ∃ W2, wf = W2 := ⟨_, rfl⟩
    rw [hW2] at HB HRO HO q0 q1 q2 ⊢
    clear HO hW2
    have hrop := HRO.out.2.2.1
    go_loopw [8, 9, 10, 11, 12, 13, 14] (fun i _ _ _ _ _ _ wr => ∃ (j : Nat), i = .int .i64 (j : Int) ∧ j ≤ zs.length ∧ Below W2.heap.size W2 wr) (fun i _ _ _ _ _ _ _ => zs.length - (intOf i).toNat)
    case atStart => exact ⟨0, rfl, Nat.zero_le _, Below.refl _ _⟩
    case round =>
      obtain ⟨wo, hwo⟩ : ∃ wo, wo = wr := ⟨_, rfl⟩
      obtain ⟨j, rfl, hj, hbl⟩ := hrel
      have hbl1 := below_next HB.out hbl
      obtain ⟨q0, q1, q2⟩ := KX.out _ hbl1
      by_cases hlt : j < zs.length
      · have hjz : (j : Int) < (zs.length : Int) := by omega
        have hj100 : (j : Int) < 100 := by omega
        obtain ⟨b, off, e, hb, hcj⟩ := (HRO.out.below hbl).2.2.2.2.int j hlt
        subst e
        obtain ⟨s, hs1, hs2⟩ := MO.out zs[j]! (by rw [HZ.out, getElem!_pos zs j hlt]; exact List.getElem_mem hlt)
        generalize zs[j]! = z at hcj hs1
        have FN := Lib.hid (fun W (hh : RArg encS 4 W a n c l) => hs1 ▸ find_any ep nx z a n c l W hh)
        obtain ⟨i0, lo, hi, nd⟩ := s
        have HS2 := Lib.hid hs2
        clear hs1 hs2
        go_upto_region 7 with fail
        go_cut [9, 10] from 49 to 56 (fun p bb wx => ∃ g : Nat, p = .pointer (some ⟨g, 0, none⟩) ∧ bb = .bool true ∧ wx.heap[g]? = some (.cells #[.int .i64 i0, .int .i64 lo, .int .i64 hi, .int .i64 nd] 42 (0, 0)) ∧ Below wr.heap.size wr wx)
        case first =>
          have KK := Lib.hid (fun W (h : Below wr.heap.size wr W) => (show W.cell? ⟨w.heap.size, 0, none⟩ = some (.int .i64 ep) ∧ W.cell? ⟨w.heap.size, 1, none⟩ = some (.int .i64 nx) ∧ W.cell? ⟨w.heap.size, 2, none⟩ = some (.slice a n c) ∧ W.cell? ⟨b, off + j, none⟩ = some (.int .i64 z) by
            obtain ⟨q0, q1, q2⟩ := KX.out W (below_next hbl1 h)
            exact ⟨q0, q1, q2, (h.cell (p := ⟨b, off + j, none⟩) hb).trans hcj⟩))
          have HPW := Lib.hid (HP.out.below hbl1)
          have HBD : Below wr.heap.size wr wr := Below.refl _ _
          go_region_held3 (fun WW => WW.cell? ⟨w.heap.size, 0, none⟩ = some (.int .i64 ep) ∧ WW.cell? ⟨w.heap.size, 1, none⟩ = some (.int .i64 nx) ∧ WW.cell? ⟨w.heap.size, 2, none⟩ = some (.slice a n c) ∧ WW.cell? ⟨b, off + j, none⟩ = some (.int .i64 z)) (exact KK.out _ (by repeat (first | exact HBD | refine toDK ?_ | refine Below.alloc ?_ (by first | omega | (simp; omega)) _ | refine Below.setCell ?_ (by first | exact Nat.le_refl _ | omega | (simp; omega)) _))) ((first | (go_at_call 17; (with_reducible refine (FN.out _ (HPW.out.below (by repeat (first | exact HBD | refine toDK ?_ | refine Below.alloc ?_ (by first | omega | (simp; omega)) _ | refine Below.setCell ?_ (by first | exact Nat.le_refl _ | omega | (simp; omega)) _)))).mono ?_); rintro e wz ⟨rfl, hbz⟩; have HBD := below_next (w := wr) (by repeat (first | exact HBD | refine toDK ?_ | refine Below.alloc ?_ (by first | omega | (simp; omega)) _ | refine Below.setCell ?_ (by first | exact Nat.le_refl _ | omega | (simp; omega)) _)) hbz; have HBZ := HBD.size; have kzb := (fun k hk => hbz.block k hk); have kzc := (fun (i : Nat) h => hbz.cell (p := ⟨wr.heap.size, i, none⟩) h); have kzf := (fun (i : Nat) h => hbz.frozen (p := ⟨wr.heap.size, i, none⟩) h)) | fail))
          all_goals
            go_wp2_with fail
            go_meet
            first
              | (have hz4 : wz.heap[wr.heap.size]? = some (.cells #[.int .i64 0, .int .i64 0, .int .i64 0, .int .i64 0] 42) := (kzb _ (by simp)).trans (heap_alloc_new _ _); exact ⟨_, rfl, rfl, set4K hz4, (by repeat (first | exact HBD | refine toDK ?_ | refine Below.alloc ?_ (by first | omega | (simp; omega)) _ | refine Below.setCell ?_ (by first | exact Nat.le_refl _ | omega | (simp; omega)) _))⟩)
              | exact ⟨_, rfl, rfl, heap_alloc_new _ _, (by repeat (first | exact HBD | refine toDK ?_ | refine Below.alloc ?_ (by first | omega | (simp; omega)) _ | refine Below.setCell ?_ (by first | exact Nat.le_refl _ | omega | (simp; omega)) _))⟩
        case rest =>
          obtain ⟨g, rfl, rfl, hg, hbc⟩ := hcut
          have hblc := below_next hbl hbc
          obtain ⟨W5, hW5⟩ : ∃ W5, wc = W5 := ⟨_, rfl⟩
          rw [hW5] at hg hbc hblc ⊢
          clear hW5
          have hgs : g < W5.heap.size := heap_lt hg
          have HG := Lib.hid hg
          clear hg
          go_wp2_with fail
          go_loopw [11, 12, 13, 14] (fun sm i _ _ wr => ∃ (m : Nat), sm = .bool ((K.take m).any (condB ep nx l (i0, lo, hi, nd))) ∧ i = .int .i64 (m : Int) ∧ m ≤ n3 ∧ Below W5.heap.size W5 wr) (fun _ i _ _ _ => n3 - (intOf i).toNat)
          case atStart => exact ⟨0, by simp, rfl, Nat.zero_le _, Below.refl _ _⟩
          case round =>
            obtain ⟨m, rfl, rfl, hm, hbm⟩ := hrel
            have hbm1 := below_next hbl1 (below_next hbc hbm)
            have hbm1' := below_next HB.out (below_next hblc hbm)
            obtain ⟨q0, q1, q2⟩ := KX.out _ hbm1'
            have hgm : wr.heap[g]? = some (.cells #[.int .i64 i0, .int .i64 lo, .int .i64 hi, .int .i64 nd] 42 (0, 0)) := (hbm.block g hgs).trans HG.out
            have hgw : g < wr.heap.size := heap_lt hgm
            have s0 : wr.cell? ⟨g, 0, none⟩ = some (.int .i64 i0) := cell_of_row _ _ 0 _ _ _ hgm
            have s1 : wr.cell? ⟨g, 1, none⟩ = some (.int .i64 lo) := cell_of_row _ _ 1 _ _ _ hgm
            have s2 : wr.cell? ⟨g, 2, none⟩ = some (.int .i64 hi) := cell_of_row _ _ 2 _ _ _ hgm
            have s3 : wr.cell? ⟨g, 3, none⟩ = some (.int .i64 nd) := cell_of_row _ _ 3 _ _ _ hgm
            obtain ⟨sf, hsf⟩ : ∃ sf, (K.take m).any (condB ep nx l (i0, lo, hi, nd)) = sf := ⟨_, rfl⟩
            rw [hsf]
            by_cases hlm : m < n3
            · have hmK : m < K.length := by rw [← hn3.out]; exact hlm
              have hmz : (m : Int) < (n3 : Int) := by omega
              have hm100 : (m : Int) < 100 := by omega
              have hmore := any_more (p := condB ep nx l (i0, lo, hi, nd)) hmK
              rw [hsf] at hmore
              obtain ⟨bk, ok, e, hbk, k0, k1⟩ := (HK.out.below hbm1').2.2.2.2 m hmK
              subst e
              rw [getD_bang hmK] at k0 k1
              obtain ⟨⟨x, y⟩, hxy⟩ : ∃ q, K[m]! = q := ⟨_, rfl⟩
              rw [hxy] at k0 k1 hmore
              dsimp only at k0 k1
              have hcond : condB ep nx l (i0, lo, hi, nd) (x, y) = ((srchC (ownP (max x lo)) ep nx l).2 && (eqSB (srchC (ownP (max x lo)) ep nx l).1 (i0, lo, hi, nd) && decide (max x lo < y))) := rfl
              rw [hcond] at hmore
              have ON := Lib.hid (fun W (hh : RArg encS 4 W a n c l) => (show Calls Try.prog 16 #[.agg #[.int .i64 ep, .int .i64 nx, .slice a n c], .int .i64 (max x lo)] W (SdPost (srchC (ownP (max x lo)) ep nx l) W) from owner_any ep nx (max x lo) a n c l W hh))
              obtain ⟨⟨⟨j0, jlo, jhi, jnd⟩, ow⟩, how⟩ : ∃ r, srchC (ownP (max x lo)) ep nx l = r := ⟨_, rfl⟩
              rw [how] at hmore ON
              dsimp only at hmore
              have HM := Lib.hid hmore
              clear hmore how hcond hxy hsf
              go_upto_region 12 with fail
              go_cut [13, 14] from 64 to 76 (fun p bb wx => ∃ g2 : Nat, p = .pointer (some ⟨g2, 0, none⟩) ∧ bb = .bool ow ∧ wx.heap[g2]? = some (.cells #[.int .i64 j0, .int .i64 jlo, .int .i64 jhi, .int .i64 jnd] 42 (0, 0)) ∧ Below wr.heap.size wr wx)
              case first =>
                have KK := Lib.hid (fun W (h : Below wr.heap.size wr W) => (show W.cell? ⟨w.heap.size, 0, none⟩ = some (.int .i64 ep) ∧ W.cell? ⟨w.heap.size, 1, none⟩ = some (.int .i64 nx) ∧ W.cell? ⟨w.heap.size, 2, none⟩ = some (.slice a n c) ∧ W.cell? ⟨bk, ok + m * 2, none⟩ = some (.int .i64 x) ∧ W.cell? ⟨g, 1, none⟩ = some (.int .i64 lo) by
                  obtain ⟨q0, q1, q2⟩ := KX.out W (below_next hbm1' h)
                  exact ⟨q0, q1, q2, (h.cell (p := ⟨bk, ok + m * 2, none⟩) hbk).trans k0, (h.cell (p := ⟨g, 1, none⟩) hgw).trans s1⟩))
                have HPW := Lib.hid (HP.out.below hbm1')
                have HBD : Below wr.heap.size wr wr := Below.refl _ _
                go_region_held3 (fun WW => WW.cell? ⟨w.heap.size, 0, none⟩ = some (.int .i64 ep) ∧ WW.cell? ⟨w.heap.size, 1, none⟩ = some (.int .i64 nx) ∧ WW.cell? ⟨w.heap.size, 2, none⟩ = some (.slice a n c) ∧ WW.cell? ⟨bk, ok + m * 2, none⟩ = some (.int .i64 x) ∧ WW.cell? ⟨g, 1, none⟩ = some (.int .i64 lo)) (exact KK.out _ (by repeat (first | exact HBD | refine toDK ?_ | refine Below.alloc ?_ (by first | omega | (simp; omega)) _ | refine Below.setCell ?_ (by first | exact Nat.le_refl _ | omega | (simp; omega)) _))) ((first | (go_at_call 16; (with_reducible refine (ON.out _ (HPW.out.below (by repeat (first | exact HBD | refine toDK ?_ | refine Below.alloc ?_ (by first | omega | (simp; omega)) _ | refine Below.setCell ?_ (by first | exact Nat.le_refl _ | omega | (simp; omega)) _)))).mono ?_); rintro e wz ⟨rfl, hbz⟩; have HBD := below_next (w := wr) (by repeat (first | exact HBD | refine toDK ?_ | refine Below.alloc ?_ (by first | omega | (simp; omega)) _ | refine Below.setCell ?_ (by first | exact Nat.le_refl _ | omega | (simp; omega)) _)) hbz; have HBZ := HBD.size; have kzb := (fun k hk => hbz.block k hk); have kzc := (fun (i : Nat) h => hbz.cell (p := ⟨wr.heap.size, i, none⟩) h); have kzf := (fun (i : Nat) h => hbz.frozen (p := ⟨wr.heap.size, i, none⟩) h)) | fail))
                all_goals
                  go_wp2_with fail
                  go_meet
                  first
                    | (have hz4 : wz.heap[wr.heap.size]? = some (.cells #[.int .i64 0, .int .i64 0, .int .i64 0, .int .i64 0] 42) := (kzb _ (by simp)).trans (heap_alloc_new _ _); exact ⟨_, rfl, rfl, set4K hz4, (by repeat (first | exact HBD | refine toDK ?_ | refine Below.alloc ?_ (by first | omega | (simp; omega)) _ | refine Below.setCell ?_ (by first | exact Nat.le_refl _ | omega | (simp; omega)) _))⟩)
                    | exact ⟨_, rfl, rfl, heap_alloc_new _ _, (by repeat (first | exact HBD | refine toDK ?_ | refine Below.alloc ?_ (by first | omega | (simp; omega)) _ | refine Below.setCell ?_ (by first | exact Nat.le_refl _ | omega | (simp; omega)) _))⟩
              case rest =>
                obtain ⟨g2, rfl, rfl, hg2, hb2⟩ := hcut
                have hbmc := below_next hbm hb2
                have y0 : wc.cell? ⟨g2, 0, none⟩ = some (.int .i64 j0) := cell_of_row _ _ 0 _ _ _ hg2
                have y1 : wc.cell? ⟨g2, 1, none⟩ = some (.int .i64 jlo) := cell_of_row _ _ 1 _ _ _ hg2
                have y2 : wc.cell? ⟨g2, 2, none⟩ = some (.int .i64 jhi) := cell_of_row _ _ 2 _ _ _ hg2
                have y3 : wc.cell? ⟨g2, 3, none⟩ = some (.int .i64 jnd) := cell_of_row _ _ 3 _ _ _ hg2
                have t0 := (hb2.cell (p := ⟨g, 0, none⟩) hgw).trans s0
                have t1 := (hb2.cell (p := ⟨g, 1, none⟩) hgw).trans s1
                have t2 := (hb2.cell (p := ⟨g, 2, none⟩) hgw).trans s2
                have t3 := (hb2.cell (p := ⟨g, 3, none⟩) hgw).trans s3
                have u0 := (hb2.cell (p := ⟨bk, ok + m * 2, none⟩) hbk).trans k0
                have u1 := (hb2.cell (p := ⟨bk, ok + m * 2 + 1, none⟩) hbk).trans k1
                clear s0 s1 s2 s3 k0 k1 q0 q1 q2
                have EQ := fun w => eqSd (j0, jlo, jhi, jnd) (i0, lo, hi, nd) w
                dsimp only at EQ
                obtain ⟨eq, heq⟩ : ∃ eq, eqSB (j0, jlo, jhi, jnd) (i0, lo, hi, nd) = eq := ⟨_, rfl⟩
                rw [heq] at EQ HM
                clear heq
                cases sf <;> cases ow <;> cases eq
                all_goals
                  go_wp2_with fail
                  go_quiet (fail)
                  go_wp2
                  go_roundw
                  case rel => exact ⟨m + 1, by rw [HM.out]; simp, by go_num, by omega, below_drewN hbmc _⟩
                  case measure => simp [intOf]; omega
            · have hlmz : ¬ (m : Int) < (n3 : Int) := by omega
              have hmt : K.take m = K := List.take_of_length_le (by rw [← hn3.out]; omega)
              rw [hmt, HS2.out] at hsf
              subst hsf
              clear hmt
              go_wp2_with fail
              go_roundw
              case rel => exact ⟨j + 1, by go_num, by omega, below_next hblc hbm⟩
              case measure => simp [intOf]; omega
      · have hjz : ¬ (j : Int) < (zs.length : Int) := by omega
        clear hwo
        have OK := Lib.hid (fun W (hh : RArg encS 4 W a n c l) => (show Calls Try.prog 16 #[.agg #[.int .i64 ep, .int .i64 nx, .slice a n c], .int .i64 key] W (SdPost (srchC (ownP key) ep nx l) W) from owner_any ep nx key a n c l W hh))
        obtain ⟨⟨⟨o0, olo, ohi, ond⟩, ow⟩, how⟩ : ∃ r, srchC (ownP key) ep nx l = r := ⟨_, rfl⟩
        obtain ⟨hk, hhk⟩ : ∃ b, hasB K key = b := ⟨_, rfl⟩
        rw [how] at OK
        have RH := Lib.hid (fun W (a8 : Option Addr) (n8 c8 : Nat) (hh : Arg W a8 n8 c8 K) => hhk ▸ rhas_any a8 n8 c8 K key W hh)
        have HTH := Lib.hid (show ow = true → hk = true → zs.any (fun z => z == o0) = true from fun e1 e2 => by
          subst e1 e2
          have := MI.out _ hhk how
          rw [HZ.out] at this
          exact List.any_eq_true.2 ⟨o0, this, by simp⟩)
        clear how hhk
        have HB9 := Lib.hid hbl1
        clear hbl1
        cases ow
        · go_wp2_with (first | (go_at_call 16; (with_reducible refine (OK.out _ (HP.out.below HB9.out)).mono ?_); rintro e wz ⟨rfl, hbz⟩; replace HB9 := Lib.hid (below_next HB9.out hbz); clear hbz) | (go_at_call 11; (with_reducible refine (awake8_any _).mono ?_); rintro e wy ⟨rfl, hby⟩))
          go_ret
          exact ⟨rfl, (by first | exact below_next bw (below_next (below_next HB9.out ((Below.refl _ _).alloc (Nat.le_refl _) _)) hby) | exact below_next bw (below_next HB9.out hby))⟩
        · cases hk
          · go_wp2_with (first | (go_at_call 16; (with_reducible refine (OK.out _ (HP.out.below HB9.out)).mono ?_); rintro e wz ⟨rfl, hbz⟩; replace HB9 := Lib.hid (below_next HB9.out hbz); clear hbz; have HB10 := Lib.hid (fun o => HB9.out.alloc HB9.out.size o)) | (go_at_call 25; (with_reducible refine (refs_any a3 n3 c3 K _ (by omega) (HK.out.below (HB10.out _))).mono ?_); rintro e wf ⟨a8, n8, c8, rfl, h8, hbf⟩; have H8 := Lib.hid h8; clear h8; replace HB9 := Lib.hid (below_next (HB10.out _) hbf); clear hbf) | (go_at_call 35; (with_reducible refine (RH.out _ _ _ _ H8.out).mono ?_); rintro e wf ⟨rfl, hbf⟩; replace HB9 := Lib.hid (below_next HB9.out hbf); clear hbf) | (go_at_call 11; (with_reducible refine (awake8_any _).mono ?_); rintro e wy ⟨rfl, hby⟩))
            go_ret
            exact ⟨rfl, (by first | exact below_next bw (below_next (below_next HB9.out ((Below.refl _ _).alloc (Nat.le_refl _) _)) hby) | exact below_next bw (below_next HB9.out hby))⟩
          · have HAL := Lib.hid (HTH.out rfl rfl)
            clear HTH
            go_wp2_with (first | (go_at_call 16; (with_reducible refine (OK.out _ (HP.out.below HB9.out)).mono ?_); rintro e wz ⟨rfl, hbz⟩; replace HB9 := Lib.hid (below_next HB9.out hbz); have hbz9 := Lib.hid hbz; clear hbz; obtain ⟨WO, hWO⟩ : ∃ WO, wz.alloc (.cells #[.int .i64 o0, .int .i64 olo, .int .i64 ohi, .int .i64 ond] 42) = WO := ⟨_, rfl⟩; have bO : Below wz.heap.size wz WO := (by rw [← hWO]; exact (Below.refl _ _).alloc (Nat.le_refl _) _); have gO : wz.heap.size < WO.heap.size := (by rw [← hWO]; simp); have xO : WO.cell? ⟨wz.heap.size, 0, none⟩ = some (.int .i64 o0) := (by rw [← hWO]; exact cell_of_row _ _ 0 _ _ _ (heap_alloc_new _ _)); replace HB9 := Lib.hid (below_next HB9.out bO); have HB0 := Lib.hid (Below.refl WO.heap.size WO)) | (go_at_call 25; (with_reducible refine (refs_any a3 n3 c3 K _ (by omega) (HK.out.below HB9.out)).mono ?_); rintro e wf ⟨a8, n8, c8, rfl, h8, hbf⟩; have H8 := Lib.hid h8; clear h8; replace HB0 := Lib.hid (below_next HB0.out hbf); clear hbf) | (go_at_call 35; (with_reducible refine (RH.out _ _ _ _ H8.out).mono ?_); rintro e wh ⟨rfl, hbf⟩; replace HB0 := Lib.hid (below_next HB0.out hbf); clear hbf))
            replace hWO := Lib.hid hWO
            have HBH := Lib.hid (below_next (below_next hbl (below_next hbz9.out bO)) HB0.out)
            go_loopw [17, 18] (fun t i wr => ∃ (j : Nat), t = .bool ((zs.take j).any (fun z => z == o0)) ∧ i = .int .i64 (j : Int) ∧ j ≤ zs.length ∧ Below wh.heap.size wh wr) (fun _ i _ => zs.length - (intOf i).toNat)
            case atStart => exact ⟨0, by simp, rfl, Nat.zero_le _, Below.refl _ _⟩
            case round =>
              obtain ⟨m, rfl, rfl, hm, hbm⟩ := hrel
              have x15 := ((below_next HB0.out hbm).cell (p := ⟨wz.heap.size, 0, none⟩) gO).trans xO
              obtain ⟨tf, htf⟩ : ∃ t, (zs.take m).any (fun z => z == o0) = t := ⟨_, rfl⟩
              by_cases hlm : m < zs.length
              · have hmz : (m : Int) < (zs.length : Int) := by omega
                have hmore := any_more (p := fun z => z == o0) hlm
                obtain ⟨b, off, e, hb, hcm⟩ := (HRO.out.below (below_next HBH.out hbm)).2.2.2.2.int m hlm
                subst e
                obtain ⟨zm, hzm⟩ : ∃ z, zs[m]! = z := ⟨_, rfl⟩
                rw [hzm] at hcm
                rw [htf] at hmore ⊢
                rw [hzm] at hmore
                obtain ⟨eq, heq⟩ : ∃ e, (zm == o0) = e := ⟨_, rfl⟩
                rw [heq] at hmore
                have HM := Lib.hid hmore
                clear hmore htf hzm
                cases tf <;> cases eq
                all_goals
                  go_wp2_with fail
                  go_quiet (fail)
                  go_wp2
                  go_roundw
                  case rel => exact ⟨m + 1, by rw [HM.out]; simp, by go_num, by omega, below_drewN hbm _⟩
                  case measure => simp [intOf]; omega
              · have hmz : ¬ (m : Int) < (zs.length : Int) := by omega
                have hmt : zs.take m = zs := List.take_of_length_le (by omega)
                rw [hmt, HAL.out] at htf
                rw [hmt, HAL.out]
                clear htf hmt
                go_wp2_with (go_at_call 11; (with_reducible refine (awake8_any _).mono ?_); rintro e wy ⟨rfl, hby⟩)
                go_ret
                exact ⟨rfl, below_next bw (below_next (below_next HB.out (below_next HBH.out hbm)) hby)⟩
  · have hcases : r1 = false ∨ (r1 = true ∧ ¬ n3 ≤ 100) ∨ (r1 = true ∧ n3 ≤ 100 ∧ r3 = false) ∨ (r1 = true ∧ n3 ≤ 100 ∧ r3 = true ∧ r4 = false) := by
      cases r1 <;> cases r3 <;> cases r4 <;> simp at hgood ⊢ <;> omega
    clear h hK hr1 hr3 hr4 hz1 hz3
    replace hn := Lib.hid hn
    rcases hcases with rfl | ⟨rfl, h100⟩ | ⟨rfl, h100, rfl⟩ | ⟨rfl, h100, rfl, rfl⟩
    · replace hn3 := Lib.hid hn3
      go_enter Try.func8, Try.ntmps8
      go_wp2_with (first | (go_at_call 15; (with_reducible refine (FW.out _).mono ?_); rintro e wf ⟨rfl, hbf⟩; replace HB := Lib.hid (below_next HB.out hbf); clear hbf; obtain ⟨q0, q1, q2⟩ := KX.out _ HB.out) | (go_at_call 14; (with_reducible refine (CK.out _ (HP.out.below HB.out)).mono ?_); rintro e wf ⟨rfl, hbf⟩; replace HB := Lib.hid (below_next HB.out hbf); clear hbf; obtain ⟨q0, q1, q2⟩ := KX.out _ HB.out) | (go_at_call 25; (with_reducible refine (refs_any a3 n3 c3 K _ (by omega) (HK.out.below HB.out)).mono ?_); rintro e wf ⟨a8, n8, c8, rfl, h8, hbf⟩; have H8 := Lib.hid h8; clear h8; replace HB := Lib.hid (below_next HB.out hbf); clear hbf; obtain ⟨q0, q1, q2⟩ := KX.out _ HB.out) | (go_at_call 34; (with_reducible refine (RC.out _ _ _ _ H8.out).mono ?_); rintro e wf ⟨rfl, hbf⟩; replace HB := Lib.hid (below_next HB.out hbf); clear hbf; obtain ⟨q0, q1, q2⟩ := KX.out _ HB.out) | (go_at_call 11; (with_reducible refine (awake8_any _).mono ?_); rintro e wf ⟨rfl, hbf⟩; replace HB := Lib.hid (below_next HB.out hbf); clear hbf; obtain ⟨q0, q1, q2⟩ := KX.out _ HB.out) | (go_at_call 23; (with_reducible refine (owners_any ep nx a n c l a3 n3 c3 K _ (HP.out.below HB.out) (HK.out.below HB.out)).mono ?_); rintro e wf ⟨v, rfl, ho, hbf⟩; have HO := Lib.hid ho; clear ho; replace HB := Lib.hid (below_next HB.out hbf); clear hbf; obtain ⟨q0, q1, q2⟩ := KX.out _ HB.out))
      go_ret
      exact ⟨rfl, below_next bw HB.out⟩
    · have h100z : (n3 : Int) > 100 := by omega
      have h100y : ¬ (n3 : Int) ≤ 100 := by omega
      replace hn3 := Lib.hid hn3
      go_enter Try.func8, Try.ntmps8
      go_wp2_with (first | (go_at_call 15; (with_reducible refine (FW.out _).mono ?_); rintro e wf ⟨rfl, hbf⟩; replace HB := Lib.hid (below_next HB.out hbf); clear hbf; obtain ⟨q0, q1, q2⟩ := KX.out _ HB.out) | (go_at_call 14; (with_reducible refine (CK.out _ (HP.out.below HB.out)).mono ?_); rintro e wf ⟨rfl, hbf⟩; replace HB := Lib.hid (below_next HB.out hbf); clear hbf; obtain ⟨q0, q1, q2⟩ := KX.out _ HB.out) | (go_at_call 25; (with_reducible refine (refs_any a3 n3 c3 K _ (by omega) (HK.out.below HB.out)).mono ?_); rintro e wf ⟨a8, n8, c8, rfl, h8, hbf⟩; have H8 := Lib.hid h8; clear h8; replace HB := Lib.hid (below_next HB.out hbf); clear hbf; obtain ⟨q0, q1, q2⟩ := KX.out _ HB.out) | (go_at_call 34; (with_reducible refine (RC.out _ _ _ _ H8.out).mono ?_); rintro e wf ⟨rfl, hbf⟩; replace HB := Lib.hid (below_next HB.out hbf); clear hbf; obtain ⟨q0, q1, q2⟩ := KX.out _ HB.out) | (go_at_call 11; (with_reducible refine (awake8_any _).mono ?_); rintro e wf ⟨rfl, hbf⟩; replace HB := Lib.hid (below_next HB.out hbf); clear hbf; obtain ⟨q0, q1, q2⟩ := KX.out _ HB.out) | (go_at_call 23; (with_reducible refine (owners_any ep nx a n c l a3 n3 c3 K _ (HP.out.below HB.out) (HK.out.below HB.out)).mono ?_); rintro e wf ⟨v, rfl, ho, hbf⟩; have HO := Lib.hid ho; clear ho; replace HB := Lib.hid (below_next HB.out hbf); clear hbf; obtain ⟨q0, q1, q2⟩ := KX.out _ HB.out))
      go_ret
      exact ⟨rfl, below_next bw HB.out⟩
    · have h100z : ¬ (n3 : Int) > 100 := by omega
      have h100y : (n3 : Int) ≤ 100 := by omega
      replace hn3 := Lib.hid hn3
      go_enter Try.func8, Try.ntmps8
      go_wp2_with (first | (go_at_call 15; (with_reducible refine (FW.out _).mono ?_); rintro e wf ⟨rfl, hbf⟩; replace HB := Lib.hid (below_next HB.out hbf); clear hbf; obtain ⟨q0, q1, q2⟩ := KX.out _ HB.out) | (go_at_call 14; (with_reducible refine (CK.out _ (HP.out.below HB.out)).mono ?_); rintro e wf ⟨rfl, hbf⟩; replace HB := Lib.hid (below_next HB.out hbf); clear hbf; obtain ⟨q0, q1, q2⟩ := KX.out _ HB.out) | (go_at_call 25; (with_reducible refine (refs_any a3 n3 c3 K _ (by omega) (HK.out.below HB.out)).mono ?_); rintro e wf ⟨a8, n8, c8, rfl, h8, hbf⟩; have H8 := Lib.hid h8; clear h8; replace HB := Lib.hid (below_next HB.out hbf); clear hbf; obtain ⟨q0, q1, q2⟩ := KX.out _ HB.out) | (go_at_call 34; (with_reducible refine (RC.out _ _ _ _ H8.out).mono ?_); rintro e wf ⟨rfl, hbf⟩; replace HB := Lib.hid (below_next HB.out hbf); clear hbf; obtain ⟨q0, q1, q2⟩ := KX.out _ HB.out) | (go_at_call 11; (with_reducible refine (awake8_any _).mono ?_); rintro e wf ⟨rfl, hbf⟩; replace HB := Lib.hid (below_next HB.out hbf); clear hbf; obtain ⟨q0, q1, q2⟩ := KX.out _ HB.out) | (go_at_call 23; (with_reducible refine (owners_any ep nx a n c l a3 n3 c3 K _ (HP.out.below HB.out) (HK.out.below HB.out)).mono ?_); rintro e wf ⟨v, rfl, ho, hbf⟩; have HO := Lib.hid ho; clear ho; replace HB := Lib.hid (below_next HB.out hbf); clear hbf; obtain ⟨q0, q1, q2⟩ := KX.out _ HB.out))
      go_ret
      exact ⟨rfl, below_next bw HB.out⟩
    · have h100z : ¬ (n3 : Int) > 100 := by omega
      have h100y : (n3 : Int) ≤ 100 := by omega
      have hK100 : K.length ≤ 100 := by omega
      replace hn3 := Lib.hid hn3
      go_enter Try.func8, Try.ntmps8
      go_wp2_with (first | (go_at_call 15; (with_reducible refine (FW.out _).mono ?_); rintro e wf ⟨rfl, hbf⟩; replace HB := Lib.hid (below_next HB.out hbf); clear hbf; obtain ⟨q0, q1, q2⟩ := KX.out _ HB.out) | (go_at_call 14; (with_reducible refine (CK.out _ (HP.out.below HB.out)).mono ?_); rintro e wf ⟨rfl, hbf⟩; replace HB := Lib.hid (below_next HB.out hbf); clear hbf; obtain ⟨q0, q1, q2⟩ := KX.out _ HB.out) | (go_at_call 25; (with_reducible refine (refs_any a3 n3 c3 K _ (by omega) (HK.out.below HB.out)).mono ?_); rintro e wf ⟨a8, n8, c8, rfl, h8, hbf⟩; have H8 := Lib.hid h8; clear h8; replace HB := Lib.hid (below_next HB.out hbf); clear hbf; obtain ⟨q0, q1, q2⟩ := KX.out _ HB.out) | (go_at_call 34; (with_reducible refine (RC.out _ _ _ _ H8.out).mono ?_); rintro e wf ⟨rfl, hbf⟩; replace HB := Lib.hid (below_next HB.out hbf); clear hbf; obtain ⟨q0, q1, q2⟩ := KX.out _ HB.out) | (go_at_call 11; (with_reducible refine (awake8_any _).mono ?_); rintro e wf ⟨rfl, hbf⟩; replace HB := Lib.hid (below_next HB.out hbf); clear hbf; obtain ⟨q0, q1, q2⟩ := KX.out _ HB.out) | (go_at_call 23; (with_reducible refine (owners_any ep nx a n c l a3 n3 c3 K _ (HP.out.below HB.out) (HK.out.below HB.out)).mono ?_); rintro e wf ⟨v, rfl, ho, hbf⟩; have HO := Lib.hid ho; clear ho; replace HB := Lib.hid (below_next HB.out hbf); clear hbf; obtain ⟨q0, q1, q2⟩ := KX.out _ HB.out))
      go_ret
      exact ⟨rfl, below_next bw HB.out⟩
end Go.Proofs.Ytagmjgeofmjjbaa
