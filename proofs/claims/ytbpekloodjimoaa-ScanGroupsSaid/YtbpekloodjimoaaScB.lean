/-
  SCAN: contracts of behind, total, Total, Nth, Rank.
-/
import Derived.Test.YtbpekloodjimoaaScA
import Derived.Deep.DeepCutAuto
import Derived.Deep.RegionHeld3
namespace Go.Proofs.Ytbpekloodjimoaa
open Go.RowKit Go.Shelf

theorem toDS {B : Nat} {a X : World} (h : Below B a X) : Below B a X.drew := ⟨h.os, h.tape, h.output, h.size, h.block⟩
theorem heap_ltS {W : World} {b : Nat} {o : Obj} (h : W.heap[b]? = some o) : b < W.heap.size := (Array.getElem?_eq_some_iff.1 h).1
/-- A place that a slice of pairs may have: in a block, at its own off. -/
theorem Arg.form {w : World} {a : Option Addr} {n c : Nat} {l : List Sp} (h : Arg w a n c l) (hn : 0 < n) : ∃ b off, a = some ⟨b, off, none⟩ := by
  obtain ⟨h1, _, _, _, hp⟩ := h
  obtain ⟨b, off, e, _⟩ := hp 0 (by omega)
  exact ⟨b, off, e⟩
theorem Arg.drop1 {w : World} {a : Option Addr} {n c : Nat} {l : List Sp} (h : Arg w a n c l) (k : Nat) (hk : k ≤ n) : Arg w (a.map fun x => x.add (k * 2)) (n - k) (c - k) (l.drop k) := by
  by_cases hkn : k = n
  · subst hkn
    have e : l.drop k = [] := List.drop_eq_nil_of_le (by have := h.1; omega)
    rw [e, Nat.sub_self]
    exact Arg.none_nil (by have := h.2.2.2.1; omega)
  · obtain ⟨b, off, rfl⟩ := h.form (by omega)
    have := h.dropA k hk
    simp only [Option.map_some, addr_add]
    exact this
theorem Arg.drop0 {w : World} {a : Option Addr} {n c : Nat} {l : List Sp} (h : Arg w a n c l) (k : Nat) (hk : k ≤ n) (hc : c = k) : Arg w a (n - k) 0 (l.drop k) := by
  have h1 := h.1
  have h2 := h.2.2.1
  have e : l.drop k = [] := List.drop_eq_nil_of_le (by omega)
  rw [e, show n - k = 0 by omega]
  exact Arg.none_nil (by unfold maxLen; omega)
/-- Pairs that were given, in memory that was made for them. -/
def NewList (w : World) (l : List Sp) (e : Ending) (w' : World) : Prop := ∃ a n c, e = .returned (.slice a n c) ∧ Arg w' a n c l ∧ (l ≠ [] → ∃ g o, a = some ⟨g, o, none⟩ ∧ w.heap.size ≤ g) ∧ Below w.heap.size w w'
set_option maxRecDepth 100000 in
set_option maxHeartbeats 1000000 in
theorem behind_any (a : Option Addr) (n c : Nat) (l : List Sp) (a3 : Option Addr) (n3 c3 : Nat) (on : List Sp) (af lim : Int) (w : World) (hL : Arg w a n c l) (hO : Arg w a3 n3 c3 on) (h0 : -1 ≤ af) (h1 : af < 4096) :
    Calls Try.prog 25 #[.slice a n c, .agg #[.slice a3 n3 c3, .int .i64 af, .int .i64 lim]] w (NewList w (behP l on af)) := by
  obtain ⟨W1, hW1⟩ : ∃ W1, w.alloc (.cells #[.slice a3 n3 c3, .int .i64 af, .int .i64 lim] 25) = W1 := ⟨_, rfl⟩
  have bw : Below w.heap.size w W1 := by rw [← hW1]; exact (Below.refl _ _).alloc (Nat.le_refl _) _
  have K := Lib.hid (fun W (h : Below W1.heap.size W1 W) => box3C (w := w) (t := 25) (x := .slice a3 n3 c3) (y := .int .i64 af) (z := .int .i64 lim) (W := W) (by rw [hW1]; exact h))
  obtain ⟨q0, q1, q2⟩ := K.out _ (Below.refl _ _)
  have CL := Lib.hid (clip_any a n c l a3 n3 c3 on W1 (hL.below bw) (hO.below bw))
  have hct := clip_tbl l on
  have hple := plc_le (clipP l on) (af + 1)
  have hcl := tbl_le hct
  unfold behP
  generalize clipP l on = M at *
  have BL := Lib.hid (fun W (a8 : Option Addr) (n8 c8 : Nat) (hh : Arg W a8 n8 c8 M) => belowS_any a8 n8 c8 M (af + 1) W hh hct)
  generalize plc M (af + 1) = p at *
  have hw : IntKind.i64.wrap (af + 1) = af + 1 := IntWalk.i64_in _ (by omega)
  clear hct
  have HM := Lib.hid hcl
  have HP := Lib.hid hple
  clear hL hO hcl hple
  go_enter Try.func25, Try.ntmps25
  go_wp2_with (first | (go_at_call 12; (with_reducible refine CL.out.mono ?_); rintro e w2 ⟨v, rfl, ho, b2⟩; obtain ⟨a8, c8, hv, hr⟩ := ho.arg; subst hv; obtain ⟨q0, q1, q2⟩ := K.out _ b2; have HA := Lib.hid (Arg.of_own ho rfl); have HNW := Lib.hid hr.2.2.2; clear hr) | (go_at_call 45; (with_reducible refine (BL.out _ _ _ _ HA.out).mono ?_); rintro e w3 ⟨rfl, b3⟩))
  · go_ret
    have hD := (HA.out.below b3).drop0 _ HP.out (by first | rfl | assumption)
    refine ⟨_, _, _, rfl, hD, fun hne => ?_, below_next bw (below_next b2 b3)⟩
    obtain ⟨g, e, hg, _⟩ := HNW.out fun q => hne (by rw [q]; simp)
    exact ⟨g, 0, e, Nat.le_trans bw.size hg⟩
  · go_ret
    have hD := (HA.out.below b3).drop1 _ HP.out
    refine ⟨_, _, _, rfl, hD, fun hne => ?_, below_next bw (below_next b2 b3)⟩
    obtain ⟨g, e, hg, _⟩ := HNW.out fun q => hne (by rw [q]; simp)
    subst e
    exact ⟨g, 0 + p * 2, by simp [addr_add], Nat.le_trans bw.size hg⟩

/-! A group: its key, how many, the sum, the least, the greatest. -/
abbrev Gp := Int × Int × Int × Int × Int
def encGp (g : Gp) : List Value := [.int .i64 g.1, .int .i64 g.2.1, .int .i64 g.2.2.1, .int .i64 g.2.2.2.1, .int .i64 g.2.2.2.2]
theorem encGp_len (g : Gp) : (encGp g).length = 5 := rfl
def sumV : List Sp → Int
  | [] => 0
  | p :: t => p.2 + sumV t
theorem sumV_app : ∀ (l m : List Sp), sumV (l ++ m) = sumV l + sumV m
  | [], m => by simp [sumV]
  | p :: t, m => by
    show p.2 + sumV (t ++ m) = p.2 + sumV t + sumV m
    rw [sumV_app t m]; omega
def minV (x : Int) (l : List Sp) : Int := l.foldl (fun m p => min m p.2) x
def maxV (x : Int) (l : List Sp) : Int := l.foldl (fun m p => max m p.2) x
def grpOf (k : Int) (l : List Sp) : Gp := (k, (l.length : Int), sumV l, minV (l.getD 0 (0, 0)).2 l, maxV (l.getD 0 (0, 0)).2 l)
def totP (l : List Sp) : Gp := if l = [] then (0, 0, 0, 0, 0) else grpOf 0 l
def small (l : List Sp) : Prop := l.length ≤ 4096 ∧ ∀ p ∈ l, -1099511627776 ≤ p.2 ∧ p.2 ≤ 1099511627776
theorem sumV_bd : ∀ (l : List Sp), (∀ p ∈ l, -1099511627776 ≤ p.2 ∧ p.2 ≤ 1099511627776) → -1099511627776 * (l.length : Int) ≤ sumV l ∧ sumV l ≤ 1099511627776 * (l.length : Int)
  | [], _ => by simp [sumV]
  | p :: t, h => by
    have h1 := h p (by simp)
    have h2 := sumV_bd t (fun q hq => h q (by simp [hq]))
    have e : sumV (p :: t) = p.2 + sumV t := rfl
    rw [e, List.length_cons]
    omega
theorem takeS_more {l : List Sp} {k : Nat} (h : k < l.length) : l.take (k + 1) = l.take k ++ [l.getD k (0, 0)] := by
  rw [List.take_succ_eq_append_getElem h, List.getD_eq_getElem?_getD, List.getElem?_eq_getElem h]
  rfl
theorem small.take {l : List Sp} (h : small l) (k : Nat) : small (l.take k) := ⟨by rw [List.length_take]; have := h.1; omega, fun p hp => h.2 p (List.mem_of_mem_take hp)⟩
theorem getD_memS {l : List Sp} {k : Nat} (h : k < l.length) : l.getD k (0, 0) ∈ l := by
  rw [List.getD_eq_getElem?_getD, List.getElem?_eq_getElem h]
  exact List.getElem_mem h
theorem cell5 {W : World} {b : Nat} {x y z u v : Value} {t : TypeId} (h : W.heap[b]? = some (.cells #[x, y, z, u, v] t)) :
    W.cell? ⟨b, 0, none⟩ = some x ∧ W.cell? ⟨b, 1, none⟩ = some y ∧ W.cell? ⟨b, 2, none⟩ = some z ∧ W.cell? ⟨b, 3, none⟩ = some u ∧ W.cell? ⟨b, 4, none⟩ = some v :=
  ⟨cell_of_row _ _ 0 _ _ _ h, cell_of_row _ _ 1 _ _ _ h, cell_of_row _ _ 2 _ _ _ h, cell_of_row _ _ 3 _ _ _ h, cell_of_row _ _ 4 _ _ _ h⟩
theorem froz5 {W : World} {b : Nat} {x y z u v : Value} {t : TypeId} (h : W.heap[b]? = some (.cells #[x, y, z, u, v] t)) :
    W.frozen? ⟨b, 0, none⟩ = false ∧ W.frozen? ⟨b, 1, none⟩ = false ∧ W.frozen? ⟨b, 2, none⟩ = false ∧ W.frozen? ⟨b, 3, none⟩ = false ∧ W.frozen? ⟨b, 4, none⟩ = false :=
  ⟨frozen_of_row _ _ 0 _ _ h, frozen_of_row _ _ 1 _ _ h, frozen_of_row _ _ 2 _ _ h, frozen_of_row _ _ 3 _ _ h, frozen_of_row _ _ 4 _ _ h⟩
theorem set5K {W : World} {b : Nat} {x y z u v x' y' z' u' v' : Value} {t : TypeId} (h : W.heap[b]? = some (.cells #[x, y, z, u, v] t)) :
    ((((W.setCell ⟨b, 0, none⟩ x').setCell ⟨b, 1, none⟩ y').setCell ⟨b, 2, none⟩ z').setCell ⟨b, 3, none⟩ u' |>.setCell ⟨b, 4, none⟩ v').heap[b]? = some (.cells #[x', y', z', u', v'] t) := by
  have h0 := heap_setCell_same _ _ 0 _ _ x' h
  have h1 := heap_setCell_same _ _ 1 _ _ y' h0
  have h2 := heap_setCell_same _ _ 2 _ _ z' h1
  have h3 := heap_setCell_same _ _ 3 _ _ u' h2
  exact heap_setCell_same _ _ 4 _ _ v' h3
theorem set3K {W : World} {b : Nat} {x y z u v z' u' v' : Value} {t : TypeId} (h : W.heap[b]? = some (.cells #[x, y, z, u, v] t)) :
    (((W.setCell ⟨b, 2, none⟩ z').setCell ⟨b, 3, none⟩ u').setCell ⟨b, 4, none⟩ v').heap[b]? = some (.cells #[x, y, z', u', v'] t) := by
  have h2 := heap_setCell_same _ _ 2 _ _ z' h
  have h3 := heap_setCell_same _ _ 3 _ _ u' h2
  exact heap_setCell_same _ _ 4 _ _ v' h3
def GpPost (g : Gp) (w : World) (e : Ending) (w' : World) : Prop := e = .returned (.agg #[.int .i64 g.1, .int .i64 g.2.1, .int .i64 g.2.2.1, .int .i64 g.2.2.2.1, .int .i64 g.2.2.2.2]) ∧ Below w.heap.size w w'
theorem gp_ret {g : Gp} {a b c d e : Int} (h : g = (a, b, c, d, e)) : Ending.returned (.agg #[.int .i64 a, .int .i64 b, .int .i64 c, .int .i64 d, .int .i64 e]) = .returned (.agg #[.int .i64 g.1, .int .i64 g.2.1, .int .i64 g.2.2.1, .int .i64 g.2.2.2.1, .int .i64 g.2.2.2.2]) := by rw [h]
set_option maxRecDepth 100000 in
set_option maxHeartbeats 2000000 in
theorem total_any (a : Option Addr) (n c : Nat) (l : List Sp) (w : World) (h : Arg w a n c l) (hs : small l) :
    Calls Try.prog 36 #[.slice a n c] w (GpPost (totP l) w) := by
  obtain ⟨R, hR⟩ : ∃ R, totP l = R := ⟨_, rfl⟩
  rw [hR]
  obtain ⟨W1, hW1⟩ : ∃ W1, w.alloc (.cells #[.int .i64 0, .int .i64 0, .int .i64 0, .int .i64 0, .int .i64 0] 57) = W1 := ⟨_, rfl⟩
  have bw : Below w.heap.size w W1 := by rw [← hW1]; exact (Below.refl _ _).alloc (Nat.le_refl _) _
  have g1 : w.heap.size < W1.heap.size := by rw [← hW1]; simp
  have hr1 : W1.heap[w.heap.size]? = some (.cells #[.int .i64 0, .int .i64 0, .int .i64 0, .int .i64 0, .int .i64 0] 57) := by rw [← hW1]; exact heap_alloc_new _ _
  have HX := Lib.hid (fun W (hb : Below W1.heap.size W1 W) => (hb.block _ g1).trans hr1)
  have hn := h.1
  have hn4 : n ≤ 4096 := by have := hs.1; omega
  have HL := Lib.hid (h.below bw)
  by_cases hnz : n = 0
  · have hl : l = [] := List.eq_nil_of_length_eq_zero (by omega)
    subst hnz
    have HR := Lib.hid (show R = (0, 0, 0, 0, 0) by rw [← hR]; exact if_pos hl)
    obtain ⟨z0, z1, z2, z3, z4⟩ := cell5 hr1
    obtain ⟨f0, f1, f2, f3, f4⟩ := froz5 hr1
    clear hl h hs hR hn hr1
    go_enter Try.func36, Try.ntmps36
    go_wp2_with fail
    exact bodyPost_ret (v := .agg #[.int .i64 0, .int .i64 0, .int .i64 0, .int .i64 0, .int .i64 0]) (by simp [results, Try.results36, go_sem, z0, z1, z2, z3, z4]) rfl ⟨gp_ret HR.out, (by repeat (first | exact bw | refine Below.setCell ?_ (by first | exact Nat.le_refl _ | omega) _))⟩
  · have hlne : l ≠ [] := fun e => hnz (by rw [hn, e]; rfl)
    have HR := Lib.hid (show R = grpOf 0 l by rw [← hR]; exact if_neg hlne)
    have h0n : 0 < n := by omega
    have hnzz : ¬ (n : Int) = 0 := by omega
    have h0nz : (0 : Int) < (n : Int) := by omega
    obtain ⟨b, off, rfl⟩ := h.form h0n
    have HCE := Lib.hid (fun W (hb : Below W1.heap.size W1 W) (j : Nat) (hj : j < n) => (show W.cell? ⟨b, off + j * 2, none⟩ = some (.int .i64 (l.getD j (0, 0)).1) ∧ W.cell? ⟨b, off + j * 2 + 1, none⟩ = some (.int .i64 (l.getD j (0, 0)).2) by
      obtain ⟨b', off', e', _, c0, c1⟩ := (HL.out.below hb).2.2.2.2 j (by omega)
      cases e'
      exact ⟨c0, c1⟩))
    obtain ⟨x0, hx0⟩ : ∃ x, (l.getD 0 (0, 0)).2 = x := ⟨_, rfl⟩
    have hc0 := (HCE.out W1 (Below.refl _ _) 0 h0n).2
    rw [hx0, Nat.zero_mul, Nat.add_zero] at hc0
    have HGR := Lib.hid (show grpOf 0 l = (0, (n : Int), sumV l, minV x0 l, maxV x0 l) by unfold grpOf; rw [hx0, hn])
    have HSM := Lib.hid hs
    have HN := Lib.hid hn
    have hbW := Lib.hid (World.block_lt_of_cell? W1 _ hc0)
    clear h hs hR hn hlne hx0
    go_enter Try.func36, Try.ntmps36
    go_upto_region 3 with fail
    rw [show ((n : Int) == 0) = false by simp; omega]
    go_cut [3] from 10 to 20 (fun p wx => ∃ g : Nat, p = .pointer (some ⟨g, 0, none⟩) ∧ W1.heap.size ≤ g ∧ wx.heap[g]? = some (.cells #[.int .i64 0, .int .i64 (n : Int), .int .i64 0, .int .i64 x0, .int .i64 x0] 57) ∧ Below W1.heap.size W1 wx)
    case first =>
      have HBD : Below W1.heap.size W1 W1 := Below.refl _ _
      have HK0 := Lib.hid (fun W (hb : Below W1.heap.size W1 W) => (hb.cell (p := ⟨b, off + 1, none⟩) hbW.out).trans hc0)
      go_region_held3 (fun WW => WW.cell? ⟨b, off + 1, none⟩ = some (.int .i64 x0)) (exact HK0.out _ (by repeat (first | exact HBD | refine toDS ?_ | refine Below.alloc ?_ (by first | omega | (simp; omega)) _ | refine Below.setCell ?_ (by first | exact Nat.le_refl _ | omega | (simp; omega)) _))) (fail)
      all_goals
        go_wp2_with fail
        go_meet
        exact ⟨_, rfl, Nat.le_refl _, heap_alloc_new _ _, (by repeat (first | exact HBD | refine toDS ?_ | refine Below.alloc ?_ (by first | omega | (simp; omega)) _ | refine Below.setCell ?_ (by first | exact Nat.le_refl _ | omega | (simp; omega)) _))⟩
    case rest =>
      obtain ⟨g, rfl, hg1, hg, hbc⟩ := hcut
      go_wp2_with fail
      go_loopw [5, 23] (fun _ i wr => ∃ (k : Nat), i = .int .i64 (k : Int) ∧ k ≤ n ∧ Hid (wr.heap[g]? = some (.cells #[.int .i64 0, .int .i64 (n : Int), .int .i64 (sumV (l.take k)), .int .i64 (minV x0 (l.take k)), .int .i64 (maxV x0 (l.take k))] 57)) ∧ Below W1.heap.size W1 wr)
        (fun _ i _ => n - (intOf i).toNat)
      case atStart => exact ⟨0, rfl, Nat.zero_le _, Lib.hid hg, hbc⟩
      case round =>
        obtain ⟨k, rfl, hk, HG, hbl⟩ := hrel
        by_cases hlt : k < n
        · have hkz : (k : Int) < (n : Int) := by omega
          have hkl : k < l.length := by have := HN.out; omega
          obtain ⟨c0, c1⟩ := HCE.out _ hbl k hlt
          have hbd := HSM.out.2 _ (getD_memS hkl)
          have hsb := sumV_bd (l.take k) (HSM.out.take k).2
          have hlk : (l.take k).length ≤ 4096 := (HSM.out.take k).1
          have hS : sumV (l.take (k + 1)) = sumV (l.take k) + (l.getD k (0, 0)).2 := by rw [takeS_more hkl, sumV_app]; simp [sumV]
          have hM : minV x0 (l.take (k + 1)) = min (minV x0 (l.take k)) (l.getD k (0, 0)).2 := by rw [takeS_more hkl]; unfold minV; rw [List.foldl_append]; rfl
          have hX : maxV x0 (l.take (k + 1)) = max (maxV x0 (l.take k)) (l.getD k (0, 0)).2 := by rw [takeS_more hkl]; unfold maxV; rw [List.foldl_append]; rfl
          generalize l.getD k (0, 0) = p at c0 c1 hbd hS hM hX
          obtain ⟨pk, v⟩ := p
          dsimp only at c0 c1 hbd hS hM hX
          generalize sumV (l.take k) = S at hsb hS HG
          generalize minV x0 (l.take k) = mi at hM HG
          generalize maxV x0 (l.take k) = ma at hX HG
          have hw : IntKind.i64.wrap (S + v) = S + v := IntWalk.i64_in _ (by omega)
          have HS := Lib.hid hS
          have HMi := Lib.hid hM
          have HMa := Lib.hid hX
          obtain ⟨W4, hW4⟩ : ∃ W4, wr.alloc (.cells #[.int .i64 pk, .int .i64 v] 43) = W4 := ⟨_, rfl⟩
          have b4 : Below wr.heap.size wr W4 := by rw [← hW4]; exact (Below.refl _ _).alloc (Nat.le_refl _) _
          have hgs := heap_ltS HG.out
          have hG4 := (b4.block g hgs).trans HG.out
          obtain ⟨z0, z1, z2, z3, z4⟩ := cell5 hG4
          obtain ⟨f0, f1, f2, f3, f4⟩ := froz5 hG4
          have y0 : W4.cell? ⟨wr.heap.size, 0, none⟩ = some (.int .i64 pk) := by rw [← hW4]; exact cell_of_row _ _ 0 _ _ _ (heap_alloc_new _ _)
          have y1 : W4.cell? ⟨wr.heap.size, 1, none⟩ = some (.int .i64 v) := by rw [← hW4]; exact cell_of_row _ _ 1 _ _ _ (heap_alloc_new _ _)
          have hne : ¬ wr.heap.size = g := by omega
          have hne' : ¬ g = wr.heap.size := by omega
          have HG4 := Lib.hid hG4
          have hb4 := below_next hbl b4
          clear hG4 hbd hsb hlk hS hM hX
          go_wp2_with fail
          go_roundw
          case rel => exact ⟨k + 1, by go_num, by omega, Lib.hid (by rw [HS.out, HMi.out, HMa.out]; exact set3K HG4.out), (by repeat (first | exact hb4 | refine Below.setCell ?_ hg1 _))⟩
          case measure => simp [intOf]; omega
        · have hkz : ¬ (k : Int) < (n : Int) := by omega
          have hkt : l.take k = l := List.take_of_length_le (by have := HN.out; omega)
          have hG := HG.out
          rw [hkt] at hG
          obtain ⟨z0, z1, z2, z3, z4⟩ := cell5 hG
          obtain ⟨y0, y1, y2, y3, y4⟩ := cell5 (HX.out _ hbl)
          obtain ⟨f0, f1, f2, f3, f4⟩ := froz5 (HX.out _ hbl)
          have HR2 := Lib.hid (HR.out.trans HGR.out)
          clear hG hkt
          generalize sumV l = S at z2 HR2
          generalize minV x0 l = mi at z3 HR2
          generalize maxV x0 l = ma at z4 HR2
          go_wp2_with fail
          exact bodyPost_ret (v := .agg #[.int .i64 0, .int .i64 (n : Int), .int .i64 S, .int .i64 mi, .int .i64 ma]) (by simp [results, Try.results36, go_sem, y0, y1, y2, y3, y4]) rfl ⟨gp_ret HR2.out, (by repeat (first | exact below_next bw hbl | refine Below.setCell ?_ (by first | exact Nat.le_refl _ | omega) _))⟩
end Go.Proofs.Ytbpekloodjimoaa
