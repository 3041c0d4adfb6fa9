/-
  CONTRACT: balance.split.
-/
import Derived.Test.YtihpojllalnmcaaBaG
namespace Go.Proofs.Ytihpojllalnmcaa
open Go.RowKit Go.Shelf

def heavyP (high : Int) (x : Pt) : Bool := decide (high < x.v) && decide (0 < (cutsL x.v 0 x.ps).length)
theorem split1 (x : Pt) (high : Int) (g : Nat) (w : World) (hg : g < w.heap.size) (hc : w.cell? ⟨g, 0, none⟩ = some (.int .i64 high)) (hA : Arg w x.a x.n x.c x.ps) (hx : PtOk x) :
    Calls Try.prog 61 #[.agg #[.int .i64 x.s.1, .int .i64 x.s.2.1, .int .i64 x.s.2.2.1, .int .i64 x.s.2.2.2, .slice x.a x.n x.c, .int .i64 x.v], .pointer (some ⟨g, 0, none⟩)] w (Gives w (.bool (heavyP high x))) := by
  have CC := Lib.hid (fun W (hb : Below w.heap.size w W) => cuts_any x W (hA.below hb) hx)
  have hlen := cutsL_len x.v x.ps 0
  have hl2 := hx.len
  obtain ⟨L, hL⟩ : ∃ L, cutsL x.v 0 x.ps = L := ⟨_, rfl⟩
  have H := Lib.hid (show heavyP high x = (decide (high < x.v) && decide (0 < L.length)) by unfold heavyP; rw [hL])
  rw [hL] at CC hlen
  generalize heavyP high x = r at H
  clear hx hA hL
  obtain ⟨⟨i1, i2, i3, i4⟩, a, n, c, ps, v⟩ := x
  dsimp only at H CC hlen hl2 ⊢
  obtain ⟨W1, hW1⟩ : ∃ W1, w.alloc (.cells #[.int .i64 i1, .int .i64 i2, .int .i64 i3, .int .i64 i4, .slice a n c, .int .i64 v] 101) = W1 := ⟨_, rfl⟩
  have bw : Below w.heap.size w W1 := by rw [← hW1]; exact (Below.refl _ _).alloc (Nat.le_refl _) _
  have g1 : w.heap.size < W1.heap.size := by rw [← hW1]; simp
  have hr1 : W1.heap[w.heap.size]? = some (.cells #[.int .i64 i1, .int .i64 i2, .int .i64 i3, .int .i64 i4, .slice a n c, .int .i64 v] 101) := by rw [← hW1]; exact heap_alloc_new _ _
  obtain ⟨⟨q0, q1, q2, q3, q4, q5⟩, _⟩ := cells6B hr1
  have hc1 := (bw.cell (p := ⟨g, 0, none⟩) hg).trans hc
  have BW := Lib.hid bw
  clear hr1 hc
  by_cases h1 : high < v
  · go_enter Try.func61, Try.ntmps61
    go_wp2_with (first | (go_at_call 62; (with_reducible refine (CC.out _ BW.out).mono ?_); rintro e w2 ⟨u, rfl, hv, hb⟩; obtain ⟨a3, n3, c3, rfl, hA3, _⟩ := OwnsP.fresh hv; have hn3 := hA3.1; have hn3z : (n3 : Int) ≤ 9223372036854775807 := (by omega); have HN3 := Lib.hid hn3; clear hv hA3 hn3) | fail)
    go_ret
    refine ⟨ret_bool ?_, below_next bw hb⟩
    rw [H.out, decide_eq_true h1, Bool.true_and, ← HN3.out]
    first | done | simp
  · have hd := decide_eq_false h1
    replace hd := Lib.hid hd
    go_enter Try.func61, Try.ntmps61
    go_wp2_with fail
    go_ret
    exact ⟨ret_bool (by rw [H.out, hd.out]; rfl), bw⟩
theorem split2 (x : Pt) (w : World) : Calls Try.prog 64 #[.agg #[.int .i64 x.s.1, .int .i64 x.s.2.1, .int .i64 x.s.2.2.1, .int .i64 x.s.2.2.2, .slice x.a x.n x.c, .int .i64 x.v]] w (Gives w (.int .i64 x.v)) := by
  obtain ⟨⟨i1, i2, i3, i4⟩, a, n, c, ps, v⟩ := x
  dsimp only
  have b1 : Below w.heap.size w (w.alloc (.cells #[.int .i64 i1, .int .i64 i2, .int .i64 i3, .int .i64 i4, .slice a n c, .int .i64 v] 101)) := (Below.refl _ _).alloc (Nat.le_refl _) _
  go_enter Try.func64, Try.ntmps64
  go_wp2
  go_ret
  exact ⟨rfl, b1⟩
theorem shift4 (x : Pt) (w : World) : Calls Try.prog 72 #[.agg #[.int .i64 x.s.1, .int .i64 x.s.2.1, .int .i64 x.s.2.2.1, .int .i64 x.s.2.2.2, .slice x.a x.n x.c, .int .i64 x.v]] w (Gives w (.int .i64 x.v)) := by
  obtain ⟨⟨i1, i2, i3, i4⟩, a, n, c, ps, v⟩ := x
  dsimp only
  have b1 : Below w.heap.size w (w.alloc (.cells #[.int .i64 i1, .int .i64 i2, .int .i64 i3, .int .i64 i4, .slice a n c, .int .i64 v] 101)) := (Below.refl _ _).alloc (Nat.le_refl _) _
  go_enter Try.func72, Try.ntmps72
  go_wp2
  go_ret
  exact ⟨rfl, b1⟩
theorem split3 (y : Sp) (v : Int) (g : Nat) (w : World) (hg : g < w.heap.size) (hc : w.cell? ⟨g, 5, none⟩ = some (.int .i64 v)) (hv : 0 ≤ v ∧ v ≤ 4503599627370496) (hy : 0 ≤ y.2 ∧ y.2 ≤ 4503599627370496) :
    Calls Try.prog 66 #[.agg #[.int .i64 y.1, .int .i64 y.2], .pointer (some ⟨g, 0, none⟩)] w (Gives w (.int .i64 (mC v y))) := by
  obtain ⟨y1, y2⟩ := y
  dsimp only at hy ⊢
  obtain ⟨W1, hW1⟩ : ∃ W1, w.alloc (.cells #[.int .i64 y1, .int .i64 y2] 120) = W1 := ⟨_, rfl⟩
  have bw : Below w.heap.size w W1 := by rw [← hW1]; exact (Below.refl _ _).alloc (Nat.le_refl _) _
  have q1 : W1.cell? ⟨w.heap.size, 1, none⟩ = some (.int .i64 y2) := by rw [← hW1]; exact cell_of_row _ _ 1 _ _ _ (heap_alloc_new _ _)
  have hc1 := (bw.cell (p := ⟨g, 5, none⟩) hg).trans hc
  have hw1 : IntKind.i64.wrap (v - y2) = v - y2 := IntWalk.i64_in _ (by omega)
  have hG : 0 ≤ gapZ y2 (v - y2) ∧ gapZ y2 (v - y2) ≤ 9007199254740992 := by unfold gapZ; split <;> omega
  have DD := Lib.hid (fun W => distance_any y2 (v - y2) W (by omega) (by omega))
  have H := Lib.hid (show mC v (y1, y2) = -gapZ y2 (v - y2) from rfl)
  obtain ⟨G, hGe⟩ : ∃ G, gapZ y2 (v - y2) = G := ⟨_, rfl⟩
  rw [hGe] at hG DD H
  have hw2 : IntKind.i64.wrap (-G) = -G := IntWalk.i64_in _ (by omega)
  clear hc hGe
  go_enter Try.func66, Try.ntmps66
  go_wp2_with (go_at_call 67; (with_reducible refine (DD.out _).mono ?_); rintro e w2 ⟨rfl, rfl⟩)
  go_ret
  exact ⟨ret_int H.out.symm, bw⟩
def cutP (x : Pt) : Option (Int × Int) := bestF (mC x.v) (cutsL x.v 0 x.ps)
def splitP (high : Int) (ps : List Pt) : Option Gd := if 24 ≤ ps.length then none else match bestF (fun x => x.v) (ps.filter (heavyP high)) with
  | none => none
  | some x => some (1, x.s.1, ((cutP x).getD (0, 0)).1)
/-- A change, if there is one. -/
def SugPost (o : Option Gd) (w : World) (e : Ending) (w' : World) : Prop := e = .returned (.tuple #[.agg #[.int .i64 (o.getD (0, 0, 0)).1, .int .i64 (o.getD (0, 0, 0)).2.1, .int .i64 (o.getD (0, 0, 0)).2.2], .bool o.isSome]) ∧ Below w.heap.size w w'
theorem cuts_mem_bd {x : Pt} (hx : PtOk x) : ∀ y ∈ cutsL x.v 0 x.ps, 0 ≤ y.2 ∧ y.2 ≤ 4503599627370496 := fun y hy => by
  obtain ⟨P, Q, p, e, rfl, h1, h2⟩ := cutsL_mem x.v x.ps 0 y (fun p hp => (hx.each p hp).1) (Int.le_refl _) hy
  have h3 := hx.sub x.ps (List.Sublist.refl _)
  have h4 := valS_nonneg P fun q hq => (hx.each q (by rw [e]; simp [hq])).1
  rw [← hx.sum] at h3
  dsimp only
  omega
theorem cells3B {W : World} {b : Nat} {x y z : Value} {t : TypeId} (h : W.heap[b]? = some (.cells #[x, y, z] t)) :
    (W.cell? ⟨b, 0, none⟩ = some x ∧ W.cell? ⟨b, 1, none⟩ = some y ∧ W.cell? ⟨b, 2, none⟩ = some z) ∧ ∀ i, W.frozen? ⟨b, i, none⟩ = false :=
  ⟨⟨cell_of_row _ _ 0 _ _ _ h, cell_of_row _ _ 1 _ _ _ h, cell_of_row _ _ 2 _ _ _ h⟩, fun _ => frozen_of_row _ _ _ _ _ h⟩
theorem spC_flat (C : List Sp) : flatR spC C = flatP C := rfl
theorem cut_arg {t : TypeId} {W : World} {base : Nat} {v : Value} {C : List Sp} (h : OwnsP t W base v C) : ∃ a c, v = .slice a C.length c ∧ RArg spC 2 W a C.length c C :=
  OwnsR.arg (enc := spC) spC_len (show OwnsR spC 2 t W base v C from h)
set_option maxRecDepth 100000 in
set_option maxHeartbeats 4000000 in
theorem split_any (a : Option Addr) (n c : Nat) (ps : List Pt) (high : Int) (w : World) (h : RArg encPt 6 w a n c ps) (hps : GoodPs w ps) (hn24 : n ≤ 24) :
    Calls Try.prog 45 #[.slice a n c, .int .i64 high] w (SugPost (splitP high ps) w) := by
  have hn := h.1
  obtain ⟨R, hR⟩ : ∃ R, splitP high ps = R := ⟨_, rfl⟩
  rw [hR]
  obtain ⟨W0, hW0⟩ : ∃ W0, w.alloc (.cells #[.int .i64 high] 3) = W0 := ⟨_, rfl⟩
  have b0 : Below w.heap.size w W0 := by rw [← hW0]; exact (Below.refl _ _).alloc (Nat.le_refl _) _
  have g0 : w.heap.size < W0.heap.size := by rw [← hW0]; simp
  have k0 : W0.cell? ⟨w.heap.size, 0, none⟩ = some (.int .i64 high) := by rw [← hW0]; exact cell_int1
  obtain ⟨W1, hW1⟩ : ∃ W1, W0.alloc (.cells #[.int .i64 0, .int .i64 0, .int .i64 0] 33) = W1 := ⟨_, rfl⟩
  have b01 : Below W0.heap.size W0 W1 := by rw [← hW1]; exact (Below.refl _ _).alloc (Nat.le_refl _) _
  have g1 : W0.heap.size < W1.heap.size := by rw [← hW1]; simp
  have r1 : W1.heap[W0.heap.size]? = some (.cells #[.int .i64 0, .int .i64 0, .int .i64 0] 33) := by rw [← hW1]; exact heap_alloc_new _ _
  have bw := below_next b0 b01
  have KZ := Lib.hid (fun W (hb : Below W1.heap.size W1 W) => cells3B ((hb.block _ g1).trans r1))
  have KH := Lib.hid (fun W (hb : Below W1.heap.size W1 W) => (hb.cell (p := ⟨w.heap.size, 0, none⟩) (Nat.lt_trans g0 g1)).trans ((b01.cell (p := ⟨w.heap.size, 0, none⟩) g0).trans k0))
  obtain ⟨⟨z0, z1, z2⟩, fz⟩ := KZ.out _ (Below.refl _ _)
  have f0 := fz 0
  have f1 := fz 1
  have f2 := fz 2
  have hp0 := KH.out _ (Below.refl _ _)
  have hnz : (n : Int) ≤ 9223372036854775807 := by omega
  have g0w : w.heap.size ≤ W0.heap.size := Nat.le_of_lt g0
  clear fz r1 k0
  by_cases h24 : 24 ≤ n
  · have HR := Lib.hid (show R = none by rw [← hR]; unfold splitP; rw [if_pos (by omega)])
    have h24z : (24 : Int) ≤ (n : Int) := by omega
    clear hR hn
    go_enter Try.func45, Try.ntmps45
    go_wp2_with fail
    exact bodyPost_ret (v := .tuple #[.agg #[.int .i64 0, .int .i64 0, .int .i64 0], .bool false]) (by simp [results, Try.results45, go_sem, z0, z1, z2]) rfl ⟨by rw [HR.out]; rfl, (by repeat (first | with_reducible exact bw | with_reducible refine Below.setCell ?_ (show w.heap.size ≤ W0.heap.size from g0w) _))⟩
  · have h24z : ¬ (24 : Int) ≤ (n : Int) := by omega
    obtain ⟨F, hF⟩ : ∃ F, ps.filter (heavyP high) = F := ⟨_, rfl⟩
    have hR2 : R = match bestF (fun x : Pt => x.v) F with | none => none | some x => some (1, x.s.1, ((cutP x).getD (0, 0)).1) := by rw [← hR, ← hF]; unfold splitP; rw [if_neg (by omega)]
    have hFm : ∀ x ∈ F, x ∈ ps := fun x hx => by rw [← hF] at hx; exact (List.mem_filter.1 hx).1
    have HPS := Lib.hid (hps.below bw)
    have HA := Lib.hid (h.below bw)
    have ON := Lib.hid (fun W (hb : Below W1.heap.size W1 W) (hA : RArg encPt 6 W a n c ps) => hF ▸ onlyPart_any (heavyP high) 61 #[.pointer (some ⟨w.heap.size, 0, none⟩)] (enters_of Try.func61 (by kernel_rfl) rfl) a n c ps W hA (fun W' x hb' hx => split1 x high w.heap.size W' (Nat.lt_of_lt_of_le (Nat.lt_trans g0 g1) (below_next hb hb').size) (KH.out _ (below_next hb hb')) ((HPS.out x hx).1.below (below_next hb hb')) (HPS.out x hx).2) (by omega))
    have BE := Lib.hid (fun W (a3 : Option Addr) (c3 : Nat) (hA : RArg encPt 6 W a3 F.length c3 F) => bestPart_any (fun x => x.v) 64 #[] (enters_of Try.func64 (by kernel_rfl) rfl) a3 F.length c3 F W hA (fun W' x _ _ => split2 x W'))
    have hF' := Lib.hid hF
    clear hR hn hF h hps
    cases hB : bestF (fun x : Pt => x.v) F with
    | none =>
      rw [hB] at hR2 BE
      have HR := Lib.hid (show R = none from hR2)
      have BN := Lib.hid (fun W a3 c3 hA => (show Calls Try.prog 63 #[.slice a3 F.length c3, .func (.func 64) #[] #[]] W fun e w' => e = .returned (.tuple #[.agg #[.int .i64 0, .int .i64 0, .int .i64 0, .int .i64 0, .slice none 0 0, .int .i64 0], .bool false]) ∧ Below W.heap.size W w' from BE.out W a3 c3 hA))
      clear hR2 hB BE
      go_enter Try.func45, Try.ntmps45
      go_wp2_with (first | (go_at_call 60; (with_reducible refine (ON.out _ (Below.refl _ _) HA.out).mono ?_); rintro e w2 ⟨v, rfl, hv, hb2⟩; obtain ⟨a3, c3, rfl, hA3, _⟩ := hv.fresh encPt_len; replace hA3 := Lib.hid hA3; clear hv) | (go_at_call 63; (with_reducible refine (BN.out _ _ _ hA3.out).mono ?_); rintro e w3 ⟨rfl, hb3⟩; have hb13 := below_next hb2 hb3; have hb14 := hb13.alloc hb13.size (.cells #[.int .i64 0, .int .i64 0, .int .i64 0, .int .i64 0, .slice none 0 0, .int .i64 0] 101); obtain ⟨⟨z0, z1, z2⟩, fz⟩ := KZ.out _ hb14; have f0 := fz 0; have f1 := fz 1; have f2 := fz 2; clear fz) | fail)
      exact bodyPost_ret (v := .tuple #[.agg #[.int .i64 0, .int .i64 0, .int .i64 0], .bool false]) (by simp [results, Try.results45, go_sem, z0, z1, z2]) rfl ⟨by rw [HR.out]; rfl, (by repeat (first | with_reducible exact below_next bw hb14 | with_reducible refine Below.setCell ?_ (show w.heap.size ≤ W0.heap.size from g0w) _))⟩
    | some x =>
      rw [hB] at hR2 BE
      have hxF := (best_some hB).1
      have hxp := HPS.out x (hFm x hxF)
      have CU := Lib.hid (fun W (hb : Below W1.heap.size W1 W) => cuts_any x W (hxp.1.below hb) hxp.2)
      have hcb := Lib.hid (cuts_mem_bd hxp.2)
      have hvb := hxp.2.sub x.ps (List.Sublist.refl _)
      rw [← hxp.2.sum] at hvb
      have hne : cutsL x.v 0 x.ps ≠ [] := by
        rw [← hF'.out] at hxF
        have := (List.mem_filter.1 hxF).2
        unfold heavyP at this
        rw [Bool.and_eq_true, decide_eq_true_iff, decide_eq_true_iff] at this
        exact List.length_pos_iff.1 this.2
      obtain ⟨y, hy⟩ := Option.isSome_iff_exists.1 (best_isSome (mC x.v) _ hne)
      have HR := Lib.hid (show R = some (1, x.s.1, y.1) by rw [hR2]; show some (1, x.s.1, ((cutP x).getD (0, 0)).1) = _; unfold cutP; rw [hy]; rfl)
      obtain ⟨C, hC⟩ : ∃ C, cutsL x.v 0 x.ps = C := ⟨_, rfl⟩
      rw [hC] at CU hcb hy
      obtain ⟨⟨i1, i2, i3, i4⟩, a9, n9, c9, ps9, v9⟩ := x
      dsimp only at HR CU hy hvb
      have BC := Lib.hid (fun W (g : Nat) (a5 : Option Addr) (c5 : Nat) (hg : g < W.heap.size) (hc : W.cell? ⟨g, 5, none⟩ = some (.int .i64 v9)) (hA : RArg spC 2 W a5 C.length c5 C) => (show Calls Try.prog 65 #[.slice a5 C.length c5, .func (.func 66) #[] #[.pointer (some ⟨g, 0, none⟩)]] W fun e w' => e = .returned (.tuple #[.agg #[.int .i64 y.1, .int .i64 y.2], .bool true]) ∧ Below W.heap.size W w' by
        have := bestCut_any (mC v9) 66 #[.pointer (some ⟨g, 0, none⟩)] (enters_of Try.func66 (by kernel_rfl) rfl) a5 C.length c5 C W hA (fun W' x hb hx => split3 x v9 g W' (Nat.lt_of_lt_of_le hg hb.size) ((hb.cell (p := ⟨g, 5, none⟩) hg).trans hc) hvb (hcb.out x hx))
        rw [hy] at this
        exact this))
      have BN := Lib.hid (fun W a3 c3 hA => (show Calls Try.prog 63 #[.slice a3 F.length c3, .func (.func 64) #[] #[]] W fun e w' => e = .returned (.tuple #[.agg #[.int .i64 i1, .int .i64 i2, .int .i64 i3, .int .i64 i4, .slice a9 n9 c9, .int .i64 v9], .bool true]) ∧ Below W.heap.size W w' from BE.out W a3 c3 hA))
      obtain ⟨y1, y2⟩ := y
      dsimp only at HR BC
      clear hR2 hB BE hxF hxp hne hC hy hvb hcb
      go_enter Try.func45, Try.ntmps45
      go_wp2_with (first | (go_at_call 60; (with_reducible refine (ON.out _ (Below.refl _ _) HA.out).mono ?_); rintro e w2 ⟨v, rfl, hv, hb2⟩; obtain ⟨a3, c3, rfl, hA3, _⟩ := hv.fresh encPt_len; replace hA3 := Lib.hid hA3; clear hv) | (go_at_call 63; (with_reducible refine (BN.out _ _ _ hA3.out).mono ?_); rintro e w3 ⟨rfl, hb3⟩; have hb13 := below_next hb2 hb3; (obtain ⟨W4, hW4⟩ : ∃ W4, w3.alloc (.cells #[.int .i64 i1, .int .i64 i2, .int .i64 i3, .int .i64 i4, .slice a9 n9 c9, .int .i64 v9] 101) = W4 := ⟨_, rfl⟩); (have b34 : Below w3.heap.size w3 W4 := by rw [← hW4]; exact (Below.refl _ _).alloc (Nat.le_refl _) _); (have g34 : w3.heap.size < W4.heap.size := by rw [← hW4]; simp); (have r4 : W4.heap[w3.heap.size]? = some (.cells #[.int .i64 i1, .int .i64 i2, .int .i64 i3, .int .i64 i4, .slice a9 n9 c9, .int .i64 v9] 101) := by rw [← hW4]; exact heap_alloc_new _ _); have KB := Lib.hid (fun W (hb : Below W4.heap.size W4 W) => (cells6B ((hb.block _ g34).trans r4)).1); obtain ⟨p0, p1, p2, p3, p4, p5⟩ := KB.out _ (Below.refl _ _); have hb14 := below_next hb13 b34; clear r4) | (go_at_call 62; (with_reducible refine (CU.out _ hb14).mono ?_); rintro e w5 ⟨v5, rfl, hv5, hb5⟩; obtain ⟨a5, c5, rfl, hA5⟩ := cut_arg hv5; replace hA5 := Lib.hid hA5; have B5 := Lib.hid hb5; clear hv5) | (go_at_call 65; (with_reducible refine (BC.out _ _ _ _ (Nat.lt_of_lt_of_le g34 B5.out.size) (KB.out _ B5.out).2.2.2.2.2 hA5.out).mono ?_); rintro e w6 ⟨rfl, hb6⟩; have hb46 := below_next B5.out hb6; (obtain ⟨W7, hW7⟩ : ∃ W7, w6.alloc (.cells #[.int .i64 y1, .int .i64 y2] 120) = W7 := ⟨_, rfl⟩); (have b67 : Below w6.heap.size w6 W7 := by rw [← hW7]; exact (Below.refl _ _).alloc (Nat.le_refl _) _); (have t0 : W7.cell? ⟨w6.heap.size, 0, none⟩ = some (.int .i64 y1) := by rw [← hW7]; exact cell_of_row _ _ 0 _ _ _ (heap_alloc_new _ _)); have hb47 := below_next hb46 b67; obtain ⟨p0, p1, p2, p3, p4, p5⟩ := KB.out _ hb47; have hb17 := below_next hb14 hb47; obtain ⟨⟨z0, z1, z2⟩, fz⟩ := KZ.out _ hb17; have f0 := fz 0; have f1 := fz 1; have f2 := fz 2; clear fz) | fail)
      exact bodyPost_ret (v := .tuple #[.agg #[.int .i64 1, .int .i64 i1, .int .i64 y1], .bool true]) (by simp [results, Try.results45, go_sem, z0, z1, z2]) rfl ⟨by rw [HR.out]; rfl, (by repeat (first | with_reducible exact below_next bw hb17 | with_reducible refine Below.setCell ?_ (show w.heap.size ≤ W0.heap.size from g0w) _))⟩
end Go.Proofs.Ytihpojllalnmcaa
