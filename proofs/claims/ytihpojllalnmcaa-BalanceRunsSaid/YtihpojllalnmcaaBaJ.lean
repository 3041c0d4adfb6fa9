/-
  CONTRACT: balance.merge.
-/
import Derived.Test.YtihpojllalnmcaaBaI
import Derived.BigQuiet
namespace Go.Proofs.Ytihpojllalnmcaa
open Go.RowKit Go.Shelf

theorem RIn.subG {α : Type} [Inhabited α] {enc : α → List Value} {k : Nat} {w : World} {B : Nat} {b off : Nat} {l : List α} (h : RIn enc k w B (some ⟨b, off, none⟩) l) (f m : Nat) : RIn enc k w B (some ⟨b, off + f * k, none⟩) ((l.drop f).take m) := fun j hj => by
  have hj' : j < m ∧ f + j < l.length := by rw [List.length_take, List.length_drop] at hj; omega
  obtain ⟨b', off', e, hb, hc⟩ := h (f + j) hj'.2
  cases e
  refine ⟨b, off + f * k, rfl, hb, fun i v hi => ?_⟩
  have he : ((l.drop f).take m)[j]! = l[f + j]! := by
    rw [getElem!_pos _ j hj, getElem!_pos l (f + j) hj'.2, List.getElem_take, List.getElem_drop]
  rw [he] at hi
  have := hc i v hi
  rwa [show off + (f + j) * k + i = off + f * k + j * k + i by rw [Nat.add_mul]; omega] at this
theorem drop_take2 {ps : List Pt} {i : Nat} (h : i + 1 < ps.length) : (ps.drop i).take 2 = [ps[i]!, ps[i + 1]!] := by
  rw [drop_moreG (by omega), drop_moreG h]
  rfl
def winP (b off c : Nat) (ps : List Pt) : List Wn := (List.range (ps.length - 1)).map fun i => ⟨some ⟨b, off + i * 6, none⟩, c - i, ps[i]!, ps[i + 1]!⟩
theorem winP_len (b off c : Nat) (ps : List Pt) : (winP b off c ps).length = ps.length - 1 := by unfold winP; simp
theorem winP_get {b off c : Nat} {ps : List Pt} {i : Nat} (h : i < ps.length - 1) : (winP b off c ps)[i]! = ⟨some ⟨b, off + i * 6, none⟩, c - i, ps[i]!, ps[i + 1]!⟩ := by
  rw [getElem!_pos _ i (by rw [winP_len]; exact h)]
  unfold winP
  rw [List.getElem_map, List.getElem_range]
/-- Two parts side by side lie there. -/
def WnOk (W : World) (x : Wn) : Prop := RArg encPt 6 W x.a 2 x.c [x.x, x.y] ∧ (0 ≤ x.x.v ∧ x.x.v ≤ 4503599627370496) ∧ (0 ≤ x.y.v ∧ x.y.v ≤ 4503599627370496)
theorem WnOk.below {W W' : World} {x : Wn} (h : WnOk W x) (hb : Below W.heap.size W W') : WnOk W' x := ⟨h.1.below hb, h.2⟩
theorem pt_bd {x : Pt} (h : PtOk x) : 0 ≤ x.v ∧ x.v ≤ 4503599627370496 := by rw [h.sum]; exact h.sub _ (List.Sublist.refl _)
theorem winP_ok {b off n c : Nat} {ps : List Pt} {W : World} (h : RArg encPt 6 W (some ⟨b, off, none⟩) n c ps) (hg : ∀ x ∈ ps, PtOk x) : ∀ x ∈ winP b off c ps, WnOk W x := fun x hx => by
  unfold winP at hx
  obtain ⟨i, hi, rfl⟩ := List.mem_map.1 hx
  have hi' : i < ps.length - 1 := List.mem_range.1 hi
  have h1 : i + 1 < ps.length := by omega
  refine ⟨⟨rfl, by simp, ?_, ?_, ?_⟩, pt_bd (hg _ (mem_bang (by omega))), pt_bd (hg _ (mem_bang h1))⟩
  · have := h.2.2.1; simp only [List.length_cons, List.length_nil]; omega
  · have := h.2.2.2.1; show c - i ≤ maxLen; omega
  · have := h.2.2.2.2.subG i 2
    rw [drop_take2 h1] at this
    exact this
theorem wn_cells {W : World} {x : Wn} (h : WnOk W x) : ∃ b off, x.a = some ⟨b, off, none⟩ ∧ b < W.heap.size ∧ W.cell? ⟨b, off, none⟩ = some (.int .i64 x.x.s.1) ∧ W.cell? ⟨b, off + 3, none⟩ = some (.int .i64 x.x.s.2.2.2) ∧ W.cell? ⟨b, off + 5, none⟩ = some (.int .i64 x.x.v) ∧ W.cell? ⟨b, off + 9, none⟩ = some (.int .i64 x.y.s.2.2.2) ∧ W.cell? ⟨b, off + 11, none⟩ = some (.int .i64 x.y.v) := by
  obtain ⟨b, off, e, hb, hc⟩ := h.1.2.2.2.2 0 (by simp)
  obtain ⟨b', off', e', _, hc'⟩ := h.1.2.2.2.2 1 (by simp)
  rw [e] at e'
  cases e'
  have h0 : ([x.x, x.y] : List Pt)[0]! = x.x := rfl
  have h1 : ([x.x, x.y] : List Pt)[1]! = x.y := rfl
  rw [h0] at hc
  rw [h1] at hc'
  have d0 := hc 0 _ rfl
  have d3 := hc 3 _ rfl
  have d5 := hc 5 _ rfl
  have e3 := hc' 3 _ rfl
  have e5 := hc' 5 _ rfl
  simp only [Nat.zero_mul, Nat.add_zero, Nat.one_mul] at d0 d3 d5 e3 e5
  rw [show off + 6 + 3 = off + 9 by omega] at e3
  rw [show off + 6 + 5 = off + 11 by omega] at e5
  exact ⟨b, off, e, hb, d0, d3, d5, e3, e5⟩
def sumW (x : Wn) : Int := x.x.v + x.y.v
theorem together_any (x : Wn) (W : World) (h : WnOk W x) : Calls Try.prog 75 #[.slice x.a 2 x.c] W fun e w' => e = .returned (.int .i64 (sumW x)) ∧ ∃ q, w' = W.drewN q := by
  obtain ⟨b, off, e, _, _, _, c5, _, d5⟩ := wn_cells h
  have hbd := h.2
  rw [e]
  have H := Lib.hid (show sumW x = x.x.v + x.y.v from rfl)
  generalize x.x.v = v at c5 hbd H
  generalize x.y.v = u at d5 hbd H
  generalize sumW x = s at H
  have hw : IntKind.i64.wrap (v + u) = v + u := IntWalk.i64_in _ (by omega)
  generalize x.c = c
  clear h e hbd
  go_enter Try.func75, Try.ntmps75
  go_wp2_with fail
  go_quiet (fail)
  go_wp2_with fail
  go_ret
  exact ⟨ret_int H.out.symm, _, rfl⟩
theorem WnOk.drewN {W : World} {x : Wn} (h : WnOk W x) (n : Nat) : WnOk (W.drewN n) x := h.below (below_drewN (Below.refl _ _) n)
def lightP (low : Int) (x : Wn) : Bool := x.x.s.2.2.2 == x.y.s.2.2.2 && decide (sumW x ≤ low)
theorem merge1 (x : Wn) (low : Int) (g : Nat) (W : World) (hc : W.cell? ⟨g, 0, none⟩ = some (.int .i64 low)) (h : WnOk W x) :
    Calls Try.prog 74 #[.slice x.a 2 x.c, .pointer (some ⟨g, 0, none⟩)] W (Gives W (.bool (lightP low x))) := by
  have TG := fun n => together_any x (W.drewN n) (h.drewN n)
  obtain ⟨b, off, e, _, _, c3, _, d3, _⟩ := wn_cells h
  rw [e] at TG ⊢
  have H := Lib.hid (show lightP low x = (x.x.s.2.2.2 == x.y.s.2.2.2 && decide (sumW x ≤ low)) from rfl)
  generalize lightP low x = r at H
  generalize x.x.s.2.2.2 = p at c3 H
  generalize x.y.s.2.2.2 = q at d3 H
  generalize sumW x = s at H TG
  generalize x.c = c at TG ⊢
  replace TG := Lib.hid TG
  obtain ⟨x1, e1⟩ : ∃ b, (p == q) = b := ⟨_, rfl⟩
  obtain ⟨x2, e2⟩ : ∃ b, decide (s ≤ low) = b := ⟨_, rfl⟩
  rw [e1, e2] at H
  clear h e
  cases x1 <;> cases x2
  all_goals
    go_enter Try.func74, Try.ntmps74
    go_wp2_with fail
    go_quiet ((first | (go_at_call 75; with_reducible exact Calls.quiet_of (TG.out _)) | fail))
    go_wp2_with fail
    go_ret
    exact ⟨ret_bool (by rw [H.out]; rfl), below_drewN (Below.refl _ _) _⟩
theorem merge2 (x : Wn) (W : World) (h : WnOk W x) : Calls Try.prog 77 #[.slice x.a 2 x.c] W (Gives W (.int .i64 (-sumW x))) := by
  have TG := together_any x W h
  have hbd : 0 ≤ sumW x ∧ sumW x ≤ 9007199254740992 := by have := h.2; unfold sumW; omega
  generalize sumW x = s at TG hbd
  generalize x.a = a at TG ⊢
  generalize x.c = c at TG ⊢
  replace TG := Lib.hid TG
  have hw2 : IntKind.i64.wrap (-s) = -s := IntWalk.i64_in _ (by omega)
  clear h
  go_enter Try.func77, Try.ntmps77
  go_wp2_with (go_at_call 75; (with_reducible refine TG.out.mono ?_); rintro e w2 ⟨rfl, q, rfl⟩)
  go_ret
  exact ⟨rfl, below_drewN (Below.refl _ _) _⟩
def mergeP (b off c : Nat) (low : Int) (ps : List Pt) : Option Gd := match bestF (fun x => -sumW x) ((winP b off c ps).filter (lightP low)) with
  | none => none
  | some x => some (2, x.x.s.1, 0)
set_option maxRecDepth 100000 in
set_option maxHeartbeats 4000000 in
theorem merge_any (b off n c : Nat) (ps : List Pt) (low : Int) (w : World) (h : RArg encPt 6 w (some ⟨b, off, none⟩) n c ps) (hps : ∀ x ∈ ps, PtOk x) (hn24 : 1 ≤ n ∧ n ≤ 24) :
    Calls Try.prog 47 #[.slice (some ⟨b, off, none⟩) n c, .int .i64 low] w (SugPost (mergeP b off c low ps) w) := by
  obtain ⟨i0, hi0, hz0, hz1, hz2⟩ := info_parts Try.infoWin
  have hn := h.1
  have hnc : n ≤ c := by have := h.2.2.1; omega
  have hcm : c ≤ maxLen := h.2.2.2.1
  have hcz : (c : Int) ≤ 9223372036854775807 := by unfold maxLen at hcm; omega
  obtain ⟨R, hR⟩ : ∃ R, mergeP b off c low ps = R := ⟨_, rfl⟩
  rw [hR]
  obtain ⟨W0, hW0⟩ : ∃ W0, w.alloc (.cells #[.int .i64 low] 3) = W0 := ⟨_, rfl⟩
  have b0 : Below w.heap.size w W0 := by rw [← hW0]; exact (Below.refl _ _).alloc (Nat.le_refl _) _
  have g0 : w.heap.size < W0.heap.size := by rw [← hW0]; simp
  have k0 : W0.cell? ⟨w.heap.size, 0, none⟩ = some (.int .i64 low) := by rw [← hW0]; exact cell_int1
  obtain ⟨W1, hW1⟩ : ∃ W1, W0.alloc (.cells #[.int .i64 0, .int .i64 0, .int .i64 0] 33) = W1 := ⟨_, rfl⟩
  have b01 : Below W0.heap.size W0 W1 := by rw [← hW1]; exact (Below.refl _ _).alloc (Nat.le_refl _) _
  have g1 : W0.heap.size < W1.heap.size := by rw [← hW1]; simp
  have r1 : W1.heap[W0.heap.size]? = some (.cells #[.int .i64 0, .int .i64 0, .int .i64 0] 33) := by rw [← hW1]; exact heap_alloc_new _ _
  have bw := below_next b0 b01
  have KZ := Lib.hid (fun W (hb : Below W1.heap.size W1 W) => cells3B ((hb.block _ g1).trans r1))
  have KH := Lib.hid (fun W (hb : Below W1.heap.size W1 W) => (hb.cell (p := ⟨w.heap.size, 0, none⟩) (Nat.lt_trans g0 g1)).trans ((b01.cell (p := ⟨w.heap.size, 0, none⟩) g0).trans k0))
  have hnz : (n : Int) ≤ 9223372036854775807 := by omega
  have g0w : w.heap.size ≤ W0.heap.size := Nat.le_of_lt g0
  have WO := Lib.hid (winP_ok (h.below bw) hps)
  have hwn : IntKind.i64.wrap ((n : Int) - 1) = (n : Int) - 1 := IntWalk.i64_in _ (by omega)
  obtain ⟨P, hP⟩ : ∃ P, winP b off c ps = P := ⟨_, rfl⟩
  have hPl : P.length = n - 1 := by rw [← hP, winP_len, hn]
  have HG := Lib.hid (fun i (hi : i < n - 1) => (show P[i]! = ⟨some ⟨b, off + i * 6, none⟩, c - i, ps[i]!, ps[i + 1]!⟩ by rw [← hP]; exact winP_get (by omega)))
  rw [hP] at WO
  have HR := Lib.hid (show R = match bestF (fun x : Wn => -sumW x) (P.filter (lightP low)) with | none => none | some x => some (2, x.x.s.1, 0) by rw [← hR, ← hP]; rfl)
  replace hPl := Lib.hid hPl
  clear r1 k0 h hps hn hR hP hcm
  go_enter Try.func47, Try.ntmps47
  go_wp2_with fail
  replace hW1 := Lib.hid hW1
  replace hW0 := Lib.hid hW0
  go_loopw [6, 14] (fun v i wr => ∃ (k : Nat), i = .int .i64 (k : Int) ∧ k ≤ n - 1 ∧ Hid (OwnsR encWn 1 72 wr W1.heap.size v (P.take k)) ∧ Below W1.heap.size W1 wr)
    (fun _ i _ => (n - 1) - (intOf i).toNat)
  case atStart => exact ⟨0, rfl, Nat.zero_le _, Lib.hid (OwnsR.nil _ _ _ _ _), Below.refl _ _⟩
  case round =>
    obtain ⟨k, rfl, hk, HO, hbl⟩ := hrel
    by_cases hlt : k < n - 1
    · have hkz : (k : Int) < (n : Int) - 1 := by omega
      have hkP : k < P.length := by rw [hPl.out]; exact hlt
      have hmore := take_moreG hkP
      rw [HG.out k hlt] at hmore
      have hlen : (P.take k).length = k := by rw [List.length_take]; omega
      obtain ⟨O, hO⟩ : ∃ O, P.take k = O := ⟨_, rfl⟩
      rw [hO] at HO hmore hlen
      have HN := Lib.hid hmore
      have hOl : O.length ≤ 24 := by omega
      have hw2 : IntKind.i64.wrap ((k : Int) + 2) = (k : Int) + 2 := IntWalk.i64_in _ (by omega)
      have hk0 : (0 : Int) ≤ (k : Int) := by omega
      have hk2 : (k : Int) ≤ (k : Int) + 2 := by omega
      have hkc : (k : Int) + 2 ≤ (c : Int) := by omega
      clear hmore hO
      have HO5 := Lib.hid (show wr.ownsRow W1.heap.size 72 1 _ O.length (flatR encWn O) from HO.out)
      go_wp2_with (at_builtin; refine wpList_append_own _ rfl _ _ 128 rfl W1.heap.size 72 i0 (.slice none 0 0) 1 24 Try.underlying128 hi0 hz0 hz1 hz2 rfl (by decide) _ _ _ rfl (HO5.out.alloc _) ⟨wr.heap.size, 0, none⟩ 1 1 [.slice (some ⟨b, off + k * 6, none⟩) 2 (c - k)] rfl rfl ?c1 ?c2 ?c3 ?c4 ?c5 ?_)
      case c1 => exact cell_one_new _ _ _
      case c2 => intro x hx; simp at hx; subst hx; rfl
      case c3 => unfold maxLen; omega
      case c4 => omega
      case c5 => have := hbl.size; simp; omega
      intro v' w7 hown hgrow _
      have hb17 := (hbl.alloc hbl.size (.cells #[.slice (some ⟨b, off + k * 6, none⟩) 2 (c - k)] 72)).grown hgrow (by have := hbl.size; simp; omega) (fun j hj => (HO5.out.lt j hj).1)
      have HO7 := Lib.hid (OwnsR.snoc (enc := encWn) (x := ⟨some ⟨b, off + k * 6, none⟩, c - k, ps[k]!, ps[k + 1]!⟩) hlen hown)
      clear hown hgrow
      go_wp2
      go_roundw
      case rel => exact ⟨k + 1, by go_num, by omega, Lib.hid (by rw [HN.out]; exact HO7.out), hb17⟩
      case measure => simp [intOf]; omega
    · have hkz : ¬ (k : Int) < (n : Int) - 1 := by omega
      have ho := HO.out
      rw [List.take_of_length_le (by rw [hPl.out]; omega)] at ho
      obtain ⟨aP, cP, rfl, hAP, _⟩ := ho.fresh encWn_len
      rw [hPl.out] at hAP ⊢
      obtain ⟨F, hF⟩ : ∃ F, P.filter (lightP low) = F := ⟨_, rfl⟩
      have hR2 := HR.out
      rw [hF] at hR2
      have hFm : ∀ x ∈ F, x ∈ P := fun x hx => by rw [← hF] at hx; exact (List.mem_filter.1 hx).1
      have ON := Lib.hid (fun W (hb' : Below W1.heap.size W1 W) (hA' : RArg encWn 1 W aP (n - 1) cP P) => hF ▸ onlyWin_any (lightP low) 74 #[.pointer (some ⟨w.heap.size, 0, none⟩)] (enters_of Try.func74 (by kernel_rfl) rfl) aP (n - 1) cP P W hA' (fun W' x hbz hx => merge1 x low w.heap.size W' (KH.out _ (below_next hb' hbz)) ((WO.out x hx).below (below_next hb' hbz))) (by omega))
      have BE := Lib.hid (fun W (hb' : Below W1.heap.size W1 W) (a3 : Option Addr) (c3 : Nat) (hA : RArg encWn 1 W a3 F.length c3 F) => bestWin_any (fun x => -sumW x) 77 #[] (enters_of Try.func77 (by kernel_rfl) rfl) a3 F.length c3 F W hA (fun W' x hbz hx => merge2 x W' ((WO.out x (hFm x hx)).below (below_next hb' hbz))))
      have HAP := Lib.hid hAP
      have HBL := Lib.hid hbl
      clear ho hF hAP
      cases hB : bestF (fun x : Wn => -sumW x) F with
      | none =>
        rw [hB] at hR2
        have HR3 := Lib.hid (show R = none from hR2)
        have BN := Lib.hid (fun W (hb' : Below W1.heap.size W1 W) a3 c3 hA => (show Calls Try.prog 76 #[.slice a3 F.length c3, .func (.func 77) #[] #[]] W fun e w' => ∃ v, e = .returned (.tuple #[v, .bool false]) ∧ Below W.heap.size W w' from (BE.out W hb' a3 c3 hA).mono fun e w' ⟨v, h1, _, h3⟩ => ⟨v, by rw [h1, hB]; rfl, h3⟩))
        clear hR2 hB BE
        go_wp2_with (first | (go_at_call 73; (with_reducible refine (ON.out _ HBL.out HAP.out).mono ?_); rintro e x2 ⟨v, rfl, hv, hb2⟩; obtain ⟨a3, c3, rfl, hA3, _⟩ := hv.fresh encWn_len; replace hA3 := Lib.hid hA3; have hb12 := Lib.hid (below_next HBL.out hb2); clear hv) | (go_at_call 76; (with_reducible refine (BN.out _ hb12.out _ _ hA3.out).mono ?_); rintro e x3 ⟨v3, rfl, hb3⟩; have hb13 := below_next hb12.out hb3; obtain ⟨⟨z0, z1, z2⟩, fz⟩ := KZ.out _ hb13; have f0 := fz 0; have f1 := fz 1; have f2 := fz 2; clear fz) | fail)
        exact bodyPost_ret (v := .tuple #[.agg #[.int .i64 0, .int .i64 0, .int .i64 0], .bool false]) (by simp [results, Try.results47, go_sem, z0, z1, z2]) rfl ⟨by rw [HR3.out]; rfl, (by repeat (first | with_reducible exact below_next bw hb13 | with_reducible refine Below.setCell ?_ (show w.heap.size ≤ W0.heap.size from g0w) _))⟩
      | some x =>
        rw [hB] at hR2
        have hx1 := WO.out x (hFm x (best_some hB).1)
        have HR3 := Lib.hid (show R = some (2, x.x.s.1, 0) from hR2)
        obtain ⟨b', off', ea, hb', c0, _⟩ := wn_cells hx1
        have BN := Lib.hid (fun W (hb' : Below W1.heap.size W1 W) a3 c3 hA => (show Calls Try.prog 76 #[.slice a3 F.length c3, .func (.func 77) #[] #[]] W fun e w' => e = .returned (.tuple #[.slice (some ⟨b', off', none⟩) 2 x.c, .bool true]) ∧ Below W.heap.size W w' from (BE.out W hb' a3 c3 hA).mono fun e w' ⟨v, h1, h2, h3⟩ => ⟨by rw [h1, hB, h2 x hB, ea]; rfl, h3⟩))
        have CX := Lib.hid (fun W (hbx : Below W1.heap.size W1 W) => (hbx.cell (p := ⟨b', off', none⟩) hb').trans c0)
        generalize x.x.s.1 = id0 at HR3 CX c0
        generalize x.c = cx at BN
        clear hR2 hB BE hx1 ea c0
        go_wp2_with (first | (go_at_call 73; (with_reducible refine (ON.out _ HBL.out HAP.out).mono ?_); rintro e x2 ⟨v, rfl, hv, hb2⟩; obtain ⟨a3, c3, rfl, hA3, _⟩ := hv.fresh encWn_len; replace hA3 := Lib.hid hA3; have hb12 := Lib.hid (below_next HBL.out hb2); clear hv) | (go_at_call 76; (with_reducible refine (BN.out _ hb12.out _ _ hA3.out).mono ?_); rintro e x3 ⟨rfl, hb3⟩; have hb13 := below_next hb12.out hb3; have cx0 := CX.out _ hb13; obtain ⟨⟨z0, z1, z2⟩, fz⟩ := KZ.out _ hb13; have f0 := fz 0; have f1 := fz 1; have f2 := fz 2; clear fz) | fail)
        exact bodyPost_ret (v := .tuple #[.agg #[.int .i64 2, .int .i64 id0, .int .i64 0], .bool true]) (by simp [results, Try.results47, go_sem, z0, z1, z2]) rfl ⟨by rw [HR3.out]; rfl, (by repeat (first | with_reducible exact below_next bw hb13 | with_reducible refine Below.setCell ?_ (show w.heap.size ≤ W0.heap.size from g0w) _))⟩
end Go.Proofs.Ytihpojllalnmcaa
