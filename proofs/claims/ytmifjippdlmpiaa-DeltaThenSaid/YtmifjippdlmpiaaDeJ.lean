/-
  DELTA: the document's Onto (written by wip/tools/mkDeJ.py).
-/
import Derived.Test.YtmifjippdlmpiaaDeI
namespace Go.Proofs.Ytmifjippdlmpiaa
open Go.RowKit Go.Deep Go.Shelf

/-- What is left of each turn behind others, and where it clashes. -/
def oF (l : List Tn) (t : Tn) : Option Tn := match turnAt l t.1 with
  | none => some t
  | some c => if c.2 = t.2.2 then none else some (t.1, c.2, t.2.2)
def kF (l : List Tn) (t : Tn) : Option Int := match turnAt l t.1 with
  | none => none
  | some c => if c = t.2 then none else some t.1
theorem oF_key (l : List Tn) (t y : Tn) (h : oF l t = some y) : kT y = kT t := by
  unfold oF at h
  split at h
  · cases h; rfl
  · split at h
    · cases h
    · cases h; rfl
theorem kF_key (l : List Tn) (t : Tn) (y : Int) (h : kF l t = some y) : id y = kT t := by
  unfold kF at h
  split at h
  · cases h
  · split at h
    · cases h
    · cases h; rfl
theorem ontL_eq {l m : List Tn} (hl : chkB l = true) (hm : chkB m = true) : ontL (meetsTT l m) = m.filterMap (oF l) := by
  refine asc_ext (e := -1) (K := kT) (chk_asc (ont_chk hl hm)) (fm_asc (oF_key l) (chk_asc hm)) (fun k => ?_)
  rw [turnAt_fnd, ont_at hl hm, fm_fnd (oF_key l) k (chk_asc hm), turnAt_fnd m]
  cases hd : turnAt m k with
  | none => cases turnAt l k <;> rfl
  | some d =>
    show _ = oF l (k, d)
    unfold oF
    dsimp only
    cases turnAt l k with
    | none => rfl
    | some c =>
      show (if c.2 = d.2 then none else some (c.2, d.2) : Option (Cl × Cl)).map _ = if c.2 = d.2 then none else some (k, c.2, d.2)
      split <;> rfl
theorem ontC_eq {l m : List Tn} (hl : chkB l = true) (hm : chkB m = true) : ontC (meetsTT l m) = m.filterMap (kF l) := by
  refine asc_ext (e := -1) (K := id) (clash_asc hl hm) (fm_asc (kF_key l) (chk_asc hm)) (fun k => ?_)
  rw [clash_at hl hm, fm_fnd (kF_key l) k (chk_asc hm), turnAt_fnd m]
  cases hd : turnAt m k with
  | none => cases turnAt l k <;> rfl
  | some d =>
    show _ = kF l (k, d)
    unfold kF
    dsimp only
    cases turnAt l k with
    | none => rfl
    | some c => rfl
def LPost (w : World) (l : List Tn) (c : List Int) (z : Int) (e : Ending) (w' : World) : Prop := ∃ v u, e = .returned (.agg #[v, u, .int .i64 z]) ∧ OwnsR encT 5 88 w' w.heap.size v l ∧ OwnZ w' w.heap.size u c ∧ Below w.heap.size w w'
theorem cellD1 (w : World) (x0 : Value) (t : TypeId) : ∀ j u, [x0][j]? = some u → ((w.alloc (.cells #[x0] t)).drew).cell? ((⟨w.heap.size, 0, none⟩ : Addr).add j) = some u := cells_one1 w x0 t _ rfl
theorem one_one (x : Int) : ∀ v ∈ [Value.int .i64 x], v.oneCell' = true := by intro u hu; simp at hu; rw [hu]; rfl
set_option maxRecDepth 100000 in
set_option maxHeartbeats 8000000 in
theorem ronto_any (aa ab : Option Addr) (na nb ca cb : Nat) (l m : List Tn) (w : World) (hA : RArg encT 5 w aa na ca l) (hB : RArg encT 5 w ab nb cb m) (_hll : l.length ≤ 4096) (hlm : m.length ≤ 4096) :
    Calls Try.prog 28 #[.slice aa na ca, .slice ab nb cb] w (LPost w (ontP l m).1 (ontP l m).2.1 (ontP l m).2.2) := by
  obtain ⟨i0, hi, hz0, hz1, hz2⟩ := info_parts Try.infoRTurn
  obtain ⟨j0, ji, jz0, jz1, jz2⟩ := info_parts Try.infoInt
  have ha := Lib.hid hA
  have hb := Lib.hid hB
  obtain ⟨rfl, hza, hca, _, _⟩ := hA
  obtain ⟨rfl, hzb, hcb, _, _⟩ := hB
  have BR : Below w.heap.size w (w.alloc (.cells #[.slice none 0 0, .slice none 0 0, .int .i64 0] 52)) := (Below.refl _ _).alloc (Nat.le_refl _) _
  have hX0 : Hid (XB 52 (w.alloc (.cells #[.slice none 0 0, .slice none 0 0, .int .i64 0] 52)) w.heap.size [.slice none 0 0, .slice none 0 0, .int .i64 0]) := Lib.hid (heap_alloc_new w _)
  have CA := Lib.hid (fun W (h : Below w.heap.size w W) => rcheckT_any aa l.length ca l W (ha.out.below h))
  have CB := Lib.hid (fun W (h : Below w.heap.size w W) => rcheckT_any ab m.length cb m W (hb.out.below h))
  unfold ontP
  cases hta : chkB l with
  | false =>
    rw [hta] at CA
    go_enter Try.func28, Try.ntmps28
    go_wp2_with (go_at_call 21; (with_reducible refine (CA.out _ BR).mono ?_); rintro e w1 ⟨rfl, b1⟩; (have hX1 := XB.below hX0.out b1); (have z0 := hX1.at 0 _ rfl); (have z1 := hX1.at 1 _ rfl); (have z2 := hX1.at 2 _ rfl); (have f0 := hX1.free 0); (have f1 := hX1.free 1); (have f2 := hX1.free 2); (have HE := Lib.hid (((hX1.set 0 (.slice none 0 0)).set 1 (.slice none 0 0)).set 2 (.int .i64 1))))
    have e0 := HE.out.at 0 _ rfl
    have e1 := HE.out.at 1 _ rfl
    have e2 := HE.out.at 2 _ rfl
    exact bodyPost_ret (v := .agg #[.slice none 0 0, .slice none 0 0, .int .i64 1]) (by simp [results, Try.results28, go_sem, e0, e1, e2]) rfl ⟨_, _, rfl, OwnsR.nil _ _ _ _ _, OwnsR.nil _ _ _ _ _, (((BR.trans (b1.mono BR.size)).setCell (p := ⟨w.heap.size, 0, none⟩) (Nat.le_refl _) _).setCell (p := ⟨w.heap.size, 1, none⟩) (Nat.le_refl _) _).setCell (p := ⟨w.heap.size, 2, none⟩) (Nat.le_refl _) _⟩
  | true =>
    rw [hta] at CA
    cases htl : chkB m with
    | false =>
      rw [htl] at CB
      go_enter Try.func28, Try.ntmps28
      go_wp2_with (first
        | (go_at_call 21; (with_reducible refine (CA.out _ BR).mono ?_); rintro e w1 ⟨rfl, b1⟩; (have B1 := BR.trans (b1.mono BR.size)); clear CA)
        | (go_at_call 21; (with_reducible refine (CB.out _ B1).mono ?_); rintro e w2 ⟨rfl, b2⟩; (have hX1 := XB.below (XB.below hX0.out b1) b2); (have z0 := hX1.at 0 _ rfl); (have z1 := hX1.at 1 _ rfl); (have z2 := hX1.at 2 _ rfl); (have f0 := hX1.free 0); (have f1 := hX1.free 1); (have f2 := hX1.free 2); (have HE := Lib.hid (((hX1.set 0 (.slice none 0 0)).set 1 (.slice none 0 0)).set 2 (.int .i64 1)))))
      have e0 := HE.out.at 0 _ rfl
      have e1 := HE.out.at 1 _ rfl
      have e2 := HE.out.at 2 _ rfl
      exact bodyPost_ret (v := .agg #[.slice none 0 0, .slice none 0 0, .int .i64 1]) (by simp [results, Try.results28, go_sem, e0, e1, e2]) rfl ⟨_, _, rfl, OwnsR.nil _ _ _ _ _, OwnsR.nil _ _ _ _ _, (((below_next B1 b2).setCell (p := ⟨w.heap.size, 0, none⟩) (Nat.le_refl _) _).setCell (p := ⟨w.heap.size, 1, none⟩) (Nat.le_refl _) _).setCell (p := ⟨w.heap.size, 2, none⟩) (Nat.le_refl _) _⟩
    | true =>
      rw [htl] at CB
      rw [ontL_eq hta htl, ontC_eq hta htl]
      clear hta htl
      rw [show (if (true && true) = true then (m.filterMap (oF l), m.filterMap (kF l), (0 : Int)) else ([], [], 1)) = (m.filterMap (oF l), m.filterMap (kF l), (0 : Int)) from rfl]
      go_enter Try.func28, Try.ntmps28
      go_wp2_with (first
        | (go_at_call 21; (with_reducible refine (CA.out _ BR).mono ?_); rintro e w1 ⟨rfl, b1⟩; (have B1 := BR.trans (b1.mono BR.size)); clear CA)
        | (go_at_call 21; (with_reducible refine (CB.out _ B1).mono ?_); rintro e w2 ⟨rfl, b2⟩; (have B2 := below_next B1 b2); (have hX2 := Lib.hid (XB.below (XB.below hX0.out b1) b2))))
      have hX3 : Hid (XB 52 (w2.alloc (.cells #[.slice none 0 0, .slice none 0 0, .int .i64 0] 52)) w.heap.size [.slice none 0 0, .slice none 0 0, .int .i64 0]) := Lib.hid (XB.below hX2.out ((Below.refl _ _).alloc (Nat.le_refl _) _))
      have hO3 : Hid (XB 52 (w2.alloc (.cells #[.slice none 0 0, .slice none 0 0, .int .i64 0] 52)) w2.heap.size [.slice none 0 0, .slice none 0 0, .int .i64 0]) := Lib.hid (heap_alloc_new w2 _)
      have B3 := below_alloc B2 (.cells #[.slice none 0 0, .slice none 0 0, .int .i64 0] 52)
      have hrb : w.heap.size < w2.heap.size := hX2.out.lt
      clear CB b1 b2 B1 BR hX0 hX2
      generalize (w2.alloc (.cells #[.slice none 0 0, .slice none 0 0, .int .i64 0] 52)) = W3 at *
      generalize w2.heap.size = bo at *
      go_loopw [6] (fun i wr => ∃ (n : Nat) (vL vC : Value) (ou : List Tn) (cl : List Int), i = .int .i64 (n : Int) ∧ n ≤ m.length ∧ Hid (ou = (m.take n).filterMap (oF l)) ∧ Hid (cl = (m.take n).filterMap (kF l)) ∧ Hid (XB 52 wr bo [vL, vC, .int .i64 0]) ∧ Hid (XB 52 wr w.heap.size [.slice none 0 0, .slice none 0 0, .int .i64 0]) ∧ Hid (OwnsR encT 5 88 wr w.heap.size vL ou) ∧ Hid (OwnZ wr w.heap.size vC cl) ∧ Below w.heap.size w wr)
        (fun i _ => m.length - (intOf i).toNat)
      case atStart => exact ⟨0, _, _, [], [], rfl, by omega, Lib.hid rfl, Lib.hid rfl, hO3, hX3, Lib.hid (OwnsR.nil _ _ _ _ _), Lib.hid (OwnsR.nil _ _ _ _ _), B3⟩
      case round =>
        obtain ⟨n, vL, vC, ou, cl, rfl, hn, HM, HK, HX, HR, HO, HC, hbl⟩ := hrel
        have hsz := hbl.size
        by_cases hnl : n < m.length
        case neg =>
          have hnz : ¬ (n : Int) < (m.length : Int) := by omega
          have h1 := HM.out
          have h2 := HK.out
          rw [List.take_of_length_le (by omega)] at h1 h2
          have H1 := Lib.hid h1
          have H2 := Lib.hid h2
          clear h1 h2
          obtain ⟨la, lc, rfl, _⟩ := OwnsR.arg encT_len HO.out
          obtain ⟨ka, kc, rfl, _⟩ := OwnsR.arg encI_len HC.out
          have x0 := HX.out.at 0 _ rfl
          have x1 := HX.out.at 1 _ rfl
          have x2 := HX.out.at 2 _ rfl
          have z0 := HR.out.at 0 _ rfl
          have z1 := HR.out.at 1 _ rfl
          have z2 := HR.out.at 2 _ rfl
          have f0 := HR.out.free 0
          have f1 := HR.out.free 1
          have f2 := HR.out.free 2
          have HE := Lib.hid (((HR.out.set 0 (.slice la ou.length lc)).set 1 (.slice ka cl.length kc)).set 2 (.int .i64 0))
          go_wp2_with fail
          have e0 := HE.out.at 0 _ rfl
          have e1 := HE.out.at 1 _ rfl
          have e2 := HE.out.at 2 _ rfl
          have r1 : OwnsR encT 5 88 (((wr.setCell ⟨w.heap.size, 0, none⟩ (.slice la ou.length lc)).setCell ⟨w.heap.size, 1, none⟩ (.slice ka cl.length kc)).setCell ⟨w.heap.size, 2, none⟩ (.int .i64 0)) w.heap.size (.slice la ou.length lc) ou :=
            World.ownsRow.kept (World.ownsRow.kept (World.ownsRow.kept HO.out (grownBy_setAt _ _ _ _) (.inr (XB.not_row (by decide) HR.out HO.out).symm)) (grownBy_setAt _ _ _ _) (.inr (XB.not_row (by decide) HR.out HO.out).symm)) (grownBy_setAt _ _ _ _) (.inr (XB.not_row (by decide) HR.out HO.out).symm)
          have r2 : OwnZ (((wr.setCell ⟨w.heap.size, 0, none⟩ (.slice la ou.length lc)).setCell ⟨w.heap.size, 1, none⟩ (.slice ka cl.length kc)).setCell ⟨w.heap.size, 2, none⟩ (.int .i64 0)) w.heap.size (.slice ka cl.length kc) cl :=
            World.ownsRow.kept (World.ownsRow.kept (World.ownsRow.kept HC.out (grownBy_setAt _ _ _ _) (.inr (XB.not_row (by decide) HR.out HC.out).symm)) (grownBy_setAt _ _ _ _) (.inr (XB.not_row (by decide) HR.out HC.out).symm)) (grownBy_setAt _ _ _ _) (.inr (XB.not_row (by decide) HR.out HC.out).symm)
          rw [← H1.out, ← H2.out]
          exact bodyPost_ret (v := .agg #[.slice la ou.length lc, .slice ka cl.length kc, .int .i64 0]) (by simp [results, Try.results28, go_sem, e0, e1, e2]) rfl ⟨_, _, rfl, r1, r2, ((hbl.setCell (p := ⟨w.heap.size, 0, none⟩) (Nat.le_refl _) _).setCell (p := ⟨w.heap.size, 1, none⟩) (Nat.le_refl _) _).setCell (p := ⟨w.heap.size, 2, none⟩) (Nat.le_refl _) _⟩
        have hnz : (n : Int) < (m.length : Int) := by omega
        have hn0 : (0 : Int) ≤ (n : Int) := by omega
        have hol : ou.length ≤ 8192 := by rw [HM.out]; exact Nat.le_trans (List.length_filterMap_le _ _) (by rw [List.length_take]; omega)
        have hcl : cl.length ≤ 8192 := by rw [HK.out]; exact Nat.le_trans (List.length_filterMap_le _ _) (by rw [List.length_take]; omega)
        have hbo : bo < wr.heap.size := HX.out.lt
        have hbow : w.heap.size ≤ bo := Nat.le_of_lt hrb
        have hbne : bo ≠ w.heap.size := by omega
        have HMn := Lib.hid (show (m.take (n + 1)).filterMap (oF l) = ou ++ (oF l m[n]!).toList by rw [take_moreG hnl, fm_snoc, HM.out])
        have HKn := Lib.hid (show (m.take (n + 1)).filterMap (kF l) = cl ++ (kF l m[n]!).toList by rw [take_moreG hnl, fm_snoc, HK.out])
        obtain ⟨b2, o2, e2, hb2w, y0w, _, _, y3w, y4w⟩ := hb.out.tns hnl
        subst e2
        obtain ⟨b2x, o2x, e2x, hbb2, y0, y1, y2, y3, y4⟩ := (hb.out.below hbl).tns hnl
        cases e2x
        have hfn : ∃ f, fnd kT l m[n]!.1 = f := ⟨_, rfl⟩
        obtain ⟨fo, hfo⟩ := hfn
        have hta : turnAt l m[n]!.1 = fo.map (·.2) := by unfold turnAt; rw [hfo]
        unfold oF at HMn
        unfold kF at HKn
        rw [hta] at HMn HKn
        have CFi := rfind_any aa l.length ca l m[n]!.1 wr (ha.out.below hbl)
        clear hta
        replace y0w := Lib.hid y0w
        replace y3w := Lib.hid y3w
        replace y4w := Lib.hid y4w
        generalize m[n]! = t at y0w y3w y4w y0 y1 y2 y3 y4 HMn HKn hfo CFi
        obtain ⟨tk, ⟨tv, ts⟩, ⟨ti, tb⟩⟩ := t
        dsimp only at y0 y1 y2 y3 y4 hfo CFi
        have x0 := HX.out.at 0 _ rfl
        have x1 := HX.out.at 1 _ rfl
        have q0 := HX.out.free 0
        have q1 := HX.out.free 1
        cases fo with
        | none =>
          rw [fix_none hfo] at CFi
          have HM1 := Lib.hid (show ou ++ [(tk, (tv, ts), (ti, tb))] = (m.take (n + 1)).filterMap (oF l) from HMn.out.symm)
          have HK1 := Lib.hid (show cl = (m.take (n + 1)).filterMap (kF l) from (HKn.out.trans (List.append_nil _)).symm)
          clear HMn HKn
          go_wp2_with (go_at_call 50; (with_reducible refine CFi.mono ?_); rintro e wf ⟨rfl, rfl⟩)
          have hown0 : wr.ownsRow w.heap.size 88 5 vL ou.length (flatR encT ou) := HO.out
          have HD := Lib.hid (fun o => (hown0.alloc o).drew)
          have HG := Lib.hid (fun o w1 (hg : ((wr.alloc o).drew).grownBy w1 vL.ownBlock) => (show XB 52 w1 bo [vL, vC, .int .i64 0] ∧ XB 52 w1 w.heap.size [.slice none 0 0, .slice none 0 0, .int .i64 0] ∧ OwnZ w1 w.heap.size vC cl ∧ Below w.heap.size w w1 ∧ Below wr.heap.size wr ((wr.alloc o).drew) from by
            have bz : Below wr.heap.size wr ((wr.alloc o).drew) := ((Below.refl _ _).alloc (Nat.le_refl _) o).drew
            exact ⟨XB.kept (XB.below HX.out bz) hg (XB.not_row (by decide) HX.out hown0), XB.kept (XB.below HR.out bz) hg (XB.not_row (by decide) HR.out hown0), World.ownsRow.kept (OwnsR.below HC.out bz) hg (own_apartG (by decide) HC.out hown0), ((hbl.alloc hbl.size o).drew).grown hg (by have := hbl.size; simp; omega) (fun j hj => (World.ownsRow.lt hown0 j hj).1), bz⟩))
          have B63 := Lib.hid (show ou.length + 1 ≤ maxLen by unfold maxLen; omega)
          have BBY := Lib.hid (show (ou.length + 1) * 40 ≤ 140737488355328 by omega)
          have HBS := Lib.hid (fun o => (show w.heap.size ≤ ((wr.alloc o).drew).heap.size from by have := hbl.size; simp; omega))
          have HH := Lib.hid (fun o => (show ((wr.alloc o).drew).heap.size = wr.heap.size + 1 from by simp))
          clear hown0
          go_wp2_with fail
          go_region_law (first | (refine step_append_lies _ rfl (.tmp 33) (.tmp 38) 29 rfl w.heap.size 88 i0 (.agg #[.int .i64 0, .int .i64 0, .bool false, .int .i64 0, .bool false]) 5 40 Try.underlying29 hi hz0 hz1 hz2 rfl (by decide) _ _ _ rfl (HD.out _) ⟨wr.heap.size, 0, none⟩ 1 1 [.int .i64 tk, .int .i64 tv, .bool ts, .int .i64 ti, .bool tb] rfl rfl (cellD5 wr _ _ _ _ _ _) (five_one _ _ _ _ _) (by decide) B63.out BBY.out (HBS.out _) (wr.heap.size + 1) (HH.out _) ?_; intro g cap w1 hown1 hgrow1 _ _; (obtain ⟨g1, g2, g3, g4, _⟩ := HG.out _ _ hgrow1); (have z0 := g1.at 0 _ rfl); (have f0 := g1.free 0); (obtain ⟨Wn, hWn⟩ : ∃ Wn, w1.setCell ⟨bo, 0, none⟩ (.slice (some ⟨g, 0, none⟩) (ou.length + 1) cap) = Wn := ⟨_, rfl⟩); (have N1 : Hid (XB 52 Wn bo [.slice (some ⟨g, 0, none⟩) (ou.length + 1) cap, vC, .int .i64 0]) := Lib.hid (by rw [← hWn]; exact g1.set 0 _)); (have N2 : Hid (XB 52 Wn w.heap.size [.slice none 0 0, .slice none 0 0, .int .i64 0]) := Lib.hid (by rw [← hWn]; exact XB.kept g2 (grownBy_setAt _ _ _ _) (fun e => hbne (Option.some.inj e).symm))); (have N3 : Hid (OwnsR encT 5 88 Wn w.heap.size (.slice (some ⟨g, 0, none⟩) (ou.length + 1) cap) (ou ++ [(tk, (tv, ts), (ti, tb))])) := Lib.hid (by rw [← hWn]; exact World.ownsRow.kept (OwnsR.snoc (enc := encT) (x := ((tk, (tv, ts), (ti, tb)) : Tn)) rfl hown1) (grownBy_setAt _ _ _ _) (.inr (XB.not_row (by decide) g1 hown1).symm))); (have N4 : Hid (OwnZ Wn w.heap.size vC cl) := Lib.hid (by rw [← hWn]; exact World.ownsRow.kept g3 (grownBy_setAt _ _ _ _) (.inr (XB.not_row (by decide) g1 g3).symm))); (have N5 : Below w.heap.size w Wn := by rw [← hWn]; exact g4.setCell (p := ⟨bo, 0, none⟩) hbow _); clear hown1 hgrow1 g1 g2 g3 g4))
          all_goals
            go_wp2
            go_roundw
            case rel => exact ⟨n + 1, _, vC, ou ++ [(tk, (tv, ts), (ti, tb))], cl, by go_num, by omega, HM1, HK1, N1, N2, N3, N4, N5⟩
            case measure => simp [intOf]; omega
        | some s =>
          obtain ⟨i, hil, hfi, es, esk⟩ := fix_some hfo
          rw [hfi] at CFi
          obtain ⟨b1, o1, e1, hb1w, _, _, _, w3w, w4w⟩ := ha.out.tns hil
          subst e1
          obtain ⟨b1x, o1x, e1x, hbb1, w0, w1, w2', w3, w4⟩ := (ha.out.below hbl).tns hil
          cases e1x
          rw [es] at w0 w1 w2' w3 w4 w3w w4w
          replace w3w := Lib.hid w3w
          replace w4w := Lib.hid w4w
          have hiz : (i : Int) < (l.length : Int) := by omega
          have hi0 : (0 : Int) ≤ (i : Int) := by omega
          obtain ⟨sk, ⟨sv, ss⟩, ⟨si, sb⟩⟩ := s
          dsimp only at w0 w1 w2' w3 w4
          replace es := Lib.hid es
          replace esk := Lib.hid esk
          replace hfi := Lib.hid hfi
          replace hfo := Lib.hid hfo
          have NE1 := fun W => neqCell si ti sb tb W
          have NE2 := fun W => neqCell sv tv ss ts W
          rw [cl_beq] at NE1 NE2
          have HM1 : Hid ((m.take (n + 1)).filterMap (oF l) = ou ++ ((if ((si, sb) : Cl) = (ti, tb) then none else some (tk, (si, sb), (ti, tb)) : Option Tn)).toList) := Lib.hid HMn.out
          have HK1 : Hid ((m.take (n + 1)).filterMap (kF l) = cl ++ ((if (((sv, ss), (si, sb)) : Cl × Cl) = ((tv, ts), (ti, tb)) then none else some tk : Option Int)).toList) := Lib.hid HKn.out
          clear HMn HKn
          by_cases g1 : ((si, sb) : Cl) = (ti, tb)
          · rw [decide_eq_true g1] at NE1
            have HM2 := Lib.hid (show ou = (m.take (n + 1)).filterMap (oF l) by rw [HM1.out, if_pos g1]; simp)
            by_cases g2 : ((sv, ss) : Cl) = (tv, ts)
            · rw [decide_eq_true g2] at NE2
              have HK2 := Lib.hid (show cl = (m.take (n + 1)).filterMap (kF l) by rw [HK1.out, if_pos (by rw [g1, g2])]; simp)
              clear g1 g2 HM1 HK1
              go_wp2_with (go_at_call 50; (with_reducible refine CFi.mono ?_); rintro e wf ⟨rfl, rfl⟩)
              go_wp2_with fail
              go_quiet (fail)
              generalize HV0 : wr.drewN _ = V0
              have bv0 : Below wr.heap.size wr V0 := by rw [← HV0]; exact below_drewN2 (Below.refl _ _) _
              replace HV0 := Lib.hid HV0
              have w0 := (bv0.cell (p := ⟨b1, o1 + i * 5, none⟩) hbb1).trans w0
              have w1 := (bv0.cell (p := ⟨b1, o1 + i * 5 + 1, none⟩) hbb1).trans w1
              have w2' := (bv0.cell (p := ⟨b1, o1 + i * 5 + 2, none⟩) hbb1).trans w2'
              have w3 := (bv0.cell (p := ⟨b1, o1 + i * 5 + 3, none⟩) hbb1).trans w3
              have w4 := (bv0.cell (p := ⟨b1, o1 + i * 5 + 4, none⟩) hbb1).trans w4
              have y0 := (bv0.cell (p := ⟨b2, o2 + n * 5, none⟩) hbb2).trans y0
              have y1 := (bv0.cell (p := ⟨b2, o2 + n * 5 + 1, none⟩) hbb2).trans y1
              have y2 := (bv0.cell (p := ⟨b2, o2 + n * 5 + 2, none⟩) hbb2).trans y2
              have y3 := (bv0.cell (p := ⟨b2, o2 + n * 5 + 3, none⟩) hbb2).trans y3
              have y4 := (bv0.cell (p := ⟨b2, o2 + n * 5 + 4, none⟩) hbb2).trans y4
              have x0 := (bv0.cell (p := ⟨bo, 0, none⟩) hbo).trans x0
              have x1 := (bv0.cell (p := ⟨bo, 1, none⟩) hbo).trans x1
              have hbb1_0 := Nat.lt_of_lt_of_le hbb1 bv0.size
              have hbb2_0 := Nat.lt_of_lt_of_le hbb2 bv0.size
              have hbo_0 := Nat.lt_of_lt_of_le hbo bv0.size
              have bt0 : Below wr.heap.size wr V0 := bv0
              go_wp2_with fail
              go_quiet (fail)
              generalize HV1 : V0.drewN _ = V1
              have bv1 : Below V0.heap.size V0 V1 := by rw [← HV1]; exact below_drewN2 (Below.refl _ _) _
              replace HV1 := Lib.hid HV1
              have w0 := (bv1.cell (p := ⟨b1, o1 + i * 5, none⟩) hbb1_0).trans w0
              have w1 := (bv1.cell (p := ⟨b1, o1 + i * 5 + 1, none⟩) hbb1_0).trans w1
              have w2' := (bv1.cell (p := ⟨b1, o1 + i * 5 + 2, none⟩) hbb1_0).trans w2'
              have w3 := (bv1.cell (p := ⟨b1, o1 + i * 5 + 3, none⟩) hbb1_0).trans w3
              have w4 := (bv1.cell (p := ⟨b1, o1 + i * 5 + 4, none⟩) hbb1_0).trans w4
              have y0 := (bv1.cell (p := ⟨b2, o2 + n * 5, none⟩) hbb2_0).trans y0
              have y1 := (bv1.cell (p := ⟨b2, o2 + n * 5 + 1, none⟩) hbb2_0).trans y1
              have y2 := (bv1.cell (p := ⟨b2, o2 + n * 5 + 2, none⟩) hbb2_0).trans y2
              have y3 := (bv1.cell (p := ⟨b2, o2 + n * 5 + 3, none⟩) hbb2_0).trans y3
              have y4 := (bv1.cell (p := ⟨b2, o2 + n * 5 + 4, none⟩) hbb2_0).trans y4
              have x0 := (bv1.cell (p := ⟨bo, 0, none⟩) hbo_0).trans x0
              have x1 := (bv1.cell (p := ⟨bo, 1, none⟩) hbo_0).trans x1
              have hbb1_0_1 := Nat.lt_of_lt_of_le hbb1_0 bv1.size
              have hbb2_0_1 := Nat.lt_of_lt_of_le hbb2_0 bv1.size
              have hbo_0_1 := Nat.lt_of_lt_of_le hbo_0 bv1.size
              have bt1 : Below wr.heap.size wr V1 := below_next bt0 bv1
              have hbw := below_next hbl bt1
              have HXw := Lib.hid (XB.below HX.out bt1)
              have HRw := Lib.hid (XB.below HR.out bt1)
              have HOw := Lib.hid (OwnsR.below HO.out bt1)
              have HCw := Lib.hid (OwnsR.below HC.out bt1)
              have q0 := HXw.out.free 0
              have q1 := HXw.out.free 1
              go_wp2_with fail
              go_roundw
              case rel => exact ⟨n + 1, vL, vC, ou, cl, by go_num, by omega, HM2, HK2, HXw, HRw, HOw, HCw, hbw⟩
              case measure => simp [intOf]; omega
            · rw [decide_eq_false g2] at NE2
              have HK2 := Lib.hid (show cl ++ [tk] = (m.take (n + 1)).filterMap (kF l) by rw [HK1.out, if_neg (fun q => g2 (by simp at q; simp [q]))]; rfl)
              clear g1 g2 HM1 HK1
              go_wp2_with (go_at_call 50; (with_reducible refine CFi.mono ?_); rintro e wf ⟨rfl, rfl⟩)
              go_wp2_with fail
              go_quiet (fail)
              generalize HV0 : wr.drewN _ = V0
              have bv0 : Below wr.heap.size wr V0 := by rw [← HV0]; exact below_drewN2 (Below.refl _ _) _
              replace HV0 := Lib.hid HV0
              have w0 := (bv0.cell (p := ⟨b1, o1 + i * 5, none⟩) hbb1).trans w0
              have w1 := (bv0.cell (p := ⟨b1, o1 + i * 5 + 1, none⟩) hbb1).trans w1
              have w2' := (bv0.cell (p := ⟨b1, o1 + i * 5 + 2, none⟩) hbb1).trans w2'
              have w3 := (bv0.cell (p := ⟨b1, o1 + i * 5 + 3, none⟩) hbb1).trans w3
              have w4 := (bv0.cell (p := ⟨b1, o1 + i * 5 + 4, none⟩) hbb1).trans w4
              have y0 := (bv0.cell (p := ⟨b2, o2 + n * 5, none⟩) hbb2).trans y0
              have y1 := (bv0.cell (p := ⟨b2, o2 + n * 5 + 1, none⟩) hbb2).trans y1
              have y2 := (bv0.cell (p := ⟨b2, o2 + n * 5 + 2, none⟩) hbb2).trans y2
              have y3 := (bv0.cell (p := ⟨b2, o2 + n * 5 + 3, none⟩) hbb2).trans y3
              have y4 := (bv0.cell (p := ⟨b2, o2 + n * 5 + 4, none⟩) hbb2).trans y4
              have x0 := (bv0.cell (p := ⟨bo, 0, none⟩) hbo).trans x0
              have x1 := (bv0.cell (p := ⟨bo, 1, none⟩) hbo).trans x1
              have hbb1_0 := Nat.lt_of_lt_of_le hbb1 bv0.size
              have hbb2_0 := Nat.lt_of_lt_of_le hbb2 bv0.size
              have hbo_0 := Nat.lt_of_lt_of_le hbo bv0.size
              have bt0 : Below wr.heap.size wr V0 := bv0
              go_wp2_with fail
              go_quiet (fail)
              generalize HV1 : V0.drewN _ = V1
              have bv1 : Below V0.heap.size V0 V1 := by rw [← HV1]; exact below_drewN2 (Below.refl _ _) _
              replace HV1 := Lib.hid HV1
              have w0 := (bv1.cell (p := ⟨b1, o1 + i * 5, none⟩) hbb1_0).trans w0
              have w1 := (bv1.cell (p := ⟨b1, o1 + i * 5 + 1, none⟩) hbb1_0).trans w1
              have w2' := (bv1.cell (p := ⟨b1, o1 + i * 5 + 2, none⟩) hbb1_0).trans w2'
              have w3 := (bv1.cell (p := ⟨b1, o1 + i * 5 + 3, none⟩) hbb1_0).trans w3
              have w4 := (bv1.cell (p := ⟨b1, o1 + i * 5 + 4, none⟩) hbb1_0).trans w4
              have y0 := (bv1.cell (p := ⟨b2, o2 + n * 5, none⟩) hbb2_0).trans y0
              have y1 := (bv1.cell (p := ⟨b2, o2 + n * 5 + 1, none⟩) hbb2_0).trans y1
              have y2 := (bv1.cell (p := ⟨b2, o2 + n * 5 + 2, none⟩) hbb2_0).trans y2
              have y3 := (bv1.cell (p := ⟨b2, o2 + n * 5 + 3, none⟩) hbb2_0).trans y3
              have y4 := (bv1.cell (p := ⟨b2, o2 + n * 5 + 4, none⟩) hbb2_0).trans y4
              have x0 := (bv1.cell (p := ⟨bo, 0, none⟩) hbo_0).trans x0
              have x1 := (bv1.cell (p := ⟨bo, 1, none⟩) hbo_0).trans x1
              have hbb1_0_1 := Nat.lt_of_lt_of_le hbb1_0 bv1.size
              have hbb2_0_1 := Nat.lt_of_lt_of_le hbb2_0 bv1.size
              have hbo_0_1 := Nat.lt_of_lt_of_le hbo_0 bv1.size
              have bt1 : Below wr.heap.size wr V1 := below_next bt0 bv1
              have hbw := below_next hbl bt1
              have HXw := Lib.hid (XB.below HX.out bt1)
              have HRw := Lib.hid (XB.below HR.out bt1)
              have HOw := Lib.hid (OwnsR.below HO.out bt1)
              have HCw := Lib.hid (OwnsR.below HC.out bt1)
              have q0 := HXw.out.free 0
              have q1 := HXw.out.free 1
              have hown0 : V1.ownsRow w.heap.size 3 1 vC cl.length (flatR encI cl) := HCw.out
              have HD := Lib.hid (fun o => (hown0.alloc o).drew)
              have HG := Lib.hid (fun o w1 (hg : ((V1.alloc o).drew).grownBy w1 vC.ownBlock) => (show XB 52 w1 bo [vL, vC, .int .i64 0] ∧ XB 52 w1 w.heap.size [.slice none 0 0, .slice none 0 0, .int .i64 0] ∧ OwnsR encT 5 88 w1 w.heap.size vL (ou) ∧ Below w.heap.size w w1 from by
                have bz : Below V1.heap.size V1 ((V1.alloc o).drew) := ((Below.refl _ _).alloc (Nat.le_refl _) o).drew
                exact ⟨XB.kept (XB.below HXw.out bz) hg (XB.not_row (by decide) HXw.out hown0), XB.kept (XB.below HRw.out bz) hg (XB.not_row (by decide) HRw.out hown0), World.ownsRow.kept (OwnsR.below HOw.out bz) hg (own_apartG (by decide) HOw.out hown0), ((hbw.alloc hbw.size o).drew).grown hg (by have := hbw.size; simp; omega) (fun j hj => (World.ownsRow.lt hown0 j hj).1)⟩))
              have C63 := Lib.hid (show cl.length + 1 ≤ maxLen by unfold maxLen; omega)
              have CBY := Lib.hid (show (cl.length + 1) * 8 ≤ 140737488355328 by omega)
              have HBS := Lib.hid (fun o => (show w.heap.size ≤ ((V1.alloc o).drew).heap.size from by have := hbw.size; simp; omega))
              have HH := Lib.hid (fun o => (show ((V1.alloc o).drew).heap.size = V1.heap.size + 1 from by simp))
              clear hown0
              go_wp2_with fail
              go_region_law (first | (refine step_append_lies _ rfl (.tmp 95) (.tmp 101) 48 rfl w.heap.size 3 j0 (.int .i64 0) 1 8 Try.underlying48 ji jz0 jz1 jz2 rfl (by decide) _ _ _ rfl (HD.out _) ⟨V1.heap.size, 0, none⟩ 1 1 [.int .i64 tk] rfl rfl (cellD1 V1 _ _) (one_one _) (by decide) C63.out CBY.out (HBS.out _) (V1.heap.size + 1) (HH.out _) ?_; intro g9 cap9 w9 hown1 hgrow1 _ _; (obtain ⟨g1, g2, g3, g4⟩ := HG.out _ _ hgrow1); (have z0 := g1.at 1 _ rfl); (have f0 := g1.free 1); (obtain ⟨Wm, hWm⟩ : ∃ Wm, w9.setCell ⟨bo, 1, none⟩ (.slice (some ⟨g9, 0, none⟩) (cl.length + 1) cap9) = Wm := ⟨_, rfl⟩); (have M1 : Hid (XB 52 Wm bo [vL, .slice (some ⟨g9, 0, none⟩) (cl.length + 1) cap9, .int .i64 0]) := Lib.hid (by rw [← hWm]; exact g1.set 1 _)); (have M2 : Hid (XB 52 Wm w.heap.size [.slice none 0 0, .slice none 0 0, .int .i64 0]) := Lib.hid (by rw [← hWm]; exact XB.kept g2 (grownBy_setAt _ _ _ _) (fun e => hbne (Option.some.inj e).symm))); (have M4 : Hid (OwnZ Wm w.heap.size (.slice (some ⟨g9, 0, none⟩) (cl.length + 1) cap9) (cl ++ [tk])) := Lib.hid (by rw [← hWm]; exact World.ownsRow.kept (OwnsR.snoc (enc := encI) (x := tk) rfl hown1) (grownBy_setAt _ _ _ _) (.inr (XB.not_row (by decide) g1 hown1).symm))); (have M3 : Hid (OwnsR encT 5 88 Wm w.heap.size vL (ou)) := Lib.hid (by rw [← hWm]; exact World.ownsRow.kept g3 (grownBy_setAt _ _ _ _) (.inr (XB.not_row (by decide) g1 g3).symm))); (have M5 : Below w.heap.size w Wm := by rw [← hWm]; exact g4.setCell (p := ⟨bo, 1, none⟩) hbow _); clear hown1 hgrow1 g1 g2 g3 g4))
              all_goals
                go_wp2
                go_roundw
                case rel => exact ⟨n + 1, _, _, ou, cl ++ [tk], by go_num, by omega, HM2, HK2, M1, M2, M3, M4, M5⟩
                case measure => simp [intOf]; omega
          · rw [decide_eq_false g1] at NE1
            have HM2 := Lib.hid (show ou ++ [(tk, (si, sb), (ti, tb))] = (m.take (n + 1)).filterMap (oF l) by rw [HM1.out, if_neg g1]; rfl)
            have HK2 := Lib.hid (show cl ++ [tk] = (m.take (n + 1)).filterMap (kF l) by rw [HK1.out, if_neg (fun q => g1 (by simp at q; simp [q]))]; rfl)
            clear g1 HM1 HK1 NE2
            go_wp2_with (go_at_call 50; (with_reducible refine CFi.mono ?_); rintro e wf ⟨rfl, rfl⟩)
            go_wp2_with fail
            go_quiet (fail)
            generalize HV0 : wr.drewN _ = V0
            have bv0 : Below wr.heap.size wr V0 := by rw [← HV0]; exact below_drewN2 (Below.refl _ _) _
            replace HV0 := Lib.hid HV0
            have w0 := (bv0.cell (p := ⟨b1, o1 + i * 5, none⟩) hbb1).trans w0
            have w1 := (bv0.cell (p := ⟨b1, o1 + i * 5 + 1, none⟩) hbb1).trans w1
            have w2' := (bv0.cell (p := ⟨b1, o1 + i * 5 + 2, none⟩) hbb1).trans w2'
            have w3 := (bv0.cell (p := ⟨b1, o1 + i * 5 + 3, none⟩) hbb1).trans w3
            have w4 := (bv0.cell (p := ⟨b1, o1 + i * 5 + 4, none⟩) hbb1).trans w4
            have y0 := (bv0.cell (p := ⟨b2, o2 + n * 5, none⟩) hbb2).trans y0
            have y1 := (bv0.cell (p := ⟨b2, o2 + n * 5 + 1, none⟩) hbb2).trans y1
            have y2 := (bv0.cell (p := ⟨b2, o2 + n * 5 + 2, none⟩) hbb2).trans y2
            have y3 := (bv0.cell (p := ⟨b2, o2 + n * 5 + 3, none⟩) hbb2).trans y3
            have y4 := (bv0.cell (p := ⟨b2, o2 + n * 5 + 4, none⟩) hbb2).trans y4
            have x0 := (bv0.cell (p := ⟨bo, 0, none⟩) hbo).trans x0
            have x1 := (bv0.cell (p := ⟨bo, 1, none⟩) hbo).trans x1
            have hbb1_0 := Nat.lt_of_lt_of_le hbb1 bv0.size
            have hbb2_0 := Nat.lt_of_lt_of_le hbb2 bv0.size
            have hbo_0 := Nat.lt_of_lt_of_le hbo bv0.size
            have bt0 : Below wr.heap.size wr V0 := bv0
            have hbw := below_next hbl bt0
            have HXw := Lib.hid (XB.below HX.out bt0)
            have HRw := Lib.hid (XB.below HR.out bt0)
            have HOw := Lib.hid (OwnsR.below HO.out bt0)
            have HCw := Lib.hid (OwnsR.below HC.out bt0)
            have q0 := HXw.out.free 0
            have q1 := HXw.out.free 1
            have hown0 : V0.ownsRow w.heap.size 88 5 vL ou.length (flatR encT ou) := HOw.out
            have HD := Lib.hid (fun o => (hown0.alloc o).drew)
            have HG := Lib.hid (fun o w1 (hg : ((V0.alloc o).drew).grownBy w1 vL.ownBlock) => (show XB 52 w1 bo [vL, vC, .int .i64 0] ∧ XB 52 w1 w.heap.size [.slice none 0 0, .slice none 0 0, .int .i64 0] ∧ OwnZ w1 w.heap.size vC cl ∧ Below w.heap.size w w1 from by
              have bz : Below V0.heap.size V0 ((V0.alloc o).drew) := ((Below.refl _ _).alloc (Nat.le_refl _) o).drew
              exact ⟨XB.kept (XB.below HXw.out bz) hg (XB.not_row (by decide) HXw.out hown0), XB.kept (XB.below HRw.out bz) hg (XB.not_row (by decide) HRw.out hown0), World.ownsRow.kept (OwnsR.below HCw.out bz) hg (own_apartG (by decide) HCw.out hown0), ((hbw.alloc hbw.size o).drew).grown hg (by have := hbw.size; simp; omega) (fun j hj => (World.ownsRow.lt hown0 j hj).1)⟩))
            have B63 := Lib.hid (show ou.length + 1 ≤ maxLen by unfold maxLen; omega)
            have BBY := Lib.hid (show (ou.length + 1) * 40 ≤ 140737488355328 by omega)
            have HBS := Lib.hid (fun o => (show w.heap.size ≤ ((V0.alloc o).drew).heap.size from by have := hbw.size; simp; omega))
            have HH := Lib.hid (fun o => (show ((V0.alloc o).drew).heap.size = V0.heap.size + 1 from by simp))
            have KB := Lib.hid (fun W' (hb : Below V0.heap.size V0 W') => (show (fun W => W.cell? ⟨bo, 0, none⟩ = some vL ∧ W.cell? ⟨b2, o2 + n * 5, none⟩ = some (.int .i64 tk) ∧ W.cell? ⟨b1, o1 + i * 5 + 3, none⟩ = some (.int .i64 si) ∧ W.cell? ⟨b1, o1 + i * 5 + 4, none⟩ = some (.bool sb) ∧ W.cell? ⟨b2, o2 + n * 5 + 3, none⟩ = some (.int .i64 ti) ∧ W.cell? ⟨b2, o2 + n * 5 + 4, none⟩ = some (.bool tb)) W' from ⟨(hb.cell (p := ⟨bo, 0, none⟩) hbo_0).trans x0, (hb.cell (p := ⟨b2, o2 + n * 5, none⟩) hbb2_0).trans y0, (hb.cell (p := ⟨b1, o1 + i * 5 + 3, none⟩) hbb1_0).trans w3, (hb.cell (p := ⟨b1, o1 + i * 5 + 4, none⟩) hbb1_0).trans w4, (hb.cell (p := ⟨b2, o2 + n * 5 + 3, none⟩) hbb2_0).trans y3, (hb.cell (p := ⟨b2, o2 + n * 5 + 4, none⟩) hbb2_0).trans y4⟩))
            have KW := Lib.hid (fun W' (hb : Below w.heap.size w W') (hx : XB 52 W' bo [vL, vC, .int .i64 0]) => (show (fun W => W.cell? ⟨bo, 0, none⟩ = some vL ∧ W.cell? ⟨b2, o2 + n * 5, none⟩ = some (.int .i64 tk) ∧ W.cell? ⟨b1, o1 + i * 5 + 3, none⟩ = some (.int .i64 si) ∧ W.cell? ⟨b1, o1 + i * 5 + 4, none⟩ = some (.bool sb) ∧ W.cell? ⟨b2, o2 + n * 5 + 3, none⟩ = some (.int .i64 ti) ∧ W.cell? ⟨b2, o2 + n * 5 + 4, none⟩ = some (.bool tb)) W' from ⟨hx.at 0 _ rfl, (hb.cell (p := ⟨b2, o2 + n * 5, none⟩) hb2w).trans y0w.out, (hb.cell (p := ⟨b1, o1 + i * 5 + 3, none⟩) hb1w).trans w3w.out, (hb.cell (p := ⟨b1, o1 + i * 5 + 4, none⟩) hb1w).trans w4w.out, (hb.cell (p := ⟨b2, o2 + n * 5 + 3, none⟩) hb2w).trans y3w.out, (hb.cell (p := ⟨b2, o2 + n * 5 + 4, none⟩) hb2w).trans y4w.out⟩))
            clear hown0
            have hS := KB.out _ (Below.refl V0.heap.size V0).drew
            go_wp2_with fail
            refine wp_region_last (fun W => W.cell? ⟨bo, 0, none⟩ = some vL ∧ W.cell? ⟨b2, o2 + n * 5, none⟩ = some (.int .i64 tk) ∧ W.cell? ⟨b1, o1 + i * 5 + 3, none⟩ = some (.int .i64 si) ∧ W.cell? ⟨b1, o1 + i * 5 + 4, none⟩ = some (.bool sb) ∧ W.cell? ⟨b2, o2 + n * 5 + 3, none⟩ = some (.int .i64 ti) ∧ W.cell? ⟨b2, o2 + n * 5 + 4, none⟩ = some (.bool tb)) 21 (by kernel_rfl) ?_
            refine wpAnyL_take (i := 0) (v := ?_) rfl (by kernel_rfl) (by kernel_rfl) (by kernel_rfl) (by kernel_rfl) (fun _ _ _ h => h) (Or.inl ⟨by kernel_rfl, ?_⟩) hS ?_
            rotate_left
            · intro w hSw
              (try dsimp only at hSw)
              go_simp
              try with_reducible rfl
            try dsimp only [Act.put, List.getElem?_toArray, List.getElem?_cons_succ, List.getElem?_cons_zero, List.getElem_toArray, List.getElem_cons_succ, List.getElem_cons_zero]
            try simp only [List.setIfInBounds_toArray, List.set_cons_zero, List.set_cons_succ]
            refine wpAnyL_take (i := 1) (v := ?_) rfl (by kernel_rfl) (by kernel_rfl) (by kernel_rfl) (by kernel_rfl) (fun _ _ _ h => h) (Or.inl ⟨by kernel_rfl, ?_⟩) hS ?_
            rotate_left
            · intro w hSw
              (try dsimp only at hSw)
              go_simp
              try with_reducible rfl
            try dsimp only [Act.put, List.getElem?_toArray, List.getElem?_cons_succ, List.getElem?_cons_zero, List.getElem_toArray, List.getElem_cons_succ, List.getElem_cons_zero]
            try simp only [List.setIfInBounds_toArray, List.set_cons_zero, List.set_cons_succ]
            refine wpAnyL_take (i := 2) (v := ?_) rfl (by kernel_rfl) (by kernel_rfl) (by kernel_rfl) (by kernel_rfl) (fun _ _ _ h => h) (Or.inl ⟨by kernel_rfl, ?_⟩) hS ?_
            rotate_left
            · intro w hSw
              (try dsimp only at hSw)
              go_simp
              try with_reducible rfl
            try dsimp only [Act.put, List.getElem?_toArray, List.getElem?_cons_succ, List.getElem?_cons_zero, List.getElem_toArray, List.getElem_cons_succ, List.getElem_cons_zero]
            try simp only [List.setIfInBounds_toArray, List.set_cons_zero, List.set_cons_succ]
            refine wpAnyL_take (i := 3) (v := ?_) rfl (by kernel_rfl) (by kernel_rfl) (by kernel_rfl) (by kernel_rfl) (fun _ _ _ h => h) (Or.inl ⟨by kernel_rfl, ?_⟩) hS ?_
            rotate_left
            · intro w hSw
              (try dsimp only at hSw)
              go_simp
              try with_reducible rfl
            try dsimp only [Act.put, List.getElem?_toArray, List.getElem?_cons_succ, List.getElem?_cons_zero, List.getElem_toArray, List.getElem_cons_succ, List.getElem_cons_zero]
            try simp only [List.setIfInBounds_toArray, List.set_cons_zero, List.set_cons_succ]
            refine wpAnyL_take (i := 4) (v := ?_) rfl (by kernel_rfl) (by kernel_rfl) (by kernel_rfl) (by kernel_rfl) (fun _ _ _ h => h) (Or.inl ⟨by kernel_rfl, ?_⟩) hS ?_
            rotate_left
            · intro w hSw
              (try dsimp only at hSw)
              go_simp
              try with_reducible rfl
            try dsimp only [Act.put, List.getElem?_toArray, List.getElem?_cons_succ, List.getElem?_cons_zero, List.getElem_toArray, List.getElem_cons_succ, List.getElem_cons_zero]
            try simp only [List.setIfInBounds_toArray, List.set_cons_zero, List.set_cons_succ]
            refine wpAnyL_take (i := 5) (v := ?_) rfl (by kernel_rfl) (by kernel_rfl) (by kernel_rfl) (by kernel_rfl) (fun _ _ _ h => h) (Or.inl ⟨by kernel_rfl, ?_⟩) hS ?_
            rotate_left
            · intro w hSw
              (try dsimp only at hSw)
              go_simp
              try with_reducible rfl
            try dsimp only [Act.put, List.getElem?_toArray, List.getElem?_cons_succ, List.getElem?_cons_zero, List.getElem_toArray, List.getElem_cons_succ, List.getElem_cons_zero]
            try simp only [List.setIfInBounds_toArray, List.set_cons_zero, List.set_cons_succ]
            refine wpAnyL_take (i := 6) (v := ?_) rfl (by kernel_rfl) (by kernel_rfl) (by kernel_rfl) (by kernel_rfl) (fun _ _ _ h => h) (Or.inl ⟨by kernel_rfl, ?_⟩) hS ?_
            rotate_left
            · intro w hSw
              (try dsimp only at hSw)
              go_simp
              try with_reducible rfl
            try dsimp only [Act.put, List.getElem?_toArray, List.getElem?_cons_succ, List.getElem?_cons_zero, List.getElem_toArray, List.getElem_cons_succ, List.getElem_cons_zero]
            try simp only [List.setIfInBounds_toArray, List.set_cons_zero, List.set_cons_succ]
            refine wpAnyL_take (i := 7) (v := ?_) rfl (by kernel_rfl) (by kernel_rfl) (by kernel_rfl) (by kernel_rfl) (fun _ _ _ h => h) (Or.inl ⟨by kernel_rfl, ?_⟩) hS ?_
            rotate_left
            · intro w hSw
              (try dsimp only at hSw)
              go_simp
              try with_reducible rfl
            try dsimp only [Act.put, List.getElem?_toArray, List.getElem?_cons_succ, List.getElem?_cons_zero, List.getElem_toArray, List.getElem_cons_succ, List.getElem_cons_zero]
            try simp only [List.setIfInBounds_toArray, List.set_cons_zero, List.set_cons_succ]
            refine wpAnyL_take (i := 8) (v := ?_) rfl (by kernel_rfl) (by kernel_rfl) (by kernel_rfl) (by kernel_rfl) (fun _ _ _ h => h) (Or.inl ⟨by kernel_rfl, ?_⟩) hS ?_
            rotate_left
            · intro w hSw
              (try dsimp only at hSw)
              go_simp
              try with_reducible rfl
            try dsimp only [Act.put, List.getElem?_toArray, List.getElem?_cons_succ, List.getElem?_cons_zero, List.getElem_toArray, List.getElem_cons_succ, List.getElem_cons_zero]
            try simp only [List.setIfInBounds_toArray, List.set_cons_zero, List.set_cons_succ]
            refine wpAnyL_take (i := 9) (v := ?_) rfl (by kernel_rfl) (by kernel_rfl) (by kernel_rfl) (by kernel_rfl) (fun _ _ _ h => h) (Or.inl ⟨by kernel_rfl, ?_⟩) hS ?_
            rotate_left
            · intro w hSw
              (try dsimp only at hSw)
              go_simp
              try with_reducible rfl
            try dsimp only [Act.put, List.getElem?_toArray, List.getElem?_cons_succ, List.getElem?_cons_zero, List.getElem_toArray, List.getElem_cons_succ, List.getElem_cons_zero]
            try simp only [List.setIfInBounds_toArray, List.set_cons_zero, List.set_cons_succ]
            refine wpAnyL_take (i := 10) (v := ?_) rfl (by kernel_rfl) (by kernel_rfl) (by kernel_rfl) (by kernel_rfl) (fun _ _ _ h => h) (Or.inl ⟨by kernel_rfl, ?_⟩) hS ?_
            rotate_left
            · intro w hSw
              (try dsimp only at hSw)
              go_simp
              try with_reducible rfl
            try dsimp only [Act.put, List.getElem?_toArray, List.getElem?_cons_succ, List.getElem?_cons_zero, List.getElem_toArray, List.getElem_cons_succ, List.getElem_cons_zero]
            try simp only [List.setIfInBounds_toArray, List.set_cons_zero, List.set_cons_succ]
            refine wpAnyL_take (i := 11) (v := ?_) rfl (by kernel_rfl) (by kernel_rfl) (by kernel_rfl) (by kernel_rfl) (fun _ _ _ h => h) (Or.inl ⟨by kernel_rfl, ?_⟩) hS ?_
            rotate_left
            · intro w hSw
              (try dsimp only at hSw)
              go_simp
              try with_reducible rfl
            try dsimp only [Act.put, List.getElem?_toArray, List.getElem?_cons_succ, List.getElem?_cons_zero, List.getElem_toArray, List.getElem_cons_succ, List.getElem_cons_zero]
            try simp only [List.setIfInBounds_toArray, List.set_cons_zero, List.set_cons_succ]
            refine wpAnyL_take (i := 12) (v := ?_) rfl (by kernel_rfl) (by kernel_rfl) (by kernel_rfl) (by kernel_rfl) (fun _ _ _ h => h) (Or.inl ⟨by kernel_rfl, ?_⟩) hS ?_
            rotate_left
            · intro w hSw
              (try dsimp only at hSw)
              go_simp
              try with_reducible rfl
            try dsimp only [Act.put, List.getElem?_toArray, List.getElem?_cons_succ, List.getElem?_cons_zero, List.getElem_toArray, List.getElem_cons_succ, List.getElem_cons_zero]
            try simp only [List.setIfInBounds_toArray, List.set_cons_zero, List.set_cons_succ]
            refine wpAnyL_take (i := 13) (v := ?_) rfl (by kernel_rfl) (by kernel_rfl) (by kernel_rfl) (by kernel_rfl) (fun _ _ _ h => h) (Or.inl ⟨by kernel_rfl, ?_⟩) hS ?_
            rotate_left
            · intro w hSw
              (try dsimp only at hSw)
              go_simp
              try with_reducible rfl
            try dsimp only [Act.put, List.getElem?_toArray, List.getElem?_cons_succ, List.getElem?_cons_zero, List.getElem_toArray, List.getElem_cons_succ, List.getElem_cons_zero]
            try simp only [List.setIfInBounds_toArray, List.set_cons_zero, List.set_cons_succ]
            refine wpAnyL_take (i := 14) (v := ?_) rfl (by kernel_rfl) (by kernel_rfl) (by kernel_rfl) (by kernel_rfl) (fun _ _ _ h => h) (Or.inl ⟨by kernel_rfl, ?_⟩) hS ?_
            rotate_left
            · intro w hSw
              (try dsimp only at hSw)
              go_simp
              try with_reducible rfl
            try dsimp only [Act.put, List.getElem?_toArray, List.getElem?_cons_succ, List.getElem?_cons_zero, List.getElem_toArray, List.getElem_cons_succ, List.getElem_cons_zero]
            try simp only [List.setIfInBounds_toArray, List.set_cons_zero, List.set_cons_succ]
            refine wpAnyL_take (i := 15) (v := ?_) rfl (by kernel_rfl) (by kernel_rfl) (by kernel_rfl) (by kernel_rfl) (fun _ _ _ h => h) (Or.inl ⟨by kernel_rfl, ?_⟩) hS ?_
            rotate_left
            · intro w hSw
              (try dsimp only at hSw)
              go_simp
              try with_reducible rfl
            try dsimp only [Act.put, List.getElem?_toArray, List.getElem?_cons_succ, List.getElem?_cons_zero, List.getElem_toArray, List.getElem_cons_succ, List.getElem_cons_zero]
            try simp only [List.setIfInBounds_toArray, List.set_cons_zero, List.set_cons_succ]
            refine wpAnyL_take (i := 16) (v := ?_) rfl (by kernel_rfl) (by kernel_rfl) (by kernel_rfl) (by kernel_rfl) (fun _ _ _ h => h) (Or.inl ⟨by kernel_rfl, ?_⟩) hS ?_
            rotate_left
            · intro w hSw
              (try dsimp only at hSw)
              go_simp
              try with_reducible rfl
            try dsimp only [Act.put, List.getElem?_toArray, List.getElem?_cons_succ, List.getElem?_cons_zero, List.getElem_toArray, List.getElem_cons_succ, List.getElem_cons_zero]
            try simp only [List.setIfInBounds_toArray, List.set_cons_zero, List.set_cons_succ]
            refine wpAnyL_take (i := 17) (v := ?_) rfl (by kernel_rfl) (by kernel_rfl) (by kernel_rfl) (by kernel_rfl) (fun _ _ _ h => h) (Or.inl ⟨by kernel_rfl, ?_⟩) hS ?_
            rotate_left
            · intro w hSw
              (try dsimp only at hSw)
              go_simp
              try with_reducible rfl
            try dsimp only [Act.put, List.getElem?_toArray, List.getElem?_cons_succ, List.getElem?_cons_zero, List.getElem_toArray, List.getElem_cons_succ, List.getElem_cons_zero]
            try simp only [List.setIfInBounds_toArray, List.set_cons_zero, List.set_cons_succ]
            refine wpAnyL_ready (rs := [18]) (by kernel_rfl) (by simp) (AllReadyL.cons rfl (fun K hK => ?_) AllReadyL.nil)
            go_simp
            refine hK.out _ _ (.inr (KB.out _ ((Below.refl V0.heap.size V0).alloc (Nat.le_refl _) _).drew)) ?_
            clear hK K
            try dsimp only [Act.put, List.getElem?_toArray, List.getElem?_cons_succ, List.getElem?_cons_zero, List.getElem_toArray, List.getElem_cons_succ, List.getElem_cons_zero]
            try simp only [List.setIfInBounds_toArray, List.set_cons_zero, List.set_cons_succ]
            refine wpAnyL_ready (rs := [19]) (by kernel_rfl) (by simp) (AllReadyL.cons rfl (fun K hK => ?_) AllReadyL.nil)
            refine step_append_lies _ rfl (.tmp 53) (.tmp 70) 29 rfl w.heap.size 88 i0 (.agg #[.int .i64 0, .int .i64 0, .bool false, .int .i64 0, .bool false]) 5 40 Try.underlying29 hi hz0 hz1 hz2 rfl (by decide) _ _ _ rfl (HD.out _) ⟨V0.heap.size, 0, none⟩ 1 1 [.int .i64 tk, .int .i64 si, .bool sb, .int .i64 ti, .bool tb] rfl rfl (cellD5 V0 _ _ _ _ _ _) (five_one _ _ _ _ _) (by decide) B63.out BBY.out (HBS.out _) (V0.heap.size + 1) (HH.out _) ?_
            intro g cap w1 hown1 hgrow1 _ _
            obtain ⟨g1, g2, g3, g4⟩ := HG.out _ _ hgrow1
            have z0 := XB.at g1 0 _ rfl
            have f0 := XB.free g1 0
            obtain ⟨Wn, hWn⟩ : ∃ Wn, w1.setCell ⟨bo, 0, none⟩ (.slice (some ⟨g, 0, none⟩) (ou.length + 1) cap) = Wn := ⟨_, rfl⟩
            have N1 : Hid (XB 52 Wn bo [.slice (some ⟨g, 0, none⟩) (ou.length + 1) cap, vC, .int .i64 0]) := Lib.hid (by rw [← hWn]; exact XB.set g1 0 _)
            have N2 : Hid (XB 52 Wn w.heap.size [.slice none 0 0, .slice none 0 0, .int .i64 0]) := Lib.hid (by rw [← hWn]; exact XB.kept g2 (grownBy_setAt _ _ _ _) (fun e => hbne (Option.some.inj e).symm))
            have N3 : Hid (OwnsR encT 5 88 Wn w.heap.size (.slice (some ⟨g, 0, none⟩) (ou.length + 1) cap) (ou ++ [(tk, (si, sb), (ti, tb))])) := Lib.hid (by rw [← hWn]; exact World.ownsRow.kept (OwnsR.snoc (enc := encT) (x := ((tk, (si, sb), (ti, tb)) : Tn)) rfl hown1) (grownBy_setAt _ _ _ _) (.inr (XB.not_row (by decide) g1 hown1).symm))
            have N4 : Hid (OwnZ Wn w.heap.size vC cl) := Lib.hid (by rw [← hWn]; exact World.ownsRow.kept g3 (grownBy_setAt _ _ _ _) (.inr (XB.not_row (by decide) g1 g3).symm))
            have N5 : Below w.heap.size w Wn := by rw [← hWn]; exact g4.setCell (p := ⟨bo, 0, none⟩) hbow _
            have hS1 := KW.out _ g4 g1
            refine hK.out _ _ (.inr hS1) ?_
            clear hK K hown1 hgrow1 g1 g2 g3 g4
            try dsimp only [Act.put, List.getElem?_toArray, List.getElem?_cons_succ, List.getElem?_cons_zero, List.getElem_toArray, List.getElem_cons_succ, List.getElem_cons_zero]
            try simp only [List.setIfInBounds_toArray, List.set_cons_zero, List.set_cons_succ]
            refine wpAnyL_take (i := 20) (v := ?_) rfl (by kernel_rfl) (by kernel_rfl) (by kernel_rfl) (by kernel_rfl) (fun _ _ _ h => h) (Or.inl ⟨by kernel_rfl, ?_⟩) hS1 ?_
            rotate_left
            · intro w hSw
              (try dsimp only at hSw)
              go_simp
              try with_reducible rfl
            try dsimp only [Act.put, List.getElem?_toArray, List.getElem?_cons_succ, List.getElem?_cons_zero, List.getElem_toArray, List.getElem_cons_succ, List.getElem_cons_zero]
            try simp only [List.setIfInBounds_toArray, List.set_cons_zero, List.set_cons_succ]
            refine wpAnyL_ready (rs := [21]) (by kernel_rfl) (by simp) (AllReadyL.cons rfl (fun K hK => ?_) AllReadyL.nil)
            go_simp
            refine hK.out _ _ (.inl rfl) ?_
            clear hK K
            try dsimp only [Act.put, List.getElem?_toArray, List.getElem?_cons_succ, List.getElem?_cons_zero, List.getElem_toArray, List.getElem_cons_succ, List.getElem_cons_zero]
            try simp only [List.setIfInBounds_toArray, List.set_cons_zero, List.set_cons_succ]
            refine wpAnyL_done (by kernel_rfl) ?_ _
            clear hS hS1 KB KW
            have hbb5 : b2 < Wn.heap.size := Nat.lt_of_lt_of_le hb2w N5.size
            have y0 := (N5.cell (p := ⟨b2, o2 + n * 5, none⟩) hb2w).trans y0w.out
            have x1 := N1.out.at 1 _ rfl
            have x0 := N1.out.at 0 _ rfl
            have q0 := N1.out.free 0
            have q1 := N1.out.free 1
            have hbo5 : bo < Wn.heap.size := N1.out.lt
            have hown0 : Wn.ownsRow w.heap.size 3 1 vC cl.length (flatR encI cl) := N4.out
            have HD := Lib.hid (fun o => (hown0.alloc o).drew)
            have HG := Lib.hid (fun o w1 (hg : ((Wn.alloc o).drew).grownBy w1 vC.ownBlock) => (show XB 52 w1 bo [(.slice (some ⟨g, 0, none⟩) (ou.length + 1) cap), vC, .int .i64 0] ∧ XB 52 w1 w.heap.size [.slice none 0 0, .slice none 0 0, .int .i64 0] ∧ OwnsR encT 5 88 w1 w.heap.size (.slice (some ⟨g, 0, none⟩) (ou.length + 1) cap) (ou ++ [(tk, (si, sb), (ti, tb))]) ∧ Below w.heap.size w w1 from by
              have bz : Below Wn.heap.size Wn ((Wn.alloc o).drew) := ((Below.refl _ _).alloc (Nat.le_refl _) o).drew
              exact ⟨XB.kept (XB.below N1.out bz) hg (XB.not_row (by decide) N1.out hown0), XB.kept (XB.below N2.out bz) hg (XB.not_row (by decide) N2.out hown0), World.ownsRow.kept (OwnsR.below N3.out bz) hg (own_apartG (by decide) N3.out hown0), ((N5.alloc N5.size o).drew).grown hg (by have := N5.size; simp; omega) (fun j hj => (World.ownsRow.lt hown0 j hj).1)⟩))
            have C63 := Lib.hid (show cl.length + 1 ≤ maxLen by unfold maxLen; omega)
            have CBY := Lib.hid (show (cl.length + 1) * 8 ≤ 140737488355328 by omega)
            have HBS := Lib.hid (fun o => (show w.heap.size ≤ ((Wn.alloc o).drew).heap.size from by have := N5.size; simp; omega))
            have HH := Lib.hid (fun o => (show ((Wn.alloc o).drew).heap.size = Wn.heap.size + 1 from by simp))
            clear hown0
            go_wp2_with fail
            go_region_law (first | (refine step_append_lies _ rfl (.tmp 74) (.tmp 80) 48 rfl w.heap.size 3 j0 (.int .i64 0) 1 8 Try.underlying48 ji jz0 jz1 jz2 rfl (by decide) _ _ _ rfl (HD.out _) ⟨Wn.heap.size, 0, none⟩ 1 1 [.int .i64 tk] rfl rfl (cellD1 Wn _ _) (one_one _) (by decide) C63.out CBY.out (HBS.out _) (Wn.heap.size + 1) (HH.out _) ?_; intro g9 cap9 w9 hown1 hgrow1 _ _; (obtain ⟨g1, g2, g3, g4⟩ := HG.out _ _ hgrow1); (have z0 := g1.at 1 _ rfl); (have f0 := g1.free 1); (obtain ⟨Wm, hWm⟩ : ∃ Wm, w9.setCell ⟨bo, 1, none⟩ (.slice (some ⟨g9, 0, none⟩) (cl.length + 1) cap9) = Wm := ⟨_, rfl⟩); (have M1 : Hid (XB 52 Wm bo [(.slice (some ⟨g, 0, none⟩) (ou.length + 1) cap), .slice (some ⟨g9, 0, none⟩) (cl.length + 1) cap9, .int .i64 0]) := Lib.hid (by rw [← hWm]; exact g1.set 1 _)); (have M2 : Hid (XB 52 Wm w.heap.size [.slice none 0 0, .slice none 0 0, .int .i64 0]) := Lib.hid (by rw [← hWm]; exact XB.kept g2 (grownBy_setAt _ _ _ _) (fun e => hbne (Option.some.inj e).symm))); (have M4 : Hid (OwnZ Wm w.heap.size (.slice (some ⟨g9, 0, none⟩) (cl.length + 1) cap9) (cl ++ [tk])) := Lib.hid (by rw [← hWm]; exact World.ownsRow.kept (OwnsR.snoc (enc := encI) (x := tk) rfl hown1) (grownBy_setAt _ _ _ _) (.inr (XB.not_row (by decide) g1 hown1).symm))); (have M3 : Hid (OwnsR encT 5 88 Wm w.heap.size (.slice (some ⟨g, 0, none⟩) (ou.length + 1) cap) (ou ++ [(tk, (si, sb), (ti, tb))])) := Lib.hid (by rw [← hWm]; exact World.ownsRow.kept g3 (grownBy_setAt _ _ _ _) (.inr (XB.not_row (by decide) g1 g3).symm))); (have M5 : Below w.heap.size w Wm := by rw [← hWm]; exact g4.setCell (p := ⟨bo, 1, none⟩) hbow _); clear hown1 hgrow1 g1 g2 g3 g4))
            all_goals
              go_wp2
              go_roundw
              case rel => exact ⟨n + 1, _, _, ou ++ [(tk, (si, sb), (ti, tb))], cl ++ [tk], by go_num, by omega, HM2, HK2, M1, M2, M3, M4, M5⟩
              case measure => simp [intOf]; omega
end Go.Proofs.Ytmifjippdlmpiaa
