/-
  DELTA: the document's Then (written by wip/tools/mkDeI.py).
-/
import Derived.Test.YtmifjippdlmpiaaDeH
import Derived.Test.YtmifjippdlmpiaaDeC
import Derived.Test.YtmifjippdlmpiaaDeE
namespace Go.Proofs.Ytmifjippdlmpiaa
open Go.RowKit Go.Deep Go.Shelf

theorem fix_some {l : List Tn} {k : Int} {t : Tn} (h : fnd kT l k = some t) : ∃ i, i < l.length ∧ fixZ l k = (i : Int) ∧ l[i]! = t ∧ t.1 = k := by
  have h1 := ixT_fnd l k
  rw [h] at h1
  by_cases h2 : ixT l k < l.length
  · rw [if_pos h2] at h1
    exact ⟨ixT l k, h2, by unfold fixZ; rw [if_pos h2], (Option.some.inj h1).symm, (fnd_some h).2⟩
  · rw [if_neg h2] at h1; cases h1
theorem fix_none {l : List Tn} {k : Int} (h : fnd kT l k = none) : fixZ l k = -1 := by
  have h1 := ixT_fnd l k
  rw [h] at h1
  unfold fixZ
  by_cases h2 : ixT l k < l.length
  · rw [if_pos h2] at h1; cases h1
  · rw [if_neg h2]
theorem mx_at {l m : List Tn} (hl : chkB l = true) (hm : chkB m = true) {x : Mt Tn Tn} (hx : x ∈ meetsTT l m) :
    (x.inA = true ∧ x.inB = true ∧ ∃ i k, i < l.length ∧ k < m.length ∧ fixZ l x.key = (i : Int) ∧ fixZ m x.key = (k : Int) ∧ l[i]! = x.a ∧ m[k]! = x.b ∧ x.a.1 = x.key ∧ x.b.1 = x.key) ∨
    (x.inA = true ∧ x.inB = false ∧ ∃ i, i < l.length ∧ fixZ l x.key = (i : Int) ∧ fixZ m x.key = -1 ∧ l[i]! = x.a ∧ x.a.1 = x.key ∧ x.a.2.1 ≠ x.a.2.2) ∨
    (x.inA = false ∧ x.inB = true ∧ ∃ k, k < m.length ∧ fixZ l x.key = -1 ∧ fixZ m x.key = (k : Int) ∧ m[k]! = x.b ∧ x.b.1 = x.key ∧ x.b.2.1 ≠ x.b.2.2) := by
  have hf := mem_fnd (mTT_asc hl hm) hx
  rw [mTT_fnd hl hm] at hf
  cases hc : fnd kT l x.key with
  | none =>
    cases hd : fnd kT m x.key with
    | none => rw [hc, hd] at hf; cases hf
    | some t =>
      rw [hc, hd] at hf
      have hx' := Option.some.inj hf
      obtain ⟨k, h1, h2, h3, h4⟩ := fix_some hd
      have h5 := ((chkB_iff m).1 hm).2 t (fnd_some hd).1
      refine .inr (.inr ⟨by rw [← hx'], by rw [← hx'], k, h1, fix_none hc, h2, ?_, ?_, ?_⟩)
      · rw [h3, ← hx']
      · rw [← hx']; exact h4
      · rw [← hx']; exact h5.2.2.2
  | some s =>
    obtain ⟨i, g1, g2, g3, g4⟩ := fix_some hc
    cases hd : fnd kT m x.key with
    | none =>
      rw [hc, hd] at hf
      have hx' := Option.some.inj hf
      have h5 := ((chkB_iff l).1 hl).2 s (fnd_some hc).1
      refine .inr (.inl ⟨by rw [← hx'], by rw [← hx'], i, g1, g2, fix_none hd, ?_, ?_, ?_⟩)
      · rw [g3, ← hx']
      · rw [← hx']; exact g4
      · rw [← hx']; exact h5.2.2.2
    | some t =>
      rw [hc, hd] at hf
      have hx' := Option.some.inj hf
      obtain ⟨k, h1, h2, h3, h4⟩ := fix_some hd
      refine .inl ⟨by rw [← hx'], by rw [← hx'], i, k, g1, h1, g2, h2, ?_, ?_, ?_, ?_⟩
      · rw [g3, ← hx']
      · rw [h3, ← hx']
      · rw [← hx']; exact g4
      · rw [← hx']; exact h4
instance : Inhabited (Mt Tn Tn) := ⟨⟨0, default, default, false, false⟩⟩
def RTurns (w : World) (l : List Tn) (z : Int) (e : Ending) (w' : World) : Prop := ∃ v, e = .returned (.tuple #[v, .int .i64 z]) ∧ OwnsR encT 5 88 w' w.heap.size v l ∧ Below w.heap.size w w'
theorem fm_snoc {α β : Type} (f : α → Option β) (xs : List α) (x : α) : (xs ++ [x]).filterMap f = xs.filterMap f ++ (f x).toList := by
  rw [List.filterMap_append, List.filterMap_cons, List.filterMap_nil]
  cases f x <;> rfl
set_option maxRecDepth 100000 in
set_option maxHeartbeats 8000000 in
theorem rthen_any (aa ab : Option Addr) (na nb ca cb : Nat) (l m : List Tn) (w : World) (hA : RArg encT 5 w aa na ca l) (hB : RArg encT 5 w ab nb cb m) (hll : l.length ≤ 4096) (hlm : m.length ≤ 4096) :
    Calls Try.prog 26 #[.slice aa na ca, .slice ab nb cb] w (RTurns w (thenP l m).1 (thenP l m).2) := by
  obtain ⟨i0, hi, hz0, hz1, hz2⟩ := info_parts Try.infoRTurn
  have ha := Lib.hid hA
  have hb := Lib.hid hB
  obtain ⟨rfl, hza, hca, _, _⟩ := hA
  obtain ⟨rfl, hzb, hcb, _, _⟩ := hB
  have CA := rcheckT_any aa l.length ca l w ha.out
  have CB := Lib.hid (fun W (h : Below w.heap.size w W) => rcheckT_any ab m.length cb m W (hb.out.below h))
  have CK := Lib.hid (fun W (h : Below w.heap.size w W) => rkeys_any aa ab l.length m.length ca cb l m W (ha.out.below h) (hb.out.below h) hll hlm)
  unfold thenP
  cases hta : chkB l with
  | false =>
    rw [hta] at CA
    go_enter Try.func26, Try.ntmps26
    go_wp2_with (go_at_call 21; (with_reducible refine CA.mono ?_); rintro e w1 ⟨rfl, b1⟩)
    go_ret2
    exact ⟨_, rfl, OwnsR.nil _ _ _ _ _, b1⟩
  | true =>
    rw [hta] at CA
    cases htl : chkB m with
    | false =>
      rw [htl] at CB
      go_enter Try.func26, Try.ntmps26
      go_wp2_with (first
        | (go_at_call 21; (with_reducible refine CA.mono ?_); rintro e w1 ⟨rfl, b1⟩; clear CA)
        | (go_at_call 21; (with_reducible refine (CB.out _ b1).mono ?_); rintro e w2 ⟨rfl, b2⟩))
      go_ret2
      exact ⟨_, rfl, OwnsR.nil _ _ _ _ _, below_next b1 b2⟩
    | true =>
      rw [htl] at CB
      have hmx := Lib.hid (fun x hx => mx_at hta htl (x := x) hx)
      rw [show (if (true && true) = true then (if (meetsTT l m).all thnX = true then (thnS (meetsTT l m), 0) else ([], 7)) else ([], 1) : List Tn × Int) = (if (meetsTT l m).all thnX = true then ((meetsTT l m).filterMap nF, 0) else ([], 7)) by rw [thnS_fm]; rfl]
      have hKM : keysS l m = (meetsTT l m).map Mt.key := rfl
      obtain ⟨M, hM⟩ : ∃ M, meetsTT l m = M := ⟨_, rfl⟩
      have hMl : M.length ≤ 8192 := by rw [← hM]; exact Nat.le_trans (meets_len _ _ _ _ l m) (by omega)
      rw [hM] at hmx hKM
      rw [hM]
      obtain ⟨R, hR⟩ : ∃ R : List Tn × Int, (if M.all thnX = true then (M.filterMap nF, 0) else ([], 7)) = R := ⟨_, rfl⟩
      rw [hR]
      replace hR := Lib.hid hR
      have hKl : (keysS l m).length = M.length := by rw [hKM, List.length_map]
      have hKx := Lib.hid (fun n (hn : n < M.length) => (show (keysS l m)[n]! = M[n]!.key by
        rw [getElem!_pos _ _ (by rw [hKl]; exact hn), getElem!_pos M n hn]
        simp [hKM]))
      generalize keysS l m = K at CK hKl hKx hKM
      clear hKM hM hta htl
      go_enter Try.func26, Try.ntmps26
      go_wp2_with (first
        | (go_at_call 21; (with_reducible refine CA.mono ?_); rintro e w1 ⟨rfl, b1⟩; clear CA)
        | (go_at_call 21; (with_reducible refine (CB.out _ b1).mono ?_); rintro e w2 ⟨rfl, b2⟩; have B2 := below_next b1 b2)
        | (go_at_call 49; (with_reducible refine (CK.out _ B2).mono ?_); rintro e w3 ⟨v, rfl, hO, b3⟩; obtain ⟨ka, kc, rfl, hK⟩ := OwnsR.arg encI_len hO; clear hO; have B3 := below_next B2 b3))
      have hkz := hK.2.1
      replace hK := Lib.hid hK
      have hK3 := Lib.hid hKl
      have hKle : K.length ≤ M.length := by omega
      have hMle : M.length ≤ K.length := by omega
      clear hKl CB CK b1 b2 b3 B2
      go_loopw [6, 8] (fun v i wr => ∃ (n : Nat) (ou : List Tn), i = .int .i64 (n : Int) ∧ n ≤ M.length ∧ Hid (ou = (M.take n).filterMap nF) ∧ Hid ((M.take n).all thnX = true) ∧ Hid (OwnsR encT 5 88 wr w3.heap.size v ou) ∧ Below w3.heap.size w3 wr)
        (fun _ i _ => M.length - (intOf i).toNat)
      case atStart => exact ⟨0, [], rfl, by omega, Lib.hid rfl, Lib.hid rfl, Lib.hid (OwnsR.nil _ _ _ _ _), Below.refl _ _⟩
      case round =>
        obtain ⟨n, ou, rfl, hn, HM, HT, HO, hb3⟩ := hrel
        have hbl : Below w.heap.size w wr := below_next B3 hb3
        have hsz := hbl.size
        have hol : ou.length ≤ 8192 := by
          rw [HM.out]
          exact Nat.le_trans (List.length_filterMap_le _ _) (by rw [List.length_take]; omega)
        by_cases hnl : n < M.length
        case neg =>
          have hnz : ¬ (n : Int) < (K.length : Int) := by omega
          have hfin := Lib.hid (show R = (ou, 0) by
            have h1 := HM.out
            have h2 := HT.out
            rw [List.take_of_length_le (by omega)] at h1 h2
            rw [← hR.out, if_pos h2, h1])
          go_wp2_with fail
          go_ret2
          exact ⟨_, by rw [hfin.out]; rfl, by rw [hfin.out]; exact OwnsR.low HO.out B3.size, hbl⟩
        have hnz : (n : Int) < (K.length : Int) := by omega
        have hn0 : (0 : Int) ≤ (n : Int) := by omega
        obtain ⟨b3, o3, e3, hbb3, k0⟩ := (hK.out.below hb3).int (show n < K.length by omega)
        subst e3
        rw [hKx.out n hnl] at k0
        have hxm : M[n]! ∈ M := getElem!_mem hnl
        have hmx2 := hmx.out _ hxm
        have HMn := Lib.hid (show (M.take (n + 1)).filterMap nF = ou ++ (nF M[n]!).toList by rw [take_moreG hnl, fm_snoc, HM.out])
        have HTn := Lib.hid (show (M.take (n + 1)).all thnX = thnX M[n]! by rw [take_moreG hnl, List.all_append, HT.out]; simp)
        have HXf := Lib.hid (show thnX M[n]! = false → R = ([], 7) from fun h => by
          rw [← hR.out, if_neg]
          intro hall
          rw [List.all_eq_true] at hall
          have := hall _ hxm
          rw [h] at this
          cases this)
        clear hxm
        generalize M[n]! = x at k0 hmx2 HMn HTn HXf
        obtain ⟨xk, xa, xb, ia, ib⟩ := x
        dsimp only at k0 hmx2
        rcases hmx2 with ⟨rfl, rfl, i, k, hil, hkm, f1, f2, ea, eb, q1, q2⟩ | ⟨rfl, rfl, i, hil, f1, f2, ea, q1, q2⟩ | ⟨rfl, rfl, k, hkm, f1, f2, eb, q1, q2⟩
        · skip
          obtain ⟨b1, o1, e1, hbb1, x0, x1, x2, x3, x4⟩ := (ha.out.below hbl).tns hil
          subst e1
          rw [ea] at x0 x1 x2 x3 x4
          obtain ⟨ak, ⟨av, aw⟩, ⟨ai, ax⟩⟩ := xa
          dsimp only at x0 x1 x2 x3 x4 q1
          have hiz : (i : Int) < (l.length : Int) := by omega
          have hi0 : (0 : Int) ≤ (i : Int) := by omega
          replace ea := Lib.hid ea
          obtain ⟨b2, o2, e2, hbb2, y0, y1, y2, y3, y4⟩ := (hb.out.below hbl).tns hkm
          subst e2
          rw [eb] at y0 y1 y2 y3 y4
          obtain ⟨bk, ⟨bv, bs⟩, ⟨bi, bt⟩⟩ := xb
          dsimp only at y0 y1 y2 y3 y4
          have hkz2 : (k : Int) < (m.length : Int) := by omega
          have hk0 : (0 : Int) ≤ (k : Int) := by omega
          replace eb := Lib.hid eb
          have C1 := Lib.hid (fun d => (show Calls Try.prog 50 #[.slice (some ⟨b1, o1, none⟩) l.length ca, .int .i64 xk] (wr.drewN d) (fun e w' => e = .returned (.int .i64 (i : Int)) ∧ w' = wr.drewN d) from by
            have h := rfind_any (some ⟨b1, o1, none⟩) l.length ca l xk (wr.drewN d) ((ha.out.below hbl).below (below_drewN2 (Below.refl _ _) d))
            rw [f1] at h
            exact h.mono (fun e w' h => ⟨h.1, h.2.symm⟩)))
          have C2 := Lib.hid (fun d => (show Calls Try.prog 50 #[.slice (some ⟨b2, o2, none⟩) m.length cb, .int .i64 xk] (wr.drewN d) (fun e w' => e = .returned (.int .i64 (k : Int)) ∧ w' = wr.drewN d) from by
            have h := rfind_any (some ⟨b2, o2, none⟩) m.length cb m xk (wr.drewN d) ((hb.out.below hbl).below (below_drewN2 (Below.refl _ _) d))
            rw [f2] at h
            exact h.mono (fun e w' h => ⟨h.1, h.2.symm⟩)))
          have NE1 := fun W => neqCell ai bv ax bs W
          have NE2 := fun W => neqCell av bi aw bt W
          rw [cl_beq] at NE1 NE2
          replace q1 := Lib.hid q1
          replace q2 := Lib.hid q2
          replace f1 := Lib.hid f1
          replace f2 := Lib.hid f2
          by_cases g1 : ((ai, ax) : Cl) = (bv, bs)
          · have HTt := Lib.hid (show (M.take (n + 1)).all thnX = true by rw [HTn.out]; unfold thnX; simp [g1])
            rw [decide_eq_true g1] at NE1
            clear g1
            by_cases g2 : ((av, aw) : Cl) = (bi, bt)
            · have HMo := Lib.hid (show ou = (M.take (n + 1)).filterMap nF by rw [HMn.out]; unfold nF wasT isTT; simp [g2])
              rw [decide_eq_true g2] at NE2
              clear g2
              go_wp2_with fail
              go_quiet (((first | (go_at_call 50; with_reducible exact Calls.quiet_of_same (C1.out _)) | (go_at_call 50; with_reducible exact Calls.quiet_of_same (C2.out _)))))
              generalize HV0 : wr.drewN _ = V0
              have bv0 : Below wr.heap.size wr V0 := by rw [← HV0]; exact below_drewN2 (Below.refl _ _) _
              replace HV0 := Lib.hid HV0
              have k0 := (bv0.cell (p := ⟨b3, o3 + n, none⟩) hbb3).trans k0
              have x0 := (bv0.cell (p := ⟨b1, o1 + i * 5, none⟩) hbb1).trans x0
              have x1 := (bv0.cell (p := ⟨b1, o1 + i * 5 + 1, none⟩) hbb1).trans x1
              have x2 := (bv0.cell (p := ⟨b1, o1 + i * 5 + 2, none⟩) hbb1).trans x2
              have x3 := (bv0.cell (p := ⟨b1, o1 + i * 5 + 3, none⟩) hbb1).trans x3
              have x4 := (bv0.cell (p := ⟨b1, o1 + i * 5 + 4, none⟩) hbb1).trans x4
              have y0 := (bv0.cell (p := ⟨b2, o2 + k * 5, none⟩) hbb2).trans y0
              have y1 := (bv0.cell (p := ⟨b2, o2 + k * 5 + 1, none⟩) hbb2).trans y1
              have y2 := (bv0.cell (p := ⟨b2, o2 + k * 5 + 2, none⟩) hbb2).trans y2
              have y3 := (bv0.cell (p := ⟨b2, o2 + k * 5 + 3, none⟩) hbb2).trans y3
              have y4 := (bv0.cell (p := ⟨b2, o2 + k * 5 + 4, none⟩) hbb2).trans y4
              have bt0 : Below wr.heap.size wr V0 := bv0
              go_wp2_with fail
              go_quiet (fail)
              generalize HV1 : V0.drewN _ = V1
              have bv1 : Below V0.heap.size V0 V1 := by rw [← HV1]; exact below_drewN2 (Below.refl _ _) _
              replace HV1 := Lib.hid HV1
              have k0 := (bv1.cell (p := ⟨b3, o3 + n, none⟩) (Nat.lt_of_lt_of_le hbb3 bv0.size)).trans k0
              have x0 := (bv1.cell (p := ⟨b1, o1 + i * 5, none⟩) (Nat.lt_of_lt_of_le hbb1 bv0.size)).trans x0
              have x1 := (bv1.cell (p := ⟨b1, o1 + i * 5 + 1, none⟩) (Nat.lt_of_lt_of_le hbb1 bv0.size)).trans x1
              have x2 := (bv1.cell (p := ⟨b1, o1 + i * 5 + 2, none⟩) (Nat.lt_of_lt_of_le hbb1 bv0.size)).trans x2
              have x3 := (bv1.cell (p := ⟨b1, o1 + i * 5 + 3, none⟩) (Nat.lt_of_lt_of_le hbb1 bv0.size)).trans x3
              have x4 := (bv1.cell (p := ⟨b1, o1 + i * 5 + 4, none⟩) (Nat.lt_of_lt_of_le hbb1 bv0.size)).trans x4
              have y0 := (bv1.cell (p := ⟨b2, o2 + k * 5, none⟩) (Nat.lt_of_lt_of_le hbb2 bv0.size)).trans y0
              have y1 := (bv1.cell (p := ⟨b2, o2 + k * 5 + 1, none⟩) (Nat.lt_of_lt_of_le hbb2 bv0.size)).trans y1
              have y2 := (bv1.cell (p := ⟨b2, o2 + k * 5 + 2, none⟩) (Nat.lt_of_lt_of_le hbb2 bv0.size)).trans y2
              have y3 := (bv1.cell (p := ⟨b2, o2 + k * 5 + 3, none⟩) (Nat.lt_of_lt_of_le hbb2 bv0.size)).trans y3
              have y4 := (bv1.cell (p := ⟨b2, o2 + k * 5 + 4, none⟩) (Nat.lt_of_lt_of_le hbb2 bv0.size)).trans y4
              have bt1 : Below wr.heap.size wr V1 := below_next bt0 bv1
              go_wp2_with fail
              go_quiet (fail)
              generalize HV2 : V1.drewN _ = V2
              have bv2 : Below V1.heap.size V1 V2 := by rw [← HV2]; exact below_drewN2 (Below.refl _ _) _
              replace HV2 := Lib.hid HV2
              have k0 := (bv2.cell (p := ⟨b3, o3 + n, none⟩) (Nat.lt_of_lt_of_le (Nat.lt_of_lt_of_le hbb3 bv0.size) bv1.size)).trans k0
              have x0 := (bv2.cell (p := ⟨b1, o1 + i * 5, none⟩) (Nat.lt_of_lt_of_le (Nat.lt_of_lt_of_le hbb1 bv0.size) bv1.size)).trans x0
              have x1 := (bv2.cell (p := ⟨b1, o1 + i * 5 + 1, none⟩) (Nat.lt_of_lt_of_le (Nat.lt_of_lt_of_le hbb1 bv0.size) bv1.size)).trans x1
              have x2 := (bv2.cell (p := ⟨b1, o1 + i * 5 + 2, none⟩) (Nat.lt_of_lt_of_le (Nat.lt_of_lt_of_le hbb1 bv0.size) bv1.size)).trans x2
              have x3 := (bv2.cell (p := ⟨b1, o1 + i * 5 + 3, none⟩) (Nat.lt_of_lt_of_le (Nat.lt_of_lt_of_le hbb1 bv0.size) bv1.size)).trans x3
              have x4 := (bv2.cell (p := ⟨b1, o1 + i * 5 + 4, none⟩) (Nat.lt_of_lt_of_le (Nat.lt_of_lt_of_le hbb1 bv0.size) bv1.size)).trans x4
              have y0 := (bv2.cell (p := ⟨b2, o2 + k * 5, none⟩) (Nat.lt_of_lt_of_le (Nat.lt_of_lt_of_le hbb2 bv0.size) bv1.size)).trans y0
              have y1 := (bv2.cell (p := ⟨b2, o2 + k * 5 + 1, none⟩) (Nat.lt_of_lt_of_le (Nat.lt_of_lt_of_le hbb2 bv0.size) bv1.size)).trans y1
              have y2 := (bv2.cell (p := ⟨b2, o2 + k * 5 + 2, none⟩) (Nat.lt_of_lt_of_le (Nat.lt_of_lt_of_le hbb2 bv0.size) bv1.size)).trans y2
              have y3 := (bv2.cell (p := ⟨b2, o2 + k * 5 + 3, none⟩) (Nat.lt_of_lt_of_le (Nat.lt_of_lt_of_le hbb2 bv0.size) bv1.size)).trans y3
              have y4 := (bv2.cell (p := ⟨b2, o2 + k * 5 + 4, none⟩) (Nat.lt_of_lt_of_le (Nat.lt_of_lt_of_le hbb2 bv0.size) bv1.size)).trans y4
              have bt2 : Below wr.heap.size wr V2 := below_next bt1 bv2
              have hbw := below_next hb3 bt2
              have HWB := Lib.hid (OwnsR.below HO.out bt2)
              go_wp2_with fail
              go_roundw
              case rel => exact ⟨n + 1, ou, by go_num, by omega, HMo, HTt, HWB, hbw⟩
              case measure => simp [intOf]; omega
            · have HMo := Lib.hid (show ou ++ [(xk, (av, aw), (bi, bt))] = (M.take (n + 1)).filterMap nF by rw [HMn.out]; unfold nF wasT isTT; dsimp only; rw [if_neg (by simpa using g2)]; rfl)
              rw [decide_eq_false g2] at NE2
              clear g2
              go_wp2_with fail
              go_quiet (((first | (go_at_call 50; with_reducible exact Calls.quiet_of_same (C1.out _)) | (go_at_call 50; with_reducible exact Calls.quiet_of_same (C2.out _)))))
              generalize HV0 : wr.drewN _ = V0
              have bv0 : Below wr.heap.size wr V0 := by rw [← HV0]; exact below_drewN2 (Below.refl _ _) _
              replace HV0 := Lib.hid HV0
              have k0 := (bv0.cell (p := ⟨b3, o3 + n, none⟩) hbb3).trans k0
              have x0 := (bv0.cell (p := ⟨b1, o1 + i * 5, none⟩) hbb1).trans x0
              have x1 := (bv0.cell (p := ⟨b1, o1 + i * 5 + 1, none⟩) hbb1).trans x1
              have x2 := (bv0.cell (p := ⟨b1, o1 + i * 5 + 2, none⟩) hbb1).trans x2
              have x3 := (bv0.cell (p := ⟨b1, o1 + i * 5 + 3, none⟩) hbb1).trans x3
              have x4 := (bv0.cell (p := ⟨b1, o1 + i * 5 + 4, none⟩) hbb1).trans x4
              have y0 := (bv0.cell (p := ⟨b2, o2 + k * 5, none⟩) hbb2).trans y0
              have y1 := (bv0.cell (p := ⟨b2, o2 + k * 5 + 1, none⟩) hbb2).trans y1
              have y2 := (bv0.cell (p := ⟨b2, o2 + k * 5 + 2, none⟩) hbb2).trans y2
              have y3 := (bv0.cell (p := ⟨b2, o2 + k * 5 + 3, none⟩) hbb2).trans y3
              have y4 := (bv0.cell (p := ⟨b2, o2 + k * 5 + 4, none⟩) hbb2).trans y4
              have bt0 : Below wr.heap.size wr V0 := bv0
              go_wp2_with fail
              go_quiet (fail)
              generalize HV1 : V0.drewN _ = V1
              have bv1 : Below V0.heap.size V0 V1 := by rw [← HV1]; exact below_drewN2 (Below.refl _ _) _
              replace HV1 := Lib.hid HV1
              have k0 := (bv1.cell (p := ⟨b3, o3 + n, none⟩) (Nat.lt_of_lt_of_le hbb3 bv0.size)).trans k0
              have x0 := (bv1.cell (p := ⟨b1, o1 + i * 5, none⟩) (Nat.lt_of_lt_of_le hbb1 bv0.size)).trans x0
              have x1 := (bv1.cell (p := ⟨b1, o1 + i * 5 + 1, none⟩) (Nat.lt_of_lt_of_le hbb1 bv0.size)).trans x1
              have x2 := (bv1.cell (p := ⟨b1, o1 + i * 5 + 2, none⟩) (Nat.lt_of_lt_of_le hbb1 bv0.size)).trans x2
              have x3 := (bv1.cell (p := ⟨b1, o1 + i * 5 + 3, none⟩) (Nat.lt_of_lt_of_le hbb1 bv0.size)).trans x3
              have x4 := (bv1.cell (p := ⟨b1, o1 + i * 5 + 4, none⟩) (Nat.lt_of_lt_of_le hbb1 bv0.size)).trans x4
              have y0 := (bv1.cell (p := ⟨b2, o2 + k * 5, none⟩) (Nat.lt_of_lt_of_le hbb2 bv0.size)).trans y0
              have y1 := (bv1.cell (p := ⟨b2, o2 + k * 5 + 1, none⟩) (Nat.lt_of_lt_of_le hbb2 bv0.size)).trans y1
              have y2 := (bv1.cell (p := ⟨b2, o2 + k * 5 + 2, none⟩) (Nat.lt_of_lt_of_le hbb2 bv0.size)).trans y2
              have y3 := (bv1.cell (p := ⟨b2, o2 + k * 5 + 3, none⟩) (Nat.lt_of_lt_of_le hbb2 bv0.size)).trans y3
              have y4 := (bv1.cell (p := ⟨b2, o2 + k * 5 + 4, none⟩) (Nat.lt_of_lt_of_le hbb2 bv0.size)).trans y4
              have bt1 : Below wr.heap.size wr V1 := below_next bt0 bv1
              go_wp2_with fail
              go_quiet (fail)
              generalize HV2 : V1.drewN _ = V2
              have bv2 : Below V1.heap.size V1 V2 := by rw [← HV2]; exact below_drewN2 (Below.refl _ _) _
              replace HV2 := Lib.hid HV2
              have k0 := (bv2.cell (p := ⟨b3, o3 + n, none⟩) (Nat.lt_of_lt_of_le (Nat.lt_of_lt_of_le hbb3 bv0.size) bv1.size)).trans k0
              have x0 := (bv2.cell (p := ⟨b1, o1 + i * 5, none⟩) (Nat.lt_of_lt_of_le (Nat.lt_of_lt_of_le hbb1 bv0.size) bv1.size)).trans x0
              have x1 := (bv2.cell (p := ⟨b1, o1 + i * 5 + 1, none⟩) (Nat.lt_of_lt_of_le (Nat.lt_of_lt_of_le hbb1 bv0.size) bv1.size)).trans x1
              have x2 := (bv2.cell (p := ⟨b1, o1 + i * 5 + 2, none⟩) (Nat.lt_of_lt_of_le (Nat.lt_of_lt_of_le hbb1 bv0.size) bv1.size)).trans x2
              have x3 := (bv2.cell (p := ⟨b1, o1 + i * 5 + 3, none⟩) (Nat.lt_of_lt_of_le (Nat.lt_of_lt_of_le hbb1 bv0.size) bv1.size)).trans x3
              have x4 := (bv2.cell (p := ⟨b1, o1 + i * 5 + 4, none⟩) (Nat.lt_of_lt_of_le (Nat.lt_of_lt_of_le hbb1 bv0.size) bv1.size)).trans x4
              have y0 := (bv2.cell (p := ⟨b2, o2 + k * 5, none⟩) (Nat.lt_of_lt_of_le (Nat.lt_of_lt_of_le hbb2 bv0.size) bv1.size)).trans y0
              have y1 := (bv2.cell (p := ⟨b2, o2 + k * 5 + 1, none⟩) (Nat.lt_of_lt_of_le (Nat.lt_of_lt_of_le hbb2 bv0.size) bv1.size)).trans y1
              have y2 := (bv2.cell (p := ⟨b2, o2 + k * 5 + 2, none⟩) (Nat.lt_of_lt_of_le (Nat.lt_of_lt_of_le hbb2 bv0.size) bv1.size)).trans y2
              have y3 := (bv2.cell (p := ⟨b2, o2 + k * 5 + 3, none⟩) (Nat.lt_of_lt_of_le (Nat.lt_of_lt_of_le hbb2 bv0.size) bv1.size)).trans y3
              have y4 := (bv2.cell (p := ⟨b2, o2 + k * 5 + 4, none⟩) (Nat.lt_of_lt_of_le (Nat.lt_of_lt_of_le hbb2 bv0.size) bv1.size)).trans y4
              have bt2 : Below wr.heap.size wr V2 := below_next bt1 bv2
              have hbw := below_next hb3 bt2
              have hown0 : V2.ownsRow w3.heap.size 88 5 _ ou.length (flatR encT ou) := (OwnsR.below HO.out bt2)
              have HD := Lib.hid (fun o => (hown0.alloc o).drew)
              have HG := Lib.hid (fun o w1 (hg : ((V2.alloc o).drew).grownBy w1 _) => (show Below w3.heap.size w3 w1 from
                ((hbw.alloc hbw.size o).drew).grown hg (by have := hbw.size; simp; omega) (fun j hj => (World.ownsRow.lt HO.out j hj).1)))
              have B63 := Lib.hid (show ou.length + 1 ≤ maxLen by unfold maxLen; omega)
              have BBY := Lib.hid (show (ou.length + 1) * 40 ≤ 140737488355328 by omega)
              have HBS := Lib.hid (fun o => (show w3.heap.size ≤ ((V2.alloc o).drew).heap.size from by have := hbw.size; simp; omega))
              have HH := Lib.hid (fun o => (show ((V2.alloc o).drew).heap.size = V2.heap.size + 1 from by simp))
              clear hown0
              go_wp2_with fail
              go_region_law (first | (refine step_append_lies _ rfl (.tmp 68) (.tmp 84) 29 rfl w3.heap.size 88 i0 (.agg #[.int .i64 0, .int .i64 0, .bool false, .int .i64 0, .bool false]) 5 40 Try.underlying29 hi hz0 hz1 hz2 rfl (by decide) _ _ _ rfl (HD.out _) ⟨V2.heap.size, 0, none⟩ 1 1 [.int .i64 xk, .int .i64 av, .bool aw, .int .i64 bi, .bool bt] rfl rfl (cellD5 V2 _ _ _ _ _ _) (five_one _ _ _ _ _) (by decide) B63.out BBY.out (HBS.out _) (V2.heap.size + 1) (HH.out _) ?_; intro g cap w1 hown1 hgrow1 _ _; have g1 := HG.out _ _ hgrow1; replace hown1 := Lib.hid hown1; clear hgrow1))
              all_goals
                go_wp2
                go_roundw
                case rel => exact ⟨n + 1, ou ++ [(xk, (av, aw), (bi, bt))], by go_num, by omega, HMo, HTt, Lib.hid (OwnsR.snoc (enc := encT) (x := ((xk, (av, aw), (bi, bt)) : Tn)) rfl hown1.out), g1⟩
                case measure => simp [intOf]; omega
          · have HRf := Lib.hid (HXf.out (by unfold thnX; simp [g1]))
            rw [decide_eq_false g1] at NE1
            clear g1 NE2
            go_wp2_with fail
            go_quiet (((first | (go_at_call 50; with_reducible exact Calls.quiet_of_same (C1.out _)) | (go_at_call 50; with_reducible exact Calls.quiet_of_same (C2.out _)))))
            generalize HV0 : wr.drewN _ = V0
            have bv0 : Below wr.heap.size wr V0 := by rw [← HV0]; exact below_drewN2 (Below.refl _ _) _
            replace HV0 := Lib.hid HV0
            have k0 := (bv0.cell (p := ⟨b3, o3 + n, none⟩) hbb3).trans k0
            have x0 := (bv0.cell (p := ⟨b1, o1 + i * 5, none⟩) hbb1).trans x0
            have x1 := (bv0.cell (p := ⟨b1, o1 + i * 5 + 1, none⟩) hbb1).trans x1
            have x2 := (bv0.cell (p := ⟨b1, o1 + i * 5 + 2, none⟩) hbb1).trans x2
            have x3 := (bv0.cell (p := ⟨b1, o1 + i * 5 + 3, none⟩) hbb1).trans x3
            have x4 := (bv0.cell (p := ⟨b1, o1 + i * 5 + 4, none⟩) hbb1).trans x4
            have y0 := (bv0.cell (p := ⟨b2, o2 + k * 5, none⟩) hbb2).trans y0
            have y1 := (bv0.cell (p := ⟨b2, o2 + k * 5 + 1, none⟩) hbb2).trans y1
            have y2 := (bv0.cell (p := ⟨b2, o2 + k * 5 + 2, none⟩) hbb2).trans y2
            have y3 := (bv0.cell (p := ⟨b2, o2 + k * 5 + 3, none⟩) hbb2).trans y3
            have y4 := (bv0.cell (p := ⟨b2, o2 + k * 5 + 4, none⟩) hbb2).trans y4
            have bt0 : Below wr.heap.size wr V0 := bv0
            go_wp2_with fail
            go_quiet (fail)
            generalize HV1 : V0.drewN _ = V1
            have bv1 : Below V0.heap.size V0 V1 := by rw [← HV1]; exact below_drewN2 (Below.refl _ _) _
            replace HV1 := Lib.hid HV1
            have k0 := (bv1.cell (p := ⟨b3, o3 + n, none⟩) (Nat.lt_of_lt_of_le hbb3 bv0.size)).trans k0
            have x0 := (bv1.cell (p := ⟨b1, o1 + i * 5, none⟩) (Nat.lt_of_lt_of_le hbb1 bv0.size)).trans x0
            have x1 := (bv1.cell (p := ⟨b1, o1 + i * 5 + 1, none⟩) (Nat.lt_of_lt_of_le hbb1 bv0.size)).trans x1
            have x2 := (bv1.cell (p := ⟨b1, o1 + i * 5 + 2, none⟩) (Nat.lt_of_lt_of_le hbb1 bv0.size)).trans x2
            have x3 := (bv1.cell (p := ⟨b1, o1 + i * 5 + 3, none⟩) (Nat.lt_of_lt_of_le hbb1 bv0.size)).trans x3
            have x4 := (bv1.cell (p := ⟨b1, o1 + i * 5 + 4, none⟩) (Nat.lt_of_lt_of_le hbb1 bv0.size)).trans x4
            have y0 := (bv1.cell (p := ⟨b2, o2 + k * 5, none⟩) (Nat.lt_of_lt_of_le hbb2 bv0.size)).trans y0
            have y1 := (bv1.cell (p := ⟨b2, o2 + k * 5 + 1, none⟩) (Nat.lt_of_lt_of_le hbb2 bv0.size)).trans y1
            have y2 := (bv1.cell (p := ⟨b2, o2 + k * 5 + 2, none⟩) (Nat.lt_of_lt_of_le hbb2 bv0.size)).trans y2
            have y3 := (bv1.cell (p := ⟨b2, o2 + k * 5 + 3, none⟩) (Nat.lt_of_lt_of_le hbb2 bv0.size)).trans y3
            have y4 := (bv1.cell (p := ⟨b2, o2 + k * 5 + 4, none⟩) (Nat.lt_of_lt_of_le hbb2 bv0.size)).trans y4
            have bt1 : Below wr.heap.size wr V1 := below_next bt0 bv1
            go_wp2_with fail
            go_ret2
            exact ⟨_, by rw [HRf.out]; rfl, by rw [HRf.out]; exact OwnsR.nil _ _ _ _ _, below_next hbl bt1⟩
        · skip
          obtain ⟨b1, o1, e1, hbb1, x0, x1, x2, x3, x4⟩ := (ha.out.below hbl).tns hil
          subst e1
          rw [ea] at x0 x1 x2 x3 x4
          obtain ⟨ak, ⟨av, aw⟩, ⟨ai, ax⟩⟩ := xa
          dsimp only at x0 x1 x2 x3 x4 q1
          have hiz : (i : Int) < (l.length : Int) := by omega
          have hi0 : (0 : Int) ≤ (i : Int) := by omega
          replace ea := Lib.hid ea
          have C1 := Lib.hid (fun d => (show Calls Try.prog 50 #[.slice (some ⟨b1, o1, none⟩) l.length ca, .int .i64 xk] (wr.drewN d) (fun e w' => e = .returned (.int .i64 (i : Int)) ∧ w' = wr.drewN d) from by
            have h := rfind_any (some ⟨b1, o1, none⟩) l.length ca l xk (wr.drewN d) ((ha.out.below hbl).below (below_drewN2 (Below.refl _ _) d))
            rw [f1] at h
            exact h.mono (fun e w' h => ⟨h.1, h.2.symm⟩)))
          have C2 := Lib.hid (fun d => (show Calls Try.prog 50 #[.slice ab m.length cb, .int .i64 xk] (wr.drewN d) (fun e w' => e = .returned (.int .i64 (-1)) ∧ w' = wr.drewN d) from by
            have h := rfind_any ab m.length cb m xk (wr.drewN d) ((hb.out.below hbl).below (below_drewN2 (Below.refl _ _) d))
            rw [f2] at h
            exact h.mono (fun e w' h => ⟨h.1, h.2.symm⟩)))
          dsimp only at q2
          have HTt := Lib.hid (show (M.take (n + 1)).all thnX = true by rw [HTn.out]; rfl)
          have HMo := Lib.hid (show ou ++ [(ak, (av, aw), (ai, ax))] = (M.take (n + 1)).filterMap nF by rw [HMn.out]; unfold nF wasT isTT; dsimp only; rw [if_neg (by simpa using q2), q1]; rfl)
          replace q1 := Lib.hid q1
          replace q2 := Lib.hid q2
          replace f1 := Lib.hid f1
          replace f2 := Lib.hid f2
          go_wp2_with fail
          go_quiet (((first | (go_at_call 50; with_reducible exact Calls.quiet_of_same (C1.out _)) | (go_at_call 50; with_reducible exact Calls.quiet_of_same (C2.out _)))))
          generalize HV0 : wr.drewN _ = V0
          have bv0 : Below wr.heap.size wr V0 := by rw [← HV0]; exact below_drewN2 (Below.refl _ _) _
          replace HV0 := Lib.hid HV0
          have k0 := (bv0.cell (p := ⟨b3, o3 + n, none⟩) hbb3).trans k0
          have x0 := (bv0.cell (p := ⟨b1, o1 + i * 5, none⟩) hbb1).trans x0
          have x1 := (bv0.cell (p := ⟨b1, o1 + i * 5 + 1, none⟩) hbb1).trans x1
          have x2 := (bv0.cell (p := ⟨b1, o1 + i * 5 + 2, none⟩) hbb1).trans x2
          have x3 := (bv0.cell (p := ⟨b1, o1 + i * 5 + 3, none⟩) hbb1).trans x3
          have x4 := (bv0.cell (p := ⟨b1, o1 + i * 5 + 4, none⟩) hbb1).trans x4
          have bt0 : Below wr.heap.size wr V0 := bv0
          have hbw := below_next hb3 bt0
          have hbww := below_next B3 hbw
          have hszw := hbww.size
          have HWA := Lib.hid (OwnsR.below HO.out bt0)
          go_wp2_with (at_builtin; refine wpList_append_own _ rfl _ _ 29 rfl w3.heap.size 88 i0 (.agg #[.int .i64 0, .int .i64 0, .bool false, .int .i64 0, .bool false]) 5 40 Try.underlying29 hi hz0 hz1 hz2 rfl (by decide) _ _ _ rfl (World.ownsRow.alloc HWA.out _) ⟨V0.heap.size, 0, none⟩ 1 1 [.int .i64 ak, .int .i64 av, .bool aw, .int .i64 ai, .bool ax] rfl rfl ?c1 ?c2 ?c3 ?c4 ?c5 ?_)
          case c1 => exact cells_one_new5 _ _ _ _ _ _ _ _ rfl
          case c2 => exact five_one _ _ _ _ _
          case c3 => unfold maxLen; omega
          case c4 => omega
          case c5 => have := hbw.size; simp; omega
          intro v' w9 hown hgrow _
          have hg9 : Below w3.heap.size w3 w9 := (hbw.alloc hbw.size (.cells #[.int .i64 ak, .int .i64 av, .bool aw, .int .i64 ai, .bool ax] 88)).grown hgrow (by have := hbw.size; simp; omega) (fun j hj => (World.ownsRow.lt HWA.out j hj).1)
          have HO2 := Lib.hid (OwnsR.snoc (enc := encT) (l := ou) (x := ((ak, (av, aw), (ai, ax)) : Tn)) rfl hown)
          clear hown hgrow HO
          go_wp2
          go_roundw
          case rel => exact ⟨n + 1, ou ++ [(ak, (av, aw), (ai, ax))], by go_num, by omega, HMo, HTt, HO2, hg9⟩
          case measure => simp [intOf]; omega
        · skip
          obtain ⟨b2, o2, e2, hbb2, y0, y1, y2, y3, y4⟩ := (hb.out.below hbl).tns hkm
          subst e2
          rw [eb] at y0 y1 y2 y3 y4
          obtain ⟨bk, ⟨bv, bs⟩, ⟨bi, bt⟩⟩ := xb
          dsimp only at y0 y1 y2 y3 y4
          have hkz2 : (k : Int) < (m.length : Int) := by omega
          have hk0 : (0 : Int) ≤ (k : Int) := by omega
          replace eb := Lib.hid eb
          have C1 := Lib.hid (fun d => (show Calls Try.prog 50 #[.slice aa l.length ca, .int .i64 xk] (wr.drewN d) (fun e w' => e = .returned (.int .i64 (-1)) ∧ w' = wr.drewN d) from by
            have h := rfind_any aa l.length ca l xk (wr.drewN d) ((ha.out.below hbl).below (below_drewN2 (Below.refl _ _) d))
            rw [f1] at h
            exact h.mono (fun e w' h => ⟨h.1, h.2.symm⟩)))
          have C2 := Lib.hid (fun d => (show Calls Try.prog 50 #[.slice (some ⟨b2, o2, none⟩) m.length cb, .int .i64 xk] (wr.drewN d) (fun e w' => e = .returned (.int .i64 (k : Int)) ∧ w' = wr.drewN d) from by
            have h := rfind_any (some ⟨b2, o2, none⟩) m.length cb m xk (wr.drewN d) ((hb.out.below hbl).below (below_drewN2 (Below.refl _ _) d))
            rw [f2] at h
            exact h.mono (fun e w' h => ⟨h.1, h.2.symm⟩)))
          dsimp only at q1 q2
          have HTt := Lib.hid (show (M.take (n + 1)).all thnX = true by rw [HTn.out]; rfl)
          have HMo := Lib.hid (show ou ++ [(bk, (bv, bs), (bi, bt))] = (M.take (n + 1)).filterMap nF by rw [HMn.out]; unfold nF wasT isTT; dsimp only; rw [if_neg (by simpa using q2), q1]; rfl)
          replace q1 := Lib.hid q1
          replace q2 := Lib.hid q2
          replace f1 := Lib.hid f1
          replace f2 := Lib.hid f2
          go_wp2_with fail
          go_quiet (((first | (go_at_call 50; with_reducible exact Calls.quiet_of_same (C1.out _)) | (go_at_call 50; with_reducible exact Calls.quiet_of_same (C2.out _)))))
          generalize HV0 : wr.drewN _ = V0
          have bv0 : Below wr.heap.size wr V0 := by rw [← HV0]; exact below_drewN2 (Below.refl _ _) _
          replace HV0 := Lib.hid HV0
          have k0 := (bv0.cell (p := ⟨b3, o3 + n, none⟩) hbb3).trans k0
          have y0 := (bv0.cell (p := ⟨b2, o2 + k * 5, none⟩) hbb2).trans y0
          have y1 := (bv0.cell (p := ⟨b2, o2 + k * 5 + 1, none⟩) hbb2).trans y1
          have y2 := (bv0.cell (p := ⟨b2, o2 + k * 5 + 2, none⟩) hbb2).trans y2
          have y3 := (bv0.cell (p := ⟨b2, o2 + k * 5 + 3, none⟩) hbb2).trans y3
          have y4 := (bv0.cell (p := ⟨b2, o2 + k * 5 + 4, none⟩) hbb2).trans y4
          have bt0 : Below wr.heap.size wr V0 := bv0
          have hbw := below_next hb3 bt0
          have hbww := below_next B3 hbw
          have hszw := hbww.size
          have HWA := Lib.hid (OwnsR.below HO.out bt0)
          go_wp2_with (at_builtin; refine wpList_append_own _ rfl _ _ 29 rfl w3.heap.size 88 i0 (.agg #[.int .i64 0, .int .i64 0, .bool false, .int .i64 0, .bool false]) 5 40 Try.underlying29 hi hz0 hz1 hz2 rfl (by decide) _ _ _ rfl (World.ownsRow.alloc HWA.out _) ⟨V0.heap.size, 0, none⟩ 1 1 [.int .i64 bk, .int .i64 bv, .bool bs, .int .i64 bi, .bool bt] rfl rfl ?c1 ?c2 ?c3 ?c4 ?c5 ?_)
          case c1 => exact cells_one_new5 _ _ _ _ _ _ _ _ rfl
          case c2 => exact five_one _ _ _ _ _
          case c3 => unfold maxLen; omega
          case c4 => omega
          case c5 => have := hbw.size; simp; omega
          intro v' w9 hown hgrow _
          have hg9 : Below w3.heap.size w3 w9 := (hbw.alloc hbw.size (.cells #[.int .i64 bk, .int .i64 bv, .bool bs, .int .i64 bi, .bool bt] 88)).grown hgrow (by have := hbw.size; simp; omega) (fun j hj => (World.ownsRow.lt HWA.out j hj).1)
          have HO2 := Lib.hid (OwnsR.snoc (enc := encT) (l := ou) (x := ((bk, (bv, bs), (bi, bt)) : Tn)) rfl hown)
          clear hown hgrow HO
          go_wp2
          go_roundw
          case rel => exact ⟨n + 1, ou ++ [(bk, (bv, bs), (bi, bt))], by go_num, by omega, HMo, HTt, HO2, hg9⟩
          case measure => simp [intOf]; omega
end Go.Proofs.Ytmifjippdlmpiaa
