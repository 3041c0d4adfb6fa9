/-
  CONTRACT of the document's Apply; ChartApplies.
-/
import Derived.Test.YtcpcdinfagdlhaaChAq1
import Derived.Test.YtcpcdinfagdlhaaChAq2
import Derived.Test.YtcpcdinfagdlhaaChAq3
import Derived.Lib.SmallJoins
namespace Go.Proofs.Ytcpcdinfagdlhaa
open Go.RowKit Go.Shelf Go.ChangeShapes Go.WideShapes Go.Deep

theorem chgB_kinds {k x : Int} (h : chgB k x = true) : k = 1 ∨ k = 2 ∨ (k = 3 ∧ 0 ≤ x ∧ x ≤ 4) := by
  unfold chgB at h
  rw [Bool.or_eq_true, Bool.or_eq_true, Bool.and_eq_true, btwC_iff] at h
  simp only [beq_iff_eq] at h
  omega
theorem drop_two {l : List Sd} {i : Nat} {s t : Sd} (h : i + 1 < l.length) (hs : l[i]! = s) (ht : l[i + 1]! = t) : (l.drop i).take 2 = [s, t] := by
  rw [drop_moreG (show i < l.length by omega), drop_moreG h, hs, ht]; rfl
theorem drop_one {l : List Sd} {i : Nat} {s : Sd} (h : i < l.length) (hs : l[i]! = s) : (l.drop i).take 1 = [s] := by
  rw [drop_moreG h, hs]; rfl
theorem rapply8_any (ep nx : Int) (a : Option Addr) (n c : Nat) (l : List Sd) (k id x : Int) (w : World) (h : RArg encS 4 w a n c l) :
    Calls Try.prog 26 #[.agg #[.int .i64 ep, .int .i64 nx, .slice a n c], .int .i64 k, .int .i64 id, .int .i64 x] w (RMadePost (appC ep nx l k id x) w) := by
  by_cases hb : chkC ep nx l = true ∧ chgB k x = true
  · obtain ⟨hc, hg⟩ := hb
    have hA : appC ep nx l k id x = (if idxC (fun x => x.1 == id) l < 0 ∨ (l.length : Int) < idxC (fun x => x.1 == id) l + repN k then badM 4
      else if k = 1 ∧ insB x l[(idxC (fun x => x.1 == id) l).toNat]!.2.1 l[(idxC (fun x => x.1 == id) l).toNat]!.2.2.1 = false then badM 1
      else goodM ep nx l k x (idxC (fun x => x.1 == id) l).toNat) := by
      unfold appC; rw [if_neg (fun q => q ⟨hc, hg⟩)]
    rcases idxC_spec (fun x => x.1 == id) l with ⟨hi, _⟩ | ⟨i, hil, hi, _, _⟩
    · have hR : appC ep nx l k id x = badM 4 := by rw [hA, if_pos (.inl (by omega))]
      rcases chgB_kinds hg with rfl | rfl | ⟨rfl, hx⟩
      · exact apply8_none1 ep nx a n c l id x w h hc hi hR
      · exact apply8_none2 ep nx a n c l id x w h hc hi hR
      · exact apply8_none3 ep nx a n c l id x w h hc hx hi hR
    · rw [hi, Int.toNat_natCast] at hA
      obtain ⟨⟨i0, lo, hi', nd⟩, hs⟩ : ∃ s, l[i]! = s := ⟨_, rfl⟩
      rcases chgB_kinds hg with rfl | rfl | ⟨rfl, hx⟩
      · have hr : repN 1 = 1 := rfl
        rw [hr, if_neg (by rintro (q | q) <;> omega), hs] at hA
        dsimp only at hA
        by_cases hin : lo < x ∧ x < hi'
        · have hb1 : insB x lo hi' = true := by unfold insB; rw [decide_eq_true hin.1, decide_eq_true hin.2]; rfl
          rw [if_neg (by rintro ⟨_, q⟩; rw [hb1] at q; cases q)] at hA
          refine apply8_good1 ep nx a n c l id x w h hc i hil hi i0 lo hi' nd hs hin.1 hin.2 ?_
          rw [hA]
          unfold goodM
          rw [hr, drop_one hil hs]
          rfl
        · have hb1 : insB x lo hi' = false := by
            unfold insB
            by_cases q1 : lo < x
            · rw [decide_eq_true q1, decide_eq_false (fun q2 => hin ⟨q1, q2⟩)]; rfl
            · rw [decide_eq_false q1]; rfl
          rw [if_pos ⟨rfl, hb1⟩] at hA
          exact apply8_at ep nx a n c l id x w h hc i hil hi i0 lo hi' nd hs (by omega) hA
      · have hr : repN 2 = 2 := rfl
        by_cases hl : i + 1 = l.length
        · rw [hr, if_pos (.inr (by omega))] at hA
          exact apply8_last ep nx a n c l id x w h hc i hi hl hA
        · obtain ⟨⟨i2, lo2, hi2, nd2⟩, hs2⟩ : ∃ s, l[i + 1]! = s := ⟨_, rfl⟩
          rw [hr, if_neg (by rintro (q | q) <;> omega), if_neg (by rintro ⟨q, _⟩; cases q)] at hA
          refine apply8_good2 ep nx a n c l id x w h hc i hil hi i0 lo hi' nd hs i2 lo2 hi2 nd2 (by omega) hs2 ?_
          rw [hA]
          unfold goodM
          rw [hr, drop_two (by omega) hs hs2]
          rfl
      · have hr : repN 3 = 1 := rfl
        rw [hr, if_neg (by rintro (q | q) <;> omega), if_neg (by rintro ⟨q, _⟩; cases q)] at hA
        refine apply8_good3 ep nx a n c l id x w h hc hx i hil hi i0 lo hi' nd hs ?_
        rw [hA]
        unfold goodM
        rw [hr, drop_one hil hs]
        rfl
  · exact apply8_arg ep nx a n c l k id x w h hb (by unfold appC; rw [if_pos hb])
set_option maxRecDepth 100000 in
theorem changeVal_of {H : Type} {enc : TypeId × Value → H} {w : World} {r : Reach} {b0 base : Nat} {spare : Nat → Bool} {held : Bool} {v : Value} {d : DataW H} {p : List MemPlace}
    (hv : Value.okWide Try.prog w r b0 49 v) (h : DataW.Trod enc Try.prog w base spare held 49 v d p) : ∃ t c s : Int, v = .agg #[.int .i64 t, .int .i64 c, .int .i64 s] := by
  obtain ⟨v0, v1, v2, y0, y1, y2, n, rfl, _, _, r1, r2, r3⟩ := Go.Joins.open_agg3 Try.underlying49 (by kernel_rfl) (by kernel_rfl) hv h
  obtain ⟨x, e0, _, _⟩ := DataW.trod_int Try.underlying3 r1
  obtain ⟨y, e1, _, _⟩ := DataW.trod_int Try.underlying3 r2
  obtain ⟨z, e2, _, _⟩ := DataW.trod_int Try.underlying3 r3
  simp at e0 e1 e2
  rw [e0, e1, e2]
  exact ⟨x, y, z, rfl⟩
theorem row_not6 {W : World} {X : Nat} {a : Option Addr} {n c : Nat} {l : List Sd} (hX : W.heap[X]? = some (.cells #[.int .i64 0, .int .i64 0, .slice none 0 0, .slice none 0 0, .slice none 0 0, .int .i64 0] 54)) (h : RArg encS 4 W a n c l) : l ≠ [] → ∃ b o, a = some ⟨b, o, none⟩ ∧ b ≠ X := fun hl => by
  obtain ⟨b, off, e, _, hc⟩ := h.2.2.2.2 0 (List.length_pos_iff.2 hl)
  refine ⟨b, off, e, fun hb => ?_⟩
  subst hb
  have k := fun i v hv => (hc i v hv).symm.trans (cell_of_row _ _ (off + 0 * 4 + i) _ _ _ hX)
  have k0 := k 0 _ rfl
  have k1 := k 1 _ rfl
  have k2 := k 2 _ rfl
  clear k hc
  match off with
  | 0 => simp at k2
  | 1 => simp at k1
  | 2 => simp at k0
  | 3 => simp at k0
  | 4 => simp at k0
  | 5 => simp at k1
  | m + 6 => simp at k0
set_option maxRecDepth 100000 in
set_option maxHeartbeats 8000000 in
theorem capplies_in (ep nx : Int) (a : Option Addr) (n c : Nat) (l : List Sd) (k id x : Int) (w : World) (h : RArg encS 4 w a n c l) (hl : n ≤ 60) :
    Calls Try.prog 4 #[.agg #[.int .i64 ep, .int .i64 nx, .slice a n c], .agg #[.int .i64 k, .int .i64 id, .int .i64 x]] w (TruePost w) := by
  have hn := Lib.hid h.1
  have hz : (n : Int) ≤ 9223372036854775807 := by omega
  have zl : l.length ≤ 100000 := by have := hn.out; omega
  obtain ⟨W1, hW1⟩ : ∃ W1, w.alloc (.cells #[.int .i64 ep, .int .i64 nx, .slice a n c] 24) = W1 := ⟨_, rfl⟩
  obtain ⟨W2, hW2⟩ : ∃ W2, W1.alloc (.cells #[.int .i64 k, .int .i64 id, .int .i64 x] 49) = W2 := ⟨_, rfl⟩
  have bw1 : Below w.heap.size w W1 := by rw [← hW1]; exact (Below.refl _ _).alloc (Nat.le_refl _) _
  have bw : Below w.heap.size w W2 := by rw [← hW2]; exact bw1.alloc bw1.size _
  have g1 : w.heap.size < W1.heap.size := by rw [← hW1]; simp
  have g2 : W1.heap.size < W2.heap.size := by rw [← hW2]; simp
  have hr1 : W2.heap[w.heap.size]? = some (.cells #[.int .i64 ep, .int .i64 nx, .slice a n c] 24) := by rw [← hW2]; exact ((World.grownBy_alloc W1 _ none).block _ g1 (by simp)).trans (by rw [← hW1]; exact heap_alloc_new _ _)
  have hr2 : W2.heap[W1.heap.size]? = some (.cells #[.int .i64 k, .int .i64 id, .int .i64 x] 49) := by rw [← hW2]; exact heap_alloc_new _ _
  have K3 := Lib.hid (fun W (h : Below W2.heap.size W2 W) => (show (W.cell? ⟨w.heap.size, 0, none⟩ = some (.int .i64 ep) ∧ W.cell? ⟨w.heap.size, 1, none⟩ = some (.int .i64 nx) ∧ W.cell? ⟨w.heap.size, 2, none⟩ = some (.slice a n c)) ∧ (W.cell? ⟨W1.heap.size, 0, none⟩ = some (.int .i64 k) ∧ W.cell? ⟨W1.heap.size, 1, none⟩ = some (.int .i64 id) ∧ W.cell? ⟨W1.heap.size, 2, none⟩ = some (.int .i64 x)) from ⟨c3K ((h.block _ (Nat.lt_trans g1 g2)).trans hr1), c3K ((h.block _ g2).trans hr2)⟩))
  have HA := Lib.hid (fun W (hb : Below W2.heap.size W2 W) => (h.below bw).below hb)
  have HF := Lib.hid (fun W => few8_any ep nx a n c W hz (decide_eq_true hl))
  have CP := Lib.hid (fun W (hb : Below W2.heap.size W2 W) => capply_any ep nx a n c l k id x W ((h.below bw).below hb))
  have RP := Lib.hid (fun ra rn rc W (h : RArg encS 4 W ra rn rc l) => rapply8_any ep nx ra rn rc l k id x W h)
  have hlen : (appC ep nx l k id x).l.length ≤ 100000 ∧ (appC ep nx l k id x).old.length ≤ 100000 ∧ (appC ep nx l k id x).fresh.length ≤ 100000 := by
    have hz2 : l.length ≤ 60 := by have := hn.out; omega
    have hb : ∀ e, (badM e).l.length ≤ 100000 ∧ (badM e).old.length ≤ 100000 ∧ (badM e).fresh.length ≤ 100000 := fun e => by unfold badM; simp
    unfold appC
    split
    · exact hb _
    · split
      · exact hb _
      · split
        · exact hb _
        · unfold goodM
          dsimp only
          split
          · rename_i hc
            have h1 := (chkC_parts hc).2.2.1.2
            have h2 : ∀ o0 o1, (succC k x nx o0 o1).length ≤ 2 := fun o0 o1 => by rw [succC_len]; split <;> omega
            refine ⟨by dsimp only; omega, ?_, Nat.le_trans (h2 _ _) (by omega)⟩
            dsimp only
            rw [List.length_take, List.length_drop]; omega
          · exact hb _
  generalize appC ep nx l k id x = M at CP RP hlen
  obtain ⟨ml, mo, mf⟩ := hlen
  obtain ⟨⟨q0, q1, q2⟩, ⟨p0, p1, p2⟩⟩ := K3.out _ (Below.refl _ _)
  clear h hr1 hr2
  go_enter Try.func4, Try.ntmps4
  go_upto_region 4 with (first
    | (go_at_call 11; (with_reducible refine (HF.out _).mono ?_); rintro e w2 ⟨rfl, b2⟩; have B2 := b2; obtain ⟨⟨q0, q1, q2⟩, ⟨p0, p1, p2⟩⟩ := K3.out _ B2)
    | (go_at_call 25; (with_reducible refine (CP.out _ B2).mono ?_); rintro e w3 ⟨da, dn, dc, oa, on, oc, fa, fn, fc, rfl, hd, ho, hf, b3, _⟩; have B3 := below_next B2 b3; obtain ⟨W4, hW4⟩ : ∃ W4, w3.alloc (.cells #[.int .i64 M.ep, .int .i64 M.nx, .slice da dn dc] 24) = W4 := ⟨_, rfl⟩; have b4 : Below w3.heap.size w3 W4 := (by rw [← hW4]; exact (Below.refl _ _).alloc (Nat.le_refl _) _); have g4 : w3.heap.size < W4.heap.size := (by rw [← hW4]; simp); have hr4 : W4.heap[w3.heap.size]? = some (.cells #[.int .i64 M.ep, .int .i64 M.nx, .slice da dn dc] 24) := (by rw [← hW4]; exact heap_alloc_new _ _); have B4 := below_next B3 b4; have hd4 := Lib.hid (hd.below b4); have ho4 := Lib.hid (ho.below b4); have hf4 := Lib.hid (hf.below b4); replace hr4 := Lib.hid hr4; clear hd ho hf))
  have KD := Lib.hid (fun W (hb : Below W4.heap.size W4 W) => (show ((W.cell? ⟨w.heap.size, 0, none⟩ = some (.int .i64 ep) ∧ W.cell? ⟨w.heap.size, 1, none⟩ = some (.int .i64 nx) ∧ W.cell? ⟨w.heap.size, 2, none⟩ = some (.slice a n c)) ∧ (W.cell? ⟨W1.heap.size, 0, none⟩ = some (.int .i64 k) ∧ W.cell? ⟨W1.heap.size, 1, none⟩ = some (.int .i64 id) ∧ W.cell? ⟨W1.heap.size, 2, none⟩ = some (.int .i64 x))) ∧ (W.cell? ⟨w3.heap.size, 0, none⟩ = some (.int .i64 M.ep) ∧ W.cell? ⟨w3.heap.size, 1, none⟩ = some (.int .i64 M.nx) ∧ W.cell? ⟨w3.heap.size, 2, none⟩ = some (.slice da dn dc)) from ⟨K3.out _ (below_next B4 hb), c3K ((hb.block _ g4).trans hr4.out)⟩))
  have HS := Lib.hid (((((EnvS.start W4).add (Stable.row encS 4 a n c l) (HA.out _ B4)).add (Stable.row encS 4 da dn dc M.l) hd4.out).add (Stable.row encS 4 oa on oc M.old) ho4.out).add (Stable.row encS 4 fa fn fc M.fresh) hf4.out)
  have HS1 := HS
  clear q0 q1 q2 p0 p1 p2 b2 b3 b4 B2 B3
  replace hW1 := Lib.hid hW1
  replace hW2 := Lib.hid hW2
  replace hW4 := Lib.hid hW4
  go_cut [9] from 22 to 58 (fun p wx => ∃ (g : Nat) (aL : Option Addr) (nL cL : Nat) (aO : Option Addr) (nO cO : Nat) (aF : Option Addr) (nF cF : Nat), p = .pointer (some ⟨g, 0, none⟩) ∧ wx.heap[g]? = some (.cells #[.int .i64 M.ep, .int .i64 M.nx, .slice aL nL cL, .slice aO nO cO, .slice aF nF cF, .int .i64 M.e] 54) ∧ RArg encS 4 wx aL nL cL M.l ∧ RArg encS 4 wx aO nO cO M.old ∧ RArg encS 4 wx aF nF cF M.fresh ∧ Below W4.heap.size W4 wx)
  case first =>
    (first | go_region_held3 (fun W => (W.cell? ⟨w.heap.size, 0, none⟩ = some (.int .i64 ep) ∧ W.cell? ⟨w.heap.size, 1, none⟩ = some (.int .i64 nx) ∧ W.cell? ⟨w.heap.size, 2, none⟩ = some (.slice a n c)) ∧ (W.cell? ⟨W1.heap.size, 0, none⟩ = some (.int .i64 k) ∧ W.cell? ⟨W1.heap.size, 1, none⟩ = some (.int .i64 id) ∧ W.cell? ⟨W1.heap.size, 2, none⟩ = some (.int .i64 x))) (exact (KD.out _ (by repeat (first | with_reducible exact HS.out.low | with_reducible refine toDK ?_ | with_reducible refine Below.alloc ?_ (by first | exact Nat.le_refl _ | omega | (simp; omega)) _ | with_reducible refine Below.setCell ?_ (by first | with_reducible exact Nat.le_refl _ | (dsimp only; omega)) _))).1) ((first
      | (go_at_call 13; (with_reducible refine (ref8_any ep nx a n c l _ ((HS.out.step (by repeat (first | with_reducible exact Below.refl _ _ | with_reducible refine toDK ?_ | with_reducible refine Below.alloc ?_ (by first | exact Nat.le_refl _ | omega | (simp; omega)) _ | with_reducible refine Below.setCell ?_ (by first | with_reducible exact Nat.le_refl _ | (dsimp only; omega)) _))).get (fun W => RArg encS 4 W a n c l) (by repeat (first | exact List.mem_cons_self | apply List.mem_cons_of_mem))) zl).mono ?_); rintro e w8 ⟨ra, rn, rc, rfl, hr, _, b8⟩; have kA := (fun (i : Nat) h => b8.cell (p := ⟨W4.heap.size, i, none⟩) h); have fA := (fun (i : Nat) h => b8.frozen (p := ⟨W4.heap.size, i, none⟩) h); have hs8 := (fun (h : W4.heap.size < _) => Nat.lt_of_lt_of_le h b8.size); replace HS := Lib.hid (((HS.out.step (by repeat (first | with_reducible exact Below.refl _ _ | with_reducible refine toDK ?_ | with_reducible refine Below.alloc ?_ (by first | exact Nat.le_refl _ | omega | (simp; omega)) _ | with_reducible refine Below.setCell ?_ (by first | with_reducible exact Nat.le_refl _ | (dsimp only; omega)) _))).step b8).add (Stable.row encS 4 ra rn rc l) hr); have hz8 : W4.heap.size ≤ w8.heap.size := HS.out.low.size; clear hr)
      | (go_at_call 26; (with_reducible refine (RP.out ra rn rc _ ((HS.out.step (by repeat (first | with_reducible exact Below.refl _ _ | with_reducible refine toDK ?_ | with_reducible refine Below.alloc ?_ (by first | exact Nat.le_refl _ | omega | (simp; omega)) _ | with_reducible refine Below.setCell ?_ (by first | with_reducible exact Nat.le_refl _ | (dsimp only; omega)) _))).get (fun W => RArg encS 4 W ra rn rc l) (by repeat (first | exact List.mem_cons_self | apply List.mem_cons_of_mem)))).mono ?_); rintro e wz ⟨aL, nL, cL, aO, nO, cO, aF, nF, cF, rfl, hL, hO, hF, bz⟩; have kB := (fun (i : Nat) h => bz.cell (p := ⟨W4.heap.size, i, none⟩) h); have fB := (fun (i : Nat) h => bz.frozen (p := ⟨W4.heap.size, i, none⟩) h); have kC := (fun (i : Nat) h => bz.cell (p := ⟨w8.heap.size, i, none⟩) h); have fC := (fun (i : Nat) h => bz.frozen (p := ⟨w8.heap.size, i, none⟩) h); have HL9 := Lib.hid hL; have HO9 := Lib.hid hO; have HF9 := Lib.hid hF; replace HS := Lib.hid (((((HS.out.step (by repeat (first | with_reducible exact Below.refl _ _ | with_reducible refine toDK ?_ | with_reducible refine Below.alloc ?_ (by first | exact Nat.le_refl _ | omega | (simp; omega)) _ | with_reducible refine Below.setCell ?_ (by first | with_reducible exact Nat.le_refl _ | (dsimp only; omega)) _))).step bz).add (Stable.row encS 4 aL nL cL M.l) hL).add (Stable.row encS 4 aO nO cO M.old) hO).add (Stable.row encS 4 aF nF cF M.fresh) hF); have hzz : W4.heap.size ≤ wz.heap.size := HS.out.low.size; clear hL hO hF))) | fail)
    all_goals
      go_wp2_with fail
      go_meet
      first
        | (refine ⟨w8.heap.size, aL, nL, cL, aO, nO, cO, aF, nF, cF, by with_reducible rfl, ?_, ?_, ?_, ?_, ?_⟩
           · exact heap_setCell_same _ _ 5 _ _ _ (heap_setCell_same _ _ 4 _ _ _ (heap_setCell_same _ _ 3 _ _ _ (heap_setCell_same _ _ 2 _ _ _ (heap_setCell_same _ _ 1 _ _ _ (heap_setCell_same _ _ 0 _ _ _ ((bz.block w8.heap.size (by simp)).trans (heap_alloc_new w8 _)))))))
           · exact HL9.out.onlyN (g := w8.heap.size) (by repeat (first | with_reducible exact Only.refl _ _ | with_reducible refine Only.drewR ?_ | with_reducible refine Only.set ?_ _ _)) (row_not6 ((bz.block w8.heap.size (by simp)).trans (heap_alloc_new w8 _)) HL9.out)
           · exact HO9.out.onlyN (g := w8.heap.size) (by repeat (first | with_reducible exact Only.refl _ _ | with_reducible refine Only.drewR ?_ | with_reducible refine Only.set ?_ _ _)) (row_not6 ((bz.block w8.heap.size (by simp)).trans (heap_alloc_new w8 _)) HO9.out)
           · exact HF9.out.onlyN (g := w8.heap.size) (by repeat (first | with_reducible exact Only.refl _ _ | with_reducible refine Only.drewR ?_ | with_reducible refine Only.set ?_ _ _)) (row_not6 ((bz.block w8.heap.size (by simp)).trans (heap_alloc_new w8 _)) HF9.out)
           · have hge : W4.heap.size ≤ w8.heap.size := (by first | exact Nat.le_refl _ | exact (show Below W4.heap.size W4 w8 from below_next (Below.refl _ _) (by first | exact b8 | exact below_next (toDK (Below.refl _ _)) b8)).size)
             repeat (first | with_reducible exact HS.out.low | with_reducible refine toDK ?_ | with_reducible refine Below.setCell ?_ (by first | with_reducible exact Nat.le_refl _ | (dsimp only; omega)) _))
        | (refine ⟨W4.heap.size, aL, nL, cL, aO, nO, cO, aF, nF, cF, by with_reducible rfl, ?_, ?_, ?_, ?_, ?_⟩
           · exact heap_setCell_same _ _ 5 _ _ _ (heap_setCell_same _ _ 4 _ _ _ (heap_setCell_same _ _ 3 _ _ _ (heap_setCell_same _ _ 2 _ _ _ (heap_setCell_same _ _ 1 _ _ _ (heap_setCell_same _ _ 0 _ _ _ ((bz.block W4.heap.size (by exact hs8 (by simp))).trans ((b8.block W4.heap.size (by simp)).trans (heap_alloc_new W4 _))))))))
           · exact HL9.out.onlyN (g := W4.heap.size) (by repeat (first | with_reducible exact Only.refl _ _ | with_reducible refine Only.drewR ?_ | with_reducible refine Only.set ?_ _ _)) (row_not6 ((bz.block W4.heap.size (by exact hs8 (by simp))).trans ((b8.block W4.heap.size (by simp)).trans (heap_alloc_new W4 _))) HL9.out)
           · exact HO9.out.onlyN (g := W4.heap.size) (by repeat (first | with_reducible exact Only.refl _ _ | with_reducible refine Only.drewR ?_ | with_reducible refine Only.set ?_ _ _)) (row_not6 ((bz.block W4.heap.size (by exact hs8 (by simp))).trans ((b8.block W4.heap.size (by simp)).trans (heap_alloc_new W4 _))) HO9.out)
           · exact HF9.out.onlyN (g := W4.heap.size) (by repeat (first | with_reducible exact Only.refl _ _ | with_reducible refine Only.drewR ?_ | with_reducible refine Only.set ?_ _ _)) (row_not6 ((bz.block W4.heap.size (by exact hs8 (by simp))).trans ((b8.block W4.heap.size (by simp)).trans (heap_alloc_new W4 _))) HF9.out)
           · have hge : W4.heap.size ≤ W4.heap.size := (by first | exact Nat.le_refl _ | exact (show Below W4.heap.size W4 w8 from below_next (Below.refl _ _) (by first | exact b8 | exact below_next (toDK (Below.refl _ _)) b8)).size)
             repeat (first | with_reducible exact HS.out.low | with_reducible refine toDK ?_ | with_reducible refine Below.setCell ?_ (by first | with_reducible exact Nat.le_refl _ | (dsimp only; omega)) _))
        | exact ⟨wz.heap.size, aL, nL, cL, aO, nO, cO, aF, nF, cF, by with_reducible rfl, heap_alloc_new _ _, HL9.out.below (by repeat (first | with_reducible exact Below.refl _ _ | with_reducible refine toDK ?_ | with_reducible refine Below.alloc ?_ (by first | exact Nat.le_refl _ | omega | (simp; omega)) _ | with_reducible refine Below.setCell ?_ (by first | with_reducible exact Nat.le_refl _ | (dsimp only; omega)) _)), HO9.out.below (by repeat (first | with_reducible exact Below.refl _ _ | with_reducible refine toDK ?_ | with_reducible refine Below.alloc ?_ (by first | exact Nat.le_refl _ | omega | (simp; omega)) _ | with_reducible refine Below.setCell ?_ (by first | with_reducible exact Nat.le_refl _ | (dsimp only; omega)) _)), HF9.out.below (by repeat (first | with_reducible exact Below.refl _ _ | with_reducible refine toDK ?_ | with_reducible refine Below.alloc ?_ (by first | exact Nat.le_refl _ | omega | (simp; omega)) _ | with_reducible refine Below.setCell ?_ (by first | with_reducible exact Nat.le_refl _ | (dsimp only; omega)) _)), (HS.out.step (by repeat (first | with_reducible exact Below.refl _ _ | with_reducible refine toDK ?_ | with_reducible refine Below.alloc ?_ (by first | exact Nat.le_refl _ | omega | (simp; omega)) _ | with_reducible refine Below.setCell ?_ (by first | with_reducible exact Nat.le_refl _ | (dsimp only; omega)) _))).low⟩
  case rest =>
    obtain ⟨g, aL, nL, cL, aO, nO, cO, aF, nF, cF, rfl, hg, hL, hO, hF, bc⟩ := hcut
    have gg := (Array.getElem?_eq_some_iff.1 hg).1
    have KE := Lib.hid (fun W (hb : Below wc.heap.size wc W) => (show (W.cell? ⟨w3.heap.size, 0, none⟩ = some (.int .i64 M.ep) ∧ W.cell? ⟨w3.heap.size, 1, none⟩ = some (.int .i64 M.nx) ∧ W.cell? ⟨w3.heap.size, 2, none⟩ = some (.slice da dn dc)) ∧ (W.cell? ⟨g, 0, none⟩ = some (.int .i64 M.ep) ∧ W.cell? ⟨g, 1, none⟩ = some (.int .i64 M.nx) ∧ W.cell? ⟨g, 2, none⟩ = some (.slice aL nL cL) ∧ W.cell? ⟨g, 3, none⟩ = some (.slice aO nO cO) ∧ W.cell? ⟨g, 4, none⟩ = some (.slice aF nF cF) ∧ W.cell? ⟨g, 5, none⟩ = some (.int .i64 M.e)) from ⟨(KD.out _ (below_next bc hb)).2, (c6K ((hb.block _ gg).trans hg)).1⟩))
    have HS := Lib.hid (((((((EnvS.start wc).add (Stable.row encS 4 da dn dc M.l) (hd4.out.below bc)).add (Stable.row encS 4 oa on oc M.old) (ho4.out.below bc)).add (Stable.row encS 4 fa fn fc M.fresh) (hf4.out.below bc)).add (Stable.row encS 4 aL nL cL M.l) hL).add (Stable.row encS 4 aO nO cO M.old) hO).add (Stable.row encS 4 aF nF cF M.fresh) hF)
    clear hL hO hF hg HS1
    go_upto_region 5 with fail
    (first | go_region_held3 (fun W => (W.cell? ⟨w3.heap.size, 0, none⟩ = some (.int .i64 M.ep) ∧ W.cell? ⟨w3.heap.size, 1, none⟩ = some (.int .i64 M.nx) ∧ W.cell? ⟨w3.heap.size, 2, none⟩ = some (.slice da dn dc)) ∧ (W.cell? ⟨g, 0, none⟩ = some (.int .i64 M.ep) ∧ W.cell? ⟨g, 1, none⟩ = some (.int .i64 M.nx) ∧ W.cell? ⟨g, 2, none⟩ = some (.slice aL nL cL) ∧ W.cell? ⟨g, 3, none⟩ = some (.slice aO nO cO) ∧ W.cell? ⟨g, 4, none⟩ = some (.slice aF nF cF) ∧ W.cell? ⟨g, 5, none⟩ = some (.int .i64 M.e))) (exact KE.out _ (HS.out.step (by repeat (first | with_reducible exact Below.refl _ _ | with_reducible refine toDK ?_ | with_reducible refine Below.alloc ?_ (by first | exact Nat.le_refl _ | omega | (simp; omega)) _ | with_reducible refine Below.setCell ?_ (by first | with_reducible exact Nat.le_refl _ | (dsimp only; omega)) _))).low) ((first
      | (go_at_call 12; (with_reducible refine (awake8_any _).mono ?_); rintro e wa ⟨rfl, ba⟩; replace HS := Lib.hid ((HS.out.step (by repeat (first | with_reducible exact Below.refl _ _ | with_reducible refine toDK ?_ | with_reducible refine Below.alloc ?_ (by first | exact Nat.le_refl _ | omega | (simp; omega)) _ | with_reducible refine Below.setCell ?_ (by first | with_reducible exact Nat.le_refl _ | (dsimp only; omega)) _))).step ba); clear ba)
      | (go_at_call 13; (with_reducible refine (ref8_any M.ep M.nx da dn dc M.l _ ((HS.out.step (by repeat (first | with_reducible exact Below.refl _ _ | with_reducible refine toDK ?_ | with_reducible refine Below.alloc ?_ (by first | exact Nat.le_refl _ | omega | (simp; omega)) _ | with_reducible refine Below.setCell ?_ (by first | with_reducible exact Nat.le_refl _ | (dsimp only; omega)) _))).get (fun W => RArg encS 4 W da dn dc M.l) (by repeat (first | exact List.mem_cons_self | apply List.mem_cons_of_mem))) ml).mono ?_); rintro e wa ⟨ka, kn, kc, rfl, hk, _, ba⟩; replace HS := Lib.hid (((HS.out.step (by repeat (first | with_reducible exact Below.refl _ _ | with_reducible refine toDK ?_ | with_reducible refine Below.alloc ?_ (by first | exact Nat.le_refl _ | omega | (simp; omega)) _ | with_reducible refine Below.setCell ?_ (by first | with_reducible exact Nat.le_refl _ | (dsimp only; omega)) _))).step ba).add (Stable.row encS 4 ka kn kc M.l) hk); clear ba hk)
      | (go_at_call 27; (with_reducible refine (same8_any M.ep M.nx ka aL kn nL kc cL M.l _ ((HS.out.step (by repeat (first | with_reducible exact Below.refl _ _ | with_reducible refine toDK ?_ | with_reducible refine Below.alloc ?_ (by first | exact Nat.le_refl _ | omega | (simp; omega)) _ | with_reducible refine Below.setCell ?_ (by first | with_reducible exact Nat.le_refl _ | (dsimp only; omega)) _))).get (fun W => RArg encS 4 W ka kn kc M.l) (by repeat (first | exact List.mem_cons_self | apply List.mem_cons_of_mem))) ((HS.out.step (by repeat (first | with_reducible exact Below.refl _ _ | with_reducible refine toDK ?_ | with_reducible refine Below.alloc ?_ (by first | exact Nat.le_refl _ | omega | (simp; omega)) _ | with_reducible refine Below.setCell ?_ (by first | with_reducible exact Nat.le_refl _ | (dsimp only; omega)) _))).get (fun W => RArg encS 4 W aL nL cL M.l) (by repeat (first | exact List.mem_cons_self | apply List.mem_cons_of_mem)))).mono ?_); rintro e wa ⟨rfl, ba⟩; replace HS := Lib.hid ((HS.out.step (by repeat (first | with_reducible exact Below.refl _ _ | with_reducible refine toDK ?_ | with_reducible refine Below.alloc ?_ (by first | exact Nat.le_refl _ | omega | (simp; omega)) _ | with_reducible refine Below.setCell ?_ (by first | with_reducible exact Nat.le_refl _ | (dsimp only; omega)) _))).step ba); clear ba)
      | (go_at_call 29; (with_reducible refine (refs8_any oa on oc M.old _ mo ((HS.out.step (by repeat (first | with_reducible exact Below.refl _ _ | with_reducible refine toDK ?_ | with_reducible refine Below.alloc ?_ (by first | exact Nat.le_refl _ | omega | (simp; omega)) _ | with_reducible refine Below.setCell ?_ (by first | with_reducible exact Nat.le_refl _ | (dsimp only; omega)) _))).get (fun W => RArg encS 4 W oa on oc M.old) (by repeat (first | exact List.mem_cons_self | apply List.mem_cons_of_mem)))).mono ?_); rintro e wa ⟨oa2, on2, oc2, rfl, hk, _, ba⟩; replace HS := Lib.hid (((HS.out.step (by repeat (first | with_reducible exact Below.refl _ _ | with_reducible refine toDK ?_ | with_reducible refine Below.alloc ?_ (by first | exact Nat.le_refl _ | omega | (simp; omega)) _ | with_reducible refine Below.setCell ?_ (by first | with_reducible exact Nat.le_refl _ | (dsimp only; omega)) _))).step ba).add (Stable.row encS 4 oa2 on2 oc2 M.old) hk); clear ba hk)
      | (go_at_call 29; (with_reducible refine (refs8_any fa fn fc M.fresh _ mf ((HS.out.step (by repeat (first | with_reducible exact Below.refl _ _ | with_reducible refine toDK ?_ | with_reducible refine Below.alloc ?_ (by first | exact Nat.le_refl _ | omega | (simp; omega)) _ | with_reducible refine Below.setCell ?_ (by first | with_reducible exact Nat.le_refl _ | (dsimp only; omega)) _))).get (fun W => RArg encS 4 W fa fn fc M.fresh) (by repeat (first | exact List.mem_cons_self | apply List.mem_cons_of_mem)))).mono ?_); rintro e wa ⟨fa2, fn2, fc2, rfl, hk, _, ba⟩; replace HS := Lib.hid (((HS.out.step (by repeat (first | with_reducible exact Below.refl _ _ | with_reducible refine toDK ?_ | with_reducible refine Below.alloc ?_ (by first | exact Nat.le_refl _ | omega | (simp; omega)) _ | with_reducible refine Below.setCell ?_ (by first | with_reducible exact Nat.le_refl _ | (dsimp only; omega)) _))).step ba).add (Stable.row encS 4 fa2 fn2 fc2 M.fresh) hk); clear ba hk)
      | (go_at_call 28; (with_reducible refine (samel8_any oa2 aO on2 nO oc2 cO M.old _ ((HS.out.step (by repeat (first | with_reducible exact Below.refl _ _ | with_reducible refine toDK ?_ | with_reducible refine Below.alloc ?_ (by first | exact Nat.le_refl _ | omega | (simp; omega)) _ | with_reducible refine Below.setCell ?_ (by first | with_reducible exact Nat.le_refl _ | (dsimp only; omega)) _))).get (fun W => RArg encS 4 W oa2 on2 oc2 M.old) (by repeat (first | exact List.mem_cons_self | apply List.mem_cons_of_mem))) ((HS.out.step (by repeat (first | with_reducible exact Below.refl _ _ | with_reducible refine toDK ?_ | with_reducible refine Below.alloc ?_ (by first | exact Nat.le_refl _ | omega | (simp; omega)) _ | with_reducible refine Below.setCell ?_ (by first | with_reducible exact Nat.le_refl _ | (dsimp only; omega)) _))).get (fun W => RArg encS 4 W aO nO cO M.old) (by repeat (first | exact List.mem_cons_self | apply List.mem_cons_of_mem)))).mono ?_); rintro e wa ⟨rfl, ba⟩; replace HS := Lib.hid ((HS.out.step (by repeat (first | with_reducible exact Below.refl _ _ | with_reducible refine toDK ?_ | with_reducible refine Below.alloc ?_ (by first | exact Nat.le_refl _ | omega | (simp; omega)) _ | with_reducible refine Below.setCell ?_ (by first | with_reducible exact Nat.le_refl _ | (dsimp only; omega)) _))).step ba); clear ba)
      | (go_at_call 28; (with_reducible refine (samel8_any fa2 aF fn2 nF fc2 cF M.fresh _ ((HS.out.step (by repeat (first | with_reducible exact Below.refl _ _ | with_reducible refine toDK ?_ | with_reducible refine Below.alloc ?_ (by first | exact Nat.le_refl _ | omega | (simp; omega)) _ | with_reducible refine Below.setCell ?_ (by first | with_reducible exact Nat.le_refl _ | (dsimp only; omega)) _))).get (fun W => RArg encS 4 W fa2 fn2 fc2 M.fresh) (by repeat (first | exact List.mem_cons_self | apply List.mem_cons_of_mem))) ((HS.out.step (by repeat (first | with_reducible exact Below.refl _ _ | with_reducible refine toDK ?_ | with_reducible refine Below.alloc ?_ (by first | exact Nat.le_refl _ | omega | (simp; omega)) _ | with_reducible refine Below.setCell ?_ (by first | with_reducible exact Nat.le_refl _ | (dsimp only; omega)) _))).get (fun W => RArg encS 4 W aF nF cF M.fresh) (by repeat (first | exact List.mem_cons_self | apply List.mem_cons_of_mem)))).mono ?_); rintro e wa ⟨rfl, ba⟩; replace HS := Lib.hid ((HS.out.step (by repeat (first | with_reducible exact Below.refl _ _ | with_reducible refine toDK ?_ | with_reducible refine Below.alloc ?_ (by first | exact Nat.le_refl _ | omega | (simp; omega)) _ | with_reducible refine Below.setCell ?_ (by first | with_reducible exact Nat.le_refl _ | (dsimp only; omega)) _))).step ba); clear ba))) | fail)
    all_goals
      go_wp2_with fail
      go_ret
      exact ⟨ret_bool (by simp), below_next bw (below_next B4 (below_next bc (HS.out.step (by repeat (first | with_reducible exact Below.refl _ _ | with_reducible refine toDK ?_ | with_reducible refine Below.alloc ?_ (by first | exact Nat.le_refl _ | omega | (simp; omega)) _ | with_reducible refine Below.setCell ?_ (by first | with_reducible exact Nat.le_refl _ | (dsimp only; omega)) _))).low))⟩
theorem chartApplies_walk (ep nx : Int) (a : Option Addr) (n c : Nat) (l : List Sd) (k id x : Int) (w : World) (h : RArg encS 4 w a n c l) :
    Calls Try.prog 4 #[.agg #[.int .i64 ep, .int .i64 nx, .slice a n c], .agg #[.int .i64 k, .int .i64 id, .int .i64 x]] w (TruePost w) := by
  have hz : (n : Int) ≤ 9223372036854775807 := by have h1 := h.1; have h2 := h.2.1; omega
  by_cases hl : n ≤ 60
  · exact capplies_in ep nx a n c l k id x w h hl
  · have HF := Lib.hid (fun W => few8_any ep nx a n c W hz (decide_eq_false hl))
    have bw : Below w.heap.size w ((w.alloc (.cells #[.int .i64 ep, .int .i64 nx, .slice a n c] 24)).alloc (.cells #[.int .i64 k, .int .i64 id, .int .i64 x] 49)) := ((Below.refl _ _).alloc (Nat.le_refl _) _).alloc (by simp) _
    clear h
    go_enter Try.func4, Try.ntmps4
    go_wp2_with (first
      | (go_at_call 11; (with_reducible refine (HF.out _).mono ?_); rintro e w2 ⟨rfl, b2⟩)
      | (go_at_call 12; (with_reducible refine (awake8_any _).mono ?_); rintro e w3 ⟨rfl, b3⟩))
    go_ret
    exact ⟨rfl, below_next bw (below_next b2 b3)⟩
end Go.Proofs.Ytcpcdinfagdlhaa
