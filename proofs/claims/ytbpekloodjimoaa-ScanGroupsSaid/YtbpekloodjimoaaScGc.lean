/-
  CONTRACTS: the document's Total, Groups.
-/
import Derived.Test.YtbpekloodjimoaaScGb
namespace Go.Proofs.Ytbpekloodjimoaa
open Go.RowKit Go.Shelf

theorem gf_bd {k : Int} {P : List Sp} (h : small P) : (0 ≤ (gfP k P).2.1 ∧ (gfP k P).2.1 ≤ 100000) ∧ -1152921504606846976 ≤ (gfP k P).2.2.1 ∧ (gfP k P).2.2.1 ≤ 1152921504606846976 := by
  have h1 := sumV_bd P h.2
  have h2 := h.1
  have e := gf_n k P
  refine ⟨by rw [e]; omega, ?_⟩
  unfold gfP
  split
  · constructor <;> simp
  · show -1152921504606846976 ≤ sumV P ∧ sumV P ≤ 1152921504606846976
    omega
theorem gp_eta (g : Gp) : g = (g.1, g.2.1, g.2.2.1, g.2.2.2.1, g.2.2.2.2) := rfl
theorem moreE_any (G : Gp) (v : Int) (w : World) (hn : 0 ≤ G.2.1 ∧ G.2.1 ≤ 100000) (hs : -1152921504606846976 ≤ G.2.2.1 ∧ G.2.2.1 ≤ 1152921504606846976) (hv : -1099511627776 ≤ v ∧ v ≤ 1099511627776) :
    Calls Try.prog 38 #[.agg #[.int .i64 G.1, .int .i64 G.2.1, .int .i64 G.2.2.1, .int .i64 G.2.2.2.1, .int .i64 G.2.2.2.2], .int .i64 v] w (GpPostD (moreG G v) w) := rmore_any G.1 G.2.1 G.2.2.1 G.2.2.2.1 G.2.2.2.2 v w hn hs hv
theorem set5L {W : World} {b : Nat} {x y z u v x' y' z' u' v' : Value} {t : TypeId} (h : W.heap[b]? = some (.cells #[x, y, z, u, v] t)) :
    (((((W.setCell ⟨b, 0, none⟩ x').setCell ⟨b, 1, none⟩ y').setCell ⟨b, 2, none⟩ z').setCell ⟨b, 3, none⟩ u').setCell ⟨b, 4, none⟩ v').heap[b]? = some (.cells #[x', y', z', u', v'] t) :=
  heap_setCell_same _ _ 4 _ _ _ (heap_setCell_same _ _ 3 _ _ _ (heap_setCell_same _ _ 2 _ _ _ (heap_setCell_same _ _ 1 _ _ _ (heap_setCell_same _ _ 0 _ _ _ h))))
theorem small_take {M : List Sp} (h : small M) (f : Sp → Bool) (j : Nat) : small ((M.take j).filter f) :=
  ⟨Nat.le_trans (List.length_filter_le _ _) (h.take j).1, fun p hp => (h.take j).2 p (List.mem_filter.1 hp).1⟩
set_option maxRecDepth 100000 in
set_option maxHeartbeats 4000000 in
theorem rtotal_any (a : Option Addr) (n c : Nat) (l : List Sp) (a3 : Option Addr) (n3 c3 : Nat) (on : List Sp) (w : World) (hL : Arg w a n c l) (hO : Arg w a3 n3 c3 on) (zl : l.length ≤ 100000) :
    Calls Try.prog 17 #[.slice a n c, .slice a3 n3 c3] w (GpPostD (totP (clipP l on)) w) := by
  obtain ⟨W1, hW1⟩ : ∃ W1, w.alloc (.cells #[.int .i64 0, .int .i64 0, .int .i64 0, .int .i64 0, .int .i64 0] 54) = W1 := ⟨_, rfl⟩
  have bw : Below w.heap.size w W1 := by rw [← hW1]; exact (Below.refl _ _).alloc (Nat.le_refl _) _
  have g1 : w.heap.size < W1.heap.size := by rw [← hW1]; simp
  have hr1 : W1.heap[w.heap.size]? = some (.cells #[.int .i64 0, .int .i64 0, .int .i64 0, .int .i64 0, .int .i64 0] 54) := by rw [← hW1]; exact heap_alloc_new _ _
  have HX := Lib.hid (fun W (hb : Below W1.heap.size W1 W) => (hb.block _ g1).trans hr1)
  have CL := Lib.hid (rtclip_any a n c l a3 n3 c3 on W1 (hL.below bw) (hO.below bw) zl)
  have HSM := Lib.hid (tbl_small (clip_tbl l on)).1
  have hM4 : (clipP l on).length ≤ 4096 := HSM.out.1
  rw [show totP (clipP l on) = gfP 0 (clipP l on) from rfl]
  generalize clipP l on = M at *
  clear hL hO hr1
  go_enter Try.func17, Try.ntmps17
  go_wp2_with (go_at_call 39; (with_reducible refine CL.out.mono ?_); rintro e w2 ⟨a8, n8, c8, rfl, h8, b2⟩; obtain rfl : n8 = _ := h8.1; have H8 := Lib.hid h8; clear h8)
  have hx2 := heap_alloc_new w2 (.cells #[.int .i64 0, .int .i64 0, .int .i64 0, .int .i64 0, .int .i64 0] 54)
  have bx2 := (Below.refl w2.heap.size w2).alloc (Nat.le_refl _) (.cells #[.int .i64 0, .int .i64 0, .int .i64 0, .int .i64 0, .int .i64 0] 54)
  go_loopw [7] (fun i wr => ∃ j : Nat, i = .int .i64 (j : Int) ∧ j ≤ M.length ∧ Hid (wr.heap[w2.heap.size]? = some (.cells #[.int .i64 (gfP 0 (M.take j)).1, .int .i64 (gfP 0 (M.take j)).2.1, .int .i64 (gfP 0 (M.take j)).2.2.1, .int .i64 (gfP 0 (M.take j)).2.2.2.1, .int .i64 (gfP 0 (M.take j)).2.2.2.2] 54)) ∧ Below w2.heap.size w2 wr) (fun i _ => M.length - (intOf i).toNat)
  case atStart => exact ⟨0, rfl, Nat.zero_le _, Lib.hid hx2, bx2⟩
  case round =>
    obtain ⟨j, rfl, hj, HG, hbl⟩ := hrel
    by_cases hlt : j < M.length
    · have hjz : (j : Int) < (M.length : Int) := by omega
      obtain ⟨b, off, e, hb, c0, c1⟩ := (H8.out.below hbl).2.2.2.2 j hlt
      subst e
      have hyv := HSM.out.2 _ (getD_memS hlt)
      have HN := Lib.hid (show gfP 0 (M.take (j + 1)) = moreG (gfP 0 (M.take j)) (M.getD j (0, 0)).2 by rw [takeS_more hlt, gf_snoc])
      obtain ⟨hbn, hbs⟩ := gf_bd (k := 0) (HSM.out.take j)
      generalize M.getD j (0, 0) = p at c0 c1 hyv HN
      obtain ⟨x, y⟩ := p
      dsimp only at c0 c1 hyv
      generalize gfP 0 (M.take j) = G at HG HN hbn hbs
      have hgx := heap_ltS HG.out
      obtain ⟨z0, z1, z2, z3, z4⟩ := cell5 HG.out
      go_wp2_with fail
      go_still_tail 6, (by kernel_rfl)
      change wpList _ _ _ _ _ wr.drew
      obtain ⟨wd, hwd⟩ : ∃ wd, wr.drew = wd := ⟨_, rfl⟩
      have bd : Below wr.heap.size wr wd := by rw [← hwd]; exact toDS (Below.refl _ _)
      rw [hwd]
      replace hwd := Lib.hid hwd
      have Gd := (bd.block w2.heap.size hgx).trans HG.out
      have hgd := heap_ltS Gd
      replace Gd := Lib.hid Gd
      go_wp2_with (go_at_call 38; (with_reducible refine (moreE_any G y _ hbn hbs hyv).mono ?_); rintro e w11 ⟨rfl, b11⟩; have G11 := (b11.block w2.heap.size hgd).trans Gd.out; obtain ⟨f0, f1, f2, f3, f4⟩ := froz5 G11; obtain ⟨v0, v1, v2, v3, v4⟩ := cell5 G11; have hb11 := below_next hbl (below_next bd b11); replace G11 := Lib.hid G11)
      go_roundw
      case rel => exact ⟨j + 1, by go_num, by omega, Lib.hid (by rw [HN.out]; exact set5L G11.out), (by repeat (first | exact hb11 | refine Below.setCell ?_ (by first | exact Nat.le_refl _ | omega) _))⟩
      case measure => simp [intOf]; omega
    · have hjz : ¬ (j : Int) < (M.length : Int) := by omega
      rw [List.take_of_length_le (by omega)] at HG
      obtain ⟨z0, z1, z2, z3, z4⟩ := cell5 HG.out
      have hb2 := below_next b2 hbl
      obtain ⟨y0, y1, y2, y3, y4⟩ := cell5 (HX.out _ hb2)
      obtain ⟨f0, f1, f2, f3, f4⟩ := froz5 (HX.out _ hb2)
      generalize gfP 0 M = G at *
      go_wp2_with fail
      exact bodyPost_ret (v := .agg #[.int .i64 G.1, .int .i64 G.2.1, .int .i64 G.2.2.1, .int .i64 G.2.2.2.1, .int .i64 G.2.2.2.2]) (by simp [results, Try.results17, go_sem, y0, y1, y2, y3, y4]) rfl ⟨rfl, (by repeat (first | exact below_next bw hb2 | refine Below.setCell ?_ (by first | exact Nat.le_refl _ | omega) _))⟩
end Go.Proofs.Ytbpekloodjimoaa
