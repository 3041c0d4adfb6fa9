/-
  THE STATEMENT 'splicelaw22.ScanPages'.
-/
import Derived.Test.YthcideijpmbpnaaScQ
import Derived.Lib.SmallJoins
namespace Go.Proofs.Ythcideijpmbpnaa
open Go.RowKit Go.Shelf Go.ChangeShapes Go.WideShapes Go.Deep Go.ChangeAt

set_option maxRecDepth 100000 in
set_option maxHeartbeats 1500000 in
theorem rpage_any (a : Option Addr) (n c : Nat) (l : List Sp) (a3 : Option Addr) (n3 c3 : Nat) (on : List Sp) (af lim : Int) (w : World) (hL : Arg w a n c l) (hO : Arg w a3 n3 c3 on) (zl : l.length ≤ 100000) :
    Calls Try.prog 13 #[.slice a n c, .agg #[.slice a3 n3 c3, .int .i64 af, .int .i64 lim]] w (PagedPost a3 (pageP l on af lim) w) := by
  by_cases hgood : tblB l = true ∧ curB on af lim = true
  · obtain ⟨h1, h2⟩ := hgood
    have hb := (curB_iff _ _ _).1 h2
    obtain ⟨k, rfl⟩ : ∃ k : Nat, lim = (k : Int) := ⟨lim.toNat, by omega⟩
    have := rpage_good a n c l a3 n3 c3 on af k w hL hO zl h1 h2
    rw [show pageP l on af (k : Int) = ⟨(l.filter (passB on af)).take k, on, nextAf af ((l.filter (passB on af)).take k), (k : Int), decide (k < (l.filter (passB on af)).length), 0⟩ from by
      rw [← behP_filter h1 hb.1]
      exact if_pos ⟨h1, h2⟩]
    exact this
  · have hR : pageP l on af lim = ⟨[], [], 0, 0, false, 1⟩ := if_neg hgood
    rw [hR]
    obtain ⟨W1, hW1⟩ : ∃ W1, w.alloc (.cells #[.slice a3 n3 c3, .int .i64 af, .int .i64 lim] 34) = W1 := ⟨_, rfl⟩
    have bw : Below w.heap.size w W1 := by rw [← hW1]; exact (Below.refl _ _).alloc (Nat.le_refl _) _
    have g1 : w.heap.size < W1.heap.size := by rw [← hW1]; simp
    have hr1 : W1.heap[w.heap.size]? = some (.cells #[.slice a3 n3 c3, .int .i64 af, .int .i64 lim] 34) := by rw [← hW1]; exact heap_alloc_new _ _
    obtain ⟨W2, hW2⟩ : ∃ W2, W1.alloc (.cells #[.slice none 0 0, .slice none 0 0, .int .i64 0, .int .i64 0, .bool false, .int .i64 0] 36) = W2 := ⟨_, rfl⟩
    have b2 : Below W1.heap.size W1 W2 := by rw [← hW2]; exact (Below.refl _ _).alloc (Nat.le_refl _) _
    have g2 : W1.heap.size < W2.heap.size := by rw [← hW2]; simp
    have hr2 : W2.heap[W1.heap.size]? = some (.cells #[.slice none 0 0, .slice none 0 0, .int .i64 0, .int .i64 0, .bool false, .int .i64 0] 36) := by rw [← hW2]; exact heap_alloc_new _ _
    have hr12 := (b2.block _ g1).trans hr1
    have KX := Lib.hid (fun W (h : Below W2.heap.size W2 W) => (h.block _ (Nat.lt_trans g1 g2)).trans hr12)
    have KR := Lib.hid (fun W (h : Below W2.heap.size W2 W) => (h.block _ g2).trans hr2)
    obtain ⟨q0, q1, q2⟩ := cell3 hr12
    have HL := Lib.hid ((hL.below bw).below b2)
    have HO := Lib.hid ((hO.below bw).below b2)
    obtain ⟨r1, h1⟩ : ∃ r, tblB l = r := ⟨_, rfl⟩
    obtain ⟨r2, h2⟩ : ∃ r, curB on af lim = r := ⟨_, rfl⟩
    have TC := Lib.hid (fun W (h : Below W2.heap.size W2 W) => h1 ▸ rtcheck_any a n c l W (HL.out.below h))
    have IC := Lib.hid (fun W (h : Below W2.heap.size W2 W) => h2 ▸ rcur_any a3 n3 c3 on af lim W (HO.out.below h))
    have HB := Lib.hid (Below.refl W2.heap.size W2)
    rw [h1, h2] at hgood
    clear hL hO hr1 hr2 hr12 h1 h2 hR
    cases r1 <;> cases r2
    all_goals first
      | exact absurd ⟨rfl, rfl⟩ hgood
      | (go_enter Try.func13, Try.ntmps13
         go_wp2_with (first | (go_at_call 39; (with_reducible refine (TC.out _ HB.out).mono ?_); rintro e wf ⟨rfl, hbf⟩; replace HB := Lib.hid (below_next HB.out hbf); clear hbf; obtain ⟨q0, q1, q2⟩ := cell3 (KX.out _ HB.out); obtain ⟨y0, y1, y2, y3, y4, y5⟩ := cell6 (KR.out _ HB.out); obtain ⟨e0, e1, e2, e3, e4, e5⟩ := froz6 (KR.out _ HB.out)) | (go_at_call 40; (with_reducible refine (IC.out _ HB.out).mono ?_); rintro e wf ⟨rfl, hbf⟩; replace HB := Lib.hid (below_next HB.out hbf); clear hbf; obtain ⟨q0, q1, q2⟩ := cell3 (KX.out _ HB.out); obtain ⟨y0, y1, y2, y3, y4, y5⟩ := cell6 (KR.out _ HB.out); obtain ⟨e0, e1, e2, e3, e4, e5⟩ := froz6 (KR.out _ HB.out)))
         exact bodyPost_ret (v := .agg #[.slice none 0 0, .slice none 0 0, .int .i64 0, .int .i64 0, .bool false, .int .i64 1]) (by simp [results, Try.results13, go_sem, y0, y1, y2, y3, y4, y5]) rfl ⟨none, 0, 0, none, 0, 0, rfl, Arg.none_nil (by unfold maxLen; omega), Arg.none_nil (by unfold maxLen; omega), (fun q => absurd rfl q), .inr rfl, (by repeat (first | with_reducible exact below_next bw (below_next b2 HB.out) | with_reducible refine Below.setCell ?_ (by first | with_reducible exact Nat.le_refl _ | (dsimp only; omega)) _))⟩)
set_option maxRecDepth 100000 in
theorem curVal_of {H : Type} {enc : TypeId × Value → H} {w : World} {r : Reach} {b0 base : Nat} {spare : Nat → Bool} {held : Bool} {v : Value} {d : DataW H} {p : List MemPlace}
    (hv : Value.okWide Try.prog w r b0 25 v) (h : DataW.Trod enc Try.prog w base spare held 25 v d p) :
    ∃ (a : Option Addr) (n c : Nat) (on : List Sp) (af lim : Int), Arg w a n c on ∧ v = .agg #[.slice a n c, .int .i64 af, .int .i64 lim] := by
  obtain ⟨v0, v1, v2, y0, y1, y2, n, rfl, _, _, r0, r1, r2⟩ := Go.Joins.open_agg3 Try.underlying25 (by kernel_rfl) (by kernel_rfl) hv h
  obtain ⟨af, e1, _, _⟩ := DataW.trod_int Try.underlying3 r1
  obtain ⟨lim, e2, _, _⟩ := DataW.trod_int Try.underlying3 r2
  obtain ⟨a, nn, c, on, e0, hA⟩ := argP_of Try.underlying23 Try.underlying78 (by kernel_rfl) rfl rfl rfl rfl (by kernel_rfl) r0
  simp at e1 e2
  rw [e0, e1, e2]
  exact ⟨a, nn, c, on, af, lim, hA, rfl⟩
theorem set6K {W : World} {b : Nat} {x y z u v s x' y' z' u' v' s' : Value} {t : TypeId} (h : W.heap[b]? = some (.cells #[x, y, z, u, v, s] t)) :
    (((((W.setCell ⟨b, 0, none⟩ x').setCell ⟨b, 1, none⟩ y').setCell ⟨b, 2, none⟩ z').setCell ⟨b, 3, none⟩ u').setCell ⟨b, 4, none⟩ v' |>.setCell ⟨b, 5, none⟩ s').heap[b]? = some (.cells #[x', y', z', u', v', s'] t) := by
  have h0 := heap_setCell_same _ _ 0 _ _ x' h
  have h1 := heap_setCell_same _ _ 1 _ _ y' h0
  have h2 := heap_setCell_same _ _ 2 _ _ z' h1
  have h3 := heap_setCell_same _ _ 3 _ _ u' h2
  have h4 := heap_setCell_same _ _ 4 _ _ v' h3
  exact heap_setCell_same _ _ 5 _ _ s' h4
theorem pageP_small (l on : List Sp) (af lim : Int) (hl : l.length ≤ 100000) (ho : on.length ≤ 100000) : (pageP l on af lim).L.length ≤ 100000 ∧ (pageP l on af lim).on.length ≤ 100000 := by
  unfold pageP
  split
  · refine ⟨?_, ho⟩
    show ((behP l on af).take lim.toNat).length ≤ 100000
    have h1 : (clipP l on).length ≤ l.length := by
      unfold clipP
      split
      · exact List.length_filter_le _ _
      · simp
    unfold behP
    rw [List.length_take, List.length_drop]
    omega
  · exact ⟨by simp, by simp⟩
set_option maxRecDepth 100000 in
set_option maxHeartbeats 1500000 in
theorem scanPages_walk (a : Option Addr) (n c : Nat) (l : List Sp) (a3 : Option Addr) (n3 c3 : Nat) (on : List Sp) (af lim : Int) (w : World) (hL : Arg w a n c l) (hO : Arg w a3 n3 c3 on) :
    Calls Try.prog 3 #[.slice a n c, .agg #[.slice a3 n3 c3, .int .i64 af, .int .i64 lim]] w (TruePost w) := by
  have hz1 : (n : Int) ≤ 9223372036854775807 := by have := hL.1; have := hL.2.1; omega
  have hz2 : (n3 : Int) ≤ 9223372036854775807 := by have := hO.1; have := hO.2.1; omega
  obtain ⟨W1, hW1⟩ : ∃ W1, w.alloc (.cells #[.slice a3 n3 c3, .int .i64 af, .int .i64 lim] 25) = W1 := ⟨_, rfl⟩
  have bw : Below w.heap.size w W1 := by rw [← hW1]; exact (Below.refl _ _).alloc (Nat.le_refl _) _
  have g1 : w.heap.size < W1.heap.size := by rw [← hW1]; simp
  have hr1 : W1.heap[w.heap.size]? = some (.cells #[.slice a3 n3 c3, .int .i64 af, .int .i64 lim] 25) := by rw [← hW1]; exact heap_alloc_new _ _
  have KX := Lib.hid (fun W (h : Below W1.heap.size W1 W) => cell3 ((h.block _ g1).trans hr1))
  obtain ⟨q0, q1, q2⟩ := cell3 hr1
  obtain ⟨r, hr⟩ : ∃ r, decide (n ≤ 100 ∧ n3 ≤ 100) = r := ⟨_, rfl⟩
  have FW := Lib.hid (fun W => few22_any a n c a3 n3 c3 W hz1 hz2 hr)
  have HS := Lib.hid (((Env.mk (L := []) (Below.refl W1.heap.size W1) (by simp)).add (hO.below bw)).add (hL.below bw))
  cases r
  · clear hL hO hr hr1
    go_enter Try.func3, Try.ntmps3
    go_wp2_with (first | (go_at_call 10; (with_reducible refine (FW.out _).mono ?_); rintro e wf ⟨rfl, rfl⟩) | (go_at_call 11; (with_reducible refine (awake22_any _).mono ?_); rintro e wa ⟨rfl, hba⟩; replace HS := Lib.hid ((HS.out.step (by repeat (first | with_reducible exact Below.refl _ _ | with_reducible refine toDS ?_ | with_reducible refine Below.alloc ?_ (by first | exact Nat.le_refl _ | omega | (simp; omega)) _ | with_reducible refine Below.setCell ?_ (by first | with_reducible exact Nat.le_refl _ | (dsimp only; omega)) _))).step hba); clear hba))
    go_ret
    exact ⟨rfl, below_next bw HS.out.low⟩
  · have h100 := of_decide_eq_true hr
    have zl : l.length ≤ 100000 := by have := hL.1; omega
    have zo : on.length ≤ 100000 := by have := hO.1; omega
    obtain ⟨zp, zq⟩ := pageP_small l on af lim zl zo
    obtain ⟨⟨rL, ron, raf, rlim, rmore, re⟩, hP⟩ : ∃ r, pageP l on af lim = r := ⟨_, rfl⟩
    have PA := Lib.hid (fun W h1 h2 => hP ▸ page_any a n c l a3 n3 c3 on af lim W h1 h2)
    have RP := Lib.hid (fun W (x : Option Addr) (xn xc : Nat) (y : Option Addr) (yn yc : Nat) h1 h2 => hP ▸ rpage_any x xn xc l y yn yc on af lim W h1 h2 zl)
    rw [hP] at zp zq
    dsimp only at zp zq
    have HRO := Lib.hid (show ron ≠ [] → on ≠ [] from fun q e => q (by
      have h := congrArg PageR.on hP
      unfold pageP at h
      split at h
      · have h' : on = ron := h
        rw [← h', e]
      · exact h.symm))
    clear hL hO hr hr1 h100 hP
    go_enter Try.func3, Try.ntmps3
    go_upto_region 4 with (first | (go_at_call 10; (with_reducible refine (FW.out _).mono ?_); rintro e wf ⟨rfl, rfl⟩) | (go_at_call 12; (with_reducible refine (PA.out _ (HS.out.get (by repeat (first | exact List.mem_cons_self | apply List.mem_cons_of_mem))) (HS.out.get (by repeat (first | exact List.mem_cons_self | apply List.mem_cons_of_mem)))).mono ?_); rintro e wp ⟨a5, n5, c5, a6, n6, c6, rfl, h5, h6, hbp⟩; dsimp only at h5 h6 ⊢; replace HS := Lib.hid (((HS.out.step hbp).add h5).add h6); clear hbp))
    generalize hW5 : wp.alloc (.cells #[.slice a6 n6 c6, .int .i64 raf, .int .i64 rlim] 25) = W5
    have b5 : Below wp.heap.size wp W5 := by rw [← hW5]; exact (Below.refl _ _).alloc (Nat.le_refl _) _
    have g5 : wp.heap.size < W5.heap.size := by rw [← hW5]; simp
    have hr5 : W5.heap[wp.heap.size]? = some (.cells #[.slice a6 n6 c6, .int .i64 raf, .int .i64 rlim] 25) := by rw [← hW5]; exact heap_alloc_new _ _
    replace HS := Lib.hid (HS.out.step b5)
    have HL5 := HS.out.get (a := a) (n := n) (c := c) (l := l) (by repeat (first | exact List.mem_cons_self | apply List.mem_cons_of_mem))
    have HO5 := HS.out.get (a := a3) (n := n3) (c := c3) (l := on) (by repeat (first | exact List.mem_cons_self | apply List.mem_cons_of_mem))
    have HA5 := HS.out.get (a := a5) (n := n5) (c := c5) (l := rL) (by repeat (first | exact List.mem_cons_self | apply List.mem_cons_of_mem))
    have HA6 := HS.out.get (a := a6) (n := n6) (c := c6) (l := ron) (by repeat (first | exact List.mem_cons_self | apply List.mem_cons_of_mem))
    have HLOW := Lib.hid HS.out.low
    have q := KX.out _ HS.out.low
    have g15 : w.heap.size < W5.heap.size := Nat.lt_of_lt_of_le g1 HS.out.low.size
    have KK := Lib.hid (fun W (h : Below W5.heap.size W5 W) => (show W.cell? ⟨w.heap.size, 0, none⟩ = some (.slice a3 n3 c3) ∧ W.cell? ⟨w.heap.size, 1, none⟩ = some (.int .i64 af) ∧ W.cell? ⟨w.heap.size, 2, none⟩ = some (.int .i64 lim) from ⟨(h.cell (p := ⟨w.heap.size, 0, none⟩) g15).trans q.1, (h.cell (p := ⟨w.heap.size, 1, none⟩) g15).trans q.2.1, (h.cell (p := ⟨w.heap.size, 2, none⟩) g15).trans q.2.2⟩))
    replace HS := Lib.hid ((((Env.mk (L := []) (Below.refl W5.heap.size W5) (by simp)).add HO5).add HL5))
    have HAA := Lib.hid (And.intro HA5 HA6)
    have HR5 := Lib.hid hr5
    clear h5 h6 HL5 HO5 HA5 HA6 q hr5
    replace hW5 := Lib.hid hW5
    replace hW1 := Lib.hid hW1
    go_cut [9] from 24 to 28 (fun p wx => ∃ (g : Nat) (aP : Option Addr) (nP cP : Nat) (aQ : Option Addr) (nQ cQ : Nat), p = .pointer (some ⟨g, 0, none⟩) ∧ wx.heap[g]? = some (.cells #[.slice aP nP cP, .slice aQ nQ cQ, .int .i64 raf, .int .i64 rlim, .bool rmore, .int .i64 re] 36) ∧ Hid (Arg wx aP nP cP rL ∧ Arg wx aQ nQ cQ ron) ∧ Below W5.heap.size W5 wx)
    case first =>
      go_region_held3 (fun W => W.cell? ⟨w.heap.size, 0, none⟩ = some (.slice a3 n3 c3) ∧ W.cell? ⟨w.heap.size, 1, none⟩ = some (.int .i64 af) ∧ W.cell? ⟨w.heap.size, 2, none⟩ = some (.int .i64 lim)) (exact KK.out _ (by have hsz0 := HS.out.low.size; repeat (first | with_reducible exact HS.out.low | with_reducible refine toDS ?_ | with_reducible refine Below.alloc ?_ (by first | omega | (simp; omega)) _ | with_reducible refine Below.setCell ?_ (by first | with_reducible exact Nat.le_refl _ | (dsimp only; omega)) _))) ((first | (go_at_call 14; (with_reducible refine (refs5_any a n c l _ zl ((HS.out.step (by repeat (first | with_reducible exact Below.refl _ _ | with_reducible refine toDS ?_ | with_reducible refine Below.alloc ?_ (by first | exact Nat.le_refl _ | omega | (simp; omega)) _ | with_reducible refine Below.setCell ?_ (by first | with_reducible exact Nat.le_refl _ | (dsimp only; omega)) _))).get (by repeat (first | exact List.mem_cons_self | apply List.mem_cons_of_mem)))).mono ?_); rintro e wa ⟨a7, n7, c7, rfl, h7, hba⟩; replace HS := Lib.hid (((HS.out.step (by repeat (first | with_reducible exact Below.refl _ _ | with_reducible refine toDS ?_ | with_reducible refine Below.alloc ?_ (by first | exact Nat.le_refl _ | omega | (simp; omega)) _ | with_reducible refine Below.setCell ?_ (by first | with_reducible exact Nat.le_refl _ | (dsimp only; omega)) _))).step hba).add h7)) | (go_at_call 15; (with_reducible refine (ref22_any a3 n3 c3 on af lim _ ((HS.out.step (by repeat (first | with_reducible exact Below.refl _ _ | with_reducible refine toDS ?_ | with_reducible refine Below.alloc ?_ (by first | exact Nat.le_refl _ | omega | (simp; omega)) _ | with_reducible refine Below.setCell ?_ (by first | with_reducible exact Nat.le_refl _ | (dsimp only; omega)) _))).get (by repeat (first | exact List.mem_cons_self | apply List.mem_cons_of_mem))) zo).mono ?_); rintro e wb ⟨a8, n8, c8, rfl, h8, hn8, hbb⟩; have HN8 := Lib.hid hn8; clear hn8; have H8 := Lib.hid h8; replace HS := Lib.hid (((HS.out.step (by repeat (first | with_reducible exact Below.refl _ _ | with_reducible refine toDS ?_ | with_reducible refine Below.alloc ?_ (by first | exact Nat.le_refl _ | omega | (simp; omega)) _ | with_reducible refine Below.setCell ?_ (by first | with_reducible exact Nat.le_refl _ | (dsimp only; omega)) _))).step hbb).add h8)) | (go_at_call 13; (with_reducible refine (RP.out _ _ _ _ _ _ _ ((HS.out.step (by repeat (first | with_reducible exact Below.refl _ _ | with_reducible refine toDS ?_ | with_reducible refine Below.alloc ?_ (by first | exact Nat.le_refl _ | omega | (simp; omega)) _ | with_reducible refine Below.setCell ?_ (by first | with_reducible exact Nat.le_refl _ | (dsimp only; omega)) _))).get (by repeat (first | exact List.mem_cons_self | apply List.mem_cons_of_mem))) ((HS.out.step (by repeat (first | with_reducible exact Below.refl _ _ | with_reducible refine toDS ?_ | with_reducible refine Below.alloc ?_ (by first | exact Nat.le_refl _ | omega | (simp; omega)) _ | with_reducible refine Below.setCell ?_ (by first | with_reducible exact Nat.le_refl _ | (dsimp only; omega)) _))).get (by repeat (first | exact List.mem_cons_self | apply List.mem_cons_of_mem)))).mono ?_); rintro e wc9 ⟨aP, nP, cP, aQ, nQ, cQ, rfl, hP1, hP2, hnP, hnQ, hbc⟩; dsimp only at hP1 hP2 hnP hnQ; have HP12 := Lib.hid (And.intro hP1 hP2); have HNP := Lib.hid hnP; have HNQ := Lib.hid hnQ; clear hnP hnQ; replace HS := Lib.hid ((((HS.out.step (by repeat (first | with_reducible exact Below.refl _ _ | with_reducible refine toDS ?_ | with_reducible refine Below.alloc ?_ (by first | exact Nat.le_refl _ | omega | (simp; omega)) _ | with_reducible refine Below.setCell ?_ (by first | with_reducible exact Nat.le_refl _ | (dsimp only; omega)) _))).step hbc).add hP1).add hP2); have hsb := hbb.size; have hsa := hba.size; have hsc := hbc.size; (try simp at hsa); (try simp at hsb); (try simp at hsc); (first | (have hz : wc9.heap[W5.heap.size]? = some (.cells #[.slice none 0 0, .slice none 0 0, .int .i64 0, .int .i64 0, .bool false, .int .i64 0] 36) := (hbc.block _ (by first | (simp; done) | (simp; omega) | omega)).trans ((hbb.block _ (by first | (simp; done) | (simp; omega) | omega)).trans ((hba.block _ (by simp)).trans (heap_alloc_new _ _))); obtain ⟨y0, y1, y2, y3, y4, y5⟩ := cell6 hz; obtain ⟨e0, e1, e2, e3, e4, e5⟩ := froz6 hz; have HZ6 := Lib.hid hz; clear hz) | (have hz : wc9.heap[wa.heap.size]? = some (.cells #[.slice none 0 0, .slice none 0 0, .int .i64 0, .int .i64 0, .bool false, .int .i64 0] 36) := (hbc.block _ (by first | (simp; done) | (simp; omega) | omega)).trans ((hbb.block _ (by simp)).trans (heap_alloc_new _ _)); obtain ⟨y0, y1, y2, y3, y4, y5⟩ := cell6 hz; obtain ⟨e0, e1, e2, e3, e4, e5⟩ := froz6 hz; have HZ6 := Lib.hid hz; clear hz) | (have hz : wc9.heap[wb.heap.size]? = some (.cells #[.slice none 0 0, .slice none 0 0, .int .i64 0, .int .i64 0, .bool false, .int .i64 0] 36) := (hbc.block _ (by simp)).trans (heap_alloc_new _ _); obtain ⟨y0, y1, y2, y3, y4, y5⟩ := cell6 hz; obtain ⟨e0, e1, e2, e3, e4, e5⟩ := froz6 hz; have HZ6 := Lib.hid hz; clear hz) | skip)) | fail))
      all_goals
        go_wp2_with fail
        go_meet
        first
          | (have h6 := set6K (x' := .slice aP nP cP) (y' := .slice aQ nQ cQ) (z' := .int .i64 raf) (u' := .int .i64 rlim) (v' := .bool rmore) (s' := .int .i64 re) HZ6.out
             refine ⟨_, aP, nP, cP, aQ, nQ, cQ, rfl, h6, Lib.hid ⟨?_, ?_⟩, ?_⟩
             rotate_left 2
             · exact (by have hsz0 := HS.out.low.size; repeat (first | with_reducible exact HS.out.low | with_reducible refine toDS ?_ | with_reducible refine Below.alloc ?_ (by first | omega | (simp; omega)) _ | with_reducible refine Below.setCell ?_ (by first | with_reducible exact Nat.le_refl _ | (dsimp only; omega)) _))
             · refine HP12.out.1.only (g := _) (by repeat (first | with_reducible exact OnlyS.refl _ _ | with_reducible refine OnlyS.drewR ?_ | with_reducible refine OnlyS.set ?_ _ _)) (fun q => ?_)
               obtain ⟨g', o', e', hg'⟩ := HNP.out q
               refine ⟨g', o', e', ?_⟩
               have hg2 := hg'
               try simp at hg2
               omega
             · refine HP12.out.2.only (g := _) (by repeat (first | with_reducible exact OnlyS.refl _ _ | with_reducible refine OnlyS.drewR ?_ | with_reducible refine OnlyS.set ?_ _ _)) (fun q => ?_)
               rcases HNQ.out with e1 | e1
               · obtain ⟨g', o', e', hg'⟩ := HN8.out (HRO.out q)
                 have hpos := List.length_pos_iff.2 (HRO.out q)
                 obtain ⟨b', o2', e2', hb', _⟩ := H8.out.2.2.2.2 0 hpos
                 rw [e1]
                 refine ⟨g', o', e', ?_⟩
                 rw [e'] at e2'
                 cases e2'
                 have hg2 := hg'
                 try simp at hg2
                 omega
               · exact absurd e1 q)
          | exact ⟨wc9.heap.size, aP, nP, cP, aQ, nQ, cQ, rfl, heap_alloc_new _ _, Lib.hid ⟨HP12.out.1.below ((Below.refl _ _).alloc (Nat.le_refl _) _), HP12.out.2.below ((Below.refl _ _).alloc (Nat.le_refl _) _)⟩, (by have hsz0 := HS.out.low.size; repeat (first | with_reducible exact HS.out.low | with_reducible refine toDS ?_ | with_reducible refine Below.alloc ?_ (by first | omega | (simp; omega)) _ | with_reducible refine Below.setCell ?_ (by first | with_reducible exact Nat.le_refl _ | (dsimp only; omega)) _))⟩
    case rest =>
      obtain ⟨g, aP, nP, cP, aQ, nQ, cQ, rfl, hg, HPQ, hbc⟩ := hcut
      obtain ⟨W6, hW6⟩ : ∃ W6, wc = W6 := ⟨_, rfl⟩
      rw [hW6] at hg HPQ hbc ⊢
      clear hW6
      have hgs := heap_ltS hg
      have g56 : wp.heap.size < W6.heap.size := Nat.lt_of_lt_of_le g5 hbc.size
      have hn6 := (hbc.block _ g5).trans HR5.out
      have K6 := Lib.hid (fun W (h : Below W6.heap.size W6 W) => And.intro (cell6 ((h.block _ hgs).trans hg)) (cell3 ((h.block _ g56).trans hn6)))
      have HA6 := HAA.out
      have HS6 := Lib.hid (((((Env.mk (L := []) (Below.refl W6.heap.size W6) (by simp)).add HPQ.out.1).add HPQ.out.2).add (HA6.1.below hbc)).add (HA6.2.below hbc))
      have HLW := Lib.hid (below_next HLOW.out hbc)
      have SM := Lib.hid (fun W (xa : Option Addr) (xn xc : Nat) (ya : Option Addr) (yn yc : Nat) (h1 : Arg W xa xn xc rL) (h2 : Arg W ya yn yc rL) => (show Calls Try.prog 16 #[.slice xa xn xc, .slice ya yn yc] W (Gives W (.bool true)) from by
        have := same5_any xa ya xn yn xc yc _ _ W h1 h2
        rwa [decide_eq_true rfl] at this))
      clear HS HA6 hn6 hg
      have HS := HS6
      clear HS6
      go_wp2_with fail
      (first | go_region_held3 (fun W => (W.cell? ⟨g, 0, none⟩ = some (.slice aP nP cP) ∧ W.cell? ⟨g, 1, none⟩ = some (.slice aQ nQ cQ) ∧ W.cell? ⟨g, 2, none⟩ = some (.int .i64 raf) ∧ W.cell? ⟨g, 3, none⟩ = some (.int .i64 rlim) ∧ W.cell? ⟨g, 4, none⟩ = some (.bool rmore) ∧ W.cell? ⟨g, 5, none⟩ = some (.int .i64 re)) ∧ W.cell? ⟨wp.heap.size, 0, none⟩ = some (.slice a6 n6 c6) ∧ W.cell? ⟨wp.heap.size, 1, none⟩ = some (.int .i64 raf) ∧ W.cell? ⟨wp.heap.size, 2, none⟩ = some (.int .i64 rlim)) (exact K6.out _ (HS.out.step (by repeat (first | with_reducible exact Below.refl _ _ | with_reducible refine toDS ?_ | with_reducible refine Below.alloc ?_ (by first | exact Nat.le_refl _ | omega | (simp; omega)) _ | with_reducible refine Below.setCell ?_ (by first | with_reducible exact Nat.le_refl _ | (dsimp only; omega)) _))).low) ((first | (go_at_call 11; (with_reducible refine (awake22_any _).mono ?_); rintro e wa ⟨rfl, hba⟩; replace HS := Lib.hid ((HS.out.step (by repeat (first | with_reducible exact Below.refl _ _ | with_reducible refine toDS ?_ | with_reducible refine Below.alloc ?_ (by first | exact Nat.le_refl _ | omega | (simp; omega)) _ | with_reducible refine Below.setCell ?_ (by first | with_reducible exact Nat.le_refl _ | (dsimp only; omega)) _))).step hba); clear hba) | (go_at_call 14; (with_reducible refine (refs5_any a5 n5 c5 rL _ zp ((HS.out.step (by repeat (first | with_reducible exact Below.refl _ _ | with_reducible refine toDS ?_ | with_reducible refine Below.alloc ?_ (by first | exact Nat.le_refl _ | omega | (simp; omega)) _ | with_reducible refine Below.setCell ?_ (by first | with_reducible exact Nat.le_refl _ | (dsimp only; omega)) _))).get (by repeat (first | exact List.mem_cons_self | apply List.mem_cons_of_mem)))).mono ?_); rintro e w8 ⟨a7, n7, c7, rfl, h7, hb8⟩; replace HS := Lib.hid (((HS.out.step (by repeat (first | with_reducible exact Below.refl _ _ | with_reducible refine toDS ?_ | with_reducible refine Below.alloc ?_ (by first | exact Nat.le_refl _ | omega | (simp; omega)) _ | with_reducible refine Below.setCell ?_ (by first | with_reducible exact Nat.le_refl _ | (dsimp only; omega)) _))).step hb8).add h7)) | (go_at_call 16; (with_reducible refine (SM.out _ _ _ _ _ _ _ ((HS.out.step (by repeat (first | with_reducible exact Below.refl _ _ | with_reducible refine toDS ?_ | with_reducible refine Below.alloc ?_ (by first | exact Nat.le_refl _ | omega | (simp; omega)) _ | with_reducible refine Below.setCell ?_ (by first | with_reducible exact Nat.le_refl _ | (dsimp only; omega)) _))).get (by repeat (first | exact List.mem_cons_self | apply List.mem_cons_of_mem))) ((HS.out.step (by repeat (first | with_reducible exact Below.refl _ _ | with_reducible refine toDS ?_ | with_reducible refine Below.alloc ?_ (by first | exact Nat.le_refl _ | omega | (simp; omega)) _ | with_reducible refine Below.setCell ?_ (by first | with_reducible exact Nat.le_refl _ | (dsimp only; omega)) _))).get (by repeat (first | exact List.mem_cons_self | apply List.mem_cons_of_mem)))).mono ?_); rintro e w9 ⟨rfl, hb9⟩; replace HS := Lib.hid ((HS.out.step (by repeat (first | with_reducible exact Below.refl _ _ | with_reducible refine toDS ?_ | with_reducible refine Below.alloc ?_ (by first | exact Nat.le_refl _ | omega | (simp; omega)) _ | with_reducible refine Below.setCell ?_ (by first | with_reducible exact Nat.le_refl _ | (dsimp only; omega)) _))).step hb9)) | (go_at_call 15; (with_reducible refine (ref22_any a6 n6 c6 ron raf rlim _ ((HS.out.step (by repeat (first | with_reducible exact Below.refl _ _ | with_reducible refine toDS ?_ | with_reducible refine Below.alloc ?_ (by first | exact Nat.le_refl _ | omega | (simp; omega)) _ | with_reducible refine Below.setCell ?_ (by first | with_reducible exact Nat.le_refl _ | (dsimp only; omega)) _))).get (by repeat (first | exact List.mem_cons_self | apply List.mem_cons_of_mem))) zq).mono ?_); rintro e w10 ⟨a8, n8, c8, rfl, h8, _, hb10⟩; replace HS := Lib.hid (((HS.out.step (by repeat (first | with_reducible exact Below.refl _ _ | with_reducible refine toDS ?_ | with_reducible refine Below.alloc ?_ (by first | exact Nat.le_refl _ | omega | (simp; omega)) _ | with_reducible refine Below.setCell ?_ (by first | with_reducible exact Nat.le_refl _ | (dsimp only; omega)) _))).step hb10).add h8)) | (go_at_call 17; (with_reducible refine (rsame22_any _ _ _ _ _ _ ron ron raf rlim raf rlim _ ((HS.out.step (by repeat (first | with_reducible exact Below.refl _ _ | with_reducible refine toDS ?_ | with_reducible refine Below.alloc ?_ (by first | exact Nat.le_refl _ | omega | (simp; omega)) _ | with_reducible refine Below.setCell ?_ (by first | with_reducible exact Nat.le_refl _ | (dsimp only; omega)) _))).get (by repeat (first | exact List.mem_cons_self | apply List.mem_cons_of_mem))) ((HS.out.step (by repeat (first | with_reducible exact Below.refl _ _ | with_reducible refine toDS ?_ | with_reducible refine Below.alloc ?_ (by first | exact Nat.le_refl _ | omega | (simp; omega)) _ | with_reducible refine Below.setCell ?_ (by first | with_reducible exact Nat.le_refl _ | (dsimp only; omega)) _))).get (by repeat (first | exact List.mem_cons_self | apply List.mem_cons_of_mem))) rfl rfl rfl).mono ?_); rintro e w11 ⟨rfl, hb11⟩; replace HS := Lib.hid ((HS.out.step (by repeat (first | with_reducible exact Below.refl _ _ | with_reducible refine toDS ?_ | with_reducible refine Below.alloc ?_ (by first | exact Nat.le_refl _ | omega | (simp; omega)) _ | with_reducible refine Below.setCell ?_ (by first | with_reducible exact Nat.le_refl _ | (dsimp only; omega)) _))).step hb11)) | fail)) | fail)
      all_goals
        go_wp2_with fail
        go_ret
        exact ⟨rfl, below_next bw (below_next HLW.out (HS.out.step (by repeat (first | with_reducible exact Below.refl _ _ | with_reducible refine toDS ?_ | with_reducible refine Below.alloc ?_ (by first | exact Nat.le_refl _ | omega | (simp; omega)) _ | with_reducible refine Below.setCell ?_ (by first | with_reducible exact Nat.le_refl _ | (dsimp only; omega)) _))).low)⟩
end Go.Proofs.Ythcideijpmbpnaa
