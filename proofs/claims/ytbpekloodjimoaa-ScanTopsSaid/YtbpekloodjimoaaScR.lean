/-
  THE STATEMENT 'splicelaw22.ScanPages'.
-/
import Derived.Test.YtbpekloodjimoaaScQ
import Derived.Lib.SmallJoins
namespace Go.Proofs.Ytbpekloodjimoaa
open Go.RowKit Go.Shelf Go.ChangeShapes Go.WideShapes Go.Deep Go.ChangeAt

set_option maxRecDepth 100000 in
set_option maxHeartbeats 1500000 in
theorem rpage_any (a : Option Addr) (n c : Nat) (l : List Sp) (a3 : Option Addr) (n3 c3 : Nat) (on : List Sp) (af lim : Int) (w : World) (hL : Arg w a n c l) (hO : Arg w a3 n3 c3 on) (zl : l.length ≤ 100000) :
    Calls Try.prog 9 #[.slice a n c, .agg #[.slice a3 n3 c3, .int .i64 af, .int .i64 lim]] w (PagedPost a3 (pageP l on af lim) w) := by
  by_cases hgood : tblB l = true ∧ curB on af lim = true
  · obtain ⟨h1, h2⟩ := hgood
    have hb := (curB_iff _ _ _).1 h2
    obtain ⟨k, rfl⟩ : ∃ k : Nat, lim = (k : Int) := ⟨lim.toNat, by omega⟩
    have := rpage_good a n c l a3 n3 c3 on af k w hL hO zl h1 h2
    rw [show pageP l on af (k : Int) = ⟨(l.filter (passB on af)).take k, on, nextAf af ((l.filter (passB on af)).take k), (k : Int), decide (k < (l.filter (passB on af)).length), 0⟩ from by
      rw [← behP_filter h1 hb.1]
      exact if_pos ⟨h1, h2⟩]
    exact this
  · have hR : pageP l on af lim = ⟨[], [], 0, 0, false, 1⟩ := if_neg hgood
    rw [hR]
    obtain ⟨W1, hW1⟩ : ∃ W1, w.alloc (.cells #[.slice a3 n3 c3, .int .i64 af, .int .i64 lim] 35) = W1 := ⟨_, rfl⟩
    have bw : Below w.heap.size w W1 := by rw [← hW1]; exact (Below.refl _ _).alloc (Nat.le_refl _) _
    have g1 : w.heap.size < W1.heap.size := by rw [← hW1]; simp
    have hr1 : W1.heap[w.heap.size]? = some (.cells #[.slice a3 n3 c3, .int .i64 af, .int .i64 lim] 35) := by rw [← hW1]; exact heap_alloc_new _ _
    obtain ⟨W2, hW2⟩ : ∃ W2, W1.alloc (.cells #[.slice none 0 0, .slice none 0 0, .int .i64 0, .int .i64 0, .bool false, .int .i64 0] 37) = W2 := ⟨_, rfl⟩
    have b2 : Below W1.heap.size W1 W2 := by rw [← hW2]; exact (Below.refl _ _).alloc (Nat.le_refl _) _
    have g2 : W1.heap.size < W2.heap.size := by rw [← hW2]; simp
    have hr2 : W2.heap[W1.heap.size]? = some (.cells #[.slice none 0 0, .slice none 0 0, .int .i64 0, .int .i64 0, .bool false, .int .i64 0] 37) := by rw [← hW2]; exact heap_alloc_new _ _
    have hr12 := (b2.block _ g1).trans hr1
    have KX := Lib.hid (fun W (h : Below W2.heap.size W2 W) => (h.block _ (Nat.lt_trans g1 g2)).trans hr12)
    have KR := Lib.hid (fun W (h : Below W2.heap.size W2 W) => (h.block _ g2).trans hr2)
    obtain ⟨q0, q1, q2⟩ := cell3 hr12
    have HL := Lib.hid ((hL.below bw).below b2)
    have HO := Lib.hid ((hO.below bw).below b2)
    obtain ⟨r1, h1⟩ : ∃ r, tblB l = r := ⟨_, rfl⟩
    obtain ⟨r2, h2⟩ : ∃ r, curB on af lim = r := ⟨_, rfl⟩
    have TC := Lib.hid (fun W (h : Below W2.heap.size W2 W) => h1 ▸ rtcheck_any a n c l W (HL.out.below h))
    have IC := Lib.hid (fun W (h : Below W2.heap.size W2 W) => h2 ▸ rcur_any a3 n3 c3 on af lim W (HO.out.below h))
    have HB := Lib.hid (Below.refl W2.heap.size W2)
    rw [h1, h2] at hgood
    clear hL hO hr1 hr2 hr12 h1 h2 hR
    cases r1 <;> cases r2
    all_goals first
      | exact absurd ⟨rfl, rfl⟩ hgood
      | (go_enter Try.func9, Try.ntmps9
         go_wp2_with (first | (go_at_call 28; (with_reducible refine (TC.out _ HB.out).mono ?_); rintro e wf ⟨rfl, hbf⟩; replace HB := Lib.hid (below_next HB.out hbf); clear hbf; obtain ⟨q0, q1, q2⟩ := cell3 (KX.out _ HB.out); obtain ⟨y0, y1, y2, y3, y4, y5⟩ := cell6 (KR.out _ HB.out); obtain ⟨e0, e1, e2, e3, e4, e5⟩ := froz6 (KR.out _ HB.out)) | (go_at_call 29; (with_reducible refine (IC.out _ HB.out).mono ?_); rintro e wf ⟨rfl, hbf⟩; replace HB := Lib.hid (below_next HB.out hbf); clear hbf; obtain ⟨q0, q1, q2⟩ := cell3 (KX.out _ HB.out); obtain ⟨y0, y1, y2, y3, y4, y5⟩ := cell6 (KR.out _ HB.out); obtain ⟨e0, e1, e2, e3, e4, e5⟩ := froz6 (KR.out _ HB.out)))
         exact bodyPost_ret (v := .agg #[.slice none 0 0, .slice none 0 0, .int .i64 0, .int .i64 0, .bool false, .int .i64 1]) (by simp [results, Try.results9, go_sem, y0, y1, y2, y3, y4, y5]) rfl ⟨none, 0, 0, none, 0, 0, rfl, Arg.none_nil (by unfold maxLen; omega), Arg.none_nil (by unfold maxLen; omega), (fun q => absurd rfl q), .inr rfl, (by repeat (first | with_reducible exact below_next bw (below_next b2 HB.out) | with_reducible refine Below.setCell ?_ (by first | with_reducible exact Nat.le_refl _ | (dsimp only; omega)) _))⟩)
set_option maxRecDepth 100000 in
theorem curVal_of {H : Type} {enc : TypeId × Value → H} {w : World} {r : Reach} {b0 base : Nat} {spare : Nat → Bool} {held : Bool} {v : Value} {d : DataW H} {p : List MemPlace}
    (hv : Value.okWide Try.prog w r b0 25 v) (h : DataW.Trod enc Try.prog w base spare held 25 v d p) :
    ∃ (a : Option Addr) (n c : Nat) (on : List Sp) (af lim : Int), Arg w a n c on ∧ v = .agg #[.slice a n c, .int .i64 af, .int .i64 lim] := by
  obtain ⟨v0, v1, v2, y0, y1, y2, n, rfl, _, _, r0, r1, r2⟩ := Go.Joins.open_agg3 Try.underlying25 (by kernel_rfl) (by kernel_rfl) hv h
  obtain ⟨af, e1, _, _⟩ := DataW.trod_int Try.underlying3 r1
  obtain ⟨lim, e2, _, _⟩ := DataW.trod_int Try.underlying3 r2
  obtain ⟨a, nn, c, on, e0, hA⟩ := argP_of Try.underlying23 Try.underlying63 (by kernel_rfl) rfl rfl rfl rfl (by kernel_rfl) r0
  simp at e1 e2
  rw [e0, e1, e2]
  exact ⟨a, nn, c, on, af, lim, hA, rfl⟩
theorem set6K {W : World} {b : Nat} {x y z u v s x' y' z' u' v' s' : Value} {t : TypeId} (h : W.heap[b]? = some (.cells #[x, y, z, u, v, s] t)) :
    (((((W.setCell ⟨b, 0, none⟩ x').setCell ⟨b, 1, none⟩ y').setCell ⟨b, 2, none⟩ z').setCell ⟨b, 3, none⟩ u').setCell ⟨b, 4, none⟩ v' |>.setCell ⟨b, 5, none⟩ s').heap[b]? = some (.cells #[x', y', z', u', v', s'] t) := by
  have h0 := heap_setCell_same _ _ 0 _ _ x' h
  have h1 := heap_setCell_same _ _ 1 _ _ y' h0
  have h2 := heap_setCell_same _ _ 2 _ _ z' h1
  have h3 := heap_setCell_same _ _ 3 _ _ u' h2
  have h4 := heap_setCell_same _ _ 4 _ _ v' h3
  exact heap_setCell_same _ _ 5 _ _ s' h4
theorem pageP_small (l on : List Sp) (af lim : Int) (hl : l.length ≤ 100000) (ho : on.length ≤ 100000) : (pageP l on af lim).L.length ≤ 100000 ∧ (pageP l on af lim).on.length ≤ 100000 := by
  unfold pageP
  split
  · refine ⟨?_, ho⟩
    show ((behP l on af).take lim.toNat).length ≤ 100000
    have h1 : (clipP l on).length ≤ l.length := by
      unfold clipP
      split
      · exact List.length_filter_le _ _
      · simp
    unfold behP
    rw [List.length_take, List.length_drop]
    omega
  · exact ⟨by simp, by simp⟩
end Go.Proofs.Ytbpekloodjimoaa
