/-
  THE LAW MerkleNumbers: its walk.
-/
import Derived.Test.YtjjadappjapjhaaMkV
import Derived.Test.YtjjadappjapjhaaMkM
namespace Go.Proofs.Ytjjadappjapjhaa
open Go.RowKit Go.Deep

set_option maxRecDepth 100000 in
theorem pairArr_of {H : Type} {enc : TypeId × Value → H} {w : World} {r : Reach} {b0 base : Nat} {spare : Nat → Bool} {held : Bool} {v : Value} {d : DataW H} {p : List MemPlace}
    (hv : Value.okWide Try.prog w r b0 23 v) (h : DataW.Trod enc Try.prog w base spare held 23 v d p) :
    ∃ (x y : Int), v = .agg #[.int .i64 x, .int .i64 y] := by
  have kI : Try.prog.cellsOf 3 = 1 := by kernel_rfl
  have kA : Try.prog.cellsOf 23 = 2 := by kernel_rfl
  simp only [Value.okWide, Try.underlying23] at hv
  obtain ⟨cs, rfl, hsz, _⟩ := hv
  rw [kA] at hsz
  obtain ⟨fuel, hf⟩ := h
  obtain ⟨xs, m, _, _, _, hl, hel⟩ := DataW.trod_array Try.underlying23 hf
  rw [kI] at hel
  obtain ⟨v0, v1, rfl⟩ : ∃ v0 v1, cs = #[v0, v1] := by
    refine ⟨cs[0], cs[1], ?_⟩
    apply Array.ext
    · simp [hsz]
    · intro i h1 h2
      have : i = 0 ∨ i = 1 := by omega
      rcases this with rfl | rfl <;> rfl
  have e0 := hel 0 (by omega)
  have e1 := hel 1 (by omega)
  rw [List.getElem?_eq_getElem (by omega)] at e0 e1
  obtain ⟨x, h0, _, _⟩ := DataW.trod_int Try.underlying3 e0
  obtain ⟨y, h1, _, _⟩ := DataW.trod_int Try.underlying3 e1
  simp [Value.cells] at h0 h1
  rw [h0, h1]
  exact ⟨x, y, rfl⟩
set_option maxRecDepth 100000 in
theorem cellVal_of {H : Type} {enc : TypeId × Value → H} {w : World} {r : Reach} {b0 base : Nat} {spare : Nat → Bool} {held : Bool} {v : Value} {d : DataW H} {p : List MemPlace}
    (hv : Value.okWide Try.prog w r b0 25 v) (h : DataW.Trod enc Try.prog w base spare held 25 v d p) :
    ∃ (x : Int) (y : Bool), v = .agg #[.int .i64 x, .bool y] := by
  obtain ⟨v0, v1, y0, y1, n, rfl, _, _, r0, r1⟩ := Go.Joins.open_agg2 Try.underlying25 (by kernel_rfl) (by kernel_rfl) hv h
  obtain ⟨x, e1, _, w1⟩ := DataW.trod_int Try.underlying3 r0
  obtain ⟨y, e2, _⟩ := DataW.trod_bool Try.underlying4 r1
  simp at e1 e2
  rw [e1, e2]
  exact ⟨x, y, rfl⟩
theorem keyB_neg {k : Int} (h : k < 0) : keyB k = false := by unfold keyB; rw [decide_eq_false (by omega)]; rfl
theorem keyB_big {k : Int} (h : 4096 ≤ k) : keyB k = false := by unfold keyB; rw [decide_eq_false (show ¬ k < 4096 by omega), Bool.and_false]
/-- All numbers of a table in memory, level by level. -/
def AllA (W : World) (g : Nat) (C : Nat → Option Int) : Prop := g < W.heap.size ∧ ∀ m, m ≤ 3 → ∃ a n c, W.cell? ⟨g, m, none⟩ = some (.slice a n c) ∧ RArg encU 1 W a n c (rowL (lvN C m) (szA m))
theorem AllA.below {W W' : World} {g : Nat} {C : Nat → Option Int} (h : AllA W g C) (hb : Below W.heap.size W W') : AllA W' g C := by
  refine ⟨Nat.lt_of_lt_of_le h.1 hb.size, fun m hm => ?_⟩
  obtain ⟨a, n, c, h1, h2⟩ := h.2 m hm
  exact ⟨a, n, c, (hb.cell (p := ⟨g, m, none⟩) h.1).trans h1, h2.below hb⟩
def LevP (C : Nat → Option Int) (w : World) (e : Ending) (w' : World) : Prop := ∃ g, e = .returned (.slice (some ⟨g, 0, none⟩) 4 4) ∧ AllA w' g C ∧ Below w.heap.size w w'
theorem levelsA_any (a : Option Addr) (n c : Nat) (l : List Pr) (w : World) (h : RArg encP 2 w a n c l) (ht : tblB l = true) (hl : l.length ≤ 100000) :
    Calls Try.prog 17 #[.slice a n c] w (LevP (tabC l) w) := by
  refine (levels_any a n c l w h ht hl).mono fun e w' q => ?_
  obtain ⟨g, a0, n0, c0, a1, n1, c1, a2, n2, c2, a3, n3, c3, rfl, hg, hh, r0, r1, r2, r3, hb⟩ := q
  refine ⟨g, rfl, ⟨hg, fun m hm => ?_⟩, hb⟩
  have hm4 : m = 0 ∨ m = 1 ∨ m = 2 ∨ m = 3 := by omega
  rcases hm4 with rfl | rfl | rfl | rfl
  · exact ⟨a0, n0, c0, by simp [World.cell?, hh], r0⟩
  · exact ⟨a1, n1, c1, by simp [World.cell?, hh], r1⟩
  · exact ⟨a2, n2, c2, by simp [World.cell?, hh], r2⟩
  · exact ⟨a3, n3, c3, by simp [World.cell?, hh], r3⟩
theorem AllA.at {W : World} {g : Nat} {C : Nat → Option Int} (h : AllA W g C) {m k : Nat} (hm : m ≤ 3) (hk : k < szA m) : ∃ b off c, W.cell? ⟨g, m, none⟩ = some (.slice (some ⟨b, off, none⟩) (szA m) c) ∧ b < W.heap.size ∧ W.cell? ⟨b, off + k, none⟩ = some (.int .u32 (regI (lvN C m k))) := by
  obtain ⟨a, n, c, h1, h2⟩ := h.2 m hm
  have hn : n = szA m := by have := h2.1; rwa [rowL_len] at this
  subst hn
  obtain ⟨b, off, e, hb, hc⟩ := h2.us (k := k) (by rw [rowL_len]; exact hk)
  subst e
  refine ⟨b, off, c, h1, hb, ?_⟩
  rw [hc, getElem!_pos _ _ (by rw [rowL_len]; exact hk)]
  have e1 := rowL_get (lvN C m) (szA m) k hk
  rw [List.getElem?_eq_getElem (by rw [rowL_len]; exact hk)] at e1
  injection e1 with e1
  rw [e1]
set_option maxRecDepth 100000 in
set_option maxHeartbeats 8000000 in
theorem merkleNumbers_walk (a : Option Addr) (n c : Nat) (l : List Pr) (p q : Int) (v : Int) (s : Bool) (w : World) (h : RArg encP 2 w a n c l) :
    Calls Try.prog 3 #[.slice a n c, .agg #[.int .i64 p, .int .i64 q], .agg #[.int .i64 v, .bool s]] w (TruePost w) := by
  have hz : (n : Int) ≤ 9223372036854775807 := by have := h.1; have := h.2.1; omega
  have FW := Lib.hid (fun W => few20_any a n c W hz)
  obtain ⟨W1, hW1⟩ : ∃ W1, w.alloc (.cells #[.int .i64 p, .int .i64 q] 23) = W1 := ⟨_, rfl⟩
  have b1 : Below w.heap.size w W1 := by rw [← hW1]; exact (Below.refl _ _).alloc (Nat.le_refl _) _
  have g1 : w.heap.size < W1.heap.size := by rw [← hW1]; simp
  have e1 : w.heap.size + 1 = W1.heap.size := by rw [← hW1]; simp
  have r1 : W1.heap[w.heap.size]? = some (.cells #[.int .i64 p, .int .i64 q] 23 (0, 0)) := by rw [← hW1]; exact heap_alloc_new _ _
  obtain ⟨W2, hW2⟩ : ∃ W2, W1.alloc (.cells #[.int .i64 v, .bool s] 25) = W2 := ⟨_, rfl⟩
  have b2 : Below W1.heap.size W1 W2 := by rw [← hW2]; exact (Below.refl _ _).alloc (Nat.le_refl _) _
  have g2 : W1.heap.size < W2.heap.size := by rw [← hW2]; simp
  have r2 : W2.heap[W1.heap.size]? = some (.cells #[.int .i64 v, .bool s] 25 (0, 0)) := by rw [← hW2]; exact heap_alloc_new _ _
  have KP := Lib.hid (fun W (hb : Below W2.heap.size W2 W) => cells2M ((hb.block _ (Nat.lt_trans g1 g2)).trans ((b2.block _ g1).trans r1)))
  have KC := Lib.hid (fun W (hb : Below W2.heap.size W2 W) => cells2M ((hb.block _ g2).trans r2))
  have B2 := Lib.hid (below_next b1 b2)
  have H := Lib.hid h
  clear b1 b2 r1 r2 h
  cases hf : decide (n ≤ 60)
  · rw [hf] at FW
    clear hf
    go_enter Try.func3, Try.ntmps3
    go_wp2_with (first | (go_at_call 10; (with_reducible refine (FW.out _).mono ?_); rintro e w2 ⟨rfl, rfl⟩) | (go_at_call 11; (with_reducible refine (awake20_any _).mono ?_); rintro e w9 ⟨rfl, hb9⟩) | fail)
    go_ret
    exact ⟨rfl, below_next B2.out hb9⟩
  · rw [hf] at FW
    have h60 : n ≤ 60 := of_decide_eq_true hf
    have hlen : l.length ≤ 100000 := by have := H.out.1; omega
    have N1 := Lib.hid (fun W => number20_any v s W)
    have N2 := Lib.hid (fun W => rnumber_any v s W)
    obtain ⟨nv, hnv⟩ : ∃ nv, regI (numO (if s then some v else none)) = nv := ⟨_, rfl⟩
    rw [hnv] at N1 N2
    clear hf hnv
    go_enter Try.func3, Try.ntmps3
    obtain ⟨z0, z1⟩ := KC.out _ (Below.refl _ _)
    go_upto_region 3 with (first | (go_at_call 10; (with_reducible refine (FW.out _).mono ?_); rintro e w2 ⟨rfl, rfl⟩) | fail)
    have HBD : Below W2.heap.size W2 W2 := Below.refl _ _
    go_region_held3 (fun W => W.cell? ⟨W1.heap.size, 0, none⟩ = some (.int .i64 v) ∧ W.cell? ⟨W1.heap.size, 1, none⟩ = some (.bool s)) (exact KC.out _ (by repeat (first | exact HBD | with_reducible refine Below.drew ?_))) ((first
      | (go_at_call 12; (with_reducible refine (N1.out _).mono ?_); rintro e w3 ⟨rfl, b3⟩; replace HBD := below_next (show Below W2.heap.size W2 _ from by repeat (first | exact HBD | with_reducible refine Below.drew ?_)) b3; clear b3)
      | (go_at_call 13; (with_reducible refine (N2.out _).mono ?_); rintro e w4 ⟨rfl, b4⟩; replace HBD := below_next (show Below W2.heap.size W2 _ from by repeat (first | exact HBD | with_reducible refine Below.drew ?_)) b4; clear b4)
      | fail))
    all_goals
      clear z0 z1
      cases ht : tblB l
      · have NW := Lib.hid (new_no a n c l _ (H.out.below (below_next B2.out HBD)) ht)
        have RF := Lib.hid (fun W hb => refs5_any a n c l W hlen (H.out.below (below_next B2.out (show Below W2.heap.size W2 W from hb))))
        have RC := Lib.hid (fun W a n c h => ht ▸ rtcheck_any a n c l W h)
        have HB := Lib.hid HBD
        clear ht HBD
        go_wp2_with (first
          | (go_at_call 14; (with_reducible refine NW.out.mono ?_); rintro e w5 ⟨rfl, hb5⟩; have hb25 := below_next HB.out hb5)
          | (go_at_call 16; (with_reducible refine (RF.out _ hb25).mono ?_); rintro e w6 ⟨a6, n6, c6, rfl, hr6, hb6⟩)
          | (go_at_call 15; (with_reducible refine (RC.out _ _ _ _ hr6).mono ?_); rintro e w7 ⟨rfl, hb7⟩)
          | (go_at_call 11; (with_reducible refine (awake20_any _).mono ?_); rintro e w9 ⟨rfl, hb9⟩) | fail)
        go_ret
        exact ⟨rfl, below_next B2.out (below_next hb25 (below_next hb6 (below_next hb7 hb9)))⟩
      · have NW := Lib.hid (new_ok a n c l _ (H.out.below (below_next B2.out HBD)) ht)
        have RF := Lib.hid (fun W hb => refs5_any a n c l W hlen (H.out.below (below_next B2.out (show Below W2.heap.size W2 W from hb))))
        have RC := Lib.hid (fun W a n c h => ht ▸ rtcheck_any a n c l W h)
        have LV := Lib.hid (fun W hb => levelsA_any a n c l W (H.out.below (below_next B2.out (show Below W2.heap.size W2 W from hb))) ht hlen)
        have HB := Lib.hid HBD
        clear ht HBD
        obtain ⟨C, hC⟩ : ∃ C, tabC l = C := ⟨_, rfl⟩
        rw [hC] at NW LV
        clear hC
        by_cases hp0 : p < 0
        · have d1 : decide (p < 0) = true := decide_eq_true hp0
          by_cases hq0 : q < 0
          · have HN : NodeP C p q = (0, 1) := by unfold NodeP; rw [if_neg (by omega)]
            obtain ⟨xn, hxn⟩ : ∃ xn, (NodeP C p q).1 = xn := ⟨_, rfl⟩
            obtain ⟨en, hen⟩ : ∃ en, (NodeP C p q).2 = en := ⟨_, rfl⟩
            rw [HN] at hxn hen
            dsimp only at hxn hen
            have NP := Lib.hid (fun b W h => node20_any b C p q W h)
            rw [HN] at NP
            dsimp only at NP
            clear hxn hen HN
            go_upto_region 12 with (first
              | (go_at_call 14; (with_reducible refine NW.out.mono ?_); rintro e w5 ⟨b1, rfl, t1, _, hb5⟩; have hb25 := below_next HB.out hb5; replace t1 := Lib.hid t1)
              | (go_at_call 16; (with_reducible refine (RF.out _ hb25).mono ?_); rintro e w6 ⟨a6, n6, c6, rfl, hr6, hb6⟩)
              | (go_at_call 15; (with_reducible refine (RC.out _ _ _ _ hr6).mono ?_); rintro e w7 ⟨rfl, hb7⟩; have hb27 := below_next hb25 (below_next hb6 hb7))
              | (go_at_call 17; (with_reducible refine (LV.out _ hb27).mono ?_); rintro e w8 ⟨g, rfl, hA, hb8⟩; have hb58 := below_next hb6 (below_next hb7 hb8); have t8 := Lib.hid (t1.out.below hb58); replace hA := Lib.hid hA; obtain ⟨y0, y1⟩ := KP.out _ (below_next hb27 hb8))
              | (go_at_call 18; (with_reducible refine (NP.out _ _ t8.out).mono ?_); rintro e w10 ⟨rfl, rfl⟩)
              | fail)
            have HB8 := Lib.hid (below_next hb27 hb8)
            clear hb25 hb27 hb58 hb5 hb6 hb7 hb8 hr6
            go_quiet (fail)
            have HB9 := Lib.hid (show Below W2.heap.size W2 (w8.drewN nq) from ⟨HB8.out.os, HB8.out.tape, HB8.out.output, HB8.out.size, HB8.out.block⟩)
            have T9 := Lib.hid (t8.out.below (show Below w8.heap.size w8 (w8.drewN nq) from ⟨rfl, rfl, rfl, Nat.le_refl _, fun _ _ => rfl⟩))
            have A9 := Lib.hid (hA.out.below (show Below w8.heap.size w8 (w8.drewN nq) from ⟨rfl, rfl, rfl, Nat.le_refl _, fun _ _ => rfl⟩))
            generalize w8.drewN nq = W9 at HB9 T9 A9 ⊢
            clear y0 y1
            obtain ⟨y0, y1⟩ := KP.out _ HB9.out
            have LF := Lib.hid (leaf20_bad (.pointer (some ⟨b1, 0, none⟩)) q W9 (.inr ⟨b1, rfl⟩) (.inl (keyB_neg (by omega))))
            go_wp2_with (first | (go_at_call 19; (with_reducible refine LF.out.mono ?_); rintro e w12 ⟨rfl, rfl⟩) | (go_at_call 11; (with_reducible refine (awake20_any _).mono ?_); rintro e w9 ⟨rfl, hb9⟩) | fail)
            go_ret
            exact ⟨rfl, below_next B2.out (below_next HB9.out hb9)⟩
          · obtain ⟨j, rfl⟩ : ∃ j : Nat, q = (j : Int) := ⟨q.toNat, by omega⟩
            by_cases hj4 : j < 4096
            · have HN : NodeP C p (j : Int) = (0, 1) := by unfold NodeP; rw [if_neg (by omega)]
              obtain ⟨xn, hxn⟩ : ∃ xn, (NodeP C p (j : Int)).1 = xn := ⟨_, rfl⟩
              obtain ⟨en, hen⟩ : ∃ en, (NodeP C p (j : Int)).2 = en := ⟨_, rfl⟩
              rw [HN] at hxn hen
              dsimp only at hxn hen
              have NP := Lib.hid (fun b W h => node20_any b C p (j : Int) W h)
              rw [HN] at NP
              dsimp only at NP
              clear hxn hen HN
              go_upto_region 12 with (first
                | (go_at_call 14; (with_reducible refine NW.out.mono ?_); rintro e w5 ⟨b1, rfl, t1, _, hb5⟩; have hb25 := below_next HB.out hb5; replace t1 := Lib.hid t1)
                | (go_at_call 16; (with_reducible refine (RF.out _ hb25).mono ?_); rintro e w6 ⟨a6, n6, c6, rfl, hr6, hb6⟩)
                | (go_at_call 15; (with_reducible refine (RC.out _ _ _ _ hr6).mono ?_); rintro e w7 ⟨rfl, hb7⟩; have hb27 := below_next hb25 (below_next hb6 hb7))
                | (go_at_call 17; (with_reducible refine (LV.out _ hb27).mono ?_); rintro e w8 ⟨g, rfl, hA, hb8⟩; have hb58 := below_next hb6 (below_next hb7 hb8); have t8 := Lib.hid (t1.out.below hb58); replace hA := Lib.hid hA; obtain ⟨y0, y1⟩ := KP.out _ (below_next hb27 hb8))
                | (go_at_call 18; (with_reducible refine (NP.out _ _ t8.out).mono ?_); rintro e w10 ⟨rfl, rfl⟩)
                | fail)
              have HB8 := Lib.hid (below_next hb27 hb8)
              clear hb25 hb27 hb58 hb5 hb6 hb7 hb8 hr6
              go_quiet (fail)
              have HB9 := Lib.hid (show Below W2.heap.size W2 (w8.drewN nq) from ⟨HB8.out.os, HB8.out.tape, HB8.out.output, HB8.out.size, HB8.out.block⟩)
              have T9 := Lib.hid (t8.out.below (show Below w8.heap.size w8 (w8.drewN nq) from ⟨rfl, rfl, rfl, Nat.le_refl _, fun _ _ => rfl⟩))
              have A9 := Lib.hid (hA.out.below (show Below w8.heap.size w8 (w8.drewN nq) from ⟨rfl, rfl, rfl, Nat.le_refl _, fun _ _ => rfl⟩))
              generalize w8.drewN nq = W9 at HB9 T9 A9 ⊢
              clear y0 y1
              obtain ⟨y0, y1⟩ := KP.out _ HB9.out
              have LF := Lib.hid (leaf20_any b1 C j W9 T9.out hj4)
              have RT := Lib.hid (fun W (hb : Below W9.heap.size W9 W) => root20_any b1 C W (T9.out.below hb))
              obtain ⟨b0, o0, c0, s0, g0, l0⟩ := A9.out.at (m := 0) (k := j) (by decide) hj4
              obtain ⟨b3, o3, c3, s3, g3, l3⟩ := A9.out.at (m := 3) (k := 0) (by decide) (by decide)
              obtain ⟨lx, hlx⟩ : ∃ lx, regI (lvN C 0 j) = lx := ⟨_, rfl⟩
              obtain ⟨rt, hrt⟩ : ∃ rt, regI (lvN C 3 0) = rt := ⟨_, rfl⟩
              rw [hlx] at LF l0
              rw [hrt] at RT l3
              have gA := A9.out.1
              have hji : (j : Int) < 4096 := by omega
              have KS := Lib.hid (fun W (hb : Below W9.heap.size W9 W) => (show (W.cell? ⟨w.heap.size, 1, none⟩ = some (.int .i64 (j : Int))) ∧ W.cell? ⟨g, 0, none⟩ = some (.slice (some ⟨b0, o0, none⟩) 4096 c0) ∧ W.cell? ⟨b0, o0 + j, none⟩ = some (.int .u32 lx) ∧ W.cell? ⟨g, 3, none⟩ = some (.slice (some ⟨b3, o3, none⟩) 1 c3) ∧ W.cell? ⟨b3, o3, none⟩ = some (.int .u32 rt) from
                ⟨(KP.out _ (below_next HB9.out hb)).2, (hb.cell (p := ⟨g, 0, none⟩) gA).trans s0, (hb.cell (p := ⟨b0, o0 + j, none⟩) g0).trans l0, (hb.cell (p := ⟨g, 3, none⟩) gA).trans s3, (hb.cell (p := ⟨b3, o3, none⟩) g3).trans l3⟩))
              clear hlx hrt s0 l0 s3 l3
              go_upto_region 20 with (first | (go_at_call 19; (with_reducible refine LF.out.mono ?_); rintro e w12 ⟨rfl, rfl⟩) | fail)
              clear y0 y1
              obtain ⟨x1, x2, x3, x4, x5⟩ := KS.out _ (Below.refl _ _)
              have HBD : Below W9.heap.size W9 W9 := Below.refl _ _
              go_region_held3 (fun W => (W.cell? ⟨w.heap.size, 1, none⟩ = some (.int .i64 (j : Int))) ∧ W.cell? ⟨g, 0, none⟩ = some (.slice (some ⟨b0, o0, none⟩) 4096 c0) ∧ W.cell? ⟨b0, o0 + j, none⟩ = some (.int .u32 lx) ∧ W.cell? ⟨g, 3, none⟩ = some (.slice (some ⟨b3, o3, none⟩) 1 c3) ∧ W.cell? ⟨b3, o3, none⟩ = some (.int .u32 rt)) (exact KS.out _ (by repeat (first | exact HBD | with_reducible refine Below.drew ?_))) ((first
                | (go_at_call 11; (with_reducible refine (awake20_any _).mono ?_); rintro e w9 ⟨rfl, b9⟩; replace HBD := below_next (show Below W9.heap.size W9 _ from by repeat (first | exact HBD | with_reducible refine Below.drew ?_)) b9; clear b9)
                | (go_at_call 20; (with_reducible refine (RT.out _ (by repeat (first | exact HBD | with_reducible refine Below.drew ?_))).mono ?_); rintro e w13 ⟨rfl, rfl⟩)
                | fail))
              all_goals
                go_wp2_with fail
                go_ret
                exact ⟨rfl, below_next B2.out (below_next HB9.out (by repeat (first | exact HBD | with_reducible refine Below.drew ?_)))⟩
            · have HN : NodeP C p (j : Int) = (0, 1) := by unfold NodeP; rw [if_neg (by omega)]
              obtain ⟨xn, hxn⟩ : ∃ xn, (NodeP C p (j : Int)).1 = xn := ⟨_, rfl⟩
              obtain ⟨en, hen⟩ : ∃ en, (NodeP C p (j : Int)).2 = en := ⟨_, rfl⟩
              rw [HN] at hxn hen
              dsimp only at hxn hen
              have NP := Lib.hid (fun b W h => node20_any b C p (j : Int) W h)
              rw [HN] at NP
              dsimp only at NP
              clear hxn hen HN
              go_upto_region 12 with (first
                | (go_at_call 14; (with_reducible refine NW.out.mono ?_); rintro e w5 ⟨b1, rfl, t1, _, hb5⟩; have hb25 := below_next HB.out hb5; replace t1 := Lib.hid t1)
                | (go_at_call 16; (with_reducible refine (RF.out _ hb25).mono ?_); rintro e w6 ⟨a6, n6, c6, rfl, hr6, hb6⟩)
                | (go_at_call 15; (with_reducible refine (RC.out _ _ _ _ hr6).mono ?_); rintro e w7 ⟨rfl, hb7⟩; have hb27 := below_next hb25 (below_next hb6 hb7))
                | (go_at_call 17; (with_reducible refine (LV.out _ hb27).mono ?_); rintro e w8 ⟨g, rfl, hA, hb8⟩; have hb58 := below_next hb6 (below_next hb7 hb8); have t8 := Lib.hid (t1.out.below hb58); replace hA := Lib.hid hA; obtain ⟨y0, y1⟩ := KP.out _ (below_next hb27 hb8))
                | (go_at_call 18; (with_reducible refine (NP.out _ _ t8.out).mono ?_); rintro e w10 ⟨rfl, rfl⟩)
                | fail)
              have HB8 := Lib.hid (below_next hb27 hb8)
              clear hb25 hb27 hb58 hb5 hb6 hb7 hb8 hr6
              go_quiet (fail)
              have HB9 := Lib.hid (show Below W2.heap.size W2 (w8.drewN nq) from ⟨HB8.out.os, HB8.out.tape, HB8.out.output, HB8.out.size, HB8.out.block⟩)
              have T9 := Lib.hid (t8.out.below (show Below w8.heap.size w8 (w8.drewN nq) from ⟨rfl, rfl, rfl, Nat.le_refl _, fun _ _ => rfl⟩))
              have A9 := Lib.hid (hA.out.below (show Below w8.heap.size w8 (w8.drewN nq) from ⟨rfl, rfl, rfl, Nat.le_refl _, fun _ _ => rfl⟩))
              generalize w8.drewN nq = W9 at HB9 T9 A9 ⊢
              clear y0 y1
              obtain ⟨y0, y1⟩ := KP.out _ HB9.out
              have LF := Lib.hid (leaf20_bad (.pointer (some ⟨b1, 0, none⟩)) (j : Int) W9 (.inr ⟨b1, rfl⟩) (.inl (keyB_big (by omega))))
              go_wp2_with (first | (go_at_call 19; (with_reducible refine LF.out.mono ?_); rintro e w12 ⟨rfl, rfl⟩) | (go_at_call 11; (with_reducible refine (awake20_any _).mono ?_); rintro e w9 ⟨rfl, hb9⟩) | fail)
              go_ret
              exact ⟨rfl, below_next B2.out (below_next HB9.out hb9)⟩
        · by_cases hp2 : 2 < p
          · have d1 : decide (p < 0) = false := decide_eq_false hp0
            have d2 : decide (2 < p) = true := decide_eq_true hp2
            by_cases hq0 : q < 0
            · have HN : NodeP C p q = (0, 1) := by unfold NodeP; rw [if_neg (by omega)]
              obtain ⟨xn, hxn⟩ : ∃ xn, (NodeP C p q).1 = xn := ⟨_, rfl⟩
              obtain ⟨en, hen⟩ : ∃ en, (NodeP C p q).2 = en := ⟨_, rfl⟩
              rw [HN] at hxn hen
              dsimp only at hxn hen
              have NP := Lib.hid (fun b W h => node20_any b C p q W h)
              rw [HN] at NP
              dsimp only at NP
              clear hxn hen HN
              go_upto_region 12 with (first
                | (go_at_call 14; (with_reducible refine NW.out.mono ?_); rintro e w5 ⟨b1, rfl, t1, _, hb5⟩; have hb25 := below_next HB.out hb5; replace t1 := Lib.hid t1)
                | (go_at_call 16; (with_reducible refine (RF.out _ hb25).mono ?_); rintro e w6 ⟨a6, n6, c6, rfl, hr6, hb6⟩)
                | (go_at_call 15; (with_reducible refine (RC.out _ _ _ _ hr6).mono ?_); rintro e w7 ⟨rfl, hb7⟩; have hb27 := below_next hb25 (below_next hb6 hb7))
                | (go_at_call 17; (with_reducible refine (LV.out _ hb27).mono ?_); rintro e w8 ⟨g, rfl, hA, hb8⟩; have hb58 := below_next hb6 (below_next hb7 hb8); have t8 := Lib.hid (t1.out.below hb58); replace hA := Lib.hid hA; obtain ⟨y0, y1⟩ := KP.out _ (below_next hb27 hb8))
                | (go_at_call 18; (with_reducible refine (NP.out _ _ t8.out).mono ?_); rintro e w10 ⟨rfl, rfl⟩)
                | fail)
              have HB8 := Lib.hid (below_next hb27 hb8)
              clear hb25 hb27 hb58 hb5 hb6 hb7 hb8 hr6
              go_quiet (fail)
              have HB9 := Lib.hid (show Below W2.heap.size W2 (w8.drewN nq) from ⟨HB8.out.os, HB8.out.tape, HB8.out.output, HB8.out.size, HB8.out.block⟩)
              have T9 := Lib.hid (t8.out.below (show Below w8.heap.size w8 (w8.drewN nq) from ⟨rfl, rfl, rfl, Nat.le_refl _, fun _ _ => rfl⟩))
              have A9 := Lib.hid (hA.out.below (show Below w8.heap.size w8 (w8.drewN nq) from ⟨rfl, rfl, rfl, Nat.le_refl _, fun _ _ => rfl⟩))
              generalize w8.drewN nq = W9 at HB9 T9 A9 ⊢
              clear y0 y1
              obtain ⟨y0, y1⟩ := KP.out _ HB9.out
              have LF := Lib.hid (leaf20_bad (.pointer (some ⟨b1, 0, none⟩)) q W9 (.inr ⟨b1, rfl⟩) (.inl (keyB_neg (by omega))))
              go_wp2_with (first | (go_at_call 19; (with_reducible refine LF.out.mono ?_); rintro e w12 ⟨rfl, rfl⟩) | (go_at_call 11; (with_reducible refine (awake20_any _).mono ?_); rintro e w9 ⟨rfl, hb9⟩) | fail)
              go_ret
              exact ⟨rfl, below_next B2.out (below_next HB9.out hb9)⟩
            · obtain ⟨j, rfl⟩ : ∃ j : Nat, q = (j : Int) := ⟨q.toNat, by omega⟩
              by_cases hj4 : j < 4096
              · have HN : NodeP C p (j : Int) = (0, 1) := by unfold NodeP; rw [if_neg (by omega)]
                obtain ⟨xn, hxn⟩ : ∃ xn, (NodeP C p (j : Int)).1 = xn := ⟨_, rfl⟩
                obtain ⟨en, hen⟩ : ∃ en, (NodeP C p (j : Int)).2 = en := ⟨_, rfl⟩
                rw [HN] at hxn hen
                dsimp only at hxn hen
                have NP := Lib.hid (fun b W h => node20_any b C p (j : Int) W h)
                rw [HN] at NP
                dsimp only at NP
                clear hxn hen HN
                go_upto_region 12 with (first
                  | (go_at_call 14; (with_reducible refine NW.out.mono ?_); rintro e w5 ⟨b1, rfl, t1, _, hb5⟩; have hb25 := below_next HB.out hb5; replace t1 := Lib.hid t1)
                  | (go_at_call 16; (with_reducible refine (RF.out _ hb25).mono ?_); rintro e w6 ⟨a6, n6, c6, rfl, hr6, hb6⟩)
                  | (go_at_call 15; (with_reducible refine (RC.out _ _ _ _ hr6).mono ?_); rintro e w7 ⟨rfl, hb7⟩; have hb27 := below_next hb25 (below_next hb6 hb7))
                  | (go_at_call 17; (with_reducible refine (LV.out _ hb27).mono ?_); rintro e w8 ⟨g, rfl, hA, hb8⟩; have hb58 := below_next hb6 (below_next hb7 hb8); have t8 := Lib.hid (t1.out.below hb58); replace hA := Lib.hid hA; obtain ⟨y0, y1⟩ := KP.out _ (below_next hb27 hb8))
                  | (go_at_call 18; (with_reducible refine (NP.out _ _ t8.out).mono ?_); rintro e w10 ⟨rfl, rfl⟩)
                  | fail)
                have HB8 := Lib.hid (below_next hb27 hb8)
                clear hb25 hb27 hb58 hb5 hb6 hb7 hb8 hr6
                go_quiet (fail)
                have HB9 := Lib.hid (show Below W2.heap.size W2 (w8.drewN nq) from ⟨HB8.out.os, HB8.out.tape, HB8.out.output, HB8.out.size, HB8.out.block⟩)
                have T9 := Lib.hid (t8.out.below (show Below w8.heap.size w8 (w8.drewN nq) from ⟨rfl, rfl, rfl, Nat.le_refl _, fun _ _ => rfl⟩))
                have A9 := Lib.hid (hA.out.below (show Below w8.heap.size w8 (w8.drewN nq) from ⟨rfl, rfl, rfl, Nat.le_refl _, fun _ _ => rfl⟩))
                generalize w8.drewN nq = W9 at HB9 T9 A9 ⊢
                clear y0 y1
                obtain ⟨y0, y1⟩ := KP.out _ HB9.out
                have LF := Lib.hid (leaf20_any b1 C j W9 T9.out hj4)
                have RT := Lib.hid (fun W (hb : Below W9.heap.size W9 W) => root20_any b1 C W (T9.out.below hb))
                obtain ⟨b0, o0, c0, s0, g0, l0⟩ := A9.out.at (m := 0) (k := j) (by decide) hj4
                obtain ⟨b3, o3, c3, s3, g3, l3⟩ := A9.out.at (m := 3) (k := 0) (by decide) (by decide)
                obtain ⟨lx, hlx⟩ : ∃ lx, regI (lvN C 0 j) = lx := ⟨_, rfl⟩
                obtain ⟨rt, hrt⟩ : ∃ rt, regI (lvN C 3 0) = rt := ⟨_, rfl⟩
                rw [hlx] at LF l0
                rw [hrt] at RT l3
                have gA := A9.out.1
                have hji : (j : Int) < 4096 := by omega
                have KS := Lib.hid (fun W (hb : Below W9.heap.size W9 W) => (show (W.cell? ⟨w.heap.size, 1, none⟩ = some (.int .i64 (j : Int))) ∧ W.cell? ⟨g, 0, none⟩ = some (.slice (some ⟨b0, o0, none⟩) 4096 c0) ∧ W.cell? ⟨b0, o0 + j, none⟩ = some (.int .u32 lx) ∧ W.cell? ⟨g, 3, none⟩ = some (.slice (some ⟨b3, o3, none⟩) 1 c3) ∧ W.cell? ⟨b3, o3, none⟩ = some (.int .u32 rt) from
                  ⟨(KP.out _ (below_next HB9.out hb)).2, (hb.cell (p := ⟨g, 0, none⟩) gA).trans s0, (hb.cell (p := ⟨b0, o0 + j, none⟩) g0).trans l0, (hb.cell (p := ⟨g, 3, none⟩) gA).trans s3, (hb.cell (p := ⟨b3, o3, none⟩) g3).trans l3⟩))
                clear hlx hrt s0 l0 s3 l3
                go_upto_region 20 with (first | (go_at_call 19; (with_reducible refine LF.out.mono ?_); rintro e w12 ⟨rfl, rfl⟩) | fail)
                clear y0 y1
                obtain ⟨x1, x2, x3, x4, x5⟩ := KS.out _ (Below.refl _ _)
                have HBD : Below W9.heap.size W9 W9 := Below.refl _ _
                go_region_held3 (fun W => (W.cell? ⟨w.heap.size, 1, none⟩ = some (.int .i64 (j : Int))) ∧ W.cell? ⟨g, 0, none⟩ = some (.slice (some ⟨b0, o0, none⟩) 4096 c0) ∧ W.cell? ⟨b0, o0 + j, none⟩ = some (.int .u32 lx) ∧ W.cell? ⟨g, 3, none⟩ = some (.slice (some ⟨b3, o3, none⟩) 1 c3) ∧ W.cell? ⟨b3, o3, none⟩ = some (.int .u32 rt)) (exact KS.out _ (by repeat (first | exact HBD | with_reducible refine Below.drew ?_))) ((first
                  | (go_at_call 11; (with_reducible refine (awake20_any _).mono ?_); rintro e w9 ⟨rfl, b9⟩; replace HBD := below_next (show Below W9.heap.size W9 _ from by repeat (first | exact HBD | with_reducible refine Below.drew ?_)) b9; clear b9)
                  | (go_at_call 20; (with_reducible refine (RT.out _ (by repeat (first | exact HBD | with_reducible refine Below.drew ?_))).mono ?_); rintro e w13 ⟨rfl, rfl⟩)
                  | fail))
                all_goals
                  go_wp2_with fail
                  go_ret
                  exact ⟨rfl, below_next B2.out (below_next HB9.out (by repeat (first | exact HBD | with_reducible refine Below.drew ?_)))⟩
              · have HN : NodeP C p (j : Int) = (0, 1) := by unfold NodeP; rw [if_neg (by omega)]
                obtain ⟨xn, hxn⟩ : ∃ xn, (NodeP C p (j : Int)).1 = xn := ⟨_, rfl⟩
                obtain ⟨en, hen⟩ : ∃ en, (NodeP C p (j : Int)).2 = en := ⟨_, rfl⟩
                rw [HN] at hxn hen
                dsimp only at hxn hen
                have NP := Lib.hid (fun b W h => node20_any b C p (j : Int) W h)
                rw [HN] at NP
                dsimp only at NP
                clear hxn hen HN
                go_upto_region 12 with (first
                  | (go_at_call 14; (with_reducible refine NW.out.mono ?_); rintro e w5 ⟨b1, rfl, t1, _, hb5⟩; have hb25 := below_next HB.out hb5; replace t1 := Lib.hid t1)
                  | (go_at_call 16; (with_reducible refine (RF.out _ hb25).mono ?_); rintro e w6 ⟨a6, n6, c6, rfl, hr6, hb6⟩)
                  | (go_at_call 15; (with_reducible refine (RC.out _ _ _ _ hr6).mono ?_); rintro e w7 ⟨rfl, hb7⟩; have hb27 := below_next hb25 (below_next hb6 hb7))
                  | (go_at_call 17; (with_reducible refine (LV.out _ hb27).mono ?_); rintro e w8 ⟨g, rfl, hA, hb8⟩; have hb58 := below_next hb6 (below_next hb7 hb8); have t8 := Lib.hid (t1.out.below hb58); replace hA := Lib.hid hA; obtain ⟨y0, y1⟩ := KP.out _ (below_next hb27 hb8))
                  | (go_at_call 18; (with_reducible refine (NP.out _ _ t8.out).mono ?_); rintro e w10 ⟨rfl, rfl⟩)
                  | fail)
                have HB8 := Lib.hid (below_next hb27 hb8)
                clear hb25 hb27 hb58 hb5 hb6 hb7 hb8 hr6
                go_quiet (fail)
                have HB9 := Lib.hid (show Below W2.heap.size W2 (w8.drewN nq) from ⟨HB8.out.os, HB8.out.tape, HB8.out.output, HB8.out.size, HB8.out.block⟩)
                have T9 := Lib.hid (t8.out.below (show Below w8.heap.size w8 (w8.drewN nq) from ⟨rfl, rfl, rfl, Nat.le_refl _, fun _ _ => rfl⟩))
                have A9 := Lib.hid (hA.out.below (show Below w8.heap.size w8 (w8.drewN nq) from ⟨rfl, rfl, rfl, Nat.le_refl _, fun _ _ => rfl⟩))
                generalize w8.drewN nq = W9 at HB9 T9 A9 ⊢
                clear y0 y1
                obtain ⟨y0, y1⟩ := KP.out _ HB9.out
                have LF := Lib.hid (leaf20_bad (.pointer (some ⟨b1, 0, none⟩)) (j : Int) W9 (.inr ⟨b1, rfl⟩) (.inl (keyB_big (by omega))))
                go_wp2_with (first | (go_at_call 19; (with_reducible refine LF.out.mono ?_); rintro e w12 ⟨rfl, rfl⟩) | (go_at_call 11; (with_reducible refine (awake20_any _).mono ?_); rintro e w9 ⟨rfl, hb9⟩) | fail)
                go_ret
                exact ⟨rfl, below_next B2.out (below_next HB9.out hb9)⟩
          · obtain ⟨m, rfl⟩ : ∃ m : Nat, p = (m : Int) := ⟨p.toNat, by omega⟩
            have hm3 : m < 3 := by omega
            have d1 : decide ((m : Int) < 0) = false := decide_eq_false hp0
            have d2 : decide (2 < (m : Int)) = false := decide_eq_false hp2
            by_cases hq0 : q < 0
            · have d3 : decide (q < 0) = true := decide_eq_true hq0
              have HN : NodeP C (m : Int) q = (0, 1) := by unfold NodeP; rw [if_neg (by omega)]
              obtain ⟨xn, hxn⟩ : ∃ xn, (NodeP C (m : Int) q).1 = xn := ⟨_, rfl⟩
              obtain ⟨en, hen⟩ : ∃ en, (NodeP C (m : Int) q).2 = en := ⟨_, rfl⟩
              rw [HN] at hxn hen
              dsimp only at hxn hen
              have NP := Lib.hid (fun b W h => node20_any b C (m : Int) q W h)
              rw [HN] at NP
              dsimp only at NP
              clear hxn hen HN
              go_upto_region 12 with (first
                | (go_at_call 14; (with_reducible refine NW.out.mono ?_); rintro e w5 ⟨b1, rfl, t1, _, hb5⟩; have hb25 := below_next HB.out hb5; replace t1 := Lib.hid t1)
                | (go_at_call 16; (with_reducible refine (RF.out _ hb25).mono ?_); rintro e w6 ⟨a6, n6, c6, rfl, hr6, hb6⟩)
                | (go_at_call 15; (with_reducible refine (RC.out _ _ _ _ hr6).mono ?_); rintro e w7 ⟨rfl, hb7⟩; have hb27 := below_next hb25 (below_next hb6 hb7))
                | (go_at_call 17; (with_reducible refine (LV.out _ hb27).mono ?_); rintro e w8 ⟨g, rfl, hA, hb8⟩; have hb58 := below_next hb6 (below_next hb7 hb8); have t8 := Lib.hid (t1.out.below hb58); replace hA := Lib.hid hA; obtain ⟨y0, y1⟩ := KP.out _ (below_next hb27 hb8))
                | (go_at_call 18; (with_reducible refine (NP.out _ _ t8.out).mono ?_); rintro e w10 ⟨rfl, rfl⟩)
                | fail)
              have HB8 := Lib.hid (below_next hb27 hb8)
              clear hb25 hb27 hb58 hb5 hb6 hb7 hb8 hr6
              go_quiet (fail)
              have HB9 := Lib.hid (show Below W2.heap.size W2 (w8.drewN nq) from ⟨HB8.out.os, HB8.out.tape, HB8.out.output, HB8.out.size, HB8.out.block⟩)
              have T9 := Lib.hid (t8.out.below (show Below w8.heap.size w8 (w8.drewN nq) from ⟨rfl, rfl, rfl, Nat.le_refl _, fun _ _ => rfl⟩))
              have A9 := Lib.hid (hA.out.below (show Below w8.heap.size w8 (w8.drewN nq) from ⟨rfl, rfl, rfl, Nat.le_refl _, fun _ _ => rfl⟩))
              generalize w8.drewN nq = W9 at HB9 T9 A9 ⊢
              clear y0 y1
              obtain ⟨y0, y1⟩ := KP.out _ HB9.out
              have LF := Lib.hid (leaf20_bad (.pointer (some ⟨b1, 0, none⟩)) q W9 (.inr ⟨b1, rfl⟩) (.inl (keyB_neg (by omega))))
              go_wp2_with (first | (go_at_call 19; (with_reducible refine LF.out.mono ?_); rintro e w12 ⟨rfl, rfl⟩) | (go_at_call 11; (with_reducible refine (awake20_any _).mono ?_); rintro e w9 ⟨rfl, hb9⟩) | fail)
              go_ret
              exact ⟨rfl, below_next B2.out (below_next HB9.out hb9)⟩
            · obtain ⟨j, rfl⟩ : ∃ j : Nat, q = (j : Int) := ⟨q.toNat, by omega⟩
              have d3 : decide ((j : Int) < 0) = false := decide_eq_false hq0
              have hszm := szM_le m
              have hsA := szA_succ m
              have hw1 : IntKind.i64.wrap ((m : Int) + 1) = (m : Int) + 1 := IntWalk.i64_in _ (by omega)
              have hw2 : ((m : Int) + 1).toNat = m + 1 := by omega
              have hw3 : 0 ≤ (m : Int) + 1 := by omega
              have hw4 : (m : Int) + 1 < 4 := by omega
              have HSA := Lib.hid hsA
              have HW := Lib.hid (And.intro hw1 hw2)
              clear hsA hw1 hw2
              by_cases hjz : szM m ≤ j
              · by_cases hj4 : j < 4096
                · have HN : NodeP C (m : Int) (j : Int) = (0, 1) := by unfold NodeP; rw [if_neg (by rw [Int.toNat_natCast]; omega)]
                  obtain ⟨xn, hxn⟩ : ∃ xn, (NodeP C (m : Int) (j : Int)).1 = xn := ⟨_, rfl⟩
                  obtain ⟨en, hen⟩ : ∃ en, (NodeP C (m : Int) (j : Int)).2 = en := ⟨_, rfl⟩
                  rw [HN] at hxn hen
                  dsimp only at hxn hen
                  have NP := Lib.hid (fun b W h => node20_any b C (m : Int) (j : Int) W h)
                  rw [HN] at NP
                  dsimp only at NP
                  clear hxn hen HN
                  go_upto_region 12 with (first
                    | (go_at_call 14; (with_reducible refine NW.out.mono ?_); rintro e w5 ⟨b1, rfl, t1, _, hb5⟩; have hb25 := below_next HB.out hb5; replace t1 := Lib.hid t1)
                    | (go_at_call 16; (with_reducible refine (RF.out _ hb25).mono ?_); rintro e w6 ⟨a6, n6, c6, rfl, hr6, hb6⟩)
                    | (go_at_call 15; (with_reducible refine (RC.out _ _ _ _ hr6).mono ?_); rintro e w7 ⟨rfl, hb7⟩; have hb27 := below_next hb25 (below_next hb6 hb7))
                    | (go_at_call 17; (with_reducible refine (LV.out _ hb27).mono ?_); rintro e w8 ⟨g, rfl, hA, hb8⟩; have hb58 := below_next hb6 (below_next hb7 hb8); have t8 := Lib.hid (t1.out.below hb58); replace hA := Lib.hid hA; obtain ⟨y0, y1⟩ := KP.out _ (below_next hb27 hb8))
                    | (go_at_call 18; (with_reducible refine (NP.out _ _ t8.out).mono ?_); rintro e w10 ⟨rfl, rfl⟩)
                    | fail)
                  have HB8 := Lib.hid (below_next hb27 hb8)
                  clear hb25 hb27 hb58 hb5 hb6 hb7 hb8 hr6
                  obtain ⟨ax, nx, cx, sx, rx⟩ := hA.out.2 (m + 1) (by omega)
                  have hnx : nx = szM m := by have := rx.1; rw [rowL_len, HSA.out] at this; exact this
                  obtain ⟨hw1, hw2⟩ := HW.out
                  subst hnx
                  obtain ⟨zz, hzz⟩ : ∃ zz, szM m = zz := ⟨_, rfl⟩
                  rw [hzz] at sx hjz
                  have d4 : decide (zz ≤ j) = true := decide_eq_true hjz
                  clear rx hzz
                  go_quiet (fail)
                  have HB9 := Lib.hid (show Below W2.heap.size W2 (w8.drewN nq) from ⟨HB8.out.os, HB8.out.tape, HB8.out.output, HB8.out.size, HB8.out.block⟩)
                  have T9 := Lib.hid (t8.out.below (show Below w8.heap.size w8 (w8.drewN nq) from ⟨rfl, rfl, rfl, Nat.le_refl _, fun _ _ => rfl⟩))
                  have A9 := Lib.hid (hA.out.below (show Below w8.heap.size w8 (w8.drewN nq) from ⟨rfl, rfl, rfl, Nat.le_refl _, fun _ _ => rfl⟩))
                  generalize w8.drewN nq = W9 at HB9 T9 A9 ⊢
                  clear y0 y1
                  obtain ⟨y0, y1⟩ := KP.out _ HB9.out
                  have LF := Lib.hid (leaf20_any b1 C j W9 T9.out hj4)
                  have RT := Lib.hid (fun W (hb : Below W9.heap.size W9 W) => root20_any b1 C W (T9.out.below hb))
                  obtain ⟨b0, o0, c0, s0, g0, l0⟩ := A9.out.at (m := 0) (k := j) (by decide) hj4
                  obtain ⟨b3, o3, c3, s3, g3, l3⟩ := A9.out.at (m := 3) (k := 0) (by decide) (by decide)
                  obtain ⟨lx, hlx⟩ : ∃ lx, regI (lvN C 0 j) = lx := ⟨_, rfl⟩
                  obtain ⟨rt, hrt⟩ : ∃ rt, regI (lvN C 3 0) = rt := ⟨_, rfl⟩
                  rw [hlx] at LF l0
                  rw [hrt] at RT l3
                  have gA := A9.out.1
                  have hji : (j : Int) < 4096 := by omega
                  have KS := Lib.hid (fun W (hb : Below W9.heap.size W9 W) => (show (W.cell? ⟨w.heap.size, 1, none⟩ = some (.int .i64 (j : Int))) ∧ W.cell? ⟨g, 0, none⟩ = some (.slice (some ⟨b0, o0, none⟩) 4096 c0) ∧ W.cell? ⟨b0, o0 + j, none⟩ = some (.int .u32 lx) ∧ W.cell? ⟨g, 3, none⟩ = some (.slice (some ⟨b3, o3, none⟩) 1 c3) ∧ W.cell? ⟨b3, o3, none⟩ = some (.int .u32 rt) from
                    ⟨(KP.out _ (below_next HB9.out hb)).2, (hb.cell (p := ⟨g, 0, none⟩) gA).trans s0, (hb.cell (p := ⟨b0, o0 + j, none⟩) g0).trans l0, (hb.cell (p := ⟨g, 3, none⟩) gA).trans s3, (hb.cell (p := ⟨b3, o3, none⟩) g3).trans l3⟩))
                  clear hlx hrt s0 l0 s3 l3
                  go_upto_region 20 with (first | (go_at_call 19; (with_reducible refine LF.out.mono ?_); rintro e w12 ⟨rfl, rfl⟩) | fail)
                  clear y0 y1
                  obtain ⟨x1, x2, x3, x4, x5⟩ := KS.out _ (Below.refl _ _)
                  have HBD : Below W9.heap.size W9 W9 := Below.refl _ _
                  go_region_held3 (fun W => (W.cell? ⟨w.heap.size, 1, none⟩ = some (.int .i64 (j : Int))) ∧ W.cell? ⟨g, 0, none⟩ = some (.slice (some ⟨b0, o0, none⟩) 4096 c0) ∧ W.cell? ⟨b0, o0 + j, none⟩ = some (.int .u32 lx) ∧ W.cell? ⟨g, 3, none⟩ = some (.slice (some ⟨b3, o3, none⟩) 1 c3) ∧ W.cell? ⟨b3, o3, none⟩ = some (.int .u32 rt)) (exact KS.out _ (by repeat (first | exact HBD | with_reducible refine Below.drew ?_))) ((first
                    | (go_at_call 11; (with_reducible refine (awake20_any _).mono ?_); rintro e w9 ⟨rfl, b9⟩; replace HBD := below_next (show Below W9.heap.size W9 _ from by repeat (first | exact HBD | with_reducible refine Below.drew ?_)) b9; clear b9)
                    | (go_at_call 20; (with_reducible refine (RT.out _ (by repeat (first | exact HBD | with_reducible refine Below.drew ?_))).mono ?_); rintro e w13 ⟨rfl, rfl⟩)
                    | fail))
                  all_goals
                    go_wp2_with fail
                    go_ret
                    exact ⟨rfl, below_next B2.out (below_next HB9.out (by repeat (first | exact HBD | with_reducible refine Below.drew ?_)))⟩
                · have HN : NodeP C (m : Int) (j : Int) = (0, 1) := by unfold NodeP; rw [if_neg (by rw [Int.toNat_natCast]; omega)]
                  obtain ⟨xn, hxn⟩ : ∃ xn, (NodeP C (m : Int) (j : Int)).1 = xn := ⟨_, rfl⟩
                  obtain ⟨en, hen⟩ : ∃ en, (NodeP C (m : Int) (j : Int)).2 = en := ⟨_, rfl⟩
                  rw [HN] at hxn hen
                  dsimp only at hxn hen
                  have NP := Lib.hid (fun b W h => node20_any b C (m : Int) (j : Int) W h)
                  rw [HN] at NP
                  dsimp only at NP
                  clear hxn hen HN
                  go_upto_region 12 with (first
                    | (go_at_call 14; (with_reducible refine NW.out.mono ?_); rintro e w5 ⟨b1, rfl, t1, _, hb5⟩; have hb25 := below_next HB.out hb5; replace t1 := Lib.hid t1)
                    | (go_at_call 16; (with_reducible refine (RF.out _ hb25).mono ?_); rintro e w6 ⟨a6, n6, c6, rfl, hr6, hb6⟩)
                    | (go_at_call 15; (with_reducible refine (RC.out _ _ _ _ hr6).mono ?_); rintro e w7 ⟨rfl, hb7⟩; have hb27 := below_next hb25 (below_next hb6 hb7))
                    | (go_at_call 17; (with_reducible refine (LV.out _ hb27).mono ?_); rintro e w8 ⟨g, rfl, hA, hb8⟩; have hb58 := below_next hb6 (below_next hb7 hb8); have t8 := Lib.hid (t1.out.below hb58); replace hA := Lib.hid hA; obtain ⟨y0, y1⟩ := KP.out _ (below_next hb27 hb8))
                    | (go_at_call 18; (with_reducible refine (NP.out _ _ t8.out).mono ?_); rintro e w10 ⟨rfl, rfl⟩)
                    | fail)
                  have HB8 := Lib.hid (below_next hb27 hb8)
                  clear hb25 hb27 hb58 hb5 hb6 hb7 hb8 hr6
                  obtain ⟨ax, nx, cx, sx, rx⟩ := hA.out.2 (m + 1) (by omega)
                  have hnx : nx = szM m := by have := rx.1; rw [rowL_len, HSA.out] at this; exact this
                  obtain ⟨hw1, hw2⟩ := HW.out
                  subst hnx
                  obtain ⟨zz, hzz⟩ : ∃ zz, szM m = zz := ⟨_, rfl⟩
                  rw [hzz] at sx hjz
                  have d4 : decide (zz ≤ j) = true := decide_eq_true hjz
                  clear rx hzz
                  go_quiet (fail)
                  have HB9 := Lib.hid (show Below W2.heap.size W2 (w8.drewN nq) from ⟨HB8.out.os, HB8.out.tape, HB8.out.output, HB8.out.size, HB8.out.block⟩)
                  have T9 := Lib.hid (t8.out.below (show Below w8.heap.size w8 (w8.drewN nq) from ⟨rfl, rfl, rfl, Nat.le_refl _, fun _ _ => rfl⟩))
                  have A9 := Lib.hid (hA.out.below (show Below w8.heap.size w8 (w8.drewN nq) from ⟨rfl, rfl, rfl, Nat.le_refl _, fun _ _ => rfl⟩))
                  generalize w8.drewN nq = W9 at HB9 T9 A9 ⊢
                  clear y0 y1
                  obtain ⟨y0, y1⟩ := KP.out _ HB9.out
                  have LF := Lib.hid (leaf20_bad (.pointer (some ⟨b1, 0, none⟩)) (j : Int) W9 (.inr ⟨b1, rfl⟩) (.inl (keyB_big (by omega))))
                  go_wp2_with (first | (go_at_call 19; (with_reducible refine LF.out.mono ?_); rintro e w12 ⟨rfl, rfl⟩) | (go_at_call 11; (with_reducible refine (awake20_any _).mono ?_); rintro e w9 ⟨rfl, hb9⟩) | fail)
                  go_ret
                  exact ⟨rfl, below_next B2.out (below_next HB9.out hb9)⟩
              · have hj4 : j < 4096 := by omega
                have hjm : j < szM m := by omega
                obtain ⟨R, hR⟩ : ∃ R, regI (lvN C (m + 1) j) = R := ⟨_, rfl⟩
                have HN : NodeP C (m : Int) (j : Int) = (R, 0) := by unfold NodeP; rw [if_pos (by rw [Int.toNat_natCast]; omega), Int.toNat_natCast, Int.toNat_natCast, hR]
                have HR := Lib.hid hR
                have HJM := Lib.hid hjm
                clear hR hjm
                obtain ⟨xn, hxn⟩ : ∃ xn, (NodeP C (m : Int) (j : Int)).1 = xn := ⟨_, rfl⟩
                obtain ⟨en, hen⟩ : ∃ en, (NodeP C (m : Int) (j : Int)).2 = en := ⟨_, rfl⟩
                rw [HN] at hxn hen
                dsimp only at hxn hen
                have NP := Lib.hid (fun b W h => node20_any b C (m : Int) (j : Int) W h)
                rw [HN] at NP
                dsimp only at NP
                clear hxn hen HN
                go_upto_region 12 with (first
                  | (go_at_call 14; (with_reducible refine NW.out.mono ?_); rintro e w5 ⟨b1, rfl, t1, _, hb5⟩; have hb25 := below_next HB.out hb5; replace t1 := Lib.hid t1)
                  | (go_at_call 16; (with_reducible refine (RF.out _ hb25).mono ?_); rintro e w6 ⟨a6, n6, c6, rfl, hr6, hb6⟩)
                  | (go_at_call 15; (with_reducible refine (RC.out _ _ _ _ hr6).mono ?_); rintro e w7 ⟨rfl, hb7⟩; have hb27 := below_next hb25 (below_next hb6 hb7))
                  | (go_at_call 17; (with_reducible refine (LV.out _ hb27).mono ?_); rintro e w8 ⟨g, rfl, hA, hb8⟩; have hb58 := below_next hb6 (below_next hb7 hb8); have t8 := Lib.hid (t1.out.below hb58); replace hA := Lib.hid hA; obtain ⟨y0, y1⟩ := KP.out _ (below_next hb27 hb8))
                  | (go_at_call 18; (with_reducible refine (NP.out _ _ t8.out).mono ?_); rintro e w10 ⟨rfl, rfl⟩)
                  | fail)
                have HB8 := Lib.hid (below_next hb27 hb8)
                clear hb25 hb27 hb58 hb5 hb6 hb7 hb8 hr6
                obtain ⟨ax, nx, cx, sx, rx⟩ := hA.out.2 (m + 1) (by omega)
                have hnx : nx = szM m := by have := rx.1; rw [rowL_len, HSA.out] at this; exact this
                obtain ⟨hw1, hw2⟩ := HW.out
                subst hnx
                obtain ⟨zz, hzz⟩ : ∃ zz, szM m = zz := ⟨_, rfl⟩
                rw [hzz] at sx hjz
                have d4 : decide (zz ≤ j) = false := decide_eq_false hjz
                clear rx hzz
                go_quiet (fail)
                have HB9 := Lib.hid (show Below W2.heap.size W2 (w8.drewN nq) from ⟨HB8.out.os, HB8.out.tape, HB8.out.output, HB8.out.size, HB8.out.block⟩)
                have T9 := Lib.hid (t8.out.below (show Below w8.heap.size w8 (w8.drewN nq) from ⟨rfl, rfl, rfl, Nat.le_refl _, fun _ _ => rfl⟩))
                have A9 := Lib.hid (hA.out.below (show Below w8.heap.size w8 (w8.drewN nq) from ⟨rfl, rfl, rfl, Nat.le_refl _, fun _ _ => rfl⟩))
                generalize w8.drewN nq = W9 at HB9 T9 A9 ⊢
                obtain ⟨bx, ox, cx2, sx2, gx2, lx2⟩ := A9.out.at (m := m + 1) (k := j) (by omega) (by rw [HSA.out]; exact HJM.out)
                rw [HR.out] at lx2
                obtain ⟨zy, hzy⟩ : ∃ zy, szA (m + 1) = zy := ⟨_, rfl⟩
                rw [hzy] at sx2
                have hjy : (j : Int) < (zy : Int) := by have h1 := HSA.out; have h2 := HJM.out; omega
                have hjy2 : j < zy := by omega
                have hw5 : 0 ≤ (j : Int) := by omega
                clear sx hzy y0 y1
                obtain ⟨y0, y1⟩ := KP.out _ HB9.out
                go_wp2_with fail
                go_quiet (fail)
                have HB10 := Lib.hid (show Below W2.heap.size W2 (W9.drewN nq) from ⟨HB9.out.os, HB9.out.tape, HB9.out.output, HB9.out.size, HB9.out.block⟩)
                have T10 := Lib.hid (T9.out.below (show Below W9.heap.size W9 (W9.drewN nq) from ⟨rfl, rfl, rfl, Nat.le_refl _, fun _ _ => rfl⟩))
                have A10 := Lib.hid (A9.out.below (show Below W9.heap.size W9 (W9.drewN nq) from ⟨rfl, rfl, rfl, Nat.le_refl _, fun _ _ => rfl⟩))
                generalize W9.drewN nq = W10 at HB10 T10 A10 ⊢
                clear sx2 lx2 hw1 hw2 d4
                clear y0 y1
                obtain ⟨y0, y1⟩ := KP.out _ HB10.out
                have LF := Lib.hid (leaf20_any b1 C j W10 T10.out hj4)
                have RT := Lib.hid (fun W (hb : Below W10.heap.size W10 W) => root20_any b1 C W (T10.out.below hb))
                obtain ⟨b0, o0, c0, s0, g0, l0⟩ := A10.out.at (m := 0) (k := j) (by decide) hj4
                obtain ⟨b3, o3, c3, s3, g3, l3⟩ := A10.out.at (m := 3) (k := 0) (by decide) (by decide)
                obtain ⟨lx, hlx⟩ : ∃ lx, regI (lvN C 0 j) = lx := ⟨_, rfl⟩
                obtain ⟨rt, hrt⟩ : ∃ rt, regI (lvN C 3 0) = rt := ⟨_, rfl⟩
                rw [hlx] at LF l0
                rw [hrt] at RT l3
                have gA := A10.out.1
                have hji : (j : Int) < 4096 := by omega
                have KS := Lib.hid (fun W (hb : Below W10.heap.size W10 W) => (show (W.cell? ⟨w.heap.size, 1, none⟩ = some (.int .i64 (j : Int))) ∧ W.cell? ⟨g, 0, none⟩ = some (.slice (some ⟨b0, o0, none⟩) 4096 c0) ∧ W.cell? ⟨b0, o0 + j, none⟩ = some (.int .u32 lx) ∧ W.cell? ⟨g, 3, none⟩ = some (.slice (some ⟨b3, o3, none⟩) 1 c3) ∧ W.cell? ⟨b3, o3, none⟩ = some (.int .u32 rt) from
                  ⟨(KP.out _ (below_next HB10.out hb)).2, (hb.cell (p := ⟨g, 0, none⟩) gA).trans s0, (hb.cell (p := ⟨b0, o0 + j, none⟩) g0).trans l0, (hb.cell (p := ⟨g, 3, none⟩) gA).trans s3, (hb.cell (p := ⟨b3, o3, none⟩) g3).trans l3⟩))
                clear hlx hrt s0 l0 s3 l3
                go_upto_region 20 with (first | (go_at_call 19; (with_reducible refine LF.out.mono ?_); rintro e w12 ⟨rfl, rfl⟩) | fail)
                clear y0 y1
                obtain ⟨x1, x2, x3, x4, x5⟩ := KS.out _ (Below.refl _ _)
                have HBD : Below W10.heap.size W10 W10 := Below.refl _ _
                go_region_held3 (fun W => (W.cell? ⟨w.heap.size, 1, none⟩ = some (.int .i64 (j : Int))) ∧ W.cell? ⟨g, 0, none⟩ = some (.slice (some ⟨b0, o0, none⟩) 4096 c0) ∧ W.cell? ⟨b0, o0 + j, none⟩ = some (.int .u32 lx) ∧ W.cell? ⟨g, 3, none⟩ = some (.slice (some ⟨b3, o3, none⟩) 1 c3) ∧ W.cell? ⟨b3, o3, none⟩ = some (.int .u32 rt)) (exact KS.out _ (by repeat (first | exact HBD | with_reducible refine Below.drew ?_))) ((first
                  | (go_at_call 11; (with_reducible refine (awake20_any _).mono ?_); rintro e w9 ⟨rfl, b9⟩; replace HBD := below_next (show Below W10.heap.size W10 _ from by repeat (first | exact HBD | with_reducible refine Below.drew ?_)) b9; clear b9)
                  | (go_at_call 20; (with_reducible refine (RT.out _ (by repeat (first | exact HBD | with_reducible refine Below.drew ?_))).mono ?_); rintro e w13 ⟨rfl, rfl⟩)
                  | fail))
                all_goals
                  go_wp2_with fail
                  go_ret
                  exact ⟨rfl, below_next B2.out (below_next HB10.out (by repeat (first | exact HBD | with_reducible refine Below.drew ?_)))⟩
end Go.Proofs.Ytjjadappjapjhaa
