/-
  DELTA: Make (in work).
-/
import Derived.Test.YtmifjippdlmpiaaDlK
namespace Go.Proofs.Ytmifjippdlmpiaa
open Go.RowKit Go.Deep Go.Shelf
attribute [local go_sem] Oper.semAt_some

theorem Try.infoPair : (Try.prog.info? 75).map (fun i => (i.zero, i.size, i.bytes)) = some (some (.agg #[.int .i64 0, .int .i64 0]), 2, 16) := by kernel_rfl
theorem cells_two (w : World) (x0 x1 : Value) (t : TypeId) (s : Nat) (hs : s = w.heap.size) : ∀ j u, [x0, x1][j]? = some u → (w.alloc (.cells #[x0, x1] t)).cell? ((⟨s, 0, none⟩ : Addr).add j) = some u := by
  subst hs
  intro j u hj
  have h := heap_alloc_new w (.cells #[x0, x1] t)
  rw [addr_add, Nat.zero_add]
  match j, hj with
  | 0, hj => cases hj; exact cell_of_row _ _ 0 _ _ _ h
  | 1, hj => cases hj; exact cell_of_row _ _ 1 _ _ _ h
  | j + 2, hj => simp at hj
theorem two_one (x y : Int) : ∀ v ∈ [Value.int .i64 x, .int .i64 y], v.oneCell' = true := by
  intro u hu; simp at hu; rcases hu with rfl | rfl <;> rfl
def isX (x : Mt Pr Tn) : Cl := if x.inB then x.b.2.2 else (x.a.2, x.inA)
def makX (l : List Pr) (x : Mt Pr Tn) : List Pr := if (isX x).2 then l ++ [(x.key, (isX x).1)] else l
def makS (xs : List (Mt Pr Tn)) : List Pr := xs.foldl makX []
theorem makS_snoc (xs : List (Mt Pr Tn)) (x : Mt Pr Tn) : makS (xs ++ [x]) = makX (makS xs) x := by simp [makS]
theorem makS_len (xs : List (Mt Pr Tn)) : (makS xs).length ≤ xs.length := by
  have h : ∀ (ys : List (Mt Pr Tn)) (l : List Pr), (ys.foldl makX l).length ≤ l.length + ys.length := by
    intro ys
    induction ys with
    | nil => intro l; simp
    | cons y ys ih =>
      intro l
      have h1 := ih (makX l y)
      have h2 : (makX l y).length ≤ l.length + 1 := by unfold makX; split <;> simp
      simp only [List.foldl_cons, List.length_cons]
      omega
  have := h xs []
  unfold makS
  simpa using this
def makP (a : List Pr) (b : List Tn) : List Pr × Int := if tblB a && chkB b then (if fitsB a b then (makS (meetsPT a b), 0) else ([], 4)) else ([], 1)
def MPost (w : World) (l : List Pr) (z : Int) (e : Ending) (w' : World) : Prop := ∃ v, e = .returned (.tuple #[v, .int .i64 z]) ∧ OwnsR encP 2 75 w' w.heap.size v l ∧ Below w.heap.size w w'
set_option maxRecDepth 100000 in
set_option maxHeartbeats 4000000 in
theorem make_any (aa ab : Option Addr) (na nb ca cb : Nat) (a : List Pr) (b : List Tn) (w : World) (ha : RArg encP 2 w aa na ca a) (hb : RArg encT 5 w ab nb cb b) (hla : a.length ≤ 4096) (hlb : b.length ≤ 4096) :
    Calls Try.prog 18 #[.slice aa na ca, .slice ab nb cb] w (MPost w (makP a b).1 (makP a b).2) := by
  obtain rfl := ha.1
  obtain rfl := hb.1
  obtain ⟨i0, hi, hz0, hz1, hz2⟩ := info_parts Try.infoPair
  have CA := tcheck_any aa a.length ca a w ha
  have CB := fun w' (h : Below w.heap.size w w') => dcheck_any ab b.length cb b w' (hb.below h)
  have CF := fun w' (h : Below w.heap.size w w') => fits_any aa ab a.length b.length ca cb a b w' (ha.below h) (hb.below h)
  refine (callsIn_wide (n := 3)).1 ?_
  refine callsIn_of_wp_marks Try.func18 rfl trivial ?_ rfl
  simp only [Try.ntmps18, List.size_toArray, List.length_cons, List.length_nil, Nat.reduceAdd, Nat.reduceSub, Array.replicate_succ, Array.replicate_zero, List.push_toArray, List.append_toArray, List.nil_append, List.cons_append]
  refine wpIn_wide.2 ?_
  unfold makP
  cases hta : tblB a with
  | false =>
    rw [hta] at CA
    go_wp2_with (go_at_call 38; (with_reducible refine CA.mono ?_); rintro e w1 ⟨rfl, b1⟩)
    exact ⟨_, results_tmp2 rfl _ _ _, _, rfl, OwnsR.nil _ _ _ _ _, b1⟩
  | true =>
    rw [hta] at CA
    cases htb : chkB b with
    | false =>
      rw [htb] at CB
      go_wp2_with (first
        | (go_at_call 38; (with_reducible refine CA.mono ?_); rintro e w1 ⟨rfl, b1⟩; clear CA)
        | (go_at_call 20; (with_reducible refine (CB _ b1).mono ?_); rintro e w2 ⟨rfl, b2⟩))
      exact ⟨_, results_tmp2 rfl _ _ _, _, rfl, OwnsR.nil _ _ _ _ _, below_next b1 b2⟩
    | true =>
      rw [htb] at CB
      cases hfb : fitsB a b with
      | false =>
        rw [hfb] at CF
        go_wp2_with (first
          | (go_at_call 38; (with_reducible refine CA.mono ?_); rintro e w1 ⟨rfl, b1⟩; clear CA)
          | (go_at_call 20; (with_reducible refine (CB _ b1).mono ?_); rintro e w2 ⟨rfl, b2⟩; (have B2 := below_next b1 b2))
          | (go_at_call 22; (with_reducible refine (CF _ B2).mono ?_); rintro e w3 ⟨rfl, b3⟩))
        exact ⟨_, results_tmp2 rfl _ _ _, _, rfl, OwnsR.nil _ _ _ _ _, below_next B2 b3⟩
      | true =>
        rw [hfb] at CF
        go_wp2_with (first
          | (go_at_call 38; (with_reducible refine CA.mono ?_); rintro e w1 ⟨rfl, b1⟩; clear CA)
          | (go_at_call 20; (with_reducible refine (CB _ b1).mono ?_); rintro e w2 ⟨rfl, b2⟩; (have B2 := below_next b1 b2))
          | (go_at_call 22; (with_reducible refine (CF _ B2).mono ?_); rintro e w3 ⟨rfl, b3⟩; (have B3 := below_next B2 b3))
          | (go_at_call 44; (with_reducible refine (bothPT_any _ _ _ _ _ _ _).mono ?_); rintro e w4 ⟨rfl, b4, x0, x1, x2, x3, hsz⟩))
        rw [World.size_alloc] at x0 x1 x2 x3
        have bO : Boxed w4 w3.heap.size 22 (.slice none 0 0) := (b4.block _ (by simp)).trans (World.alloc_heap_new w3 _)
        have B4 : Below w.heap.size w w4 := below_next (below_alloc B3 _) b4
        have e4 : w4.heap.size = w3.heap.size + 5 := by rw [hsz]; simp
        have g3 : w.heap.size ≤ w3.heap.size := B3.size
        have hcap : CapPT w4.heap.size (fun k => k = w3.heap.size) w4 (w3.heap.size + 1) (w3.heap.size + 1 + 1 + 1) (w3.heap.size + 1 + 1) (w3.heap.size + 1 + 1 + 1 + 1) aa ab ca cb a b :=
          { pa := ⟨by omega, by omega⟩, pb := ⟨by omega, by omega⟩, qa := ⟨by omega, by omega⟩, qb := ⟨by omega, by omega⟩, xa := x0, xb := x1, ya := x2, yb := x3
            ra := fun j hj => by
              obtain ⟨bk, off, e, hlt, hc⟩ := ha.2.2.2.2 j hj
              exact ⟨bk, off, e, ⟨by omega, by omega⟩, fun i v hi => (B4.cell (p := ⟨bk, off + j * 2 + i, none⟩) hlt).trans (hc i v hi)⟩
            rb := fun j hj => by
              obtain ⟨bk, off, e, hlt, hc⟩ := hb.2.2.2.2 j hj
              exact ⟨bk, off, e, ⟨by omega, by omega⟩, fun i v hi => (B4.cell (p := ⟨bk, off + j * 5 + i, none⟩) hlt).trans (hc i v hi)⟩
            la := ⟨ha.2.1, ha.2.2.1⟩, lb := ⟨hb.2.1, hb.2.2.1⟩, ba := tblB_low hta, bb := chkF_low _ _ htb }
        have hml : (meetsPT a b).length ≤ 8192 := Nat.le_trans (meets_len _ _ _ _ a b) (by omega)
        clear x0 x1 x2 x3 CB b1 b2 b3 b4 hsz CF e4
        refine (wpIn_wide (n := 3)).1 ?_
        refine wpIn_rangeFunc_ownH rfl (by decide) (gf := 67) (lb := #[.pointer (some ⟨w3.heap.size + 1, 0, none⟩), .pointer (some ⟨w3.heap.size + 1 + 1 + 1, 0, none⟩), .pointer (some ⟨w3.heap.size + 1 + 1, 0, none⟩), .pointer (some ⟨w3.heap.size + 1 + 1 + 1 + 1, 0, none⟩)]) rfl trivial (enters_of Try.func67 (by kernel_rfl) rfl)
          (bothPT_stops 2 w4.heap.size (w3.heap.size + 1) (w3.heap.size + 1 + 1 + 1) (w3.heap.size + 1 + 1) (w3.heap.size + 1 + 1 + 1 + 1) (fun k => k = w3.heap.size) aa ab ca cb a b w4 hcap (Nat.le_refl _)) Kept.trans (kept_put (Nat.le_refl _)) (Below.refl _ _) (fun _ => rfl)
          (fun pre W => (∃ v, Boxed W w3.heap.size 22 v ∧ W.ownsRow w4.heap.size 75 2 v (makS pre).length (flatR encP (makS pre)) ∧ True) ∧ Below w.heap.size w W ∧ w4.heap.size ≤ W.heap.size)
          (fun _ _ _ => False)
          (OwnFrom.and (Own.from (holdsRow_own w4.heap.size w3.heap.size 22 75 2 (fun pre => (makS pre).length) (fun pre => flatR encP (makS pre)) (fun _ _ => True)) _) (OwnFrom.and (ownFrom_below (Nat.le_refl _) B4.size) (fun s A B row hs hg hr => Nat.le_trans hs hg.size)))
          (fun _ _ _ _ _ hs _ _ => hs)
          ⟨⟨_, bO, OwnsR.nil _ _ _ _ _, trivial⟩, B4, Nat.le_refl _⟩
          (fun x a' W => ∃ Bx, w4.heap.size ≤ Bx ∧ XB 94 W Bx [.int .i64 x.key, .int .i64 x.a.1, .int .i64 x.a.2, .int .i64 x.b.1, .int .i64 x.b.2.1.1, .bool x.b.2.1.2, .int .i64 x.b.2.2.1, .bool x.b.2.2.2, .bool x.inA, .bool x.inB] ∧ a' = { tmps := #[.slice aa a.length ca, .slice ab b.length cb, undef, undef, .slice none 0 0, .int .i64 0, .pointer (some ⟨w3.heap.size, 0, none⟩), .pointer (some ⟨Bx, 0, none⟩), undef, .slice aa a.length ca, .bool true, .bool false, .bool false, .slice ab b.length cb, .bool true, .bool false, .bool false, .slice aa a.length ca, .slice ab b.length cb, .bool true, .bool false, .slice aa a.length ca, .slice ab b.length cb, .func (.func 67) #[] #[.pointer (some ⟨w3.heap.size + 1, 0, none⟩), .pointer (some ⟨w3.heap.size + 1 + 1 + 1, 0, none⟩), .pointer (some ⟨w3.heap.size + 1 + 1, 0, none⟩), .pointer (some ⟨w3.heap.size + 1 + 1 + 1 + 1, 0, none⟩)], .agg #[.int .i64 x.key, .int .i64 x.a.1, .int .i64 x.a.2, .int .i64 x.b.1, .int .i64 x.b.2.1.1, .bool x.b.2.1.2, .int .i64 x.b.2.2.1, .bool x.b.2.2.2, .bool x.inA, .bool x.inB], undef, undef, undef, undef, undef, undef, undef, undef, undef, undef, undef, undef, undef, undef, undef, undef, undef, undef, undef, undef, undef], defers := [] })
          (fun x a' => fun _ A B row hs hg hr => by
            obtain ⟨Bx, h1, h2, h3⟩ := hs
            exact ⟨Bx, h1, h2.kept hg (fun e => by obtain ⟨_, o, ho, hc⟩ := hr Bx e.symm; rw [show A.heap[Bx]? = _ from h2] at ho; cases ho; cases hc), h3⟩)
          ?assign ?body ?done ?stop
        case assign =>
          intro l pre x W K hI hK
          simp only [encPT, encP, encT, List.cons_append, List.nil_append]
          gi_wp2
          obtain ⟨⟨v, hv, hrow, _⟩, hB, hn⟩ := hI
          refine hK _ _ ((KeepsOthers.alloc _ _).from _) (Kept.below ((Below.refl _ _).alloc (Nat.le_refl _) _) hn) ⟨⟨v, hv.alloc _, hrow.alloc _, trivial⟩, hB.alloc hB.size _, by simp; omega⟩ ⟨W.heap.size, hn, heap_alloc_new _ _, rfl⟩
        case body =>
          rintro l pre ⟨xk, xa, xb, ia, ib⟩ a' W hl ⟨r, hr⟩ ⟨⟨v, hv, hrow, _⟩, hB, hn⟩ ⟨Bx, hBx, hX, rfl⟩ hlt
          dsimp only at hX ⊢
          have hvb : Hid (Boxed W w3.heap.size 22 v) := Lib.hid hv
          have hXb : Hid (XB 94 W Bx [.int .i64 xk, .int .i64 xa.1, .int .i64 xa.2, .int .i64 xb.1, .int .i64 xb.2.1.1, .bool xb.2.1.2, .int .i64 xb.2.2.1, .bool xb.2.2.2, .bool ia, .bool ib]) := Lib.hid hX
          have hrb : Hid (OwnsR encP 2 75 W w4.heap.size v (makS pre)) := Lib.hid hrow
          have hlen : (makS pre).length ≤ 8192 := Nat.le_trans (makS_len pre) (by omega)
          obtain ⟨y1, y2, y8⟩ := And.intro (XB.at hXb.out 1 _ rfl) (And.intro (XB.at hXb.out 2 _ rfl) (XB.at hXb.out 8 _ rfl))
          obtain ⟨xa1, xa2⟩ := xa
          obtain ⟨xb1, xw, ⟨xi, xs⟩⟩ := xb
          dsimp only at y1 y2 hX hXb ⊢
          clear hv hX hrow
          cases ib with
          | false =>
            cases ia with
            | false =>
              gi_wp2_with (refine ⟨trivial, ?_⟩; gi_at_call 42; refine (CallsIn.inRound l (callsIn_wide.2 (cell_any (xa1, xa2) false _))).mono ?_; rintro e wk ⟨rfl, bk⟩; (have bo := bk.alloc bk.size (.cells #[.int .i64 xa2, .bool false] 61)); (have hX9 := XB.below hXb.out bo); (have q9 := XB.at hX9 9 _ rfl); (have q6 := XB.at hX9 6 _ rfl); (have q7 := XB.at hX9 7 _ rfl); (have bz : Below W.heap.size W (wk.alloc (.cells #[.int .i64 xa2, .bool false] 61)) := (bk.alloc bk.size (.cells #[.int .i64 xa2, .bool false] 61))); (have hvz := Boxed.below hvb.out bz); (have z6 := hvz.cell); (have f6 := hvz.frozen); (have k0 := XB.at (XB.below hXb.out bz) 0 _ rfl); (have hrz : OwnsR encP 2 75 (wk.alloc (.cells #[.int .i64 xa2, .bool false] 61)) w4.heap.size v (makS pre) := OwnsR.below hrb.out bz))
              refine ⟨(KeepsOthers.of_grownBy (row := none) ⟨bz.os, bz.tape, bz.output, bz.size, fun k hk _ => bz.block k hk⟩ (fun j o e => by cases e)).from _, Kept.below bz hn, ⟨v, hvz, ?_, trivial⟩, hB.trans (bz.mono hB.size), Nat.le_trans hn bz.size⟩
              rw [makS_snoc, show makX (makS pre) ⟨xk, (xa1, xa2), (xb1, xw, (xi, xs)), false, false⟩ = makS pre from rfl]
              exact hrz
            | true =>
              gi_wp2_with (first | (refine ⟨trivial, ?_⟩; gi_at_call 42; refine (CallsIn.inRound l (callsIn_wide.2 (cell_any (xa1, xa2) true _))).mono ?_; rintro e wk ⟨rfl, bk⟩; (have bo := bk.alloc bk.size (.cells #[.int .i64 xa2, .bool true] 61)); (have hX9 := XB.below hXb.out bo); (have q9 := XB.at hX9 9 _ rfl); (have q6 := XB.at hX9 6 _ rfl); (have q7 := XB.at hX9 7 _ rfl); (have bz : Below W.heap.size W (wk.alloc (.cells #[.int .i64 xa2, .bool true] 61)) := (bk.alloc bk.size (.cells #[.int .i64 xa2, .bool true] 61))); (have hvz := Boxed.below hvb.out bz); (have z6 := hvz.cell); (have f6 := hvz.frozen); (have k0 := XB.at (XB.below hXb.out bz) 0 _ rfl); (have hrz : OwnsR encP 2 75 (wk.alloc (.cells #[.int .i64 xa2, .bool true] 61)) w4.heap.size v (makS pre) := OwnsR.below hrb.out bz)) | (gi_at_builtin; refine wpListIn_append_own _ rfl _ _ 22 rfl w4.heap.size 75 i0 (.agg #[.int .i64 0, .int .i64 0]) 2 16 Try.underlying22 hi hz0 hz1 hz2 rfl (by decide) _ _ _ rfl (World.ownsRow.alloc hrz _) ⟨wk.heap.size + 1, 0, none⟩ 1 1 [.int .i64 xk, .int .i64 xa2] rfl rfl ?c1 ?c2 ?c3 ?c4 ?c5 ?_))
              case c1 => exact cells_two _ _ _ _ _ (by simp )
              case c2 => exact two_one _ _
              case c3 => unfold maxLen; omega
              case c4 => omega
              case c5 => have := bz.size; simp  at *; omega
              intro v' w9 hown hgrow _
              have g9 := grownBy_trans (World.grownBy_alloc (wk.alloc (.cells #[.int .i64 xa2, .bool true] 61)) (.cells #[.int .i64 xk, .int .i64 xa2] 75) none) hgrow
              have hr9 := OwnsR.snoc (enc := encP) (l := makS pre) (x := ((xk, xa2) : Pr)) rfl hown
              have hv9 := Boxed.kept hvz g9 (hvz.not_row (by decide) hrz)
              obtain ⟨va, vc, hve, _⟩ := OwnsR.arg encP_len hr9
              obtain rfl : v' = .slice va ((makS pre).length + 1) vc := by rw [hve]; simp
              clear hve
              have hnr9 := hv9.not_row (by decide) hr9
              have z9 := hv9.cell
              have f9 := hv9.frozen
              have ko : Hid (KeepsOthers W (w9.setCell ⟨w3.heap.size, 0, none⟩ (.slice va ((makS pre).length + 1) vc))) := Lib.hid (((KeepsOthers.of_grownBy (row := none) ⟨bz.os, bz.tape, bz.output, bz.size, fun k hk _ => bz.block k hk⟩ (fun j o e => by cases e)).trans (KeepsOthers.of_grownBy g9 (row_cells hrz))).trans (KeepsOthers.setCell _ _ _))
              have kk : Hid (Kept w4.heap.size (fun k => k = w3.heap.size) W (w9.setCell ⟨w3.heap.size, 0, none⟩ (.slice va ((makS pre).length + 1) vc))) := Lib.hid (((Kept.below bz hn).trans (Kept.grown (Nat.le_trans hn bz.size) g9 (row_base hrz))).trans (Kept.set _ _ _ rfl))
              have hI : Hid ((∃ v, Boxed (w9.setCell ⟨w3.heap.size, 0, none⟩ (.slice va ((makS pre).length + 1) vc)) w3.heap.size 22 v ∧ (w9.setCell ⟨w3.heap.size, 0, none⟩ (.slice va ((makS pre).length + 1) vc)).ownsRow w4.heap.size 75 2 v (makS (pre ++ [⟨xk, (xa1, xa2), (xb1, xw, (xi, xs)), true, false⟩])).length (flatR encP (makS (pre ++ [⟨xk, (xa1, xa2), (xb1, xw, (xi, xs)), true, false⟩]))) ∧ True) ∧ Below w.heap.size w (w9.setCell ⟨w3.heap.size, 0, none⟩ (.slice va ((makS pre).length + 1) vc)) ∧ w4.heap.size ≤ (w9.setCell ⟨w3.heap.size, 0, none⟩ (.slice va ((makS pre).length + 1) vc)).heap.size) := Lib.hid (by
                rw [makS_snoc, show makX (makS pre) ⟨xk, (xa1, xa2), (xb1, xw, (xi, xs)), true, false⟩ = makS pre ++ [(xk, xa2)] from rfl]
                refine ⟨⟨_, hv9.set _, World.ownsRow.kept hr9 (grownBy_setCell' w9 w3.heap.size _) (.inr hnr9.symm), trivial⟩, ?_, ?_⟩
                · exact (((hB.trans (bz.mono hB.size)).grown g9 (Nat.le_trans hB.size bz.size) (fun k e => Nat.le_trans B4.size (row_base hrz k e)))).setCell (p := ⟨w3.heap.size, 0, none⟩) (by exact g3) _
                · have := g9.size
                  have := bz.size
                  simp [World.setCell] at *
                  omega)
              clear hown hgrow
              gi_wp2
              exact ⟨ko.out.from _, kk.out, hI.out⟩
          | true =>
            cases xs with
            | false =>
              gi_wp2_with (refine ⟨trivial, ?_⟩; gi_at_call 42; refine (CallsIn.inRound l (callsIn_wide.2 (cell_any (xa1, xa2) ia _))).mono ?_; rintro e wk ⟨rfl, bk⟩; (have bo := bk.alloc bk.size (.cells #[.int .i64 xa2, .bool ia] 61)); (have hX9 := XB.below hXb.out bo); (have q9 := XB.at hX9 9 _ rfl); (have q6 := XB.at hX9 6 _ rfl); (have q7 := XB.at hX9 7 _ rfl); (have bz : Below W.heap.size W (wk.alloc (.cells #[.int .i64 xi, .bool false] 61)) := (bk.alloc bk.size (.cells #[.int .i64 xi, .bool false] 61))); (have hvz := Boxed.below hvb.out bz); (have z6 := hvz.cell); (have f6 := hvz.frozen); (have k0 := XB.at (XB.below hXb.out bz) 0 _ rfl); (have hrz : OwnsR encP 2 75 (wk.alloc (.cells #[.int .i64 xi, .bool false] 61)) w4.heap.size v (makS pre) := OwnsR.below hrb.out bz))
              refine ⟨(KeepsOthers.of_grownBy (row := none) ⟨bz.os, bz.tape, bz.output, bz.size, fun k hk _ => bz.block k hk⟩ (fun j o e => by cases e)).from _, Kept.below bz hn, ⟨v, hvz, ?_, trivial⟩, hB.trans (bz.mono hB.size), Nat.le_trans hn bz.size⟩
              rw [makS_snoc, show makX (makS pre) ⟨xk, (xa1, xa2), (xb1, xw, (xi, false)), ia, true⟩ = makS pre from rfl]
              exact hrz
            | true =>
              gi_wp2_with (first | (refine ⟨trivial, ?_⟩; gi_at_call 42; refine (CallsIn.inRound l (callsIn_wide.2 (cell_any (xa1, xa2) ia _))).mono ?_; rintro e wk ⟨rfl, bk⟩; (have bo := bk.alloc bk.size (.cells #[.int .i64 xa2, .bool ia] 61)); (have hX9 := XB.below hXb.out bo); (have q9 := XB.at hX9 9 _ rfl); (have q6 := XB.at hX9 6 _ rfl); (have q7 := XB.at hX9 7 _ rfl); (have bz : Below W.heap.size W (wk.alloc (.cells #[.int .i64 xi, .bool true] 61)) := (bk.alloc bk.size (.cells #[.int .i64 xi, .bool true] 61))); (have hvz := Boxed.below hvb.out bz); (have z6 := hvz.cell); (have f6 := hvz.frozen); (have k0 := XB.at (XB.below hXb.out bz) 0 _ rfl); (have hrz : OwnsR encP 2 75 (wk.alloc (.cells #[.int .i64 xi, .bool true] 61)) w4.heap.size v (makS pre) := OwnsR.below hrb.out bz)) | (gi_at_builtin; refine wpListIn_append_own _ rfl _ _ 22 rfl w4.heap.size 75 i0 (.agg #[.int .i64 0, .int .i64 0]) 2 16 Try.underlying22 hi hz0 hz1 hz2 rfl (by decide) _ _ _ rfl (World.ownsRow.alloc hrz _) ⟨wk.heap.size + 1, 0, none⟩ 1 1 [.int .i64 xk, .int .i64 xi] rfl rfl ?c1 ?c2 ?c3 ?c4 ?c5 ?_))
              case c1 => exact cells_two _ _ _ _ _ (by simp )
              case c2 => exact two_one _ _
              case c3 => unfold maxLen; omega
              case c4 => omega
              case c5 => have := bz.size; simp  at *; omega
              intro v' w9 hown hgrow _
              have g9 := grownBy_trans (World.grownBy_alloc (wk.alloc (.cells #[.int .i64 xi, .bool true] 61)) (.cells #[.int .i64 xk, .int .i64 xi] 75) none) hgrow
              have hr9 := OwnsR.snoc (enc := encP) (l := makS pre) (x := ((xk, xi) : Pr)) rfl hown
              have hv9 := Boxed.kept hvz g9 (hvz.not_row (by decide) hrz)
              obtain ⟨va, vc, hve, _⟩ := OwnsR.arg encP_len hr9
              obtain rfl : v' = .slice va ((makS pre).length + 1) vc := by rw [hve]; simp
              clear hve
              have hnr9 := hv9.not_row (by decide) hr9
              have z9 := hv9.cell
              have f9 := hv9.frozen
              have ko : Hid (KeepsOthers W (w9.setCell ⟨w3.heap.size, 0, none⟩ (.slice va ((makS pre).length + 1) vc))) := Lib.hid (((KeepsOthers.of_grownBy (row := none) ⟨bz.os, bz.tape, bz.output, bz.size, fun k hk _ => bz.block k hk⟩ (fun j o e => by cases e)).trans (KeepsOthers.of_grownBy g9 (row_cells hrz))).trans (KeepsOthers.setCell _ _ _))
              have kk : Hid (Kept w4.heap.size (fun k => k = w3.heap.size) W (w9.setCell ⟨w3.heap.size, 0, none⟩ (.slice va ((makS pre).length + 1) vc))) := Lib.hid (((Kept.below bz hn).trans (Kept.grown (Nat.le_trans hn bz.size) g9 (row_base hrz))).trans (Kept.set _ _ _ rfl))
              have hI : Hid ((∃ v, Boxed (w9.setCell ⟨w3.heap.size, 0, none⟩ (.slice va ((makS pre).length + 1) vc)) w3.heap.size 22 v ∧ (w9.setCell ⟨w3.heap.size, 0, none⟩ (.slice va ((makS pre).length + 1) vc)).ownsRow w4.heap.size 75 2 v (makS (pre ++ [⟨xk, (xa1, xa2), (xb1, xw, (xi, true)), ia, true⟩])).length (flatR encP (makS (pre ++ [⟨xk, (xa1, xa2), (xb1, xw, (xi, true)), ia, true⟩]))) ∧ True) ∧ Below w.heap.size w (w9.setCell ⟨w3.heap.size, 0, none⟩ (.slice va ((makS pre).length + 1) vc)) ∧ w4.heap.size ≤ (w9.setCell ⟨w3.heap.size, 0, none⟩ (.slice va ((makS pre).length + 1) vc)).heap.size) := Lib.hid (by
                rw [makS_snoc, show makX (makS pre) ⟨xk, (xa1, xa2), (xb1, xw, (xi, true)), ia, true⟩ = makS pre ++ [(xk, xi)] from rfl]
                refine ⟨⟨_, hv9.set _, World.ownsRow.kept hr9 (grownBy_setCell' w9 w3.heap.size _) (.inr hnr9.symm), trivial⟩, ?_, ?_⟩
                · exact (((hB.trans (bz.mono hB.size)).grown g9 (Nat.le_trans hB.size bz.size) (fun k e => Nat.le_trans B4.size (row_base hrz k e)))).setCell (p := ⟨w3.heap.size, 0, none⟩) (by exact g3) _
                · have := g9.size
                  have := bz.size
                  simp [World.setCell] at *
                  omega)
              clear hown hgrow
              gi_wp2
              exact ⟨ko.out.from _, kk.out, hI.out⟩
        case done =>
          rintro D ys W hD rfl ⟨⟨v, hv, hrow, _⟩, hB, _⟩ hK
          have hc := hv.cell
          go_wp2
          refine ⟨by simp, .inl ⟨_, _, rfl, run_takeDeferred hK, ?_⟩⟩
          exact ⟨_, results_tmp2 rfl _ _ _, v, rfl, OwnsR.low (ownsRow_putObj hrow _ hK rfl) B4.size, hB.trans (belowK_b (w := w) (Nat.le_refl _) W D _ _ (by have := B4.size; omega) hK rfl rfl)⟩
        case stop =>
          rintro D c pre W _ _ h _
          exact h.elim
end Go.Proofs.Ytmifjippdlmpiaa
