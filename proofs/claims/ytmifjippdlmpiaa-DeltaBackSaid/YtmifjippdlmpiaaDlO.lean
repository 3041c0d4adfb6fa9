/-
  DELTA: Then (written by wip/tools/mkDlO.py).
-/
import Derived.Test.YtmifjippdlmpiaaDlN
namespace Go.Proofs.Ytmifjippdlmpiaa
open Go.RowKit Go.Deep Go.Shelf
attribute [local go_sem] Oper.semAt_some

def wasT (x : Mt Tn Tn) : Cl := if x.inA then x.a.2.1 else x.b.2.1
def isTT (x : Mt Tn Tn) : Cl := if x.inA && !x.inB then x.a.2.2 else x.b.2.2
def thnX (x : Mt Tn Tn) : Bool := !(x.inA && x.inB && !decide (x.a.2.2 = x.b.2.1))
def stepN (l : List Tn) (x : Mt Tn Tn) : List Tn := turnS l x.key (wasT x) (isTT x)
def thnS (xs : List (Mt Tn Tn)) : List Tn := xs.foldl stepN []
theorem thnS_snoc (xs : List (Mt Tn Tn)) (x : Mt Tn Tn) : thnS (xs ++ [x]) = stepN (thnS xs) x := by simp [thnS]
theorem thnS_len (xs : List (Mt Tn Tn)) : (thnS xs).length ≤ xs.length := by
  have h : ∀ (ys : List (Mt Tn Tn)) (l : List Tn), (ys.foldl stepN l).length ≤ l.length + ys.length := by
    intro ys
    induction ys with
    | nil => intro l; simp
    | cons y ys ih =>
      intro l
      have h1 := ih (stepN l y)
      have h2 : (stepN l y).length ≤ l.length + 1 := by unfold stepN turnS; split <;> simp
      simp only [List.foldl_cons, List.length_cons]
      omega
  have := h xs []
  unfold thnS
  simpa using this
def thenP (l m : List Tn) : List Tn × Int := if chkB l && chkB m then (if (meetsTT l m).all thnX then (thnS (meetsTT l m), 0) else ([], 7)) else ([], 1)
/-- Two boxes of cells, made anew. -/
def TwoC (W : World) (p q : Nat) (c d : Cl) (w' : World) : Prop := Below W.heap.size W w' ∧ p ≠ q ∧ W.heap.size ≤ p ∧ W.heap.size ≤ q ∧ XB 61 w' p [.int .i64 c.1, .bool c.2] ∧ XB 61 w' q [.int .i64 d.1, .bool d.2]
theorem grownBy_setAt (w : World) (b i : Nat) (v : Value) : w.grownBy (w.setCell ⟨b, i, none⟩ v) (some b) :=
  ⟨rfl, rfl, rfl, by simp [World.setCell], fun k _ hk => heap_setCell_other w ⟨b, i, none⟩ k v (fun e => hk (by simp [e]))⟩
theorem twoC_ab (W : World) (c d : Cl) : TwoC W W.heap.size (W.heap.size + 1) c d (((W.alloc (.cells #[.int .i64 c.1, .bool c.2] 61)).alloc (.cells #[.int .i64 d.1, .bool d.2] 61)).drew) := by
  refine ⟨(((Below.refl _ _).alloc (Nat.le_refl _) _).alloc (by simp) _).drew, by omega, by omega, by omega, ?_, ?_⟩
  · exact XB.below (show XB 61 (W.alloc (.cells #[.int .i64 c.1, .bool c.2] 61)) W.heap.size [.int .i64 c.1, .bool c.2] from heap_alloc_new W _) ((Below.refl _ _).alloc (Nat.le_refl _) _).drew
  · have := heap_alloc_new (W.alloc (.cells #[.int .i64 c.1, .bool c.2] 61)) (.cells #[.int .i64 d.1, .bool d.2] 61)
    rwa [World.size_alloc] at this
theorem twoC_ba (W : World) (c d : Cl) : TwoC W (W.heap.size + 1) W.heap.size c d (((W.alloc (.cells #[.int .i64 d.1, .bool d.2] 61)).alloc (.cells #[.int .i64 c.1, .bool c.2] 61)).drew) := by
  obtain ⟨h1, h2, h3, h4, h5, h6⟩ := twoC_ab W d c
  exact ⟨h1, h2.symm, h4, h3, h6, h5⟩
set_option maxRecDepth 100000 in
set_option maxHeartbeats 4000000 in
theorem then_any (aa ab : Option Addr) (na nb ca cb : Nat) (a b : List Tn) (w : World) (ha : RArg encT 5 w aa na ca a) (hb : RArg encT 5 w ab nb cb b) (hla : a.length ≤ 4096) (hlb : b.length ≤ 4096) :
    Calls Try.prog 25 #[.slice aa na ca, .slice ab nb cb] w (BPost w (thenP a b).1 (thenP a b).2) := by
  obtain rfl := ha.1
  obtain rfl := hb.1
  have CA := fun w' (h : Below w.heap.size w w') => dcheck_any aa a.length ca a w' (ha.below h)
  have CB := fun w' (h : Below w.heap.size w w') => dcheck_any ab b.length cb b w' (hb.below h)
  refine (callsIn_wide (n := 3)).1 ?_
  refine callsIn_of_wp_marks Try.func25 rfl trivial ?_ rfl
  simp only [Try.ntmps25, List.size_toArray, List.length_cons, List.length_nil, Nat.reduceAdd, Nat.reduceSub, Array.replicate_succ, Array.replicate_zero, List.push_toArray, List.append_toArray, List.nil_append, List.cons_append]
  refine wpIn_wide.2 ?_
  have BR : Below w.heap.size w ((w.alloc (.cells #[.slice none 0 0] 25)).alloc (.cells #[.int .i64 0] 26)) := ((Below.refl _ _).alloc (Nat.le_refl _) _).alloc (by simp) _
  have bR : Boxed ((w.alloc (.cells #[.slice none 0 0] 25)).alloc (.cells #[.int .i64 0] 26)) w.heap.size 25 (.slice none 0 0) := (Boxed.new w _ _).alloc _
  have bE : Boxed ((w.alloc (.cells #[.slice none 0 0] 25)).alloc (.cells #[.int .i64 0] 26)) (w.heap.size + 1) 26 (.int .i64 0) := by
    have := Boxed.new (w.alloc (.cells #[.slice none 0 0] 25)) 26 (.int .i64 0)
    rwa [World.size_alloc] at this
  unfold thenP
  cases hta : chkB a with
  | false =>
    rw [hta] at CA
    go_wp2_with (go_at_call 20; (with_reducible refine (CA _ BR).mono ?_); rintro e w1 ⟨rfl, b1⟩; have bR1 := Boxed.below bR b1; have bE1 := Boxed.below bE b1; have z0 := bR1.cell; have f0 := bR1.frozen; have z1 := bE1.cell; have f1 := bE1.frozen)
    have y0 : ((w1.setCell ⟨w.heap.size, 0, none⟩ (.slice none 0 0)).setCell ⟨w.heap.size + 1, 0, none⟩ (.int .i64 1)).cell? ⟨w.heap.size, 0, none⟩ = some (.slice none 0 0) := ((bR1.set _).kept (grownBy_setCell' _ _ _) (by simp)).cell
    have y1 : ((w1.setCell ⟨w.heap.size, 0, none⟩ (.slice none 0 0)).setCell ⟨w.heap.size + 1, 0, none⟩ (.int .i64 1)).cell? ⟨w.heap.size + 1, 0, none⟩ = some (.int .i64 1) := ((bE1.kept (grownBy_setCell' w1 w.heap.size _) (by simp)).set _).cell
    exact ⟨_, by simp [results, Try.results25, go_sem, y0, y1], _, rfl, OwnsR.nil _ _ _ _ _, ((BR.trans (b1.mono BR.size)).setCell (p := ⟨w.heap.size, 0, none⟩) (Nat.le_refl _) _).setCell (p := ⟨w.heap.size + 1, 0, none⟩) (Nat.le_succ _) _⟩
  | true =>
    rw [hta] at CA
    cases htb : chkB b with
    | false =>
      rw [htb] at CB
      go_wp2_with (first
        | (go_at_call 20; (with_reducible refine (CA _ BR).mono ?_); rintro e w1 ⟨rfl, b1⟩; (have B1 := BR.trans (b1.mono BR.size)); (have bR1 := Boxed.below bR b1); (have bE1 := Boxed.below bE b1); clear CA)
        | (go_at_call 20; (with_reducible refine (CB _ B1).mono ?_); rintro e w2 ⟨rfl, b2⟩; (have B2 := below_next B1 b2); (have bR2 := Boxed.below bR1 b2); (have bE2 := Boxed.below bE1 b2); have z0 := bR2.cell; have f0 := bR2.frozen; have z1 := bE2.cell; have f1 := bE2.frozen))
      have y0 : ((w2.setCell ⟨w.heap.size, 0, none⟩ (.slice none 0 0)).setCell ⟨w.heap.size + 1, 0, none⟩ (.int .i64 1)).cell? ⟨w.heap.size, 0, none⟩ = some (.slice none 0 0) := ((bR2.set _).kept (grownBy_setCell' _ _ _) (by simp)).cell
      have y1 : ((w2.setCell ⟨w.heap.size, 0, none⟩ (.slice none 0 0)).setCell ⟨w.heap.size + 1, 0, none⟩ (.int .i64 1)).cell? ⟨w.heap.size + 1, 0, none⟩ = some (.int .i64 1) := ((bE2.kept (grownBy_setCell' w2 w.heap.size _) (by simp)).set _).cell
      exact ⟨_, by simp [results, Try.results25, go_sem, y0, y1], _, rfl, OwnsR.nil _ _ _ _ _, (B2.setCell (p := ⟨w.heap.size, 0, none⟩) (Nat.le_refl _) _).setCell (p := ⟨w.heap.size + 1, 0, none⟩) (Nat.le_succ _) _⟩
    | true =>
      rw [htb] at CB
      go_wp2_with (first
        | (go_at_call 20; (with_reducible refine (CA _ BR).mono ?_); rintro e w1 ⟨rfl, b1⟩; (have B1 := BR.trans (b1.mono BR.size)); (have bR1 := Boxed.below bR b1); (have bE1 := Boxed.below bE b1); clear CA)
        | (go_at_call 20; (with_reducible refine (CB _ B1).mono ?_); rintro e w2 ⟨rfl, b2⟩; (have B2 := below_next B1 b2); (have bR2 := Boxed.below bR1 b2); (have bE2 := Boxed.below bE1 b2))
        | (go_at_call 48; (with_reducible refine (bothTT_any _ _ _ _ _ _ _).mono ?_); rintro e w3 ⟨rfl, b3, x0, x1, x2, x3, hsz⟩))
      rw [World.size_alloc] at x0 x1 x2 x3
      have bO : Boxed w3 w2.heap.size 25 (.slice none 0 0) := (b3.block _ (by simp)).trans (World.alloc_heap_new w2 _)
      have bR3 := Boxed.below (bR2.alloc (.cells #[.slice none 0 0] 25)) b3
      have bE3 := Boxed.below (bE2.alloc (.cells #[.slice none 0 0] 25)) b3
      have B3 : Below w.heap.size w w3 := below_next (below_alloc B2 _) b3
      have e3 : w3.heap.size = w2.heap.size + 5 := by rw [hsz]; simp
      have g2 : w.heap.size ≤ w2.heap.size := B2.size
      have g3 : w.heap.size + 2 ≤ w2.heap.size := by have := bE2.lt; omega
      have hcap : CapTT w3.heap.size (fun k => k = w2.heap.size) w3 (w2.heap.size + 1) (w2.heap.size + 1 + 1 + 1) (w2.heap.size + 1 + 1) (w2.heap.size + 1 + 1 + 1 + 1) aa ab ca cb a b :=
        { pa := ⟨by omega, by omega⟩, pb := ⟨by omega, by omega⟩, qa := ⟨by omega, by omega⟩, qb := ⟨by omega, by omega⟩, xa := x0, xb := x1, ya := x2, yb := x3
          ra := fun j hj => by
            obtain ⟨bk, off, e, hlt, hc⟩ := ha.2.2.2.2 j hj
            exact ⟨bk, off, e, ⟨by omega, by omega⟩, fun i v hi => (B3.cell (p := ⟨bk, off + j * 5 + i, none⟩) hlt).trans (hc i v hi)⟩
          rb := fun j hj => by
            obtain ⟨bk, off, e, hlt, hc⟩ := hb.2.2.2.2 j hj
            exact ⟨bk, off, e, ⟨by omega, by omega⟩, fun i v hi => (B3.cell (p := ⟨bk, off + j * 5 + i, none⟩) hlt).trans (hc i v hi)⟩
          la := ⟨ha.2.1, ha.2.2.1⟩, lb := ⟨hb.2.1, hb.2.2.1⟩, ba := chkF_low _ _ hta, bb := chkF_low _ _ htb }
      have hml : (meetsTT a b).length ≤ 8192 := Nat.le_trans (meets_len _ _ _ _ a b) (by omega)
      clear x0 x1 x2 x3 CB b1 b2 b3 hsz bR bE bR1 bE1 bR2 bE2
      refine (wpIn_wide (n := 3)).1 ?_
      refine wpIn_rangeFunc_ownH rfl (by decide) (gf := 68) (lb := #[.pointer (some ⟨w2.heap.size + 1, 0, none⟩), .pointer (some ⟨w2.heap.size + 1 + 1 + 1, 0, none⟩), .pointer (some ⟨w2.heap.size + 1 + 1, 0, none⟩), .pointer (some ⟨w2.heap.size + 1 + 1 + 1 + 1, 0, none⟩)]) rfl trivial (enters_of Try.func68 (by kernel_rfl) rfl)
        (bothTT_stops 2 w3.heap.size (w2.heap.size + 1) (w2.heap.size + 1 + 1 + 1) (w2.heap.size + 1 + 1) (w2.heap.size + 1 + 1 + 1 + 1) (fun k => k = w2.heap.size) aa ab ca cb a b w3 hcap (Nat.le_refl _)) Kept.trans (kept_put (Nat.le_refl _)) (Below.refl _ _) (fun _ => rfl)
        (fun pre W => (∃ v, Boxed W w2.heap.size 25 v ∧ W.ownsRow w3.heap.size 63 5 v (thnS pre).length (flatR encT (thnS pre)) ∧ True) ∧ (Below w.heap.size w W ∧ w3.heap.size ≤ W.heap.size) ∧ pre.all thnX = true ∧ Boxed W w.heap.size 25 (.slice none 0 0) ∧ Boxed W (w.heap.size + 1) 26 (.int .i64 0))
        (fun c pre W => c = .ret ∧ (∃ x ∈ pre, thnX x = false) ∧ Below w.heap.size w W ∧ Boxed W w.heap.size 25 (.slice none 0 0) ∧ Boxed W (w.heap.size + 1) 26 (.int .i64 7))
        (OwnFrom.and (Own.from (holdsRow_own w3.heap.size w2.heap.size 25 63 5 (fun pre => (thnS pre).length) (fun pre => flatR encT (thnS pre)) (fun _ _ => True)) _) (OwnFrom.and (OwnFrom.and (ownFrom_below (Nat.le_refl _) B3.size) (fun s A B row hs hg hr => Nat.le_trans hs hg.size)) (fun s A B row hs hg hr => ⟨hs.1, boxed_own w.heap.size 25 (fun (_ : List (Mt Tn Tn)) => .slice none 0 0) s A B row hs.2.1 hg (fun r e => (hr r e).2), boxed_own (w.heap.size + 1) 26 (fun (_ : List (Mt Tn Tn)) => .int .i64 0) s A B row hs.2.2 hg (fun r e => (hr r e).2)⟩)))
        (fun c s A B row hs hg hr => ⟨hs.1, hs.2.1, ownFrom_below (β := Unit) (Nat.le_refl _) B3.size () A B row hs.2.2.1 hg hr, boxed_own w.heap.size 25 (fun (_ : List (Mt Tn Tn)) => .slice none 0 0) s A B row hs.2.2.2.1 hg (fun r e => (hr r e).2), boxed_own (w.heap.size + 1) 26 (fun (_ : List (Mt Tn Tn)) => .int .i64 7) s A B row hs.2.2.2.2 hg (fun r e => (hr r e).2)⟩)
        ⟨⟨_, bO, OwnsR.nil _ _ _ _ _, trivial⟩, ⟨B3, Nat.le_refl _⟩, rfl, bR3, bE3⟩
        (fun x a' W => ∃ Bx, w3.heap.size ≤ Bx ∧ XB 101 W Bx [.int .i64 x.key, .int .i64 x.a.1, .int .i64 x.a.2.1.1, .bool x.a.2.1.2, .int .i64 x.a.2.2.1, .bool x.a.2.2.2, .int .i64 x.b.1, .int .i64 x.b.2.1.1, .bool x.b.2.1.2, .int .i64 x.b.2.2.1, .bool x.b.2.2.2, .bool x.inA, .bool x.inB] ∧ a' = { tmps := #[.slice aa a.length ca, .slice ab b.length cb, undef, undef, .pointer (some ⟨w.heap.size, 0, none⟩), .pointer (some ⟨w.heap.size + 1, 0, none⟩), .pointer (some ⟨w2.heap.size, 0, none⟩), .pointer (some ⟨Bx, 0, none⟩), undef, undef, .slice aa a.length ca, .bool true, .bool false, .bool false, .slice ab b.length cb, .bool true, .bool false, .bool false, .slice aa a.length ca, .slice ab b.length cb, .func (.func 68) #[] #[.pointer (some ⟨w2.heap.size + 1, 0, none⟩), .pointer (some ⟨w2.heap.size + 1 + 1 + 1, 0, none⟩), .pointer (some ⟨w2.heap.size + 1 + 1, 0, none⟩), .pointer (some ⟨w2.heap.size + 1 + 1 + 1 + 1, 0, none⟩)], .agg #[.int .i64 x.key, .int .i64 x.a.1, .int .i64 x.a.2.1.1, .bool x.a.2.1.2, .int .i64 x.a.2.2.1, .bool x.a.2.2.2, .int .i64 x.b.1, .int .i64 x.b.2.1.1, .bool x.b.2.1.2, .int .i64 x.b.2.2.1, .bool x.b.2.2.2, .bool x.inA, .bool x.inB], undef, undef, undef, undef, undef, undef, undef, undef, undef, undef, undef, undef, undef, undef, undef, undef, undef, undef, undef, undef, undef, undef, undef, undef, undef, undef, undef, undef, undef, undef, undef, undef, undef, undef, undef], defers := [] })
        (fun x a' => fun _ A B row hs hg hr => by
          obtain ⟨Bx, h1, h2, h3⟩ := hs
          exact ⟨Bx, h1, h2.kept hg (fun e => by obtain ⟨_, o, ho, hc⟩ := hr Bx e.symm; rw [show A.heap[Bx]? = _ from h2] at ho; cases ho; cases hc), h3⟩)
        ?assign ?body ?done ?stop
      case assign =>
        intro l pre x W K hI hK
        simp only [encTT, encT, List.cons_append, List.nil_append]
        gi_wp2
        obtain ⟨⟨v, hv, hrow, _⟩, ⟨hB, hn⟩, hal, h0, h1⟩ := hI
        refine hK _ _ ((KeepsOthers.alloc _ _).from _) (Kept.below ((Below.refl _ _).alloc (Nat.le_refl _) _) hn) ⟨⟨v, hv.alloc _, hrow.alloc _, trivial⟩, ⟨hB.alloc hB.size _, by simp; omega⟩, hal, h0.alloc _, h1.alloc _⟩ ⟨W.heap.size, hn, heap_alloc_new _ _, rfl⟩
      case body =>
        rintro l pre ⟨xk, xa, xb, ia, ib⟩ a' W hl ⟨r, hr⟩ ⟨⟨v, hv, hrow, _⟩, ⟨hB, hn⟩, hal, h0, h1⟩ ⟨Bx, hBx, hX, rfl⟩ hlt
        obtain ⟨ak, ⟨av, aw⟩, ⟨ai, ax⟩⟩ := xa
        obtain ⟨bk, ⟨bv, bs⟩, ⟨bi, bt⟩⟩ := xb
        dsimp only at hX ⊢
        have hlen : (thnS pre).length ≤ 8192 := Nat.le_trans (thnS_len pre) (by omega)
        have KS : ∀ W', Below W.heap.size W W' → (fun W : World => W.cell? ⟨Bx, 0, none⟩ = some (.int .i64 xk) ∧ W.cell? ⟨Bx, 1, none⟩ = some (.int .i64 ak) ∧ W.cell? ⟨Bx, 2, none⟩ = some (.int .i64 av) ∧ W.cell? ⟨Bx, 3, none⟩ = some (.bool aw) ∧ W.cell? ⟨Bx, 4, none⟩ = some (.int .i64 ai) ∧ W.cell? ⟨Bx, 5, none⟩ = some (.bool ax) ∧ W.cell? ⟨Bx, 6, none⟩ = some (.int .i64 bk) ∧ W.cell? ⟨Bx, 7, none⟩ = some (.int .i64 bv) ∧ W.cell? ⟨Bx, 8, none⟩ = some (.bool bs) ∧ W.cell? ⟨Bx, 9, none⟩ = some (.int .i64 bi) ∧ W.cell? ⟨Bx, 10, none⟩ = some (.bool bt) ∧ W.cell? ⟨Bx, 11, none⟩ = some (.bool ia) ∧ W.cell? ⟨Bx, 12, none⟩ = some (.bool ib)) W' := fun W' hb => by
          have hX2 := XB.below hX hb
          exact ⟨hX2.at 0 _ rfl, hX2.at 1 _ rfl, hX2.at 2 _ rfl, hX2.at 3 _ rfl, hX2.at 4 _ rfl, hX2.at 5 _ rfl, hX2.at 6 _ rfl, hX2.at 7 _ rfl, hX2.at 8 _ rfl, hX2.at 9 _ rfl, hX2.at 10 _ rfl, hX2.at 11 _ rfl, hX2.at 12 _ rfl⟩
        replace KS := Lib.hid KS
        have hvb : Hid (Boxed W w2.heap.size 25 v) := Lib.hid hv
        have hXb : Hid (XB 101 W Bx [.int .i64 xk, .int .i64 ak, .int .i64 av, .bool aw, .int .i64 ai, .bool ax, .int .i64 bk, .int .i64 bv, .bool bs, .int .i64 bi, .bool bt, .bool ia, .bool ib]) := Lib.hid hX
        have hrb : Hid (OwnT W w3.heap.size v (thnS pre)) := Lib.hid hrow
        have h0b : Hid (Boxed W w.heap.size 25 (.slice none 0 0)) := Lib.hid h0
        have h1b : Hid (Boxed W (w.heap.size + 1) 26 (.int .i64 0)) := Lib.hid h1
        clear hv hX hrow h0 h1
        gi_wp2
        refine wpIn_mono (Q := fun e a' w' => e = Exit.normal ∧ ∃ p q, a' = { tmps := #[.slice aa a.length ca, .slice ab b.length cb, undef, undef, .pointer (some ⟨w.heap.size, 0, none⟩), .pointer (some ⟨w.heap.size + 1, 0, none⟩), .pointer (some ⟨w2.heap.size, 0, none⟩), .pointer (some ⟨Bx, 0, none⟩), .pointer (some ⟨p, 0, none⟩), .pointer (some ⟨q, 0, none⟩), .slice aa a.length ca, .bool true, .bool false, .bool false, .slice ab b.length cb, .bool true, .bool false, .bool false, .slice aa a.length ca, .slice ab b.length cb, .func (.func 68) #[] #[.pointer (some ⟨w2.heap.size + 1, 0, none⟩), .pointer (some ⟨w2.heap.size + 1 + 1 + 1, 0, none⟩), .pointer (some ⟨w2.heap.size + 1 + 1, 0, none⟩), .pointer (some ⟨w2.heap.size + 1 + 1 + 1 + 1, 0, none⟩)], .agg #[.int .i64 xk, .int .i64 ak, .int .i64 av, .bool aw, .int .i64 ai, .bool ax, .int .i64 bk, .int .i64 bv, .bool bs, .int .i64 bi, .bool bt, .bool ia, .bool ib], .pointer (some ⟨Bx, 1, none⟩), .pointer (some ⟨Bx, 2, none⟩), .agg #[.int .i64 av, .bool aw], .pointer (some ⟨Bx, 6, none⟩), .pointer (some ⟨Bx, 9, none⟩), .agg #[.int .i64 bi, .bool bt], undef, undef, undef, undef, undef, undef, undef, undef, undef, undef, undef, undef, undef, undef, undef, undef, undef, undef, undef, undef, undef, undef, undef, undef, undef, undef, undef, undef, undef], defers := [] } ∧ Hid (TwoC W p q (av, aw) (bi, bt) w')) ?_ ?_
        · refine wpIn_region_round (S := fun W => W.cell? ⟨Bx, 0, none⟩ = some (.int .i64 xk) ∧ W.cell? ⟨Bx, 1, none⟩ = some (.int .i64 ak) ∧ W.cell? ⟨Bx, 2, none⟩ = some (.int .i64 av) ∧ W.cell? ⟨Bx, 3, none⟩ = some (.bool aw) ∧ W.cell? ⟨Bx, 4, none⟩ = some (.int .i64 ai) ∧ W.cell? ⟨Bx, 5, none⟩ = some (.bool ax) ∧ W.cell? ⟨Bx, 6, none⟩ = some (.int .i64 bk) ∧ W.cell? ⟨Bx, 7, none⟩ = some (.int .i64 bv) ∧ W.cell? ⟨Bx, 8, none⟩ = some (.bool bs) ∧ W.cell? ⟨Bx, 9, none⟩ = some (.int .i64 bi) ∧ W.cell? ⟨Bx, 10, none⟩ = some (.bool bt) ∧ W.cell? ⟨Bx, 11, none⟩ = some (.bool ia) ∧ W.cell? ⟨Bx, 12, none⟩ = some (.bool ib)) (by kernel_rfl) (by kernel_rfl) (by rintro ⟨a, w, h⟩; exact absurd h.1 (by simp)) (KS.out _ (Below.refl _ _).drew) (fun hS => ?_)
          refine wpAnyH_take (i := 0) (v := ?_) rfl (by kernel_rfl) (by kernel_rfl) (by kernel_rfl) (fun _ _ _ h => by cases h.1) (Or.inl ⟨by kernel_rfl, ?_⟩) hS ?_
          rotate_left
          · intro w hSw
            (try dsimp only at hSw)
            go_simp
            try with_reducible rfl
          dsimp only [Act.put, List.getElem?_toArray, List.getElem?_cons_succ, List.getElem?_cons_zero, List.getElem_toArray, List.getElem_cons_succ, List.getElem_cons_zero]
          try simp only [List.setIfInBounds_toArray, List.set_cons_zero, List.set_cons_succ]
          refine wpAnyH_take (i := 1) (v := ?_) rfl (by kernel_rfl) (by kernel_rfl) (by kernel_rfl) (fun _ _ _ h => by cases h.1) (Or.inl ⟨by kernel_rfl, ?_⟩) hS ?_
          rotate_left
          · intro w hSw
            (try dsimp only at hSw)
            go_simp
            try with_reducible rfl
          dsimp only [Act.put, List.getElem?_toArray, List.getElem?_cons_succ, List.getElem?_cons_zero, List.getElem_toArray, List.getElem_cons_succ, List.getElem_cons_zero]
          try simp only [List.setIfInBounds_toArray, List.set_cons_zero, List.set_cons_succ]
          refine wpAnyH_take (i := 2) (v := ?_) rfl (by kernel_rfl) (by kernel_rfl) (by kernel_rfl) (fun _ _ _ h => by cases h.1) (Or.inl ⟨by kernel_rfl, ?_⟩) hS ?_
          rotate_left
          · intro w hSw
            (try dsimp only at hSw)
            go_simp
            try with_reducible rfl
          dsimp only [Act.put, List.getElem?_toArray, List.getElem?_cons_succ, List.getElem?_cons_zero, List.getElem_toArray, List.getElem_cons_succ, List.getElem_cons_zero]
          try simp only [List.setIfInBounds_toArray, List.set_cons_zero, List.set_cons_succ]
          refine wpAnyH_take (i := 3) (v := ?_) rfl (by kernel_rfl) (by kernel_rfl) (by kernel_rfl) (fun _ _ _ h => by cases h.1) (Or.inl ⟨by kernel_rfl, ?_⟩) hS ?_
          rotate_left
          · intro w hSw
            (try dsimp only at hSw)
            go_simp
            try with_reducible rfl
          dsimp only [Act.put, List.getElem?_toArray, List.getElem?_cons_succ, List.getElem?_cons_zero, List.getElem_toArray, List.getElem_cons_succ, List.getElem_cons_zero]
          try simp only [List.setIfInBounds_toArray, List.set_cons_zero, List.set_cons_succ]
          refine wpAnyH_take (i := 4) (v := ?_) rfl (by kernel_rfl) (by kernel_rfl) (by kernel_rfl) (fun _ _ _ h => by cases h.1) (Or.inl ⟨by kernel_rfl, ?_⟩) hS ?_
          rotate_left
          · intro w hSw
            (try dsimp only at hSw)
            go_simp
            try with_reducible rfl
          dsimp only [Act.put, List.getElem?_toArray, List.getElem?_cons_succ, List.getElem?_cons_zero, List.getElem_toArray, List.getElem_cons_succ, List.getElem_cons_zero]
          try simp only [List.setIfInBounds_toArray, List.set_cons_zero, List.set_cons_succ]
          refine wpAnyH_take (i := 5) (v := ?_) rfl (by kernel_rfl) (by kernel_rfl) (by kernel_rfl) (fun _ _ _ h => by cases h.1) (Or.inl ⟨by kernel_rfl, ?_⟩) hS ?_
          rotate_left
          · intro w hSw
            (try dsimp only at hSw)
            go_simp
            try with_reducible rfl
          dsimp only [Act.put, List.getElem?_toArray, List.getElem?_cons_succ, List.getElem?_cons_zero, List.getElem_toArray, List.getElem_cons_succ, List.getElem_cons_zero]
          try simp only [List.setIfInBounds_toArray, List.set_cons_zero, List.set_cons_succ]
          refine wpAnyH_ready (rs := [6, 7]) (by kernel_rfl) (by simp) (AllReadyH.cons rfl (fun K hK => ?_) (AllReadyH.cons rfl (fun K hK => ?_) AllReadyH.nil))
          · go_simp
            refine hK.out _ _ (KS.out _ (by repeat (first | exact Below.refl _ _ | with_reducible refine toDr ?_ | with_reducible refine Below.alloc ?_ (by simp) _ | with_reducible refine toSet ?_ (by simp)))) (fun _ => ?_)
            clear hK K
            try simp only [Act.put, List.setIfInBounds_toArray, List.set_cons_zero, List.set_cons_succ]
            refine wpAnyH_ready (rs := [7]) (by kernel_rfl) (by simp) (AllReadyH.cons rfl (fun K hK => ?_) AllReadyH.nil)
            go_simp
            refine hK.out _ _ (KS.out _ (by repeat (first | exact Below.refl _ _ | with_reducible refine toDr ?_ | with_reducible refine Below.alloc ?_ (by simp) _ | with_reducible refine toSet ?_ (by simp)))) (fun _ => ?_)
            clear hK K
            try simp only [Act.put, List.setIfInBounds_toArray, List.set_cons_zero, List.set_cons_succ]
            refine wpAnyH_ready (rs := [8]) (by kernel_rfl) (by simp) (AllReadyH.cons rfl (fun K hK => ?_) AllReadyH.nil)
            go_simp
            refine hK.out _ _ (KS.out _ (by repeat (first | exact Below.refl _ _ | with_reducible refine toDr ?_ | with_reducible refine Below.alloc ?_ (by simp) _ | with_reducible refine toSet ?_ (by simp)))) (fun _ => ?_)
            clear hK K
            try simp only [Act.put, List.setIfInBounds_toArray, List.set_cons_zero, List.set_cons_succ]
            refine wpAnyH_ready (rs := [9]) (by kernel_rfl) (by simp) (AllReadyH.cons rfl (fun K hK => ?_) AllReadyH.nil)
            go_simp
            refine hK.out _ _ (KS.out _ (by repeat (first | exact Below.refl _ _ | with_reducible refine toDr ?_ | with_reducible refine Below.alloc ?_ (by simp) _ | with_reducible refine toSet ?_ (by simp)))) (fun _ => ?_)
            clear hK K
            try simp only [Act.put, List.setIfInBounds_toArray, List.set_cons_zero, List.set_cons_succ]
            refine wpAnyH_done (by kernel_rfl) ?_ _
            exact ⟨rfl, _, _, rfl, Lib.hid (twoC_ab _ _ _)⟩
          · go_simp
            refine hK.out _ _ (KS.out _ (by repeat (first | exact Below.refl _ _ | with_reducible refine toDr ?_ | with_reducible refine Below.alloc ?_ (by simp) _ | with_reducible refine toSet ?_ (by simp)))) (fun _ => ?_)
            clear hK K
            try simp only [Act.put, List.setIfInBounds_toArray, List.set_cons_zero, List.set_cons_succ]
            refine wpAnyH_ready (rs := [6]) (by kernel_rfl) (by simp) (AllReadyH.cons rfl (fun K hK => ?_) AllReadyH.nil)
            go_simp
            refine hK.out _ _ (KS.out _ (by repeat (first | exact Below.refl _ _ | with_reducible refine toDr ?_ | with_reducible refine Below.alloc ?_ (by simp) _ | with_reducible refine toSet ?_ (by simp)))) (fun _ => ?_)
            clear hK K
            try simp only [Act.put, List.setIfInBounds_toArray, List.set_cons_zero, List.set_cons_succ]
            refine wpAnyH_ready (rs := [8]) (by kernel_rfl) (by simp) (AllReadyH.cons rfl (fun K hK => ?_) AllReadyH.nil)
            go_simp
            refine hK.out _ _ (KS.out _ (by repeat (first | exact Below.refl _ _ | with_reducible refine toDr ?_ | with_reducible refine Below.alloc ?_ (by simp) _ | with_reducible refine toSet ?_ (by simp)))) (fun _ => ?_)
            clear hK K
            try simp only [Act.put, List.setIfInBounds_toArray, List.set_cons_zero, List.set_cons_succ]
            refine wpAnyH_ready (rs := [9]) (by kernel_rfl) (by simp) (AllReadyH.cons rfl (fun K hK => ?_) AllReadyH.nil)
            go_simp
            refine hK.out _ _ (KS.out _ (by repeat (first | exact Below.refl _ _ | with_reducible refine toDr ?_ | with_reducible refine Below.alloc ?_ (by simp) _ | with_reducible refine toSet ?_ (by simp)))) (fun _ => ?_)
            clear hK K
            try simp only [Act.put, List.setIfInBounds_toArray, List.set_cons_zero, List.set_cons_succ]
            refine wpAnyH_done (by kernel_rfl) ?_ _
            exact ⟨rfl, _, _, rfl, Lib.hid (twoC_ba _ _ _)⟩
        · rintro e a' Wz ⟨rfl, p, q, rfl, HR⟩
          obtain ⟨BZ, hpq, hpW, hqW, hXp, hXq⟩ := HR.out
          have hBxW : Bx < W.heap.size := hXb.out.lt
          have hoW : w2.heap.size < W.heap.size := hvb.out.lt
          replace BZ := Lib.hid BZ
          replace hXp := Lib.hid hXp
          replace hXq := Lib.hid hXq
          have hXz := Lib.hid (XB.below hXb.out BZ.out)
          clear HR
          cases ia with
          | false =>
            have y0 := hXp.out.at 0 _ rfl
            have y1 := hXp.out.at 1 _ rfl
            have y2 := hXq.out.at 0 _ rfl
            have y3 := hXq.out.at 1 _ rfl
            have fr0 := hXp.out.free 0
            have fr1 := hXp.out.free 1
            obtain ⟨W9, hW9⟩ : ∃ W9, (Wz.setCell ⟨p, 0, none⟩ (.int .i64 bv)).setCell ⟨p, 1, none⟩ (.bool bs) = W9 := ⟨_, rfl⟩
            have B9 : Hid (Below W.heap.size W W9) := Lib.hid (by rw [← hW9]; exact (BZ.out.setCell (p := ⟨p, 0, none⟩) hpW _).setCell (p := ⟨p, 1, none⟩) hpW _)
            have hXp9 : Hid (XB 61 W9 p [.int .i64 bv, .bool bs]) := Lib.hid (by rw [← hW9]; exact (hXp.out.set 0 (.int .i64 bv)).set 1 (.bool bs))
            have hXq9 : Hid (XB 61 W9 q [.int .i64 bi, .bool bt]) := Lib.hid (by rw [← hW9]; exact XB.kept (XB.kept hXq.out (grownBy_setAt _ _ _ _) (fun e => hpq (Option.some.inj e).symm)) (grownBy_setAt _ _ _ _) (fun e => hpq (Option.some.inj e).symm))
            have hv9 := Lib.hid (Boxed.below hvb.out B9.out)
            have hr9 : Hid (OwnT W9 w3.heap.size v (thnS pre)) := Lib.hid (OwnsR.below hrb.out B9.out)
            have h09 := Lib.hid (Boxed.below h0b.out B9.out)
            have h19 := Lib.hid (Boxed.below h1b.out B9.out)
            have z6 := hv9.out.cell
            have k0 := (XB.below hXb.out B9.out).at 0 _ rfl
            have j0 := hXp9.out.at 0 _ rfl
            have j1 := hXp9.out.at 1 _ rfl
            have j2 := hXq9.out.at 0 _ rfl
            have j3 := hXq9.out.at 1 _ rfl
            have hnr : Hid (some w2.heap.size ≠ v.ownBlock) := Lib.hid (hv9.out.not_row (by decide) hr9.out)
            have hn0 : Hid (some w.heap.size ≠ v.ownBlock) := Lib.hid (fun e => by have := row_base hr9.out _ e.symm; omega)
            have hn1 : Hid (some (w.heap.size + 1) ≠ v.ownBlock) := Lib.hid (fun e => by have := row_base hr9.out _ e.symm; omega)
            have x0 := hXz.out.at 0 _ rfl
            have x11 := hXz.out.at 11 _ rfl
            have x12 := hXz.out.at 12 _ rfl
            have x7 := hXz.out.at 7 _ rfl
            have x8 := hXz.out.at 8 _ rfl
            gi_wp2_with ((refine ⟨trivial, ?_⟩; gi_at_call 41; refine (CallsIn.inRound l (callsIn_wide.2 (turned_any xk (bv, bs) (bi, bt) hr9.out (Nat.le_trans hn B9.out.size) (by omega)))).mono ?_; rintro e wk ⟨v', rfl, hrow3, g3⟩; (have hv3 := Lib.hid (Boxed.kept hv9.out g3 hnr.out)); (obtain ⟨va, vc, rfl, _⟩ := OwnsR.arg encT_len hrow3); (replace hrow3 := Lib.hid hrow3); (replace g3 := Lib.hid g3); (have z9 := hv3.out.cell); (have f9 := hv3.out.frozen)))
            have hnr3 := hv3.out.not_row (by decide) hrow3.out
            refine ⟨(((KeepsOthers.of_grownBy (row := none) ⟨B9.out.os, B9.out.tape, B9.out.output, B9.out.size, fun k hk _ => B9.out.block k hk⟩ (fun j o e => by cases e)).trans (KeepsOthers.of_grownBy g3.out (row_cells hr9.out))).trans (KeepsOthers.setCell _ _ _)).from _, ((Kept.below B9.out hn).trans (Kept.grown (Nat.le_trans hn B9.out.size) g3.out (row_base hr9.out))).trans (Kept.set _ _ _ rfl), ?_⟩
            dsimp only
            rw [thnS_snoc, show stepN (thnS pre) ⟨xk, (ak, (av, aw), (ai, ax)), (bk, (bv, bs), (bi, bt)), false, ib⟩ = turnS (thnS pre) xk (bv, bs) (bi, bt) from rfl]
            refine ⟨⟨_, hv3.out.set _, World.ownsRow.kept hrow3.out (grownBy_setCell' wk w2.heap.size _) (.inr hnr3.symm), trivial⟩, ⟨(((hB.trans (B9.out.mono hB.size)).grown g3.out (Nat.le_trans hB.size B9.out.size) (fun k e => Nat.le_trans B3.size (row_base hr9.out k e)))).setCell (p := ⟨w2.heap.size, 0, none⟩) (by exact g2) _, ?_⟩, ?_, ?_, ?_⟩
            · have := g3.out.size
              have := B9.out.size
              simp [World.setCell]
              omega
            · rw [List.all_append, hal]; rfl
            · exact Boxed.kept (Boxed.kept h09.out g3.out hn0.out) (grownBy_setCell' wk w2.heap.size _) (fun e => by have := Option.some.inj e; omega)
            · exact Boxed.kept (Boxed.kept h19.out g3.out hn1.out) (grownBy_setCell' wk w2.heap.size _) (fun e => by have := Option.some.inj e; omega)
          | true =>
            cases ib with
            | false =>
              have y0 := hXp.out.at 0 _ rfl
              have y1 := hXp.out.at 1 _ rfl
              have y2 := hXq.out.at 0 _ rfl
              have y3 := hXq.out.at 1 _ rfl
              have fr0 := hXq.out.free 0
              have fr1 := hXq.out.free 1
              obtain ⟨W9, hW9⟩ : ∃ W9, (Wz.setCell ⟨q, 0, none⟩ (.int .i64 ai)).setCell ⟨q, 1, none⟩ (.bool ax) = W9 := ⟨_, rfl⟩
              have B9 : Hid (Below W.heap.size W W9) := Lib.hid (by rw [← hW9]; exact (BZ.out.setCell (p := ⟨q, 0, none⟩) hqW _).setCell (p := ⟨q, 1, none⟩) hqW _)
              have hXq9 : Hid (XB 61 W9 q [.int .i64 ai, .bool ax]) := Lib.hid (by rw [← hW9]; exact (hXq.out.set 0 (.int .i64 ai)).set 1 (.bool ax))
              have hXp9 : Hid (XB 61 W9 p [.int .i64 av, .bool aw]) := Lib.hid (by rw [← hW9]; exact XB.kept (XB.kept hXp.out (grownBy_setAt _ _ _ _) (fun e => hpq (Option.some.inj e))) (grownBy_setAt _ _ _ _) (fun e => hpq (Option.some.inj e)))
              have hv9 := Lib.hid (Boxed.below hvb.out B9.out)
              have hr9 : Hid (OwnT W9 w3.heap.size v (thnS pre)) := Lib.hid (OwnsR.below hrb.out B9.out)
              have h09 := Lib.hid (Boxed.below h0b.out B9.out)
              have h19 := Lib.hid (Boxed.below h1b.out B9.out)
              have z6 := hv9.out.cell
              have k0 := (XB.below hXb.out B9.out).at 0 _ rfl
              have j0 := hXp9.out.at 0 _ rfl
              have j1 := hXp9.out.at 1 _ rfl
              have j2 := hXq9.out.at 0 _ rfl
              have j3 := hXq9.out.at 1 _ rfl
              have hnr : Hid (some w2.heap.size ≠ v.ownBlock) := Lib.hid (hv9.out.not_row (by decide) hr9.out)
              have hn0 : Hid (some w.heap.size ≠ v.ownBlock) := Lib.hid (fun e => by have := row_base hr9.out _ e.symm; omega)
              have hn1 : Hid (some (w.heap.size + 1) ≠ v.ownBlock) := Lib.hid (fun e => by have := row_base hr9.out _ e.symm; omega)
              have x0 := hXz.out.at 0 _ rfl
              have x11 := hXz.out.at 11 _ rfl
              have x12 := hXz.out.at 12 _ rfl
              have x4 := hXz.out.at 4 _ rfl
              have x5 := hXz.out.at 5 _ rfl
              gi_wp2_with ((refine ⟨trivial, ?_⟩; gi_at_call 41; refine (CallsIn.inRound l (callsIn_wide.2 (turned_any xk (av, aw) (ai, ax) hr9.out (Nat.le_trans hn B9.out.size) (by omega)))).mono ?_; rintro e wk ⟨v', rfl, hrow3, g3⟩; (have hv3 := Lib.hid (Boxed.kept hv9.out g3 hnr.out)); (obtain ⟨va, vc, rfl, _⟩ := OwnsR.arg encT_len hrow3); (replace hrow3 := Lib.hid hrow3); (replace g3 := Lib.hid g3); (have z9 := hv3.out.cell); (have f9 := hv3.out.frozen)))
              have hnr3 := hv3.out.not_row (by decide) hrow3.out
              refine ⟨(((KeepsOthers.of_grownBy (row := none) ⟨B9.out.os, B9.out.tape, B9.out.output, B9.out.size, fun k hk _ => B9.out.block k hk⟩ (fun j o e => by cases e)).trans (KeepsOthers.of_grownBy g3.out (row_cells hr9.out))).trans (KeepsOthers.setCell _ _ _)).from _, ((Kept.below B9.out hn).trans (Kept.grown (Nat.le_trans hn B9.out.size) g3.out (row_base hr9.out))).trans (Kept.set _ _ _ rfl), ?_⟩
              dsimp only
              rw [thnS_snoc, show stepN (thnS pre) ⟨xk, (ak, (av, aw), (ai, ax)), (bk, (bv, bs), (bi, bt)), true, false⟩ = turnS (thnS pre) xk (av, aw) (ai, ax) from rfl]
              refine ⟨⟨_, hv3.out.set _, World.ownsRow.kept hrow3.out (grownBy_setCell' wk w2.heap.size _) (.inr hnr3.symm), trivial⟩, ⟨(((hB.trans (B9.out.mono hB.size)).grown g3.out (Nat.le_trans hB.size B9.out.size) (fun k e => Nat.le_trans B3.size (row_base hr9.out k e)))).setCell (p := ⟨w2.heap.size, 0, none⟩) (by exact g2) _, ?_⟩, ?_, ?_, ?_⟩
              · have := g3.out.size
                have := B9.out.size
                simp [World.setCell]
                omega
              · rw [List.all_append, hal]; rfl
              · exact Boxed.kept (Boxed.kept h09.out g3.out hn0.out) (grownBy_setCell' wk w2.heap.size _) (fun e => by have := Option.some.inj e; omega)
              · exact Boxed.kept (Boxed.kept h19.out g3.out hn1.out) (grownBy_setCell' wk w2.heap.size _) (fun e => by have := Option.some.inj e; omega)
            | true =>
              by_cases hq : ((ai, ax) : Cl) = (bv, bs)
              · obtain ⟨rfl, rfl⟩ : ai = bv ∧ ax = bs := by simpa using hq
                have y0 := hXp.out.at 0 _ rfl
                have y1 := hXp.out.at 1 _ rfl
                have y2 := hXq.out.at 0 _ rfl
                have y3 := hXq.out.at 1 _ rfl
                have B9 := BZ
                have hXp9 := hXp
                have hXq9 := hXq
                have hv9 := Lib.hid (Boxed.below hvb.out B9.out)
                have hr9 : Hid (OwnT Wz w3.heap.size v (thnS pre)) := Lib.hid (OwnsR.below hrb.out B9.out)
                have h09 := Lib.hid (Boxed.below h0b.out B9.out)
                have h19 := Lib.hid (Boxed.below h1b.out B9.out)
                have z6 := hv9.out.cell
                have k0 := (XB.below hXb.out B9.out).at 0 _ rfl
                have j0 := hXp9.out.at 0 _ rfl
                have j1 := hXp9.out.at 1 _ rfl
                have j2 := hXq9.out.at 0 _ rfl
                have j3 := hXq9.out.at 1 _ rfl
                have hnr : Hid (some w2.heap.size ≠ v.ownBlock) := Lib.hid (hv9.out.not_row (by decide) hr9.out)
                have hn0 : Hid (some w.heap.size ≠ v.ownBlock) := Lib.hid (fun e => by have := row_base hr9.out _ e.symm; omega)
                have hn1 : Hid (some (w.heap.size + 1) ≠ v.ownBlock) := Lib.hid (fun e => by have := row_base hr9.out _ e.symm; omega)
                have x0 := hXz.out.at 0 _ rfl
                have x11 := hXz.out.at 11 _ rfl
                have x12 := hXz.out.at 12 _ rfl
                have x4 := hXz.out.at 4 _ rfl
                have x5 := hXz.out.at 5 _ rfl
                have x7 := hXz.out.at 7 _ rfl
                have x8 := hXz.out.at 8 _ rfl
                gi_wp2_with ((refine ⟨trivial, ?_⟩; gi_at_call 41; refine (CallsIn.inRound l (callsIn_wide.2 (turned_any xk (av, aw) (bi, bt) hr9.out (Nat.le_trans hn B9.out.size) (by omega)))).mono ?_; rintro e wk ⟨v', rfl, hrow3, g3⟩; (have hv3 := Lib.hid (Boxed.kept hv9.out g3 hnr.out)); (obtain ⟨va, vc, rfl, _⟩ := OwnsR.arg encT_len hrow3); (replace hrow3 := Lib.hid hrow3); (replace g3 := Lib.hid g3); (have z9 := hv3.out.cell); (have f9 := hv3.out.frozen)))
                have hnr3 := hv3.out.not_row (by decide) hrow3.out
                refine ⟨(((KeepsOthers.of_grownBy (row := none) ⟨B9.out.os, B9.out.tape, B9.out.output, B9.out.size, fun k hk _ => B9.out.block k hk⟩ (fun j o e => by cases e)).trans (KeepsOthers.of_grownBy g3.out (row_cells hr9.out))).trans (KeepsOthers.setCell _ _ _)).from _, ((Kept.below B9.out hn).trans (Kept.grown (Nat.le_trans hn B9.out.size) g3.out (row_base hr9.out))).trans (Kept.set _ _ _ rfl), ?_⟩
                dsimp only
                rw [thnS_snoc, show stepN (thnS pre) ⟨xk, (ak, (av, aw), (ai, ax)), (bk, (ai, ax), (bi, bt)), true, true⟩ = turnS (thnS pre) xk (av, aw) (bi, bt) from rfl]
                refine ⟨⟨_, hv3.out.set _, World.ownsRow.kept hrow3.out (grownBy_setCell' wk w2.heap.size _) (.inr hnr3.symm), trivial⟩, ⟨(((hB.trans (B9.out.mono hB.size)).grown g3.out (Nat.le_trans hB.size B9.out.size) (fun k e => Nat.le_trans B3.size (row_base hr9.out k e)))).setCell (p := ⟨w2.heap.size, 0, none⟩) (by exact g2) _, ?_⟩, ?_, ?_, ?_⟩
                · have := g3.out.size
                  have := B9.out.size
                  simp [World.setCell]
                  omega
                · rw [List.all_append, hal]; simp [thnX]
                · exact Boxed.kept (Boxed.kept h09.out g3.out hn0.out) (grownBy_setCell' wk w2.heap.size _) (fun e => by have := Option.some.inj e; omega)
                · exact Boxed.kept (Boxed.kept h19.out g3.out hn1.out) (grownBy_setCell' wk w2.heap.size _) (fun e => by have := Option.some.inj e; omega)
              · rcases cell_ne hq with ⟨e1, e2⟩ | ⟨rfl, e1, e2⟩
                · skip
                  have x11 := hXz.out.at 11 _ rfl
                  have x12 := hXz.out.at 12 _ rfl
                  have x4 := hXz.out.at 4 _ rfl
                  have x5 := hXz.out.at 5 _ rfl
                  have x7 := hXz.out.at 7 _ rfl
                  have x8 := hXz.out.at 8 _ rfl
                  have h0z := Boxed.below h0b.out BZ.out
                  have h1z := Boxed.below h1b.out BZ.out
                  have z0 := h0z.cell
                  have f0 := h0z.frozen
                  have z1 := h1z.cell
                  have f1 := h1z.frozen
                  have HE0 : Hid (Boxed ((Wz.setCell ⟨w.heap.size, 0, none⟩ (.slice none 0 0)).setCell ⟨w.heap.size + 1, 0, none⟩ (.int .i64 7)) w.heap.size 25 (.slice none 0 0)) := Lib.hid ((h0z.set _).kept (grownBy_setCell' _ _ _) (by simp))
                  have HE1 : Hid (Boxed ((Wz.setCell ⟨w.heap.size, 0, none⟩ (.slice none 0 0)).setCell ⟨w.heap.size + 1, 0, none⟩ (.int .i64 7)) (w.heap.size + 1) 26 (.int .i64 7)) := Lib.hid ((h1z.kept (grownBy_setCell' Wz w.heap.size _) (by simp)).set _)
                  clear h0z h1z
                  replace hq := Lib.hid hq
                  gi_wp2
                  exact ⟨(((KeepsOthers.of_grownBy (row := none) ⟨BZ.out.os, BZ.out.tape, BZ.out.output, BZ.out.size, fun k hk _ => BZ.out.block k hk⟩ (fun j o e => by cases e)).trans (KeepsOthers.setCell _ _ _)).trans (KeepsOthers.setCell _ _ _)).from _, rfl, ⟨_, List.mem_append_right _ List.mem_cons_self, by unfold thnX; simp [hq.out]⟩, ((hB.trans (BZ.out.mono hB.size)).setCell (p := ⟨w.heap.size, 0, none⟩) (Nat.le_refl _) _).setCell (p := ⟨w.heap.size + 1, 0, none⟩) (Nat.le_succ _) _, HE0.out, HE1.out⟩
                · skip
                  have x11 := hXz.out.at 11 _ rfl
                  have x12 := hXz.out.at 12 _ rfl
                  have x4 := hXz.out.at 4 _ rfl
                  have x5 := hXz.out.at 5 _ rfl
                  have x7 := hXz.out.at 7 _ rfl
                  have x8 := hXz.out.at 8 _ rfl
                  have h0z := Boxed.below h0b.out BZ.out
                  have h1z := Boxed.below h1b.out BZ.out
                  have z0 := h0z.cell
                  have f0 := h0z.frozen
                  have z1 := h1z.cell
                  have f1 := h1z.frozen
                  have HE0 : Hid (Boxed ((Wz.setCell ⟨w.heap.size, 0, none⟩ (.slice none 0 0)).setCell ⟨w.heap.size + 1, 0, none⟩ (.int .i64 7)) w.heap.size 25 (.slice none 0 0)) := Lib.hid ((h0z.set _).kept (grownBy_setCell' _ _ _) (by simp))
                  have HE1 : Hid (Boxed ((Wz.setCell ⟨w.heap.size, 0, none⟩ (.slice none 0 0)).setCell ⟨w.heap.size + 1, 0, none⟩ (.int .i64 7)) (w.heap.size + 1) 26 (.int .i64 7)) := Lib.hid ((h1z.kept (grownBy_setCell' Wz w.heap.size _) (by simp)).set _)
                  clear h0z h1z
                  replace hq := Lib.hid hq
                  gi_wp2
                  exact ⟨(((KeepsOthers.of_grownBy (row := none) ⟨BZ.out.os, BZ.out.tape, BZ.out.output, BZ.out.size, fun k hk _ => BZ.out.block k hk⟩ (fun j o e => by cases e)).trans (KeepsOthers.setCell _ _ _)).trans (KeepsOthers.setCell _ _ _)).from _, rfl, ⟨_, List.mem_append_right _ List.mem_cons_self, by unfold thnX; simp [hq.out]⟩, ((hB.trans (BZ.out.mono hB.size)).setCell (p := ⟨w.heap.size, 0, none⟩) (Nat.le_refl _) _).setCell (p := ⟨w.heap.size + 1, 0, none⟩) (Nat.le_succ _) _, HE0.out, HE1.out⟩
      case done =>
        rintro D ys W hD rfl ⟨⟨v, hv, hrow, _⟩, ⟨hB, _⟩, hal, h0, h1⟩ hK
        obtain ⟨va, vc, rfl, _⟩ := OwnsR.arg encT_len hrow
        have hc := hv.cell
        have z0 := h0.cell
        have f0 := h0.frozen
        have z1 := h1.cell
        have f1 := h1.frozen
        have hwD : w.heap.size + 1 < D := by have := B3.size; omega
        have HV : Hid (∀ u, Boxed ((W.setCell ⟨w.heap.size, 0, none⟩ u).setCell ⟨w.heap.size + 1, 0, none⟩ (.int .i64 0)) w.heap.size 25 u ∧ Boxed ((W.setCell ⟨w.heap.size, 0, none⟩ u).setCell ⟨w.heap.size + 1, 0, none⟩ (.int .i64 0)) (w.heap.size + 1) 26 (.int .i64 0)) := Lib.hid (fun u => ⟨(h0.set u).kept (grownBy_setCell' _ _ _) (by simp), (h1.kept (grownBy_setCell' W w.heap.size _) (by simp)).set _⟩)
        have hrb : Hid (W.ownsRow w3.heap.size 63 5 (.slice va (thnS (meetsTT a b)).length vc) (thnS (meetsTT a b)).length (flatR encT (thnS (meetsTT a b)))) := Lib.hid hrow
        replace hK := Lib.hid hK
        clear hv h0 h1 hrow
        go_wp2
        have hb2 := HV.out (.slice va (thnS (meetsTT a b)).length vc)
        have hK2 : ((W.setCell ⟨w.heap.size, 0, none⟩ (.slice va (thnS (meetsTT a b)).length vc)).setCell ⟨w.heap.size + 1, 0, none⟩ (.int .i64 0)).heap[D]? = some (.deferred (some [])) := ((KeepsOthers.setCell W ⟨w.heap.size, 0, none⟩ (.slice va (thnS (meetsTT a b)).length vc)).trans (KeepsOthers.setCell _ ⟨w.heap.size + 1, 0, none⟩ (.int .i64 0))).same D _ hK.out rfl
        refine ⟨by simp, .inl ⟨_, _, rfl, run_takeDeferred hK2, ?_⟩⟩
        have y0 : (((W.setCell ⟨w.heap.size, 0, none⟩ (.slice va (thnS (meetsTT a b)).length vc)).setCell ⟨w.heap.size + 1, 0, none⟩ (.int .i64 0)).putObj D (.deferred none)).cell? ⟨w.heap.size, 0, none⟩ = some (.slice va (thnS (meetsTT a b)).length vc) := cell_kept hb2.1.cell (grownBy_putObj' _ D (.deferred none)) (fun r e => by cases e; exact ⟨_, hK2, rfl⟩)
        have y1 : (((W.setCell ⟨w.heap.size, 0, none⟩ (.slice va (thnS (meetsTT a b)).length vc)).setCell ⟨w.heap.size + 1, 0, none⟩ (.int .i64 0)).putObj D (.deferred none)).cell? ⟨w.heap.size + 1, 0, none⟩ = some (.int .i64 0) := cell_kept hb2.2.cell (grownBy_putObj' _ D (.deferred none)) (fun r e => by cases e; exact ⟨_, hK2, rfl⟩)
        have hr2 := World.ownsRow.kept (World.ownsRow.kept hrb.out (grownBy_setAt W w.heap.size 0 (.slice va (thnS (meetsTT a b)).length vc)) (.inr (fun e => by have := row_base hrb.out _ e; omega))) (grownBy_setAt _ (w.heap.size + 1) 0 (.int .i64 0)) (.inr (fun e => by have := row_base hrb.out _ e; omega))
        exact ⟨_, by simp [results, Try.results25, go_sem, y0, y1], _, rfl, OwnsR.low (ownsRow_putObj hr2 _ hK2 rfl) B3.size, ((hB.setCell (p := ⟨w.heap.size, 0, none⟩) (Nat.le_refl _) _).setCell (p := ⟨w.heap.size + 1, 0, none⟩) (Nat.le_succ _) _).trans (belowK_b (w := w) (Nat.le_refl _) _ D _ _ (by omega) hK2 rfl rfl)⟩
      case stop =>
        rintro D c pre W hD hpre ⟨rfl, hx, hB, h0, h1⟩ hK
        have hfa : (meetsTT a b).all thnX = false := by
          obtain ⟨x, h1, h2⟩ := hx
          rw [List.all_eq_false]
          exact ⟨x, hpre.subset h1, by simp [h2]⟩
        have h0b : Hid (Boxed W w.heap.size 25 (.slice none 0 0)) := Lib.hid h0
        have h1b : Hid (Boxed W (w.heap.size + 1) 26 (.int .i64 7)) := Lib.hid h1
        have HK := Lib.hid hK
        have hfx : (∀ x, x ∈ meetsTT a b → thnX x = true) = False := eq_false (fun hall => by
          rw [List.all_eq_false] at hfa
          obtain ⟨x, h1, h2⟩ := hfa
          exact h2 (hall x h1))
        clear h0 h1 hK hx hpre hcap e3 hml hfa
        gi_wp2
        all_goals
          have hK := HK.out
          refine ⟨by simp, .inl ⟨_, _, rfl, run_takeDeferred hK, ?_⟩⟩
          have h0' : Boxed W w.heap.size 25 (.slice none 0 0) := h0b.out
          have h1' : Boxed W (w.heap.size + 1) 26 (.int .i64 7) := h1b.out
          have y0 : (W.putObj D (.deferred none)).cell? ⟨w.heap.size, 0, none⟩ = some (.slice none 0 0) := cell_kept h0'.cell (grownBy_putObj' _ D (.deferred none)) (fun r e => by cases e; exact ⟨_, hK, rfl⟩)
          have y1 : (W.putObj D (.deferred none)).cell? ⟨w.heap.size + 1, 0, none⟩ = some (.int .i64 7) := cell_kept h1'.cell (grownBy_putObj' _ D (.deferred none)) (fun r e => by cases e; exact ⟨_, hK, rfl⟩)
          refine ⟨.tuple #[.slice none 0 0, .int .i64 7], by simp [results, Try.results25, go_sem, y0, y1], ?_⟩
          exact ⟨_, rfl, OwnsR.nil _ _ _ _ _, hB.trans (belowK_b (w := w) (Nat.le_refl _) W D _ _ (by have := B3.size; omega) hK rfl rfl)⟩
end Go.Proofs.Ytmifjippdlmpiaa
