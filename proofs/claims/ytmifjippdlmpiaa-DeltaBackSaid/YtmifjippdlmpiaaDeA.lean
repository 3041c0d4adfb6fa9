/-
  DELTA: Onto (written by wip/tools/mkDeA.py).
-/
import Derived.Test.YtmifjippdlmpiaaDlP
import Derived.BigRegion
namespace Go.Proofs.Ytmifjippdlmpiaa
open Go.RowKit Go.Deep Go.Shelf
attribute [local go_sem] Oper.semAt_some

def encI (z : Int) : List Value := [.int .i64 z]
theorem encI_len (z : Int) : (encI z).length = 1 := rfl
abbrev OwnZ (w : World) (base : Nat) (v : Value) (l : List Int) : Prop := OwnsR encI 1 3 w base v l
theorem boxed_drew {W : World} {B : Nat} {t : TypeId} {v : Value} (h : Boxed W B t v) : Boxed W.drew B t v := h
theorem cells_one1 (w : World) (x0 : Value) (t : TypeId) (s : Nat) (hs : s = w.heap.size) : ∀ j u, [x0][j]? = some u → (w.alloc (.cells #[x0] t)).cell? ((⟨s, 0, none⟩ : Addr).add j) = some u := by
  subst hs
  intro j u hj
  have h := heap_alloc_new w (.cells #[x0] t)
  rw [addr_add, Nat.zero_add]
  match j, hj with
  | 0, hj => cases hj; exact cell_of_row _ _ 0 _ _ _ h
  | j + 1, hj => simp at hj
theorem own_apartG {w : World} {b1 b2 k1 k2 n1 n2 : Nat} {t1 t2 : TypeId} {v u : Value} {l m : List Value} (ht : t1 ≠ t2) (h : w.ownsRow b1 t1 k1 v n1 l) (h2 : w.ownsRow b2 t2 k2 u n2 m) : v.ownBlock = none ∨ v.ownBlock ≠ u.ownBlock := by
  rcases h.2 with ⟨rfl, _⟩ | ⟨g, cap, cur, rfl, _, hg, _⟩
  · exact .inl rfl
  · rcases h2.2 with ⟨rfl, _⟩ | ⟨g2, cap2, cur2, rfl, _, hg2, _⟩
    · exact .inr (by simp [Value.ownBlock])
    · have hne : g ≠ g2 := by
        intro e
        rw [e, hg2] at hg
        cases hg
        exact ht rfl
      exact .inr (by simpa [Value.ownBlock] using hne)
theorem eqCellA (n : Nat) (x y : Int) (s t : Bool) (w : World) : (Op.equalIn (n + 3) 61 (.agg #[.int .i64 x, .bool s]) (.agg #[.int .i64 y, .bool t])).run Try.prog w = .ok (x == y && s == t) w := by
  have u3 := Try.underlying3
  have a3 := Try.isAgg3
  have z3 := Try.sizeOf3
  have u4 := Try.underlying4
  have a4 := Try.isAgg4
  have z4 := Try.sizeOf4
  have hS : Try.prog.underlying 61 = some (.struct (Try.prog.fieldsOf 61)) := by kernel_rfl
  have hp : Try.prog.stoodInHeld 61 = false := by kernel_rfl
  rw [run_equalIn_agg w (n + 2) 61 _ _ hS hp]
  simp only [Program.fieldsOf, Try.underlying61]
  go_simp
  by_cases h1 : x = y <;> cases s <;> cases t <;> simp [h1]
theorem cl_beq (x y : Int) (s t : Bool) : (x == y && s == t) = decide (((x, s) : Cl) = (y, t)) := by
  by_cases h1 : x = y <;> cases s <;> cases t <;> simp [h1]
theorem neqTurnA (s t : Tn) (w : World) : (binOp .neq 63 (.agg #[.int .i64 s.1, .int .i64 s.2.1.1, .bool s.2.1.2, .int .i64 s.2.2.1, .bool s.2.2.2]) (.agg #[.int .i64 t.1, .int .i64 t.2.1.1, .bool t.2.1.2, .int .i64 t.2.2.1, .bool t.2.2.2])).run Try.prog w = .ok (.bool (!decide (s = t))) w := by
  obtain ⟨k, ⟨a, p⟩, ⟨b, q⟩⟩ := s
  obtain ⟨k', ⟨a', p'⟩, ⟨b', q'⟩⟩ := t
  have u3 := Try.underlying3
  have a3 := Try.isAgg3
  have z3 := Try.sizeOf3
  have aS := Try.isAgg61
  have zS := Try.sizeOf61
  have hS : Try.prog.underlying 63 = some (.struct (Try.prog.fieldsOf 63)) := by kernel_rfl
  have hp : Try.prog.stoodInHeld 63 = false := by kernel_rfl
  rw [run_neq_struct, show (10000 : Nat) = 9999 + 1 from rfl, run_equalIn_agg w 9999 63 _ _ hS hp]
  simp only [Program.fieldsOf, Try.underlying63]
  have E := fun n x y s t w => eqCellA n x y s t w
  by_cases h1 : k = k' <;> by_cases h2 : ((a, p) : Cl) = (a', p') <;> by_cases h3 : ((b, q) : Cl) = (b', q')
  all_goals
    have E2 := fun n w => (eqCellA n a a' p p' w).trans (by rw [cl_beq])
    have E3 := fun n w => (eqCellA n b b' q q' w).trans (by rw [cl_beq])
    simp only [h2, h3, decide_true, decide_false] at E2 E3
    clear E
    go_simp
    try simp_all
def ontL1 (l : List Tn) (x : Mt Tn Tn) : List Tn := if x.inB then (if x.inA then turnS l x.key x.a.2.2 x.b.2.2 else l ++ [x.b]) else l
def ontC1 (c : List Int) (x : Mt Tn Tn) : List Int := if x.inB && x.inA && !decide (x.a = x.b) then c ++ [x.key] else c
def ontL (xs : List (Mt Tn Tn)) : List Tn := xs.foldl ontL1 []
def ontC (xs : List (Mt Tn Tn)) : List Int := xs.foldl ontC1 []
theorem ontL_snoc (xs : List (Mt Tn Tn)) (x : Mt Tn Tn) : ontL (xs ++ [x]) = ontL1 (ontL xs) x := by simp [ontL]
theorem ontC_snoc (xs : List (Mt Tn Tn)) (x : Mt Tn Tn) : ontC (xs ++ [x]) = ontC1 (ontC xs) x := by simp [ontC]
theorem fold_len {α β : Type} {f : List β → α → List β} (h : ∀ l x, (f l x).length ≤ l.length + 1) : ∀ (xs : List α) (l : List β), (xs.foldl f l).length ≤ l.length + xs.length
  | [], l => by simp
  | x :: t, l => by
    have h1 := fold_len h t (f l x)
    have h2 := h l x
    simp only [List.foldl_cons, List.length_cons]
    omega
theorem ontL_len (xs : List (Mt Tn Tn)) : (ontL xs).length ≤ xs.length := by
  have := fold_len (f := ontL1) (fun l x => by unfold ontL1 turnS; split <;> (try split) <;> (try split) <;> simp) xs []
  simpa [ontL] using this
theorem ontC_len (xs : List (Mt Tn Tn)) : (ontC xs).length ≤ xs.length := by
  have := fold_len (f := ontC1) (fun l x => by unfold ontC1; split <;> simp) xs []
  simpa [ontC] using this
def ontP (l m : List Tn) : List Tn × List Int × Int := if chkB l && chkB m then (ontL (meetsTT l m), ontC (meetsTT l m), 0) else ([], [], 1)
def OPost (w : World) (l : List Tn) (c : List Int) (z : Int) (e : Ending) (w' : World) : Prop := ∃ v u, e = .returned (.tuple #[v, u, .int .i64 z]) ∧ OwnT w' w.heap.size v l ∧ OwnZ w' w.heap.size u c ∧ Below w.heap.size w w'
set_option maxRecDepth 100000 in
set_option maxHeartbeats 4000000 in
theorem onto_any (aa ab : Option Addr) (na nb ca cb : Nat) (a b : List Tn) (w : World) (ha : RArg encT 5 w aa na ca a) (hb : RArg encT 5 w ab nb cb b) (hla : a.length ≤ 4096) (hlb : b.length ≤ 4096) :
    Calls Try.prog 27 #[.slice aa na ca, .slice ab nb cb] w (OPost w (ontP a b).1 (ontP a b).2.1 (ontP a b).2.2) := by
  obtain rfl := ha.1
  obtain rfl := hb.1
  obtain ⟨i0, hi, hz0, hz1, hz2⟩ := info_parts Try.infoTurn
  obtain ⟨j0, ji, jz0, jz1, jz2⟩ := info_parts Try.infoInt
  have CA := fun w' (h : Below w.heap.size w w') => dcheck_any aa a.length ca a w' (ha.below h)
  have CB := fun w' (h : Below w.heap.size w w') => dcheck_any ab b.length cb b w' (hb.below h)
  refine (callsIn_wide (n := 3)).1 ?_
  refine callsIn_of_wp_marks Try.func27 rfl trivial ?_ rfl
  simp only [Try.ntmps27, List.size_toArray, List.length_cons, List.length_nil, Nat.reduceAdd, Nat.reduceSub, Array.replicate_succ, Array.replicate_zero, List.push_toArray, List.append_toArray, List.nil_append, List.cons_append]
  refine wpIn_wide.2 ?_
  have BR : Below w.heap.size w ((w.alloc (.cells #[.slice none 0 0] 25)).alloc (.cells #[.slice none 0 0] 48)) := ((Below.refl _ _).alloc (Nat.le_refl _) _).alloc (by simp) _
  have bR : Boxed ((w.alloc (.cells #[.slice none 0 0] 25)).alloc (.cells #[.slice none 0 0] 48)) w.heap.size 25 (.slice none 0 0) := (Boxed.new w _ _).alloc _
  have bE : Boxed ((w.alloc (.cells #[.slice none 0 0] 25)).alloc (.cells #[.slice none 0 0] 48)) (w.heap.size + 1) 48 (.slice none 0 0) := by
    have := Boxed.new (w.alloc (.cells #[.slice none 0 0] 25)) 48 (.slice none 0 0)
    rwa [World.size_alloc] at this
  unfold ontP
  cases hta : chkB a with
  | false =>
    rw [hta] at CA
    go_wp2_with (go_at_call 20; (with_reducible refine (CA _ BR).mono ?_); rintro e w1 ⟨rfl, b1⟩; have bR1 := Boxed.below bR b1; have bE1 := Boxed.below bE b1; have z0 := bR1.cell; have f0 := bR1.frozen; have z1 := bE1.cell; have f1 := bE1.frozen)
    have BX := BR.trans (b1.mono BR.size)
    have y0 : ((w1.setCell ⟨w.heap.size, 0, none⟩ (.slice none 0 0)).setCell ⟨w.heap.size + 1, 0, none⟩ (.slice none 0 0)).cell? ⟨w.heap.size, 0, none⟩ = some (.slice none 0 0) := ((bR1.set _).kept (grownBy_setCell' _ _ _) (by simp)).cell
    have y1 : ((w1.setCell ⟨w.heap.size, 0, none⟩ (.slice none 0 0)).setCell ⟨w.heap.size + 1, 0, none⟩ (.slice none 0 0)).cell? ⟨w.heap.size + 1, 0, none⟩ = some (.slice none 0 0) := ((bE1.kept (grownBy_setCell' w1 w.heap.size _) (by simp)).set _).cell
    exact ⟨_, by simp [results, Try.results27, go_sem, y0, y1], _, _, rfl, OwnsR.nil _ _ _ _ _, OwnsR.nil _ _ _ _ _, (BX.setCell (p := ⟨w.heap.size, 0, none⟩) (Nat.le_refl _) _).setCell (p := ⟨w.heap.size + 1, 0, none⟩) (Nat.le_succ _) _⟩
  | true =>
    rw [hta] at CA
    cases htb : chkB b with
    | false =>
      rw [htb] at CB
      go_wp2_with (first
        | (go_at_call 20; (with_reducible refine (CA _ BR).mono ?_); rintro e w1 ⟨rfl, b1⟩; (have B1 := BR.trans (b1.mono BR.size)); (have bR1 := Boxed.below bR b1); (have bE1 := Boxed.below bE b1); clear CA)
        | (go_at_call 20; (with_reducible refine (CB _ B1).mono ?_); rintro e w2 ⟨rfl, b2⟩; (have BX := below_next B1 b2); (have bR2 := Boxed.below bR1 b2); (have bE2 := Boxed.below bE1 b2); have z0 := bR2.cell; have f0 := bR2.frozen; have z1 := bE2.cell; have f1 := bE2.frozen))
      have y0 : ((w2.setCell ⟨w.heap.size, 0, none⟩ (.slice none 0 0)).setCell ⟨w.heap.size + 1, 0, none⟩ (.slice none 0 0)).cell? ⟨w.heap.size, 0, none⟩ = some (.slice none 0 0) := ((bR2.set _).kept (grownBy_setCell' _ _ _) (by simp)).cell
      have y1 : ((w2.setCell ⟨w.heap.size, 0, none⟩ (.slice none 0 0)).setCell ⟨w.heap.size + 1, 0, none⟩ (.slice none 0 0)).cell? ⟨w.heap.size + 1, 0, none⟩ = some (.slice none 0 0) := ((bE2.kept (grownBy_setCell' w2 w.heap.size _) (by simp)).set _).cell
      exact ⟨_, by simp [results, Try.results27, go_sem, y0, y1], _, _, rfl, OwnsR.nil _ _ _ _ _, OwnsR.nil _ _ _ _ _, (BX.setCell (p := ⟨w.heap.size, 0, none⟩) (Nat.le_refl _) _).setCell (p := ⟨w.heap.size + 1, 0, none⟩) (Nat.le_succ _) _⟩
    | true =>
      rw [htb] at CB
      go_wp2_with (first
        | (go_at_call 20; (with_reducible refine (CA _ BR).mono ?_); rintro e w1 ⟨rfl, b1⟩; (have B1 := BR.trans (b1.mono BR.size)); (have bR1 := Boxed.below bR b1); (have bE1 := Boxed.below bE b1); clear CA)
        | (go_at_call 20; (with_reducible refine (CB _ B1).mono ?_); rintro e w2 ⟨rfl, b2⟩; (have B2 := below_next B1 b2); (have bR2 := Boxed.below bR1 b2); (have bE2 := Boxed.below bE1 b2))
        | (go_at_call 48; (with_reducible refine (bothTT_any _ _ _ _ _ _ _).mono ?_); rintro e w3 ⟨rfl, b3, x0, x1, x2, x3, hsz⟩))
      have bR3 := Boxed.below bR2 b3
      have bE3 := Boxed.below bE2 b3
      have B3 : Below w.heap.size w w3 := below_next B2 b3
      have e3 : w3.heap.size = w2.heap.size + 4 := hsz
      have g2 : w.heap.size ≤ w2.heap.size := B2.size
      have g3 : w.heap.size + 2 ≤ w2.heap.size := by have := bE2.lt; omega
      have hcap : CapTT w3.heap.size (fun k => k = w.heap.size ∨ k = w.heap.size + 1) w3 w2.heap.size (w2.heap.size + 1 + 1) (w2.heap.size + 1) (w2.heap.size + 1 + 1 + 1) aa ab ca cb a b :=
        { pa := ⟨by omega, by omega⟩, pb := ⟨by omega, by omega⟩, qa := ⟨by omega, by omega⟩, qb := ⟨by omega, by omega⟩, xa := x0, xb := x1, ya := x2, yb := x3
          ra := fun j hj => by
            obtain ⟨bk, off, e, hlt, hc⟩ := ha.2.2.2.2 j hj
            exact ⟨bk, off, e, ⟨by omega, by omega⟩, fun i v hi => (B3.cell (p := ⟨bk, off + j * 5 + i, none⟩) hlt).trans (hc i v hi)⟩
          rb := fun j hj => by
            obtain ⟨bk, off, e, hlt, hc⟩ := hb.2.2.2.2 j hj
            exact ⟨bk, off, e, ⟨by omega, by omega⟩, fun i v hi => (B3.cell (p := ⟨bk, off + j * 5 + i, none⟩) hlt).trans (hc i v hi)⟩
          la := ⟨ha.2.1, ha.2.2.1⟩, lb := ⟨hb.2.1, hb.2.2.1⟩, ba := chkF_low _ _ hta, bb := chkF_low _ _ htb }
      have hml : (meetsTT a b).length ≤ 8192 := Nat.le_trans (meets_len _ _ _ _ a b) (by omega)
      clear x0 x1 x2 x3 CB b1 b2 b3 hsz bR bE bR1 bE1 bR2 bE2
      have H3 := Lib.hid (show w.heap.size + 2 ≤ w3.heap.size by omega)
      clear e3
      refine (wpIn_wide (n := 3)).1 ?_
      refine wpIn_rangeFunc_ownH rfl (by decide) (gf := 68) (lb := #[.pointer (some ⟨w2.heap.size, 0, none⟩), .pointer (some ⟨w2.heap.size + 1 + 1, 0, none⟩), .pointer (some ⟨w2.heap.size + 1, 0, none⟩), .pointer (some ⟨w2.heap.size + 1 + 1 + 1, 0, none⟩)]) rfl trivial (enters_of Try.func68 (by kernel_rfl) rfl)
        (bothTT_stops 2 w3.heap.size w2.heap.size (w2.heap.size + 1 + 1) (w2.heap.size + 1) (w2.heap.size + 1 + 1 + 1) (fun k => k = w.heap.size ∨ k = w.heap.size + 1) aa ab ca cb a b w3 hcap (Nat.le_refl _)) Kept.trans (kept_put (Nat.le_refl _)) (Below.refl _ _) (fun _ => rfl)
        (fun pre W => (∃ v, Boxed W w.heap.size 25 v ∧ W.ownsRow w3.heap.size 63 5 v (ontL pre).length (flatR encT (ontL pre)) ∧ True) ∧ (∃ v, Boxed W (w.heap.size + 1) 48 v ∧ W.ownsRow w3.heap.size 3 1 v (ontC pre).length (flatR encI (ontC pre)) ∧ True) ∧ Below w.heap.size w W ∧ w3.heap.size ≤ W.heap.size)
        (fun _ _ _ => False)
        (OwnFrom.and (Own.from (holdsRow_own w3.heap.size w.heap.size 25 63 5 (fun pre => (ontL pre).length) (fun pre => flatR encT (ontL pre)) (fun _ _ => True)) _) (OwnFrom.and (Own.from (holdsRow_own w3.heap.size (w.heap.size + 1) 48 3 1 (fun pre => (ontC pre).length) (fun pre => flatR encI (ontC pre)) (fun _ _ => True)) _) (OwnFrom.and (ownFrom_below (Nat.le_refl _) B3.size) (fun s A B row hs hg hr => Nat.le_trans hs hg.size))))
        (fun _ _ _ _ _ hs _ _ => hs)
        ⟨⟨_, bR3, OwnsR.nil _ _ _ _ _, trivial⟩, ⟨_, bE3, OwnsR.nil _ _ _ _ _, trivial⟩, B3, Nat.le_refl _⟩
        (fun x a' W => ∃ Bx, w3.heap.size ≤ Bx ∧ XB 101 W Bx [.int .i64 x.key, .int .i64 x.a.1, .int .i64 x.a.2.1.1, .bool x.a.2.1.2, .int .i64 x.a.2.2.1, .bool x.a.2.2.2, .int .i64 x.b.1, .int .i64 x.b.2.1.1, .bool x.b.2.1.2, .int .i64 x.b.2.2.1, .bool x.b.2.2.2, .bool x.inA, .bool x.inB] ∧ a' = { tmps := #[.slice aa a.length ca, .slice ab b.length cb, undef, undef, .pointer (some ⟨w.heap.size, 0, none⟩), .pointer (some ⟨w.heap.size + 1, 0, none⟩), .int .i64 0, .pointer (some ⟨Bx, 0, none⟩), .slice aa a.length ca, .bool true, .bool false, .bool false, .slice ab b.length cb, .bool true, .bool false, .bool false, .slice aa a.length ca, .slice ab b.length cb, .func (.func 68) #[] #[.pointer (some ⟨w2.heap.size, 0, none⟩), .pointer (some ⟨w2.heap.size + 1 + 1, 0, none⟩), .pointer (some ⟨w2.heap.size + 1, 0, none⟩), .pointer (some ⟨w2.heap.size + 1 + 1 + 1, 0, none⟩)], .agg #[.int .i64 x.key, .int .i64 x.a.1, .int .i64 x.a.2.1.1, .bool x.a.2.1.2, .int .i64 x.a.2.2.1, .bool x.a.2.2.2, .int .i64 x.b.1, .int .i64 x.b.2.1.1, .bool x.b.2.1.2, .int .i64 x.b.2.2.1, .bool x.b.2.2.2, .bool x.inA, .bool x.inB], undef, undef, undef, undef, undef, undef, undef, undef, undef, undef, undef, undef, undef, undef, undef, undef, undef, undef, undef, undef, undef, undef, undef, undef, undef, undef, undef, undef, undef, undef, undef, undef, undef, undef, undef], defers := [] })
        (fun x a' => fun _ A B row hs hg hr => by
          obtain ⟨Bx, h1, h2, h3⟩ := hs
          exact ⟨Bx, h1, h2.kept hg (fun e => by obtain ⟨_, o, ho, hc⟩ := hr Bx e.symm; rw [show A.heap[Bx]? = _ from h2] at ho; cases ho; cases hc), h3⟩)
        ?assign ?body ?done ?stop
      case assign =>
        intro l pre x W K hI hK
        simp only [encTT, encT, List.cons_append, List.nil_append]
        gi_wp2
        obtain ⟨⟨v, hv, hrow, _⟩, ⟨u, hu, hcw, _⟩, hB, hn⟩ := hI
        refine hK _ _ ((KeepsOthers.alloc _ _).from _) (Kept.below ((Below.refl _ _).alloc (Nat.le_refl _) _) hn) ⟨⟨v, hv.alloc _, hrow.alloc _, trivial⟩, ⟨u, hu.alloc _, hcw.alloc _, trivial⟩, hB.alloc hB.size _, by simp; omega⟩ ⟨W.heap.size, hn, heap_alloc_new _ _, rfl⟩
      case body =>
        rintro l pre ⟨xk, xa, xb, ia, ib⟩ a' W hl ⟨r, hr⟩ ⟨⟨v, hv, hrow, _⟩, ⟨u, hu, hcw, _⟩, hB, hn⟩ ⟨Bx, hBx, hX, rfl⟩ hlt
        obtain ⟨ak, ⟨av, aw⟩, ⟨ai, ax⟩⟩ := xa
        obtain ⟨bk, ⟨bv, bs⟩, ⟨bi, bt⟩⟩ := xb
        dsimp only at hX ⊢
        have hlen : (ontL pre).length ≤ 8192 := Nat.le_trans (ontL_len pre) (by omega)
        have hlenC : (ontC pre).length ≤ 8192 := Nat.le_trans (ontC_len pre) (by omega)
        have hvb : Hid (Boxed W w.heap.size 25 v) := Lib.hid hv
        have hub : Hid (Boxed W (w.heap.size + 1) 48 u) := Lib.hid hu
        have hXb : Hid (XB 101 W Bx [.int .i64 xk, .int .i64 ak, .int .i64 av, .bool aw, .int .i64 ai, .bool ax, .int .i64 bk, .int .i64 bv, .bool bs, .int .i64 bi, .bool bt, .bool ia, .bool ib]) := Lib.hid hX
        have hrb : Hid (OwnT W w3.heap.size v (ontL pre)) := Lib.hid hrow
        have hcb : Hid (OwnZ W w3.heap.size u (ontC pre)) := Lib.hid hcw
        clear hv hu hX hrow hcw
        have hnr : Hid (some w.heap.size ≠ v.ownBlock) := Lib.hid (fun e => by have := row_base hrb.out _ e.symm; have := H3.out; omega)
        have hnu : Hid (some (w.heap.size + 1) ≠ v.ownBlock) := Lib.hid (fun e => by have := row_base hrb.out _ e.symm; have := H3.out; omega)
        have hnr2 : Hid (some w.heap.size ≠ u.ownBlock) := Lib.hid (fun e => by have := row_base hcb.out _ e.symm; have := H3.out; omega)
        have hnu2 : Hid (some (w.heap.size + 1) ≠ u.ownBlock) := Lib.hid (fun e => by have := row_base hcb.out _ e.symm; have := H3.out; omega)
        have hap : Hid (u.ownBlock = none ∨ u.ownBlock ≠ v.ownBlock) := Lib.hid (own_apartG (by decide) hcb.out hrb.out)
        have hxv : Hid (some Bx ≠ v.ownBlock) := Lib.hid (hXb.out.not_row (by decide) hrb.out)
        have hxr : Bx ≠ w.heap.size := by have := H3.out; omega
        have z0 := hvb.out.cell
        have f0 := hvb.out.frozen
        have x0 := hXb.out.at 0 _ rfl
        have x1 := hXb.out.at 1 _ rfl
        have x2 := hXb.out.at 2 _ rfl
        have x3 := hXb.out.at 3 _ rfl
        have x4 := hXb.out.at 4 _ rfl
        have x5 := hXb.out.at 5 _ rfl
        have x6 := hXb.out.at 6 _ rfl
        have x7 := hXb.out.at 7 _ rfl
        have x8 := hXb.out.at 8 _ rfl
        have x9 := hXb.out.at 9 _ rfl
        have x10 := hXb.out.at 10 _ rfl
        have x11 := hXb.out.at 11 _ rfl
        have x12 := hXb.out.at 12 _ rfl
        cases ib with
        | false =>
          gi_wp2
          refine ⟨(KeepsOthers.refl _).from _, Kept.refl _ _ _, ?_⟩
          dsimp only
          rw [ontL_snoc, ontC_snoc, show ontL1 (ontL pre) ⟨xk, (ak, (av, aw), (ai, ax)), (bk, (bv, bs), (bi, bt)), ia, false⟩ = ontL pre from rfl, show ontC1 (ontC pre) ⟨xk, (ak, (av, aw), (ai, ax)), (bk, (bv, bs), (bi, bt)), ia, false⟩ = ontC pre from rfl]
          exact ⟨⟨v, hvb.out, hrb.out, trivial⟩, ⟨u, hub.out, hcb.out, trivial⟩, hB, hn⟩
        | true =>
          cases ia with
          | false =>
            gi_wp2_with (gi_at_builtin; refine wpListIn_append_own _ rfl _ _ 25 rfl w3.heap.size 63 i0 (.agg #[.int .i64 0, .int .i64 0, .bool false, .int .i64 0, .bool false]) 5 40 Try.underlying25 hi hz0 hz1 hz2 rfl (by decide) _ _ _ rfl (World.ownsRow.alloc hrb.out _) ⟨W.heap.size, 0, none⟩ 1 1 [.int .i64 bk, .int .i64 bv, .bool bs, .int .i64 bi, .bool bt] rfl rfl ?c1 ?c2 ?c3 ?c4 ?c5 ?_)
            case c1 => exact cells_one_new5 _ _ _ _ _ _ _ _ (by simp)
            case c2 => intro x hx; simp at hx; rcases hx with rfl | rfl | rfl | rfl | rfl <;> rfl
            case c3 => unfold maxLen; omega
            case c4 => omega
            case c5 => simp; omega
            intro v' w9 hown hgrow _
            have g9 := grownBy_trans (World.grownBy_alloc W (.cells #[.int .i64 bk, .int .i64 bv, .bool bs, .int .i64 bi, .bool bt] 63) none) hgrow
            have hr9 := OwnsR.snoc (enc := encT) (l := ontL pre) (x := ((bk, (bv, bs), (bi, bt)) : Tn)) rfl hown
            have hv9 := Boxed.kept hvb.out g9 hnr.out
            have hu9 := Boxed.kept hub.out g9 hnu.out
            have hc9 := World.ownsRow.kept hcb.out g9 hap.out
            obtain ⟨va, vc, hve, _⟩ := OwnsR.arg encT_len hr9
            obtain rfl : v' = .slice va ((ontL pre).length + 1) vc := by rw [hve]; simp
            clear hve
            have z9 := hv9.cell
            have f9 := hv9.frozen
            have ko : Hid (KeepsOthers W (w9.setCell ⟨w.heap.size, 0, none⟩ (.slice va ((ontL pre).length + 1) vc))) := Lib.hid ((KeepsOthers.of_grownBy g9 (row_cells hrb.out)).trans (KeepsOthers.setCell _ _ _))
            have kk : Hid (Kept w3.heap.size (fun k => k = w.heap.size ∨ k = w.heap.size + 1) W (w9.setCell ⟨w.heap.size, 0, none⟩ (.slice va ((ontL pre).length + 1) vc))) := Lib.hid ((Kept.grown hn g9 (row_base hrb.out)).trans (Kept.set _ _ _ (.inl rfl)))
            have hnr9 : Hid (w9.ownsRow w3.heap.size 63 5 (.slice va ((ontL pre).length + 1) vc) (ontL pre ++ [(bk, (bv, bs), (bi, bt))]).length (flatR encT (ontL pre ++ [(bk, (bv, bs), (bi, bt))])) ∧ Boxed w9 w.heap.size 25 v ∧ Boxed w9 (w.heap.size + 1) 48 u ∧ w9.ownsRow w3.heap.size 3 1 u (ontC pre).length (flatR encI (ontC pre))) := Lib.hid ⟨hr9, hv9, hu9, hc9⟩
            have hsz9 := Lib.hid (And.intro g9.size (((hB.grown g9 hB.size (fun k e => Nat.le_trans B3.size (row_base hrb.out k e)))).setCell (p := ⟨w.heap.size, 0, none⟩) (Nat.le_refl _) (.slice va ((ontL pre).length + 1) vc)))
            clear hown hgrow hr9 hv9 hu9 hc9 g9
            gi_wp2
            obtain ⟨hr9, hv9, hu9, hc9⟩ := hnr9.out
            refine ⟨ko.out.from _, kk.out, ?_⟩
            dsimp only
            rw [ontL_snoc, ontC_snoc, show ontL1 (ontL pre) ⟨xk, (ak, (av, aw), (ai, ax)), (bk, (bv, bs), (bi, bt)), false, true⟩ = ontL pre ++ [(bk, (bv, bs), (bi, bt))] from rfl, show ontC1 (ontC pre) ⟨xk, (ak, (av, aw), (ai, ax)), (bk, (bv, bs), (bi, bt)), false, true⟩ = ontC pre from rfl]
            refine ⟨⟨_, hv9.set _, World.ownsRow.kept hr9 (grownBy_setCell' w9 w.heap.size _) (.inr (fun e => by have := row_base hr9 _ e; have := H3.out; omega)), trivial⟩, ⟨u, Boxed.kept hu9 (grownBy_setCell' w9 w.heap.size _) (fun e => by have := Option.some.inj e; omega), World.ownsRow.kept hc9 (grownBy_setCell' w9 w.heap.size _) (.inr hnr2.out.symm), trivial⟩, hsz9.out.2, ?_⟩
            have := hsz9.out.1
            simp [World.setCell]
            omega
          | true =>
            have NE := fun W => neqTurnA (ak, (av, aw), (ai, ax)) (bk, (bv, bs), (bi, bt)) W
            dsimp only at NE
            have hcase : (∃ q : Bool, decide (((ak, (av, aw), (ai, ax)) : Tn) = (bk, (bv, bs), (bi, bt))) = q) := ⟨_, rfl⟩
            obtain ⟨q, hq⟩ := hcase
            rw [hq] at NE
            replace hq := Lib.hid hq
            cases q with
            | true =>
              gi_wp2_with (refine ⟨trivial, ?_⟩; gi_at_call 41; refine (CallsIn.inRound l (callsIn_wide.2 (turned_any xk (ai, ax) (bi, bt) hrb.out hn (by omega)))).mono ?_; rintro e wk ⟨v', rfl, hrow3, g3⟩; (have hv3 := Boxed.kept hvb.out g3 hnr.out); (have hu3 := Boxed.kept hub.out g3 hnu.out); (have hX3 := XB.kept hXb.out g3 hxv.out); (have hc3 := World.ownsRow.kept hcb.out g3 hap.out); (obtain ⟨va, vc, rfl, _⟩ := OwnsR.arg encT_len hrow3); (have zk := hv3.cell); (have fk := hv3.frozen); (obtain ⟨W5, hW5⟩ : ∃ W5, wk.setCell ⟨w.heap.size, 0, none⟩ (.slice va (turnS (ontL pre) xk (ai, ax) (bi, bt)).length vc) = W5 := ⟨_, rfl⟩); (have HV5 : Hid (Boxed W5 w.heap.size 25 (.slice va (turnS (ontL pre) xk (ai, ax) (bi, bt)).length vc)) := Lib.hid (by rw [← hW5]; exact hv3.set _)); (have HU5 : Hid (Boxed W5 (w.heap.size + 1) 48 u) := Lib.hid (by rw [← hW5]; exact Boxed.kept hu3 (grownBy_setCell' wk w.heap.size _) (fun e => by have := Option.some.inj e; omega))); (have HX5 : Hid (XB 101 W5 Bx [.int .i64 xk, .int .i64 ak, .int .i64 av, .bool aw, .int .i64 ai, .bool ax, .int .i64 bk, .int .i64 bv, .bool bs, .int .i64 bi, .bool bt, .bool true, .bool true]) := Lib.hid (by rw [← hW5]; exact XB.kept hX3 (grownBy_setCell' wk w.heap.size _) (fun e => hxr (Option.some.inj e)))); (have HR5 : Hid (OwnT W5 w3.heap.size (.slice va (turnS (ontL pre) xk (ai, ax) (bi, bt)).length vc) (turnS (ontL pre) xk (ai, ax) (bi, bt))) := Lib.hid (by rw [← hW5]; exact World.ownsRow.kept hrow3 (grownBy_setCell' wk w.heap.size _) (.inr (fun e => by have := row_base hrow3 _ e; have := H3.out; omega)))); (have HC5 : Hid (OwnZ W5 w3.heap.size u (ontC pre)) := Lib.hid (by rw [← hW5]; exact World.ownsRow.kept hc3 (grownBy_setCell' wk w.heap.size _) (.inr hnr2.out.symm))); (have KO5 : Hid (KeepsOthers W W5) := Lib.hid (by rw [← hW5]; exact (KeepsOthers.of_grownBy g3 (row_cells hrb.out)).trans (KeepsOthers.setCell _ _ _))); (have KK5 : Hid (Kept w3.heap.size (fun k => k = w.heap.size ∨ k = w.heap.size + 1) W W5) := Lib.hid (by rw [← hW5]; exact (Kept.grown hn g3 (row_base hrb.out)).trans (Kept.set _ _ _ (.inl rfl)))); (have HB5 : Hid (Below w.heap.size w W5) := Lib.hid (by rw [← hW5]; exact (hB.grown g3 hB.size (fun k e => Nat.le_trans B3.size (row_base hrb.out k e))).setCell (p := ⟨w.heap.size, 0, none⟩) (Nat.le_refl _) _)); (have HS5 : w3.heap.size ≤ W5.heap.size := by rw [← hW5]; have := g3.size; simp [World.setCell]; omega); clear hv3 hu3 hX3 hc3 hrow3 g3; (have k0 := HX5.out.at 0 _ rfl); (have k1 := HX5.out.at 1 _ rfl); (have k2 := HX5.out.at 2 _ rfl); (have k3 := HX5.out.at 3 _ rfl); (have k4 := HX5.out.at 4 _ rfl); (have k5 := HX5.out.at 5 _ rfl); (have k6 := HX5.out.at 6 _ rfl); (have k7 := HX5.out.at 7 _ rfl); (have k8 := HX5.out.at 8 _ rfl); (have k9 := HX5.out.at 9 _ rfl); (have k10 := HX5.out.at 10 _ rfl); (have zu := HU5.out.cell); (have fu := HU5.out.frozen))
              refine ⟨KO5.out.from _, KK5.out, ?_⟩
              dsimp only
              rw [ontL_snoc, ontC_snoc, show ontL1 (ontL pre) ⟨xk, (ak, (av, aw), (ai, ax)), (bk, (bv, bs), (bi, bt)), true, true⟩ = (turnS (ontL pre) xk (ai, ax) (bi, bt)) from rfl, show ontC1 (ontC pre) ⟨xk, (ak, (av, aw), (ai, ax)), (bk, (bv, bs), (bi, bt)), true, true⟩ = ontC pre by unfold ontC1; dsimp only; rw [hq.out]; rfl]
              exact ⟨⟨_, HV5.out, HR5.out, trivial⟩, ⟨u, HU5.out, HC5.out, trivial⟩, HB5.out, HS5⟩
            | false =>
              gi_wp2_with (first | (refine ⟨trivial, ?_⟩; gi_at_call 41; refine (CallsIn.inRound l (callsIn_wide.2 (turned_any xk (ai, ax) (bi, bt) hrb.out hn (by omega)))).mono ?_; rintro e wk ⟨v', rfl, hrow3, g3⟩; (have hv3 := Boxed.kept hvb.out g3 hnr.out); (have hu3 := Boxed.kept hub.out g3 hnu.out); (have hX3 := XB.kept hXb.out g3 hxv.out); (have hc3 := World.ownsRow.kept hcb.out g3 hap.out); (obtain ⟨va, vc, rfl, _⟩ := OwnsR.arg encT_len hrow3); (have zk := hv3.cell); (have fk := hv3.frozen); (obtain ⟨W5, hW5⟩ : ∃ W5, wk.setCell ⟨w.heap.size, 0, none⟩ (.slice va (turnS (ontL pre) xk (ai, ax) (bi, bt)).length vc) = W5 := ⟨_, rfl⟩); (have HV5 : Hid (Boxed W5 w.heap.size 25 (.slice va (turnS (ontL pre) xk (ai, ax) (bi, bt)).length vc)) := Lib.hid (by rw [← hW5]; exact hv3.set _)); (have HU5 : Hid (Boxed W5 (w.heap.size + 1) 48 u) := Lib.hid (by rw [← hW5]; exact Boxed.kept hu3 (grownBy_setCell' wk w.heap.size _) (fun e => by have := Option.some.inj e; omega))); (have HX5 : Hid (XB 101 W5 Bx [.int .i64 xk, .int .i64 ak, .int .i64 av, .bool aw, .int .i64 ai, .bool ax, .int .i64 bk, .int .i64 bv, .bool bs, .int .i64 bi, .bool bt, .bool true, .bool true]) := Lib.hid (by rw [← hW5]; exact XB.kept hX3 (grownBy_setCell' wk w.heap.size _) (fun e => hxr (Option.some.inj e)))); (have HR5 : Hid (OwnT W5 w3.heap.size (.slice va (turnS (ontL pre) xk (ai, ax) (bi, bt)).length vc) (turnS (ontL pre) xk (ai, ax) (bi, bt))) := Lib.hid (by rw [← hW5]; exact World.ownsRow.kept hrow3 (grownBy_setCell' wk w.heap.size _) (.inr (fun e => by have := row_base hrow3 _ e; have := H3.out; omega)))); (have HC5 : Hid (OwnZ W5 w3.heap.size u (ontC pre)) := Lib.hid (by rw [← hW5]; exact World.ownsRow.kept hc3 (grownBy_setCell' wk w.heap.size _) (.inr hnr2.out.symm))); (have KO5 : Hid (KeepsOthers W W5) := Lib.hid (by rw [← hW5]; exact (KeepsOthers.of_grownBy g3 (row_cells hrb.out)).trans (KeepsOthers.setCell _ _ _))); (have KK5 : Hid (Kept w3.heap.size (fun k => k = w.heap.size ∨ k = w.heap.size + 1) W W5) := Lib.hid (by rw [← hW5]; exact (Kept.grown hn g3 (row_base hrb.out)).trans (Kept.set _ _ _ (.inl rfl)))); (have HB5 : Hid (Below w.heap.size w W5) := Lib.hid (by rw [← hW5]; exact (hB.grown g3 hB.size (fun k e => Nat.le_trans B3.size (row_base hrb.out k e))).setCell (p := ⟨w.heap.size, 0, none⟩) (Nat.le_refl _) _)); (have HS5 : w3.heap.size ≤ W5.heap.size := by rw [← hW5]; have := g3.size; simp [World.setCell]; omega); clear hv3 hu3 hX3 hc3 hrow3 g3; (have k0 := HX5.out.at 0 _ rfl); (have k1 := HX5.out.at 1 _ rfl); (have k2 := HX5.out.at 2 _ rfl); (have k3 := HX5.out.at 3 _ rfl); (have k4 := HX5.out.at 4 _ rfl); (have k5 := HX5.out.at 5 _ rfl); (have k6 := HX5.out.at 6 _ rfl); (have k7 := HX5.out.at 7 _ rfl); (have k8 := HX5.out.at 8 _ rfl); (have k9 := HX5.out.at 9 _ rfl); (have k10 := HX5.out.at 10 _ rfl); (have zu := HU5.out.cell); (have fu := HU5.out.frozen)) | (gi_at_builtin; refine wpListIn_append_own _ rfl _ _ 48 rfl w3.heap.size 3 j0 (.int .i64 0) 1 8 Try.underlying48 ji jz0 jz1 jz2 rfl (by decide) _ _ _ rfl (World.ownsRow.alloc HC5.out _) ⟨W5.heap.size, 0, none⟩ 1 1 [.int .i64 xk] rfl rfl ?c1 ?c2 ?c3 ?c4 ?c5 ?_))
              case c1 => exact cells_one1 _ _ _ _ (by simp)
              case c2 => intro x hx; simp at hx; rw [hx]; rfl
              case c3 => unfold maxLen; omega
              case c4 => omega
              case c5 => simp; omega
              intro u' w9 hown hgrow _
              have g9 := grownBy_trans (World.grownBy_alloc W5 (.cells #[.int .i64 xk] 3) none) hgrow
              have hc9 := OwnsR.snoc (enc := encI) (l := ontC pre) (x := xk) rfl hown
              have hu9 := Boxed.kept HU5.out g9 hnu2.out
              have hv9 := Boxed.kept HV5.out g9 hnr2.out
              have hr9 := World.ownsRow.kept HR5.out g9 (own_apartG (by decide) HR5.out HC5.out)
              obtain ⟨ua, uc, hue, _⟩ := OwnsR.arg encI_len hc9
              obtain rfl : u' = .slice ua ((ontC pre).length + 1) uc := by rw [hue]; simp
              clear hue
              have z9 := hu9.cell
              have f9 := hu9.frozen
              have ko : Hid (KeepsOthers W (w9.setCell ⟨w.heap.size + 1, 0, none⟩ (.slice ua ((ontC pre).length + 1) uc))) := Lib.hid ((KO5.out.trans (KeepsOthers.of_grownBy g9 (row_cells HC5.out))).trans (KeepsOthers.setCell _ _ _))
              have kk : Hid (Kept w3.heap.size (fun k => k = w.heap.size ∨ k = w.heap.size + 1) W (w9.setCell ⟨w.heap.size + 1, 0, none⟩ (.slice ua ((ontC pre).length + 1) uc))) := Lib.hid ((KK5.out.trans (Kept.grown HS5 g9 (row_base HC5.out))).trans (Kept.set _ _ _ (.inr rfl)))
              have hall : Hid (w9.ownsRow w3.heap.size 3 1 (.slice ua ((ontC pre).length + 1) uc) (ontC pre ++ [xk]).length (flatR encI (ontC pre ++ [xk])) ∧ Boxed w9 (w.heap.size + 1) 48 u ∧ Boxed w9 w.heap.size 25 (.slice va (turnS (ontL pre) xk (ai, ax) (bi, bt)).length vc) ∧ w9.ownsRow w3.heap.size 63 5 (.slice va (turnS (ontL pre) xk (ai, ax) (bi, bt)).length vc) (turnS (ontL pre) xk (ai, ax) (bi, bt)).length (flatR encT (turnS (ontL pre) xk (ai, ax) (bi, bt)))) := Lib.hid ⟨hc9, hu9, hv9, hr9⟩
              have hsz9 := Lib.hid (And.intro g9.size (((HB5.out.grown g9 HB5.out.size (fun k e => Nat.le_trans B3.size (row_base HC5.out k e)))).setCell (p := ⟨w.heap.size + 1, 0, none⟩) (Nat.le_succ _) (.slice ua ((ontC pre).length + 1) uc)))
              clear hown hgrow hr9 hv9 hu9 hc9 g9
              gi_wp2
              obtain ⟨hc9, hu9, hv9, hr9⟩ := hall.out
              refine ⟨ko.out.from _, kk.out, ?_⟩
              dsimp only
              rw [ontL_snoc, ontC_snoc, show ontL1 (ontL pre) ⟨xk, (ak, (av, aw), (ai, ax)), (bk, (bv, bs), (bi, bt)), true, true⟩ = (turnS (ontL pre) xk (ai, ax) (bi, bt)) from rfl, show ontC1 (ontC pre) ⟨xk, (ak, (av, aw), (ai, ax)), (bk, (bv, bs), (bi, bt)), true, true⟩ = ontC pre ++ [xk] by unfold ontC1; dsimp only; rw [hq.out]; rfl]
              refine ⟨⟨_, Boxed.kept hv9 (grownBy_setCell' w9 (w.heap.size + 1) _) (fun e => by have := Option.some.inj e; omega), World.ownsRow.kept hr9 (grownBy_setCell' w9 (w.heap.size + 1) _) (.inr (fun e => by have := row_base hr9 _ e; have := H3.out; omega)), trivial⟩, ⟨_, hu9.set _, World.ownsRow.kept hc9 (grownBy_setCell' w9 (w.heap.size + 1) _) (.inr (fun e => by have := row_base hc9 _ e; have := H3.out; omega)), trivial⟩, hsz9.out.2, ?_⟩
              have := hsz9.out.1
              simp [World.setCell]
              omega
      case done =>
        rintro D ys W hD rfl ⟨⟨v, hv, hrow, _⟩, ⟨u, hu, hcw, _⟩, hB, _⟩ hK
        obtain ⟨va, vc, rfl, _⟩ := OwnsR.arg encT_len hrow
        obtain ⟨ua, uc, rfl, _⟩ := OwnsR.arg encI_len hcw
        have z0 := Boxed.cell hv
        have f0 := Boxed.frozen hv
        have z1 := Boxed.cell hu
        have f1 := Boxed.frozen hu
        have hwD : w.heap.size + 1 < D := by have := H3.out; omega
        have HV : Hid (Boxed (((W.setCell ⟨w.heap.size, 0, none⟩ (.slice va (ontL (meetsTT a b)).length vc)).setCell ⟨w.heap.size + 1, 0, none⟩ (.slice ua (ontC (meetsTT a b)).length uc)).drew) w.heap.size 25 (.slice va (ontL (meetsTT a b)).length vc)) := Lib.hid (boxed_drew (Boxed.kept (Boxed.set _ hv) (grownBy_setCell' _ _ _) (fun e => by have := Option.some.inj e; omega)))
        have HU : Hid (Boxed (((W.setCell ⟨w.heap.size, 0, none⟩ (.slice va (ontL (meetsTT a b)).length vc)).setCell ⟨w.heap.size + 1, 0, none⟩ (.slice ua (ontC (meetsTT a b)).length uc)).drew) (w.heap.size + 1) 48 (.slice ua (ontC (meetsTT a b)).length uc)) := Lib.hid (boxed_drew (Boxed.set _ (Boxed.kept hu (grownBy_setCell' W w.heap.size _) (fun e => by have := Option.some.inj e; omega))))
        have HR : Hid ((((W.setCell ⟨w.heap.size, 0, none⟩ (.slice va (ontL (meetsTT a b)).length vc)).setCell ⟨w.heap.size + 1, 0, none⟩ (.slice ua (ontC (meetsTT a b)).length uc)).drew).ownsRow w3.heap.size 63 5 (.slice va (ontL (meetsTT a b)).length vc) (ontL (meetsTT a b)).length (flatR encT (ontL (meetsTT a b)))) := Lib.hid (World.ownsRow.drew (World.ownsRow.kept (World.ownsRow.kept hrow (grownBy_setAt W w.heap.size 0 (.slice va (ontL (meetsTT a b)).length vc)) (.inr (fun e => by have := row_base hrow _ e; have := H3.out; omega))) (grownBy_setAt _ (w.heap.size + 1) 0 (.slice ua (ontC (meetsTT a b)).length uc)) (.inr (fun e => by have := row_base hrow _ e; have := H3.out; omega))))
        have HC : Hid ((((W.setCell ⟨w.heap.size, 0, none⟩ (.slice va (ontL (meetsTT a b)).length vc)).setCell ⟨w.heap.size + 1, 0, none⟩ (.slice ua (ontC (meetsTT a b)).length uc)).drew).ownsRow w3.heap.size 3 1 (.slice ua (ontC (meetsTT a b)).length uc) (ontC (meetsTT a b)).length (flatR encI (ontC (meetsTT a b)))) := Lib.hid (World.ownsRow.drew (World.ownsRow.kept (World.ownsRow.kept hcw (grownBy_setAt W w.heap.size 0 (.slice va (ontL (meetsTT a b)).length vc)) (.inr (fun e => by have := row_base hcw _ e; have := H3.out; omega))) (grownBy_setAt _ (w.heap.size + 1) 0 (.slice ua (ontC (meetsTT a b)).length uc)) (.inr (fun e => by have := row_base hcw _ e; have := H3.out; omega))))
        have HB : Hid (Below w.heap.size w (((W.setCell ⟨w.heap.size, 0, none⟩ (.slice va (ontL (meetsTT a b)).length vc)).setCell ⟨w.heap.size + 1, 0, none⟩ (.slice ua (ontC (meetsTT a b)).length uc)).drew)) := Lib.hid ((hB.setCell (p := ⟨w.heap.size, 0, none⟩) (Nat.le_refl _) _).setCell (p := ⟨w.heap.size + 1, 0, none⟩) (Nat.le_succ _) _).drew
        have HK : Hid ((((W.setCell ⟨w.heap.size, 0, none⟩ (.slice va (ontL (meetsTT a b)).length vc)).setCell ⟨w.heap.size + 1, 0, none⟩ (.slice ua (ontC (meetsTT a b)).length uc)).drew).heap[D]? = some (.deferred (some []))) := Lib.hid (((KeepsOthers.setCell W ⟨w.heap.size, 0, none⟩ (.slice va (ontL (meetsTT a b)).length vc)).trans (KeepsOthers.setCell _ ⟨w.heap.size + 1, 0, none⟩ (.slice ua (ontC (meetsTT a b)).length uc))).same D _ hK rfl)
        clear hv hu hrow hcw hK hB hml hcap
        go_wp2
        go_region
        all_goals
          go_wp2
          have hK2 := HK.out
          refine ⟨by simp, .inl ⟨_, _, rfl, run_takeDeferred hK2, ?_⟩⟩
          have y0 : ((((W.setCell ⟨w.heap.size, 0, none⟩ (.slice va (ontL (meetsTT a b)).length vc)).setCell ⟨w.heap.size + 1, 0, none⟩ (.slice ua (ontC (meetsTT a b)).length uc)).drew).putObj D (.deferred none)).cell? ⟨w.heap.size, 0, none⟩ = some (.slice va (ontL (meetsTT a b)).length vc) := cell_kept HV.out.cell (grownBy_putObj' (((W.setCell ⟨w.heap.size, 0, none⟩ (.slice va (ontL (meetsTT a b)).length vc)).setCell ⟨w.heap.size + 1, 0, none⟩ (.slice ua (ontC (meetsTT a b)).length uc)).drew) D (.deferred none)) (fun r e => by cases e; exact ⟨_, hK2, rfl⟩)
          have y1 : ((((W.setCell ⟨w.heap.size, 0, none⟩ (.slice va (ontL (meetsTT a b)).length vc)).setCell ⟨w.heap.size + 1, 0, none⟩ (.slice ua (ontC (meetsTT a b)).length uc)).drew).putObj D (.deferred none)).cell? ⟨w.heap.size + 1, 0, none⟩ = some (.slice ua (ontC (meetsTT a b)).length uc) := cell_kept HU.out.cell (grownBy_putObj' (((W.setCell ⟨w.heap.size, 0, none⟩ (.slice va (ontL (meetsTT a b)).length vc)).setCell ⟨w.heap.size + 1, 0, none⟩ (.slice ua (ontC (meetsTT a b)).length uc)).drew) D (.deferred none)) (fun r e => by cases e; exact ⟨_, hK2, rfl⟩)
          exact ⟨_, by simp [results, Try.results27, go_sem, y0, y1], _, _, rfl, OwnsR.low (ownsRow_putObj HR.out _ hK2 rfl) B3.size, OwnsR.low (ownsRow_putObj HC.out _ hK2 rfl) B3.size, HB.out.trans (belowK_b (w := w) (Nat.le_refl _) _ D _ _ (by omega) hK2 rfl rfl)⟩
      case stop =>
        rintro D c pre W _ _ h _
        exact h.elim
end Go.Proofs.Ytmifjippdlmpiaa
