/-
  DELTA: what 'both' answers at pairs; Between.
-/
import Derived.Test.YtnjlbgnojlmmlaaDlD
import Derived.Shelf.Abstract
namespace Go.Proofs.Ytnjlbgnojlmmlaa
open Go.RowKit Go.Deep Go.Shelf
attribute [local go_sem] Oper.semAt_some

theorem alloc4 (w : World) (v0 v1 v2 v3 : Value) (t0 t1 t2 t3 : TypeId) : ∀ W, (((w.alloc (.cells #[v0] t0)).alloc (.cells #[v1] t1)).alloc (.cells #[v2] t2)).alloc (.cells #[v3] t3) = W →
    W.cell? ⟨w.heap.size, 0, none⟩ = some v0 ∧ W.cell? ⟨w.heap.size + 1 + 1, 0, none⟩ = some v2 ∧ W.cell? ⟨w.heap.size + 1, 0, none⟩ = some v1 ∧ W.cell? ⟨w.heap.size + 1 + 1 + 1, 0, none⟩ = some v3 ∧ W.heap.size = w.heap.size + 4 := by
  rintro W rfl
  have b0 := (((Boxed.new w t0 v0).alloc (.cells #[v1] t1)).alloc (.cells #[v2] t2)).alloc (.cells #[v3] t3)
  have b1 := ((Boxed.new (w.alloc (.cells #[v0] t0)) t1 v1).alloc (.cells #[v2] t2)).alloc (.cells #[v3] t3)
  have b2 := (Boxed.new ((w.alloc (.cells #[v0] t0)).alloc (.cells #[v1] t1)) t2 v2).alloc (.cells #[v3] t3)
  have b3 := Boxed.new (((w.alloc (.cells #[v0] t0)).alloc (.cells #[v1] t1)).alloc (.cells #[v2] t2)) t3 v3
  simp only [World.size_alloc] at b1 b2 b3
  exact ⟨b0.cell, b2.cell, b1.cell, b3.cell, by simp⟩
theorem bothPP_any (aa ab : Option Addr) (na nb ca cb : Nat) (w : World) :
    Calls Try.prog 31 #[.slice aa na ca, .func (.func 32) #[] #[], .slice ab nb cb, .func (.func 32) #[] #[]] w fun e w' =>
      e = .returned (.func (.func 47) #[] #[.pointer (some ⟨w.heap.size, 0, none⟩), .pointer (some ⟨w.heap.size + 1 + 1, 0, none⟩), .pointer (some ⟨w.heap.size + 1, 0, none⟩), .pointer (some ⟨w.heap.size + 1 + 1 + 1, 0, none⟩)]) ∧
      Below w.heap.size w w' ∧ w'.cell? ⟨w.heap.size, 0, none⟩ = some (.slice aa na ca) ∧ w'.cell? ⟨w.heap.size + 1 + 1, 0, none⟩ = some (.slice ab nb cb) ∧ w'.cell? ⟨w.heap.size + 1, 0, none⟩ = some (.func (.func 32) #[] #[]) ∧ w'.cell? ⟨w.heap.size + 1 + 1 + 1, 0, none⟩ = some (.func (.func 32) #[] #[]) ∧ w'.heap.size = w.heap.size + 4 := by
  go_enter Try.func31, Try.ntmps31
  go_wp2
  go_ret
  refine ⟨rfl, (((((Below.refl _ _).alloc (Nat.le_refl _) _).alloc (by simp) _).alloc (by simp <;> omega) _).alloc (by simp <;> omega) _), ?_⟩
  exact alloc4 w _ _ _ _ _ _ _ _ _ rfl
theorem bothPP_stops (m n1 Ba Bb Ka Kb : Nat) (ex : Nat → Prop) (aa ab : Option Addr) (ca cb : Nat) (a b : List Pr) (w : World) (hC : CapPP n1 ex w Ba Bb Ka Kb aa ab ca cb a b) (hn : n1 ≤ w.heap.size) :
    SeqStopsK Fence.wide m Try.prog 47 #[.pointer (some ⟨Ba, 0, none⟩), .pointer (some ⟨Bb, 0, none⟩), .pointer (some ⟨Ka, 0, none⟩), .pointer (some ⟨Kb, 0, none⟩)] encPP (Kept n1 ex) (fun ys => ys = meetsPP a b) (fun pre => pre <+: meetsPP a b) (meetsPP a b).length w :=
  fun l J Jx W hW hJ _ hY h0 => bothPP_in m l n1 Ba Bb Ka Kb ex aa ab ca cb a b J Jx W hJ hY (hC.kept (Kept.below hW hn)) (Nat.le_trans hn hW.size) h0
theorem kept_put {n1 : Nat} {ex : Nat → Prop} {w : World} (hn : n1 ≤ w.heap.size) (W : World) (l : Nat) (o o' : Obj) (hl : w.heap.size ≤ l) (_ : W.heap[l]? = some o) (_ : o.isCells = false) (_ : o.isWalk = false) : Kept n1 ex W (W.putObj l o') :=
  ⟨rfl, rfl, rfl, by simp, fun k hk _ => World.putObj_heap_other (by omega)⟩
theorem tblF_low : ∀ (l : List Pr) (e : Int), tblF e l = true → ∀ x ∈ l, x.1 < 4096
  | [], _, _, _, h => by cases h
  | p :: t, e, h, x, hx => by
    unfold tblF at h
    rw [Bool.and_eq_true, Bool.and_eq_true, decide_eq_true_iff] at h
    rcases List.mem_cons.1 hx with rfl | hx
    · exact h.1.1.2
    · exact tblF_low t _ h.2 x hx
theorem tblB_low {l : List Pr} (h : tblB l = true) : ∀ x ∈ l, x.1 < 4096 := tblF_low l _ h
theorem XB.kept {t : TypeId} {w w' : World} {x : Nat} {cs : List Value} {row : Option Nat} (h : XB t w x cs) (hg : w.grownBy w' row) (hne : some x ≠ row) : XB t w' x cs := (hg.block x h.lt hne).trans h
theorem Boxed.below {t : TypeId} {w w' : World} {B : Nat} {v : Value} (h : Boxed w B t v) (hb : Below w.heap.size w w') : Boxed w' B t v := (hb.block B h.lt).trans h
theorem XB.not_row {t t' : TypeId} {w : World} {x : Nat} {cs : List Value} {base n k : Nat} {v : Value} {l : List Value} (hne : t ≠ t') (h : XB t w x cs) (hr : w.ownsRow base t' k v n l) : some x ≠ v.ownBlock := by
  rcases hr.2 with ⟨rfl, _⟩ | ⟨g, cap, cur, rfl, _, hg, _⟩
  · simp [Value.ownBlock]
  · intro e
    obtain rfl : x = g := by simpa [Value.ownBlock] using e
    rw [show w.heap[x]? = _ from h] at hg
    cases hg
    exact hne rfl
theorem row_cells {t : TypeId} {w : World} {base n k : Nat} {v : Value} {l : List Value} (hr : w.ownsRow base t k v n l) : ∀ (j : Nat) (o : Obj), v.ownBlock = some j → w.heap[j]? = some o → o.isCells = true := by
  intro j o ej hj
  rcases hr.2 with ⟨rfl, _⟩ | ⟨g, cap, cur, rfl, _, hg, _⟩
  · simp [Value.ownBlock] at ej
  · obtain rfl : g = j := by simpa [Value.ownBlock] using ej
    rw [hg] at hj; cases hj; rfl
theorem row_base {t : TypeId} {w : World} {base n k : Nat} {v : Value} {l : List Value} (hr : w.ownsRow base t k v n l) : ∀ j, v.ownBlock = some j → base ≤ j := fun j e => (World.ownsRow.lt hr j e).1
theorem Kept.grown {n1 : Nat} {ex : Nat → Prop} {w w' : World} {r : Option Nat} (hn : n1 ≤ w.heap.size) (hg : w.grownBy w' r) (hr : ∀ j, r = some j → n1 ≤ j) : Kept n1 ex w w' :=
  ⟨hg.os, hg.tape, hg.output, hg.size, fun k hk _ => hg.block k (Nat.lt_of_lt_of_le hk hn) (fun e => by have := hr k e.symm; omega)⟩
theorem Kept.set {n1 : Nat} {ex : Nat → Prop} (w : World) (b i : Nat) {v : Value} (hx : ex b) : Kept n1 ex w (w.setCell ⟨b, i, none⟩ v) :=
  ⟨rfl, rfl, rfl, by simp [World.setCell], fun k _ he => Below.heap_setCell _ _ _ _ (fun e => he (by rw [show k = b from e]; exact hx))⟩
theorem OwnsR.low {α : Type} {enc : α → List Value} {k : Nat} {t : TypeId} {w : World} {base base' : Nat} {v : Value} {l : List α} (h : w.ownsRow base t k v l.length (flatR enc l)) (hb : base' ≤ base) : OwnsR enc k t w base' v l := by
  refine ⟨h.1, ?_⟩
  rcases h.2 with hn | ⟨g, cap, cur, rfl, hbb, hg, rest⟩
  · exact .inl hn
  · exact .inr ⟨g, cap, cur, rfl, Nat.le_trans hb hbb, hg, rest⟩
def stepB (l : List Tn) (x : Mt Pr Pr) : List Tn := turnS l x.key (x.a.2, x.inA) (x.b.2, x.inB)
def betwS (xs : List (Mt Pr Pr)) : List Tn := xs.foldl stepB []
theorem betwS_snoc (xs : List (Mt Pr Pr)) (x : Mt Pr Pr) : betwS (xs ++ [x]) = stepB (betwS xs) x := by simp [betwS]
theorem betwS_len (xs : List (Mt Pr Pr)) : (betwS xs).length ≤ xs.length := by
  have h : ∀ (ys : List (Mt Pr Pr)) (l : List Tn), (ys.foldl stepB l).length ≤ l.length + ys.length := by
    intro ys
    induction ys with
    | nil => intro l; simp
    | cons y ys ih =>
      intro l
      have h1 := ih (stepB l y)
      have h2 : (stepB l y).length ≤ l.length + 1 := by unfold stepB turnS; split <;> simp
      simp only [List.foldl_cons, List.length_cons]
      omega
  have := h xs []
  unfold betwS
  simpa using this
def betw (a b : List Pr) : List Tn × Int := if tblB a && tblB b then (betwS (meetsPP a b), 0) else ([], 1)
def BPost (w : World) (l : List Tn) (z : Int) (e : Ending) (w' : World) : Prop := ∃ v, e = .returned (.tuple #[v, .int .i64 z]) ∧ OwnT w' w.heap.size v l ∧ Below w.heap.size w w'
set_option maxRecDepth 100000 in
set_option maxHeartbeats 4000000 in
theorem between_any (aa ab : Option Addr) (na nb ca cb : Nat) (a b : List Pr) (w : World) (ha : RArg encP 2 w aa na ca a) (hb : RArg encP 2 w ab nb cb b) (hla : a.length ≤ 4096) (hlb : b.length ≤ 4096) :
    Calls Try.prog 12 #[.slice aa na ca, .slice ab nb cb] w (BPost w (betw a b).1 (betw a b).2) := by
  obtain rfl := ha.1
  obtain rfl := hb.1
  have CA := tcheck_any aa a.length ca a w ha
  have CB := fun w' (h : Below w.heap.size w w') => tcheck_any ab b.length cb b w' (hb.below h)
  refine (callsIn_wide (n := 3)).1 ?_
  refine callsIn_of_wp_marks Try.func12 rfl trivial ?_ rfl
  simp only [Try.ntmps12, List.size_toArray, List.length_cons, List.length_nil, Nat.reduceAdd, Nat.reduceSub, Array.replicate_succ, Array.replicate_zero, List.push_toArray, List.append_toArray, List.nil_append, List.cons_append]
  refine wpIn_wide.2 ?_
  unfold betw
  cases hta : tblB a with
  | false =>
    rw [hta] at CA
    go_wp2_with (go_at_call 30; (with_reducible refine CA.mono ?_); rintro e w1 ⟨rfl, b1⟩)
    exact ⟨_, results_tmp2 rfl _ _ _, _, rfl, OwnsR.nil _ _ _ _ _, b1⟩
  | true =>
    rw [hta] at CA
    cases htb : tblB b with
    | false =>
      rw [htb] at CB
      go_wp2_with (first
        | (go_at_call 30; (with_reducible refine CA.mono ?_); rintro e w1 ⟨rfl, b1⟩; clear CA)
        | (go_at_call 30; (with_reducible refine (CB _ b1).mono ?_); rintro e w2 ⟨rfl, b2⟩))
      exact ⟨_, results_tmp2 rfl _ _ _, _, rfl, OwnsR.nil _ _ _ _ _, below_next b1 b2⟩
    | true =>
      rw [htb] at CB
      go_wp2_with (first
        | (go_at_call 30; (with_reducible refine CA.mono ?_); rintro e w1 ⟨rfl, b1⟩; clear CA)
        | (go_at_call 30; (with_reducible refine (CB _ b1).mono ?_); rintro e w2 ⟨rfl, b2⟩; have B2 := below_next b1 b2)
        | (go_at_call 31; (with_reducible refine (bothPP_any _ _ _ _ _ _ _).mono ?_); rintro e w3 ⟨rfl, b3, x0, x1, x2, x3, hsz⟩))
      rw [World.size_alloc] at x0 x1 x2 x3
      have bO : Boxed w3 w2.heap.size 22 (.slice none 0 0) := (b3.block _ (by simp)).trans (World.alloc_heap_new w2 _)
      have B3 : Below w.heap.size w w3 := below_next (below_alloc B2 _) b3
      have e3 : w3.heap.size = w2.heap.size + 5 := by rw [hsz]; simp
      have g2 : w.heap.size ≤ w2.heap.size := B2.size
      have hcap : CapPP w3.heap.size (fun k => k = w2.heap.size) w3 (w2.heap.size + 1) (w2.heap.size + 1 + 1 + 1) (w2.heap.size + 1 + 1) (w2.heap.size + 1 + 1 + 1 + 1) aa ab ca cb a b :=
        { pa := ⟨by omega, by omega⟩, pb := ⟨by omega, by omega⟩, qa := ⟨by omega, by omega⟩, qb := ⟨by omega, by omega⟩, xa := x0, xb := x1, ya := x2, yb := x3
          ra := fun j hj => by
            obtain ⟨bk, off, e, hlt, hc⟩ := ha.2.2.2.2 j hj
            exact ⟨bk, off, e, ⟨by omega, by omega⟩, fun i v hi => (B3.cell (p := ⟨bk, off + j * 2 + i, none⟩) hlt).trans (hc i v hi)⟩
          rb := fun j hj => by
            obtain ⟨bk, off, e, hlt, hc⟩ := hb.2.2.2.2 j hj
            exact ⟨bk, off, e, ⟨by omega, by omega⟩, fun i v hi => (B3.cell (p := ⟨bk, off + j * 2 + i, none⟩) hlt).trans (hc i v hi)⟩
          la := ⟨ha.2.1, ha.2.2.1⟩, lb := ⟨hb.2.1, hb.2.2.1⟩, ba := tblB_low hta, bb := tblB_low htb }
      have hml : (meetsPP a b).length ≤ 8192 := Nat.le_trans (meets_len _ _ _ _ a b) (by omega)
      clear x0 x1 x2 x3 CB b1 b2 b3 hsz
      refine (wpIn_wide (n := 3)).1 ?_
      refine wpIn_rangeFunc_ownH rfl (by decide) (gf := 47) (lb := #[.pointer (some ⟨w2.heap.size + 1, 0, none⟩), .pointer (some ⟨w2.heap.size + 1 + 1 + 1, 0, none⟩), .pointer (some ⟨w2.heap.size + 1 + 1, 0, none⟩), .pointer (some ⟨w2.heap.size + 1 + 1 + 1 + 1, 0, none⟩)]) rfl trivial (enters_of Try.func47 (by kernel_rfl) rfl)
        (bothPP_stops 2 w3.heap.size (w2.heap.size + 1) (w2.heap.size + 1 + 1 + 1) (w2.heap.size + 1 + 1) (w2.heap.size + 1 + 1 + 1 + 1) (fun k => k = w2.heap.size) aa ab ca cb a b w3 hcap (Nat.le_refl _)) Kept.trans (kept_put (Nat.le_refl _)) (Below.refl _ _) (fun _ => rfl)
        (fun pre W => (∃ v, Boxed W w2.heap.size 22 v ∧ W.ownsRow w3.heap.size 46 5 v (betwS pre).length (flatR encT (betwS pre)) ∧ True) ∧ Below w.heap.size w W ∧ w3.heap.size ≤ W.heap.size)
        (fun _ _ _ => False)
        (OwnFrom.and (Own.from (holdsRow_own w3.heap.size w2.heap.size 22 46 5 (fun pre => (betwS pre).length) (fun pre => flatR encT (betwS pre)) (fun _ _ => True)) _) (OwnFrom.and (ownFrom_below (Nat.le_refl _) B3.size) (fun s A B row hs hg hr => Nat.le_trans hs hg.size)))
        (fun _ _ _ _ _ hs _ _ => hs)
        ⟨⟨_, bO, OwnsR.nil _ _ _ _ _, trivial⟩, B3, Nat.le_refl _⟩
        (fun x a' W => ∃ Bx, w3.heap.size ≤ Bx ∧ XB 77 W Bx [.int .i64 x.key, .int .i64 x.a.1, .int .i64 x.a.2, .int .i64 x.b.1, .int .i64 x.b.2, .bool x.inA, .bool x.inB] ∧ a' = { tmps := #[.slice aa a.length ca, .slice ab b.length cb, undef, undef, .slice none 0 0, .int .i64 0, .pointer (some ⟨w2.heap.size, 0, none⟩), .pointer (some ⟨Bx, 0, none⟩), .slice aa a.length ca, .bool true, .bool false, .bool false, .slice ab b.length cb, .bool true, .bool false, .bool false, .slice aa a.length ca, .slice ab b.length cb, .func (.func 47) #[] #[.pointer (some ⟨w2.heap.size + 1, 0, none⟩), .pointer (some ⟨w2.heap.size + 1 + 1 + 1, 0, none⟩), .pointer (some ⟨w2.heap.size + 1 + 1, 0, none⟩), .pointer (some ⟨w2.heap.size + 1 + 1 + 1 + 1, 0, none⟩)], .agg #[.int .i64 x.key, .int .i64 x.a.1, .int .i64 x.a.2, .int .i64 x.b.1, .int .i64 x.b.2, .bool x.inA, .bool x.inB], undef, undef, undef, undef, undef, undef, undef, undef, undef, undef, undef, undef, undef, undef, undef], defers := [] })
        (fun x a' => fun _ A B row hs hg hr => by
          obtain ⟨Bx, h1, h2, h3⟩ := hs
          exact ⟨Bx, h1, h2.kept hg (fun e => by obtain ⟨_, o, ho, hc⟩ := hr Bx e.symm; rw [show A.heap[Bx]? = _ from h2] at ho; cases ho; cases hc), h3⟩)
        ?assign ?body ?done ?stop
      case assign =>
        intro l pre x W K hI hK
        simp only [encPP, encP, List.cons_append, List.nil_append]
        gi_wp2
        obtain ⟨⟨v, hv, hrow, _⟩, hB, hn⟩ := hI
        refine hK _ _ ((KeepsOthers.alloc _ _).from _) (Kept.below ((Below.refl _ _).alloc (Nat.le_refl _) _) hn) ⟨⟨v, hv.alloc _, hrow.alloc _, trivial⟩, hB.alloc hB.size _, by simp; omega⟩ ⟨W.heap.size, hn, heap_alloc_new _ _, rfl⟩
      case body =>
        rintro l pre x a' W hl ⟨r, hr⟩ ⟨⟨v, hv, hrow, _⟩, hB, hn⟩ ⟨Bx, hBx, hX, rfl⟩ hlt
        have hlen : (betwS pre).length ≤ 8192 := Nat.le_trans (betwS_len pre) (by omega)
        have KS : ∀ W', Below W.heap.size W W' → (fun W : World => W.cell? ⟨w2.heap.size, 0, none⟩ = some v ∧ W.cell? ⟨Bx, 0, none⟩ = some (.int .i64 x.key) ∧ W.cell? ⟨Bx, 1, none⟩ = some (.int .i64 x.a.1) ∧ W.cell? ⟨Bx, 2, none⟩ = some (.int .i64 x.a.2) ∧ W.cell? ⟨Bx, 3, none⟩ = some (.int .i64 x.b.1) ∧ W.cell? ⟨Bx, 4, none⟩ = some (.int .i64 x.b.2) ∧ W.cell? ⟨Bx, 5, none⟩ = some (.bool x.inA) ∧ W.cell? ⟨Bx, 6, none⟩ = some (.bool x.inB)) W' := fun W' hb => ⟨((hb.cell (p := ⟨w2.heap.size, 0, none⟩) hv.lt).trans hv.cell), (hX.below hb).at 0 _ rfl, (hX.below hb).at 1 _ rfl, (hX.below hb).at 2 _ rfl, (hX.below hb).at 3 _ rfl, (hX.below hb).at 4 _ rfl, (hX.below hb).at 5 _ rfl, (hX.below hb).at 6 _ rfl⟩
        have hnr := hv.not_row (by decide) hrow
        have hnx := XB.not_row (by decide) hX hrow
        have hvb : Hid (Boxed W w2.heap.size 22 v) := Lib.hid hv
        have hXb : Hid (XB 77 W Bx [.int .i64 x.key, .int .i64 x.a.1, .int .i64 x.a.2, .int .i64 x.b.1, .int .i64 x.b.2, .bool x.inA, .bool x.inB]) := Lib.hid hX
        replace KS := Lib.hid KS
        replace hrow := Lib.hid hrow
        gi_wp2
        refine wpIn_region_last (fun W => W.cell? ⟨w2.heap.size, 0, none⟩ = some v ∧ W.cell? ⟨Bx, 0, none⟩ = some (.int .i64 x.key) ∧ W.cell? ⟨Bx, 1, none⟩ = some (.int .i64 x.a.1) ∧ W.cell? ⟨Bx, 2, none⟩ = some (.int .i64 x.a.2) ∧ W.cell? ⟨Bx, 3, none⟩ = some (.int .i64 x.b.1) ∧ W.cell? ⟨Bx, 4, none⟩ = some (.int .i64 x.b.2) ∧ W.cell? ⟨Bx, 5, none⟩ = some (.bool x.inA) ∧ W.cell? ⟨Bx, 6, none⟩ = some (.bool x.inB)) 14 (by kernel_rfl) (by kernel_rfl) (by rintro ⟨a, w, h⟩; exact h) ?_
        have hS := KS.out W.drew (Below.refl _ _).drew
        refine wpAnyL_take (i := 0) (v := ?_) rfl (by kernel_rfl) (by kernel_rfl) (by kernel_rfl) (by kernel_rfl) (fun _ _ _ h => h) (Or.inl ⟨by rfl, ?_⟩) hS ?_
        rotate_left
        · intro w hSw
          (try dsimp only at hSw)
          go_simp
          try with_reducible rfl
        try simp only [Act.put, List.setIfInBounds_toArray]
        refine wpAnyL_take (i := 1) (v := ?_) rfl (by kernel_rfl) (by kernel_rfl) (by kernel_rfl) (by kernel_rfl) (fun _ _ _ h => h) (Or.inl ⟨by rfl, ?_⟩) hS ?_
        rotate_left
        · intro w hSw
          (try dsimp only at hSw)
          go_simp
          try with_reducible rfl
        try simp only [Act.put]
        refine wpAnyL_take (i := 2) (v := ?_) rfl (by kernel_rfl) (by kernel_rfl) (by kernel_rfl) (by kernel_rfl) (fun _ _ _ h => h) (Or.inl ⟨by rfl, ?_⟩) hS ?_
        rotate_left
        · intro w hSw
          (try dsimp only at hSw)
          go_simp
          try with_reducible rfl
        try simp only [Act.put]
        refine wpAnyL_take (i := 3) (v := ?_) rfl (by kernel_rfl) (by kernel_rfl) (by kernel_rfl) (by kernel_rfl) (fun _ _ _ h => h) (Or.inl ⟨by rfl, ?_⟩) hS ?_
        rotate_left
        · intro w hSw
          (try dsimp only at hSw)
          go_simp
          try with_reducible rfl
        try simp only [Act.put]
        refine wpAnyL_take (i := 4) (v := ?_) rfl (by kernel_rfl) (by kernel_rfl) (by kernel_rfl) (by kernel_rfl) (fun _ _ _ h => h) (Or.inl ⟨by rfl, ?_⟩) hS ?_
        rotate_left
        · intro w hSw
          (try dsimp only at hSw)
          go_simp
          try with_reducible rfl
        try simp only [Act.put]
        refine wpAnyL_take (i := 5) (v := ?_) rfl (by kernel_rfl) (by kernel_rfl) (by kernel_rfl) (by kernel_rfl) (fun _ _ _ h => h) (Or.inl ⟨by rfl, ?_⟩) hS ?_
        rotate_left
        · intro w hSw
          (try dsimp only at hSw)
          go_simp
          try with_reducible rfl
        try simp only [Act.put]
        refine wpAnyL_take (i := 6) (v := ?_) rfl (by kernel_rfl) (by kernel_rfl) (by kernel_rfl) (by kernel_rfl) (fun _ _ _ h => h) (Or.inl ⟨by rfl, ?_⟩) hS ?_
        rotate_left
        · intro w hSw
          (try dsimp only at hSw)
          go_simp
          try with_reducible rfl
        try simp only [Act.put]
        refine wpAnyL_take (i := 8) (v := ?_) rfl (by kernel_rfl) (by kernel_rfl) (by kernel_rfl) (by kernel_rfl) (fun _ _ _ h => h) (Or.inl ⟨by rfl, ?_⟩) hS ?_
        rotate_left
        · intro w hSw
          (try dsimp only at hSw)
          go_simp
          try with_reducible rfl
        try simp only [Act.put]
        refine wpAnyL_take (i := 9) (v := ?_) rfl (by kernel_rfl) (by kernel_rfl) (by kernel_rfl) (by kernel_rfl) (fun _ _ _ h => h) (Or.inl ⟨by rfl, ?_⟩) hS ?_
        rotate_left
        · intro w hSw
          (try dsimp only at hSw)
          go_simp
          try with_reducible rfl
        try simp only [Act.put]
        refine wpAnyL_take (i := 10) (v := ?_) rfl (by kernel_rfl) (by kernel_rfl) (by kernel_rfl) (by kernel_rfl) (fun _ _ _ h => h) (Or.inl ⟨by rfl, ?_⟩) hS ?_
        rotate_left
        · intro w hSw
          (try dsimp only at hSw)
          go_simp
          try with_reducible rfl
        try simp only [Act.put]
        refine wpAnyL_take (i := 11) (v := ?_) rfl (by kernel_rfl) (by kernel_rfl) (by kernel_rfl) (by kernel_rfl) (fun _ _ _ h => h) (Or.inl ⟨by rfl, ?_⟩) hS ?_
        rotate_left
        · intro w hSw
          (try dsimp only at hSw)
          go_simp
          try with_reducible rfl
        try simp only [Act.put]
        refine wpAnyL_ready (rs := [7]) (by kernel_rfl) (by simp) (AllReadyL.cons rfl (fun K hK => ?_) AllReadyL.nil)
        go_simp
        go_wp2_with (go_at_call 34; (with_reducible refine (cell_any x.a x.inA _).mono ?_); rintro e wk1 ⟨rfl, bk1⟩; (have c1 : Below W.heap.size W wk1 := (Below.refl W.heap.size W).drew.trans (bk1.mono (Nat.le_refl _))); (have hS1 := KS.out _ c1))
        refine hK.out _ _ (.inr hS1) ?_
        clear hK K
        try simp only [Act.put, List.setIfInBounds_toArray, List.set_cons_zero, List.set_cons_succ]
        refine wpAnyL_ready (rs := [12]) (by kernel_rfl) (by simp) (AllReadyL.cons rfl (fun K hK => ?_) AllReadyL.nil)
        go_simp
        go_wp2_with (go_at_call 34; (with_reducible refine (cell_any x.b x.inB _).mono ?_); rintro e wk2 ⟨rfl, bk2⟩; (have c2 := c1.trans (bk2.mono c1.size)); (have hS2 := KS.out _ c2); (have hrow2 : OwnT wk2 w3.heap.size v (betwS pre) := OwnsR.below hrow.out c2))
        refine hK.out _ _ (.inr hS2) ?_
        clear hK K
        try simp only [Act.put, List.setIfInBounds_toArray, List.set_cons_zero, List.set_cons_succ]
        refine wpAnyL_ready (rs := [13]) (by kernel_rfl) (by simp) (AllReadyL.cons rfl (fun K hK => ?_) AllReadyL.nil)
        go_simp
        go_wp2_with (go_at_call 33; (with_reducible refine (turned_any x.key (x.a.2, x.inA) (x.b.2, x.inB) hrow2 (Nat.le_trans hn c2.size) (by omega)).mono ?_); rintro e wk3 ⟨v', rfl, hrow3, g3⟩; (have hv3 := Boxed.kept (Boxed.below hvb.out c2) g3 hnr); (have hX3 := XB.kept (XB.below hXb.out c2) g3 hnx))
        refine hK.out _ _ (.inr ⟨hv3.cell, hX3.at 0 _ rfl, hX3.at 1 _ rfl, hX3.at 2 _ rfl, hX3.at 3 _ rfl, hX3.at 4 _ rfl, hX3.at 5 _ rfl, hX3.at 6 _ rfl⟩) ?_
        clear hK K
        try simp only [Act.put, List.setIfInBounds_toArray, List.set_cons_zero, List.set_cons_succ]
        obtain ⟨va, vc, rfl, _⟩ := OwnsR.arg encT_len hrow3
        have z6 := hv3.cell
        have f6 := hv3.frozen
        refine wpAnyL_ready (rs := [14]) (by kernel_rfl) (by simp) (AllReadyL.cons rfl (fun K hK => ?_) AllReadyL.nil)
        go_simp
        refine hK.out _ _ (.inl rfl) ?_
        clear hK K
        try simp only [Act.put, List.setIfInBounds_toArray, List.set_cons_zero, List.set_cons_succ]
        refine wpAnyL_done (by kernel_rfl) ?_ _
        have hnr3 := hv3.not_row (by decide) hrow3
        have ko : KeepsOthers W (wk3.setCell ⟨w2.heap.size, 0, none⟩ (.slice va (turnS (betwS pre) x.key (x.a.2, x.inA) (x.b.2, x.inB)).length vc)) := ((KeepsOthers.of_grownBy (row := none) ⟨c2.os, c2.tape, c2.output, c2.size, fun k hk _ => c2.block k hk⟩ (fun j o e => by cases e)).trans (KeepsOthers.of_grownBy g3 (row_cells hrow2))).trans (KeepsOthers.setCell _ _ _)
        have kk : Kept w3.heap.size (fun k => k = w2.heap.size) W (wk3.setCell ⟨w2.heap.size, 0, none⟩ (.slice va (turnS (betwS pre) x.key (x.a.2, x.inA) (x.b.2, x.inB)).length vc)) := ((Kept.below c2 hn).trans (Kept.grown (Nat.le_trans hn c2.size) g3 (row_base hrow2))).trans (Kept.set _ _ _ rfl)
        have hI : (∃ v, Boxed (wk3.setCell ⟨w2.heap.size, 0, none⟩ (.slice va (turnS (betwS pre) x.key (x.a.2, x.inA) (x.b.2, x.inB)).length vc)) w2.heap.size 22 v ∧ (wk3.setCell ⟨w2.heap.size, 0, none⟩ (.slice va (turnS (betwS pre) x.key (x.a.2, x.inA) (x.b.2, x.inB)).length vc)).ownsRow w3.heap.size 46 5 v (betwS (pre ++ [x])).length (flatR encT (betwS (pre ++ [x]))) ∧ True) ∧ Below w.heap.size w (wk3.setCell ⟨w2.heap.size, 0, none⟩ (.slice va (turnS (betwS pre) x.key (x.a.2, x.inA) (x.b.2, x.inB)).length vc)) ∧ w3.heap.size ≤ (wk3.setCell ⟨w2.heap.size, 0, none⟩ (.slice va (turnS (betwS pre) x.key (x.a.2, x.inA) (x.b.2, x.inB)).length vc)).heap.size := by
          rw [betwS_snoc]
          refine ⟨⟨_, hv3.set _, World.ownsRow.kept hrow3 (grownBy_setCell' wk3 w2.heap.size _) (.inr hnr3.symm), trivial⟩, ?_, ?_⟩
          · exact (((hB.trans (c2.mono hB.size)).grown g3 (Nat.le_trans hB.size c2.size) (fun k e => Nat.le_trans B3.size (row_base hrow2 k e)))).setCell (p := ⟨w2.heap.size, 0, none⟩) (by exact g2) _
          · have := g3.size
            have := c2.size
            simp [World.setCell]
            omega
        replace ko := Lib.hid ko
        replace kk := Lib.hid kk
        replace hI := Lib.hid hI
        gi_wp2
        exact ⟨ko.out.from _, kk.out, hI.out⟩
      case done =>
        rintro D ys W hD rfl ⟨⟨v, hv, hrow, _⟩, hB, _⟩ hK
        have hc := hv.cell
        go_wp2
        refine ⟨by simp, .inl ⟨_, _, rfl, run_takeDeferred hK, ?_⟩⟩
        exact ⟨_, results_tmp2 rfl _ _ _, v, rfl, OwnsR.low (ownsRow_putObj hrow _ hK rfl) B3.size, hB.trans (belowK_b (w := w) (Nat.le_refl _) W D _ _ (by have := B3.size; omega) hK rfl rfl)⟩
      case stop =>
        rintro D c pre W _ _ h _
        exact h.elim
end Go.Proofs.Ytnjlbgnojlmmlaa
