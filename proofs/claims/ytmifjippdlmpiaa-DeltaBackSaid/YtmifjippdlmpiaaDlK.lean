/-
  DELTA: 'both' at pairs, turns and at turns, turns (written by wip/tools/mkDlK.py); Fits.
-/
import Derived.Test.YtmifjippdlmpiaaDlE
import Derived.Test.YtmifjippdlmpiaaDlU
import Derived.Test.YtmifjippdlmpiaaDlH
import Derived.Test.YtmifjippdlmpiaaDlI
namespace Go.Proofs.Ytmifjippdlmpiaa
open Go.RowKit Go.Deep Go.Shelf
attribute [local go_sem] Oper.semAt_some

theorem bothPT_any (aa ab : Option Addr) (na nb ca cb : Nat) (w : World) :
    Calls Try.prog 44 #[.slice aa na ca, .func (.func 40) #[] #[], .slice ab nb cb, .func (.func 45) #[] #[]] w fun e w' =>
      e = .returned (.func (.func 67) #[] #[.pointer (some ⟨w.heap.size, 0, none⟩), .pointer (some ⟨w.heap.size + 1 + 1, 0, none⟩), .pointer (some ⟨w.heap.size + 1, 0, none⟩), .pointer (some ⟨w.heap.size + 1 + 1 + 1, 0, none⟩)]) ∧
      Below w.heap.size w w' ∧ w'.cell? ⟨w.heap.size, 0, none⟩ = some (.slice aa na ca) ∧ w'.cell? ⟨w.heap.size + 1 + 1, 0, none⟩ = some (.slice ab nb cb) ∧ w'.cell? ⟨w.heap.size + 1, 0, none⟩ = some (.func (.func 40) #[] #[]) ∧ w'.cell? ⟨w.heap.size + 1 + 1 + 1, 0, none⟩ = some (.func (.func 45) #[] #[]) ∧ w'.heap.size = w.heap.size + 4 := by
  go_enter Try.func44, Try.ntmps44
  go_wp2
  go_ret
  refine ⟨rfl, (((((Below.refl _ _).alloc (Nat.le_refl _) _).alloc (by simp) _).alloc (by simp <;> omega) _).alloc (by simp <;> omega) _), ?_⟩
  exact alloc4 w _ _ _ _ _ _ _ _ _ rfl
theorem bothPT_stops (m n1 Ba Bb Ka Kb : Nat) (ex : Nat → Prop) (aa ab : Option Addr) (ca cb : Nat) (a : List Pr) (b : List Tn) (w : World) (hC : CapPT n1 ex w Ba Bb Ka Kb aa ab ca cb a b) (hn : n1 ≤ w.heap.size) :
    SeqStopsK Fence.wide m Try.prog 67 #[.pointer (some ⟨Ba, 0, none⟩), .pointer (some ⟨Bb, 0, none⟩), .pointer (some ⟨Ka, 0, none⟩), .pointer (some ⟨Kb, 0, none⟩)] encPT (Kept n1 ex) (fun ys => ys = meetsPT a b) (fun pre => pre <+: meetsPT a b) (meetsPT a b).length w :=
  fun l J Jx W hW hJ _ hY h0 => bothPT_in m l n1 Ba Bb Ka Kb ex aa ab ca cb a b J Jx W hJ hY (hC.kept (Kept.below hW hn)) (Nat.le_trans hn hW.size) h0
theorem bothTT_any (aa ab : Option Addr) (na nb ca cb : Nat) (w : World) :
    Calls Try.prog 48 #[.slice aa na ca, .func (.func 45) #[] #[], .slice ab nb cb, .func (.func 45) #[] #[]] w fun e w' =>
      e = .returned (.func (.func 68) #[] #[.pointer (some ⟨w.heap.size, 0, none⟩), .pointer (some ⟨w.heap.size + 1 + 1, 0, none⟩), .pointer (some ⟨w.heap.size + 1, 0, none⟩), .pointer (some ⟨w.heap.size + 1 + 1 + 1, 0, none⟩)]) ∧
      Below w.heap.size w w' ∧ w'.cell? ⟨w.heap.size, 0, none⟩ = some (.slice aa na ca) ∧ w'.cell? ⟨w.heap.size + 1 + 1, 0, none⟩ = some (.slice ab nb cb) ∧ w'.cell? ⟨w.heap.size + 1, 0, none⟩ = some (.func (.func 45) #[] #[]) ∧ w'.cell? ⟨w.heap.size + 1 + 1 + 1, 0, none⟩ = some (.func (.func 45) #[] #[]) ∧ w'.heap.size = w.heap.size + 4 := by
  go_enter Try.func48, Try.ntmps48
  go_wp2
  go_ret
  refine ⟨rfl, (((((Below.refl _ _).alloc (Nat.le_refl _) _).alloc (by simp) _).alloc (by simp <;> omega) _).alloc (by simp <;> omega) _), ?_⟩
  exact alloc4 w _ _ _ _ _ _ _ _ _ rfl
theorem bothTT_stops (m n1 Ba Bb Ka Kb : Nat) (ex : Nat → Prop) (aa ab : Option Addr) (ca cb : Nat) (a : List Tn) (b : List Tn) (w : World) (hC : CapTT n1 ex w Ba Bb Ka Kb aa ab ca cb a b) (hn : n1 ≤ w.heap.size) :
    SeqStopsK Fence.wide m Try.prog 68 #[.pointer (some ⟨Ba, 0, none⟩), .pointer (some ⟨Bb, 0, none⟩), .pointer (some ⟨Ka, 0, none⟩), .pointer (some ⟨Kb, 0, none⟩)] encTT (Kept n1 ex) (fun ys => ys = meetsTT a b) (fun pre => pre <+: meetsTT a b) (meetsTT a b).length w :=
  fun l J Jx W hW hJ _ hY h0 => bothTT_in m l n1 Ba Bb Ka Kb ex aa ab ca cb a b J Jx W hJ hY (hC.kept (Kept.below hW hn)) (Nat.le_trans hn hW.size) h0
theorem chkF_low : ∀ (l : List Tn) (e : Int), chkF e l = true → ∀ x ∈ l, x.1 < 4096
  | [], _, _, _, h => by cases h
  | p :: t, e, h, x, hx => by
    unfold chkF at h
    simp only [Bool.and_eq_true, decide_eq_true_iff] at h
    rcases List.mem_cons.1 hx with rfl | hx
    · exact h.1.1.1.1.2
    · exact chkF_low t _ h.2 x hx
def fitX (x : Mt Pr Tn) : Bool := !(x.inB && !decide (x.b.2.1 = (x.a.2, x.inA)))
def fitsB (a : List Pr) (l : List Tn) : Bool := tblB a && chkB l && (meetsPT a l).all fitX
set_option maxRecDepth 100000 in
set_option maxHeartbeats 4000000 in
theorem fits_any (aa ab : Option Addr) (na nb ca cb : Nat) (a : List Pr) (b : List Tn) (w : World) (ha : RArg encP 2 w aa na ca a) (hb : RArg encT 5 w ab nb cb b) :
    Calls Try.prog 22 #[.slice aa na ca, .slice ab nb cb] w (Gives w (.bool (fitsB a b))) := by
  obtain rfl := ha.1
  obtain rfl := hb.1
  have CA := fun w' (h : Below w.heap.size w w') => tcheck_any aa a.length ca a w' (ha.below h)
  have CB := fun w' (h : Below w.heap.size w w') => dcheck_any ab b.length cb b w' (hb.below h)
  refine (callsIn_wide (n := 3)).1 ?_
  refine callsIn_of_wp_marks Try.func22 rfl trivial ?_ rfl
  simp only [Try.ntmps22, List.size_toArray, List.length_cons, List.length_nil, Nat.reduceAdd, Nat.reduceSub, Array.replicate_succ, Array.replicate_zero, List.push_toArray, List.append_toArray, List.nil_append, List.cons_append]
  refine wpIn_wide.2 ?_
  have BR : Below w.heap.size w (w.alloc (.cells #[.bool false] 4)) := (Below.refl _ _).alloc (Nat.le_refl _) _
  have bR : Boxed (w.alloc (.cells #[.bool false] 4)) w.heap.size 4 (.bool false) := Boxed.new w _ _
  unfold fitsB
  cases hta : tblB a with
  | false =>
    rw [hta] at CA
    go_wp2_with (go_at_call 38; (with_reducible refine (CA _ BR).mono ?_); rintro e w1 ⟨rfl, b1⟩; have bR1 := Boxed.below bR b1; have z0 := bR1.cell; have f0 := bR1.frozen)
    have z1 : (w1.setCell ⟨w.heap.size, 0, none⟩ (.bool false)).cell? ⟨w.heap.size, 0, none⟩ = some (.bool false) := (bR1.set _).cell
    exact ⟨_, by simp [results, Try.results22, go_sem, z1], rfl, (BR.trans (b1.mono BR.size)).setCell (p := ⟨w.heap.size, 0, none⟩) (Nat.le_refl _) _⟩
  | true =>
    rw [hta] at CA
    cases htb : chkB b with
    | false =>
      rw [htb] at CB
      go_wp2_with (first
        | (go_at_call 38; (with_reducible refine (CA _ BR).mono ?_); rintro e w1 ⟨rfl, b1⟩; (have B1 := BR.trans (b1.mono BR.size)); have bR1 := Boxed.below bR b1; clear CA)
        | (go_at_call 20; (with_reducible refine (CB _ B1).mono ?_); rintro e w2 ⟨rfl, b2⟩; (have B2 := below_next B1 b2); have bR2 := Boxed.below bR1 b2; have z0 := bR2.cell; have f0 := bR2.frozen))
      have z1 : (w2.setCell ⟨w.heap.size, 0, none⟩ (.bool false)).cell? ⟨w.heap.size, 0, none⟩ = some (.bool false) := (bR2.set _).cell
      exact ⟨_, by simp [results, Try.results22, go_sem, z1], rfl, B2.setCell (p := ⟨w.heap.size, 0, none⟩) (Nat.le_refl _) _⟩
    | true =>
      rw [htb] at CB
      go_wp2_with (first
        | (go_at_call 38; (with_reducible refine (CA _ BR).mono ?_); rintro e w1 ⟨rfl, b1⟩; (have B1 := BR.trans (b1.mono BR.size)); have bR1 := Boxed.below bR b1; clear CA)
        | (go_at_call 20; (with_reducible refine (CB _ B1).mono ?_); rintro e w2 ⟨rfl, b2⟩; (have B2 := below_next B1 b2); have bR2 := Boxed.below bR1 b2)
        | (go_at_call 44; (with_reducible refine (bothPT_any _ _ _ _ _ _ _).mono ?_); rintro e w3 ⟨rfl, b3, x0, x1, x2, x3, hsz⟩))
      rw [show (true && true && (meetsPT a b).all fitX) = (meetsPT a b).all fitX by simp]
      have bR3 := Boxed.below bR2 b3
      have B3 : Below w.heap.size w w3 := below_next B2 b3
      have e3 : w3.heap.size = w2.heap.size + 4 := hsz
      have g2 : w.heap.size ≤ w2.heap.size := B2.size
      have hcap : CapPT w3.heap.size (fun _ => False) w3 w2.heap.size (w2.heap.size + 1 + 1) (w2.heap.size + 1) (w2.heap.size + 1 + 1 + 1) aa ab ca cb a b :=
        { pa := ⟨by omega, id⟩, pb := ⟨by omega, id⟩, qa := ⟨by omega, id⟩, qb := ⟨by omega, id⟩, xa := x0, xb := x1, ya := x2, yb := x3
          ra := fun j hj => by
            obtain ⟨bk, off, e, hlt, hc⟩ := ha.2.2.2.2 j hj
            exact ⟨bk, off, e, ⟨by omega, id⟩, fun i v hi => (B3.cell (p := ⟨bk, off + j * 2 + i, none⟩) hlt).trans (hc i v hi)⟩
          rb := fun j hj => by
            obtain ⟨bk, off, e, hlt, hc⟩ := hb.2.2.2.2 j hj
            exact ⟨bk, off, e, ⟨by omega, id⟩, fun i v hi => (B3.cell (p := ⟨bk, off + j * 5 + i, none⟩) hlt).trans (hc i v hi)⟩
          la := ⟨ha.2.1, ha.2.2.1⟩, lb := ⟨hb.2.1, hb.2.2.1⟩, ba := tblB_low hta, bb := chkF_low _ _ htb }
      clear x0 x1 x2 x3 CB b1 b2 b3 hsz
      refine (wpIn_wide (n := 3)).1 ?_
      refine wpIn_rangeFunc_ownH rfl (by decide) (gf := 67) (lb := #[.pointer (some ⟨w2.heap.size, 0, none⟩), .pointer (some ⟨w2.heap.size + 1 + 1, 0, none⟩), .pointer (some ⟨w2.heap.size + 1, 0, none⟩), .pointer (some ⟨w2.heap.size + 1 + 1 + 1, 0, none⟩)]) rfl trivial (enters_of Try.func67 (by kernel_rfl) rfl)
        (bothPT_stops 2 w3.heap.size w2.heap.size (w2.heap.size + 1 + 1) (w2.heap.size + 1) (w2.heap.size + 1 + 1 + 1) (fun _ => False) aa ab ca cb a b w3 hcap (Nat.le_refl _)) Kept.trans (kept_put (Nat.le_refl _)) (Below.refl _ _) (fun _ => rfl)
        (fun pre W => pre.all fitX = true ∧ Boxed W w.heap.size 4 (.bool false) ∧ Below w.heap.size w W ∧ w3.heap.size ≤ W.heap.size)
        (fun c pre W => c = .ret ∧ (∃ x ∈ pre, fitX x = false) ∧ Boxed W w.heap.size 4 (.bool false) ∧ Below w.heap.size w W)
        (fun s A B row hs hg hr => ⟨hs.1, boxed_own w.heap.size 4 (fun (_ : List (Mt Pr Tn)) => .bool false) s A B row hs.2.1 hg (fun r e => (hr r e).2), ownFrom_below (β := Unit) (Nat.le_refl _) B3.size () A B row hs.2.2.1 hg hr, Nat.le_trans hs.2.2.2 hg.size⟩)
        (fun c s A B row hs hg hr => ⟨hs.1, hs.2.1, boxed_own w.heap.size 4 (fun (_ : List (Mt Pr Tn)) => .bool false) s A B row hs.2.2.1 hg (fun r e => (hr r e).2), ownFrom_below (β := Unit) (Nat.le_refl _) B3.size () A B row hs.2.2.2 hg hr⟩)
        ⟨rfl, bR3, B3, Nat.le_refl _⟩
        (fun x a' W => ∃ Bx, w3.heap.size ≤ Bx ∧ XB 94 W Bx [.int .i64 x.key, .int .i64 x.a.1, .int .i64 x.a.2, .int .i64 x.b.1, .int .i64 x.b.2.1.1, .bool x.b.2.1.2, .int .i64 x.b.2.2.1, .bool x.b.2.2.2, .bool x.inA, .bool x.inB] ∧ a' = { tmps := #[.slice aa a.length ca, .slice ab b.length cb, undef, undef, .pointer (some ⟨w.heap.size, 0, none⟩), .pointer (some ⟨Bx, 0, none⟩), .slice aa a.length ca, .bool true, .bool false, .bool false, .slice ab b.length cb, .bool true, .bool false, .bool false, .slice aa a.length ca, .slice ab b.length cb, .func (.func 67) #[] #[.pointer (some ⟨w2.heap.size, 0, none⟩), .pointer (some ⟨w2.heap.size + 1 + 1, 0, none⟩), .pointer (some ⟨w2.heap.size + 1, 0, none⟩), .pointer (some ⟨w2.heap.size + 1 + 1 + 1, 0, none⟩)], .agg #[.int .i64 x.key, .int .i64 x.a.1, .int .i64 x.a.2, .int .i64 x.b.1, .int .i64 x.b.2.1.1, .bool x.b.2.1.2, .int .i64 x.b.2.2.1, .bool x.b.2.2.2, .bool x.inA, .bool x.inB], undef, undef, undef, undef, undef, undef, undef, undef, undef, undef, undef, undef, undef], defers := [] })
        (fun x a' => fun _ A B row hs hg hr => by
          obtain ⟨Bx, h1, h2, h3⟩ := hs
          exact ⟨Bx, h1, h2.kept hg (fun e => by obtain ⟨_, o, ho, hc⟩ := hr Bx e.symm; rw [show A.heap[Bx]? = _ from h2] at ho; cases ho; cases hc), h3⟩)
        ?assign ?body ?done ?stop
      case assign =>
        intro l pre x W K hI hK
        simp only [encPT, encP, encT, List.cons_append, List.nil_append]
        gi_wp2
        obtain ⟨hI1, hv, hB, hn⟩ := hI
        refine hK _ _ ((KeepsOthers.alloc _ _).from _) (Kept.below ((Below.refl _ _).alloc (Nat.le_refl _) _) hn) ⟨hI1, hv.alloc _, hB.alloc hB.size _, by simp; omega⟩ ⟨W.heap.size, hn, heap_alloc_new _ _, rfl⟩
      case body =>
        rintro l pre ⟨xk, xa, xb, ia, ib⟩ a' W hl ⟨r, hr⟩ ⟨hI1, hv, hB, hn⟩ ⟨Bx, hBx, hX, rfl⟩ hlt
        dsimp only at hX ⊢
        have hvb : Hid (Boxed W w.heap.size 4 (.bool false)) := Lib.hid hv
        have hXb : Hid (XB 94 W Bx [.int .i64 xk, .int .i64 xa.1, .int .i64 xa.2, .int .i64 xb.1, .int .i64 xb.2.1.1, .bool xb.2.1.2, .int .i64 xb.2.2.1, .bool xb.2.2.2, .bool ia, .bool ib]) := Lib.hid hX
        cases ib with
        | false =>
          have KS : ∀ W', Below W.heap.size W W' → (fun W : World => W.cell? ⟨Bx, 0, none⟩ = some (.int .i64 xk) ∧ W.cell? ⟨Bx, 1, none⟩ = some (.int .i64 xa.1) ∧ W.cell? ⟨Bx, 2, none⟩ = some (.int .i64 xa.2) ∧ W.cell? ⟨Bx, 3, none⟩ = some (.int .i64 xb.1) ∧ W.cell? ⟨Bx, 4, none⟩ = some (.int .i64 xb.2.1.1) ∧ W.cell? ⟨Bx, 5, none⟩ = some (.bool xb.2.1.2) ∧ W.cell? ⟨Bx, 6, none⟩ = some (.int .i64 xb.2.2.1) ∧ W.cell? ⟨Bx, 7, none⟩ = some (.bool xb.2.2.2) ∧ W.cell? ⟨Bx, 8, none⟩ = some (.bool ia) ∧ W.cell? ⟨Bx, 9, none⟩ = some (.bool false)) W' := fun W' hb => by
            have hX2 := XB.below hXb.out hb
            exact ⟨hX2.at 0 _ rfl, hX2.at 1 _ rfl, hX2.at 2 _ rfl, hX2.at 3 _ rfl, hX2.at 4 _ rfl, hX2.at 5 _ rfl, hX2.at 6 _ rfl, hX2.at 7 _ rfl, hX2.at 8 _ rfl, hX2.at 9 _ rfl⟩
          replace KS := Lib.hid KS
          gi_wp2
          refine wpIn_region_round (S := fun W => W.cell? ⟨Bx, 0, none⟩ = some (.int .i64 xk) ∧ W.cell? ⟨Bx, 1, none⟩ = some (.int .i64 xa.1) ∧ W.cell? ⟨Bx, 2, none⟩ = some (.int .i64 xa.2) ∧ W.cell? ⟨Bx, 3, none⟩ = some (.int .i64 xb.1) ∧ W.cell? ⟨Bx, 4, none⟩ = some (.int .i64 xb.2.1.1) ∧ W.cell? ⟨Bx, 5, none⟩ = some (.bool xb.2.1.2) ∧ W.cell? ⟨Bx, 6, none⟩ = some (.int .i64 xb.2.2.1) ∧ W.cell? ⟨Bx, 7, none⟩ = some (.bool xb.2.2.2) ∧ W.cell? ⟨Bx, 8, none⟩ = some (.bool ia) ∧ W.cell? ⟨Bx, 9, none⟩ = some (.bool false)) (by kernel_rfl) (by kernel_rfl) (by rintro ⟨a, w, h⟩; exact h) (KS.out _ (Below.refl _ _).drew) (fun hS => ?_)
          refine wpAnyH_take (i := 0) (v := ?_) rfl (by kernel_rfl) (by kernel_rfl) (by kernel_rfl) (fun _ _ _ h => h) (Or.inl ⟨by kernel_rfl, ?_⟩) hS ?_
          rotate_left
          · intro w hSw
            (try dsimp only at hSw)
            go_simp
            try with_reducible rfl
          dsimp only [Act.put, List.getElem?_toArray, List.getElem?_cons_succ, List.getElem?_cons_zero, List.getElem_toArray, List.getElem_cons_succ, List.getElem_cons_zero]
          try simp only [List.setIfInBounds_toArray, List.set_cons_zero, List.set_cons_succ]
          refine wpAnyH_take (i := 1) (v := ?_) rfl (by kernel_rfl) (by kernel_rfl) (by kernel_rfl) (fun _ _ _ h => h) (Or.inl ⟨by kernel_rfl, ?_⟩) hS ?_
          rotate_left
          · intro w hSw
            (try dsimp only at hSw)
            go_simp
            try with_reducible rfl
          dsimp only [Act.put, List.getElem?_toArray, List.getElem?_cons_succ, List.getElem?_cons_zero, List.getElem_toArray, List.getElem_cons_succ, List.getElem_cons_zero]
          try simp only [List.setIfInBounds_toArray, List.set_cons_zero, List.set_cons_succ]
          refine wpAnyH_take (i := 2) (v := ?_) rfl (by kernel_rfl) (by kernel_rfl) (by kernel_rfl) (fun _ _ _ h => h) (Or.inl ⟨by kernel_rfl, ?_⟩) hS ?_
          rotate_left
          · intro w hSw
            (try dsimp only at hSw)
            go_simp
            try with_reducible rfl
          dsimp only [Act.put, List.getElem?_toArray, List.getElem?_cons_succ, List.getElem?_cons_zero, List.getElem_toArray, List.getElem_cons_succ, List.getElem_cons_zero]
          try simp only [List.setIfInBounds_toArray, List.set_cons_zero, List.set_cons_succ]
          refine wpAnyH_take (i := 3) (v := undef) rfl (by kernel_rfl) (by kernel_rfl) (by kernel_rfl) (fun _ _ _ h => h) (Or.inr ⟨by kernel_rfl, rfl⟩) hS ?_
          dsimp only [Act.put, List.getElem?_toArray, List.getElem?_cons_succ, List.getElem?_cons_zero, List.getElem_toArray, List.getElem_cons_succ, List.getElem_cons_zero]
          try simp only [List.setIfInBounds_toArray, List.set_cons_zero, List.set_cons_succ]
          refine wpAnyH_take (i := 4) (v := undef) rfl (by kernel_rfl) (by kernel_rfl) (by kernel_rfl) (fun _ _ _ h => h) (Or.inr ⟨by kernel_rfl, rfl⟩) hS ?_
          dsimp only [Act.put, List.getElem?_toArray, List.getElem?_cons_succ, List.getElem?_cons_zero, List.getElem_toArray, List.getElem_cons_succ, List.getElem_cons_zero]
          try simp only [List.setIfInBounds_toArray, List.set_cons_zero, List.set_cons_succ]
          refine wpAnyH_take (i := 5) (v := undef) rfl (by kernel_rfl) (by kernel_rfl) (by kernel_rfl) (fun _ _ _ h => h) (Or.inr ⟨by kernel_rfl, rfl⟩) hS ?_
          dsimp only [Act.put, List.getElem?_toArray, List.getElem?_cons_succ, List.getElem?_cons_zero, List.getElem_toArray, List.getElem_cons_succ, List.getElem_cons_zero]
          try simp only [List.setIfInBounds_toArray, List.set_cons_zero, List.set_cons_succ]
          refine wpAnyH_take (i := 6) (v := undef) rfl (by kernel_rfl) (by kernel_rfl) (by kernel_rfl) (fun _ _ _ h => h) (Or.inr ⟨by kernel_rfl, rfl⟩) hS ?_
          dsimp only [Act.put, List.getElem?_toArray, List.getElem?_cons_succ, List.getElem?_cons_zero, List.getElem_toArray, List.getElem_cons_succ, List.getElem_cons_zero]
          try simp only [List.setIfInBounds_toArray, List.set_cons_zero, List.set_cons_succ]
          refine wpAnyH_take (i := 7) (v := undef) rfl (by kernel_rfl) (by kernel_rfl) (by kernel_rfl) (fun _ _ _ h => h) (Or.inr ⟨by kernel_rfl, rfl⟩) hS ?_
          dsimp only [Act.put, List.getElem?_toArray, List.getElem?_cons_succ, List.getElem?_cons_zero, List.getElem_toArray, List.getElem_cons_succ, List.getElem_cons_zero]
          try simp only [List.setIfInBounds_toArray, List.set_cons_zero, List.set_cons_succ]
          refine wpAnyH_take (i := 8) (v := undef) rfl (by kernel_rfl) (by kernel_rfl) (by kernel_rfl) (fun _ _ _ h => h) (Or.inr ⟨by kernel_rfl, rfl⟩) hS ?_
          dsimp only [Act.put, List.getElem?_toArray, List.getElem?_cons_succ, List.getElem?_cons_zero, List.getElem_toArray, List.getElem_cons_succ, List.getElem_cons_zero]
          try simp only [List.setIfInBounds_toArray, List.set_cons_zero, List.set_cons_succ]
          refine wpAnyH_take (i := 9) (v := undef) rfl (by kernel_rfl) (by kernel_rfl) (by kernel_rfl) (fun _ _ _ h => h) (Or.inr ⟨by kernel_rfl, rfl⟩) hS ?_
          dsimp only [Act.put, List.getElem?_toArray, List.getElem?_cons_succ, List.getElem?_cons_zero, List.getElem_toArray, List.getElem_cons_succ, List.getElem_cons_zero]
          try simp only [List.setIfInBounds_toArray, List.set_cons_zero, List.set_cons_succ]
          refine wpAnyH_take (i := 10) (v := undef) rfl (by kernel_rfl) (by kernel_rfl) (by kernel_rfl) (fun _ _ _ h => h) (Or.inr ⟨by kernel_rfl, rfl⟩) hS ?_
          dsimp only [Act.put, List.getElem?_toArray, List.getElem?_cons_succ, List.getElem?_cons_zero, List.getElem_toArray, List.getElem_cons_succ, List.getElem_cons_zero]
          try simp only [List.setIfInBounds_toArray, List.set_cons_zero, List.set_cons_succ]
          refine wpAnyH_take (i := 11) (v := undef) rfl (by kernel_rfl) (by kernel_rfl) (by kernel_rfl) (fun _ _ _ h => h) (Or.inr ⟨by kernel_rfl, rfl⟩) hS ?_
          dsimp only [Act.put, List.getElem?_toArray, List.getElem?_cons_succ, List.getElem?_cons_zero, List.getElem_toArray, List.getElem_cons_succ, List.getElem_cons_zero]
          try simp only [List.setIfInBounds_toArray, List.set_cons_zero, List.set_cons_succ]
          refine wpAnyH_take (i := 12) (v := ?_) rfl (by kernel_rfl) (by kernel_rfl) (by kernel_rfl) (fun _ _ _ h => h) (Or.inl ⟨by kernel_rfl, ?_⟩) hS ?_
          rotate_left
          · intro w hSw
            (try dsimp only at hSw)
            go_simp
            try with_reducible rfl
          dsimp only [Act.put, List.getElem?_toArray, List.getElem?_cons_succ, List.getElem?_cons_zero, List.getElem_toArray, List.getElem_cons_succ, List.getElem_cons_zero]
          try simp only [List.setIfInBounds_toArray, List.set_cons_zero, List.set_cons_succ]
          refine wpAnyH_done (by kernel_rfl) ?_ _
          gi_wp2
          exact ⟨(KeepsOthers.drew _).from _, Kept.below ((Below.refl W.heap.size W).drew) hn, by rw [List.all_append, hI1]; rfl, hvb.out, hB.drew, hn⟩
        | true =>
          obtain ⟨xa1, xa2⟩ := xa
          obtain ⟨xb1, ⟨xv, xs⟩, xi⟩ := xb
          dsimp only at hX hXb ⊢
          by_cases hq : ((xv, xs) : Cl) = (xa2, ia)
          · obtain ⟨rfl, rfl⟩ : xv = xa2 ∧ xs = ia := by simpa using hq
            have KS : ∀ W', Below W.heap.size W W' → (fun W : World => W.cell? ⟨Bx, 0, none⟩ = some (.int .i64 xk) ∧ W.cell? ⟨Bx, 1, none⟩ = some (.int .i64 xa1) ∧ W.cell? ⟨Bx, 2, none⟩ = some (.int .i64 xv) ∧ W.cell? ⟨Bx, 3, none⟩ = some (.int .i64 xb1) ∧ W.cell? ⟨Bx, 4, none⟩ = some (.int .i64 xv) ∧ W.cell? ⟨Bx, 5, none⟩ = some (.bool xs) ∧ W.cell? ⟨Bx, 6, none⟩ = some (.int .i64 xi.1) ∧ W.cell? ⟨Bx, 7, none⟩ = some (.bool xi.2) ∧ W.cell? ⟨Bx, 8, none⟩ = some (.bool xs) ∧ W.cell? ⟨Bx, 9, none⟩ = some (.bool true)) W' := fun W' hb => by
              have hX2 := XB.below hXb.out hb
              exact ⟨hX2.at 0 _ rfl, hX2.at 1 _ rfl, hX2.at 2 _ rfl, hX2.at 3 _ rfl, hX2.at 4 _ rfl, hX2.at 5 _ rfl, hX2.at 6 _ rfl, hX2.at 7 _ rfl, hX2.at 8 _ rfl, hX2.at 9 _ rfl⟩
            replace KS := Lib.hid KS
            gi_wp2
            refine wpIn_region_round (S := fun W => W.cell? ⟨Bx, 0, none⟩ = some (.int .i64 xk) ∧ W.cell? ⟨Bx, 1, none⟩ = some (.int .i64 xa1) ∧ W.cell? ⟨Bx, 2, none⟩ = some (.int .i64 xv) ∧ W.cell? ⟨Bx, 3, none⟩ = some (.int .i64 xb1) ∧ W.cell? ⟨Bx, 4, none⟩ = some (.int .i64 xv) ∧ W.cell? ⟨Bx, 5, none⟩ = some (.bool xs) ∧ W.cell? ⟨Bx, 6, none⟩ = some (.int .i64 xi.1) ∧ W.cell? ⟨Bx, 7, none⟩ = some (.bool xi.2) ∧ W.cell? ⟨Bx, 8, none⟩ = some (.bool xs) ∧ W.cell? ⟨Bx, 9, none⟩ = some (.bool true)) (by kernel_rfl) (by kernel_rfl) (by rintro ⟨a, w, h⟩; exact h) (KS.out _ (Below.refl _ _).drew) (fun hS => ?_)
            refine wpAnyH_take (i := 0) (v := ?_) rfl (by kernel_rfl) (by kernel_rfl) (by kernel_rfl) (fun _ _ _ h => h) (Or.inl ⟨by kernel_rfl, ?_⟩) hS ?_
            rotate_left
            · intro w hSw
              (try dsimp only at hSw)
              go_simp
              try with_reducible rfl
            dsimp only [Act.put, List.getElem?_toArray, List.getElem?_cons_succ, List.getElem?_cons_zero, List.getElem_toArray, List.getElem_cons_succ, List.getElem_cons_zero]
            try simp only [List.setIfInBounds_toArray, List.set_cons_zero, List.set_cons_succ]
            refine wpAnyH_take (i := 1) (v := ?_) rfl (by kernel_rfl) (by kernel_rfl) (by kernel_rfl) (fun _ _ _ h => h) (Or.inl ⟨by kernel_rfl, ?_⟩) hS ?_
            rotate_left
            · intro w hSw
              (try dsimp only at hSw)
              go_simp
              try with_reducible rfl
            dsimp only [Act.put, List.getElem?_toArray, List.getElem?_cons_succ, List.getElem?_cons_zero, List.getElem_toArray, List.getElem_cons_succ, List.getElem_cons_zero]
            try simp only [List.setIfInBounds_toArray, List.set_cons_zero, List.set_cons_succ]
            refine wpAnyH_take (i := 2) (v := ?_) rfl (by kernel_rfl) (by kernel_rfl) (by kernel_rfl) (fun _ _ _ h => h) (Or.inl ⟨by kernel_rfl, ?_⟩) hS ?_
            rotate_left
            · intro w hSw
              (try dsimp only at hSw)
              go_simp
              try with_reducible rfl
            dsimp only [Act.put, List.getElem?_toArray, List.getElem?_cons_succ, List.getElem?_cons_zero, List.getElem_toArray, List.getElem_cons_succ, List.getElem_cons_zero]
            try simp only [List.setIfInBounds_toArray, List.set_cons_zero, List.set_cons_succ]
            refine wpAnyH_take (i := 3) (v := ?_) rfl (by kernel_rfl) (by kernel_rfl) (by kernel_rfl) (fun _ _ _ h => h) (Or.inl ⟨by kernel_rfl, ?_⟩) hS ?_
            rotate_left
            · intro w hSw
              (try dsimp only at hSw)
              go_simp
              try with_reducible rfl
            dsimp only [Act.put, List.getElem?_toArray, List.getElem?_cons_succ, List.getElem?_cons_zero, List.getElem_toArray, List.getElem_cons_succ, List.getElem_cons_zero]
            try simp only [List.setIfInBounds_toArray, List.set_cons_zero, List.set_cons_succ]
            refine wpAnyH_take (i := 4) (v := ?_) rfl (by kernel_rfl) (by kernel_rfl) (by kernel_rfl) (fun _ _ _ h => h) (Or.inl ⟨by kernel_rfl, ?_⟩) hS ?_
            rotate_left
            · intro w hSw
              (try dsimp only at hSw)
              go_simp
              try with_reducible rfl
            dsimp only [Act.put, List.getElem?_toArray, List.getElem?_cons_succ, List.getElem?_cons_zero, List.getElem_toArray, List.getElem_cons_succ, List.getElem_cons_zero]
            try simp only [List.setIfInBounds_toArray, List.set_cons_zero, List.set_cons_succ]
            refine wpAnyH_take (i := 5) (v := ?_) rfl (by kernel_rfl) (by kernel_rfl) (by kernel_rfl) (fun _ _ _ h => h) (Or.inl ⟨by kernel_rfl, ?_⟩) hS ?_
            rotate_left
            · intro w hSw
              (try dsimp only at hSw)
              go_simp
              try with_reducible rfl
            dsimp only [Act.put, List.getElem?_toArray, List.getElem?_cons_succ, List.getElem?_cons_zero, List.getElem_toArray, List.getElem_cons_succ, List.getElem_cons_zero]
            try simp only [List.setIfInBounds_toArray, List.set_cons_zero, List.set_cons_succ]
            refine wpAnyH_take (i := 6) (v := ?_) rfl (by kernel_rfl) (by kernel_rfl) (by kernel_rfl) (fun _ _ _ h => h) (Or.inl ⟨by kernel_rfl, ?_⟩) hS ?_
            rotate_left
            · intro w hSw
              (try dsimp only at hSw)
              go_simp
              try with_reducible rfl
            dsimp only [Act.put, List.getElem?_toArray, List.getElem?_cons_succ, List.getElem?_cons_zero, List.getElem_toArray, List.getElem_cons_succ, List.getElem_cons_zero]
            try simp only [List.setIfInBounds_toArray, List.set_cons_zero, List.set_cons_succ]
            refine wpAnyH_take (i := 7) (v := ?_) rfl (by kernel_rfl) (by kernel_rfl) (by kernel_rfl) (fun _ _ _ h => h) (Or.inl ⟨by kernel_rfl, ?_⟩) hS ?_
            rotate_left
            · intro w hSw
              (try dsimp only at hSw)
              go_simp
              try with_reducible rfl
            dsimp only [Act.put, List.getElem?_toArray, List.getElem?_cons_succ, List.getElem?_cons_zero, List.getElem_toArray, List.getElem_cons_succ, List.getElem_cons_zero]
            try simp only [List.setIfInBounds_toArray, List.set_cons_zero, List.set_cons_succ]
            refine wpAnyH_take (i := 8) (v := ?_) rfl (by kernel_rfl) (by kernel_rfl) (by kernel_rfl) (fun _ _ _ h => h) (Or.inl ⟨by kernel_rfl, ?_⟩) hS ?_
            rotate_left
            · intro w hSw
              (try dsimp only at hSw)
              go_simp
              try with_reducible rfl
            dsimp only [Act.put, List.getElem?_toArray, List.getElem?_cons_succ, List.getElem?_cons_zero, List.getElem_toArray, List.getElem_cons_succ, List.getElem_cons_zero]
            try simp only [List.setIfInBounds_toArray, List.set_cons_zero, List.set_cons_succ]
            refine wpAnyH_take (i := 9) (v := ?_) rfl (by kernel_rfl) (by kernel_rfl) (by kernel_rfl) (fun _ _ _ h => h) (Or.inl ⟨by kernel_rfl, ?_⟩) hS ?_
            rotate_left
            · intro w hSw
              (try dsimp only at hSw)
              go_simp
              try with_reducible rfl
            dsimp only [Act.put, List.getElem?_toArray, List.getElem?_cons_succ, List.getElem?_cons_zero, List.getElem_toArray, List.getElem_cons_succ, List.getElem_cons_zero]
            try simp only [List.setIfInBounds_toArray, List.set_cons_zero, List.set_cons_succ]
            refine wpAnyH_ready (rs := [10]) (by kernel_rfl) (by simp) (AllReadyH.cons rfl (fun K hK => ?_) AllReadyH.nil)
            go_simp
            go_wp2_with (go_at_call 42; (with_reducible refine (cell_any (xa1, xv) xs _).mono ?_); rintro e wk1 ⟨rfl, bk1⟩; (have c1 : Below W.heap.size W wk1 := (Below.refl W.heap.size W).drew.trans (bk1.mono (Nat.le_refl _))); (have hS1 := KS.out _ c1))
            refine hK.out _ _ hS1 (fun _ => ?_)
            clear hK K
            try simp only [Act.put, List.setIfInBounds_toArray, List.set_cons_zero, List.set_cons_succ]
            refine wpAnyH_take (i := 11) (v := ?_) rfl (by kernel_rfl) (by kernel_rfl) (by kernel_rfl) (fun _ _ _ h => h) (Or.inl ⟨by kernel_rfl, ?_⟩) hS1 ?_
            rotate_left
            · intro w hSw
              (try dsimp only at hSw)
              go_simp
              try with_reducible rfl
            dsimp only [Act.put, List.getElem?_toArray, List.getElem?_cons_succ, List.getElem?_cons_zero, List.getElem_toArray, List.getElem_cons_succ, List.getElem_cons_zero]
            try simp only [List.setIfInBounds_toArray, List.set_cons_zero, List.set_cons_succ]
            refine wpAnyH_take (i := 12) (v := ?_) rfl (by kernel_rfl) (by kernel_rfl) (by kernel_rfl) (fun _ _ _ h => h) (Or.inl ⟨by kernel_rfl, ?_⟩) hS1 ?_
            rotate_left
            · intro w hSw
              (try dsimp only at hSw)
              go_simp
              try with_reducible rfl
            dsimp only [Act.put, List.getElem?_toArray, List.getElem?_cons_succ, List.getElem?_cons_zero, List.getElem_toArray, List.getElem_cons_succ, List.getElem_cons_zero]
            try simp only [List.setIfInBounds_toArray, List.set_cons_zero, List.set_cons_succ]
            refine wpAnyH_done (by kernel_rfl) ?_ _
            gi_wp2
            exact ⟨(KeepsOthers.of_grownBy (row := none) ⟨c1.os, c1.tape, c1.output, c1.size, fun k hk _ => c1.block k hk⟩ (fun j o e => by cases e)).from _, Kept.below c1 hn, by rw [List.all_append, hI1]; simp [fitX], Boxed.below hvb.out c1, hB.trans (c1.mono hB.size), Nat.le_trans hn c1.size⟩
          · rcases cell_ne hq with ⟨e1, e2⟩ | ⟨rfl, e1, e2⟩
            · skip
              have KS : ∀ W', Below W.heap.size W W' → (fun W : World => W.cell? ⟨Bx, 0, none⟩ = some (.int .i64 xk) ∧ W.cell? ⟨Bx, 1, none⟩ = some (.int .i64 xa1) ∧ W.cell? ⟨Bx, 2, none⟩ = some (.int .i64 xa2) ∧ W.cell? ⟨Bx, 3, none⟩ = some (.int .i64 xb1) ∧ W.cell? ⟨Bx, 4, none⟩ = some (.int .i64 xv) ∧ W.cell? ⟨Bx, 5, none⟩ = some (.bool xs) ∧ W.cell? ⟨Bx, 6, none⟩ = some (.int .i64 xi.1) ∧ W.cell? ⟨Bx, 7, none⟩ = some (.bool xi.2) ∧ W.cell? ⟨Bx, 8, none⟩ = some (.bool ia) ∧ W.cell? ⟨Bx, 9, none⟩ = some (.bool true)) W' := fun W' hb => by
                have hX2 := XB.below hXb.out hb
                exact ⟨hX2.at 0 _ rfl, hX2.at 1 _ rfl, hX2.at 2 _ rfl, hX2.at 3 _ rfl, hX2.at 4 _ rfl, hX2.at 5 _ rfl, hX2.at 6 _ rfl, hX2.at 7 _ rfl, hX2.at 8 _ rfl, hX2.at 9 _ rfl⟩
              replace KS := Lib.hid KS
              gi_wp2
              refine wpIn_region_round (S := fun W => W.cell? ⟨Bx, 0, none⟩ = some (.int .i64 xk) ∧ W.cell? ⟨Bx, 1, none⟩ = some (.int .i64 xa1) ∧ W.cell? ⟨Bx, 2, none⟩ = some (.int .i64 xa2) ∧ W.cell? ⟨Bx, 3, none⟩ = some (.int .i64 xb1) ∧ W.cell? ⟨Bx, 4, none⟩ = some (.int .i64 xv) ∧ W.cell? ⟨Bx, 5, none⟩ = some (.bool xs) ∧ W.cell? ⟨Bx, 6, none⟩ = some (.int .i64 xi.1) ∧ W.cell? ⟨Bx, 7, none⟩ = some (.bool xi.2) ∧ W.cell? ⟨Bx, 8, none⟩ = some (.bool ia) ∧ W.cell? ⟨Bx, 9, none⟩ = some (.bool true)) (by kernel_rfl) (by kernel_rfl) (by rintro ⟨a, w, h⟩; exact h) (KS.out _ (Below.refl _ _).drew) (fun hS => ?_)
              refine wpAnyH_take (i := 0) (v := ?_) rfl (by kernel_rfl) (by kernel_rfl) (by kernel_rfl) (fun _ _ _ h => h) (Or.inl ⟨by kernel_rfl, ?_⟩) hS ?_
              rotate_left
              · intro w hSw
                (try dsimp only at hSw)
                go_simp
                try with_reducible rfl
              dsimp only [Act.put, List.getElem?_toArray, List.getElem?_cons_succ, List.getElem?_cons_zero, List.getElem_toArray, List.getElem_cons_succ, List.getElem_cons_zero]
              try simp only [List.setIfInBounds_toArray, List.set_cons_zero, List.set_cons_succ]
              refine wpAnyH_take (i := 1) (v := ?_) rfl (by kernel_rfl) (by kernel_rfl) (by kernel_rfl) (fun _ _ _ h => h) (Or.inl ⟨by kernel_rfl, ?_⟩) hS ?_
              rotate_left
              · intro w hSw
                (try dsimp only at hSw)
                go_simp
                try with_reducible rfl
              dsimp only [Act.put, List.getElem?_toArray, List.getElem?_cons_succ, List.getElem?_cons_zero, List.getElem_toArray, List.getElem_cons_succ, List.getElem_cons_zero]
              try simp only [List.setIfInBounds_toArray, List.set_cons_zero, List.set_cons_succ]
              refine wpAnyH_take (i := 2) (v := ?_) rfl (by kernel_rfl) (by kernel_rfl) (by kernel_rfl) (fun _ _ _ h => h) (Or.inl ⟨by kernel_rfl, ?_⟩) hS ?_
              rotate_left
              · intro w hSw
                (try dsimp only at hSw)
                go_simp
                try with_reducible rfl
              dsimp only [Act.put, List.getElem?_toArray, List.getElem?_cons_succ, List.getElem?_cons_zero, List.getElem_toArray, List.getElem_cons_succ, List.getElem_cons_zero]
              try simp only [List.setIfInBounds_toArray, List.set_cons_zero, List.set_cons_succ]
              refine wpAnyH_take (i := 3) (v := ?_) rfl (by kernel_rfl) (by kernel_rfl) (by kernel_rfl) (fun _ _ _ h => h) (Or.inl ⟨by kernel_rfl, ?_⟩) hS ?_
              rotate_left
              · intro w hSw
                (try dsimp only at hSw)
                go_simp
                try with_reducible rfl
              dsimp only [Act.put, List.getElem?_toArray, List.getElem?_cons_succ, List.getElem?_cons_zero, List.getElem_toArray, List.getElem_cons_succ, List.getElem_cons_zero]
              try simp only [List.setIfInBounds_toArray, List.set_cons_zero, List.set_cons_succ]
              refine wpAnyH_take (i := 4) (v := ?_) rfl (by kernel_rfl) (by kernel_rfl) (by kernel_rfl) (fun _ _ _ h => h) (Or.inl ⟨by kernel_rfl, ?_⟩) hS ?_
              rotate_left
              · intro w hSw
                (try dsimp only at hSw)
                go_simp
                try with_reducible rfl
              dsimp only [Act.put, List.getElem?_toArray, List.getElem?_cons_succ, List.getElem?_cons_zero, List.getElem_toArray, List.getElem_cons_succ, List.getElem_cons_zero]
              try simp only [List.setIfInBounds_toArray, List.set_cons_zero, List.set_cons_succ]
              refine wpAnyH_take (i := 5) (v := ?_) rfl (by kernel_rfl) (by kernel_rfl) (by kernel_rfl) (fun _ _ _ h => h) (Or.inl ⟨by kernel_rfl, ?_⟩) hS ?_
              rotate_left
              · intro w hSw
                (try dsimp only at hSw)
                go_simp
                try with_reducible rfl
              dsimp only [Act.put, List.getElem?_toArray, List.getElem?_cons_succ, List.getElem?_cons_zero, List.getElem_toArray, List.getElem_cons_succ, List.getElem_cons_zero]
              try simp only [List.setIfInBounds_toArray, List.set_cons_zero, List.set_cons_succ]
              refine wpAnyH_take (i := 6) (v := ?_) rfl (by kernel_rfl) (by kernel_rfl) (by kernel_rfl) (fun _ _ _ h => h) (Or.inl ⟨by kernel_rfl, ?_⟩) hS ?_
              rotate_left
              · intro w hSw
                (try dsimp only at hSw)
                go_simp
                try with_reducible rfl
              dsimp only [Act.put, List.getElem?_toArray, List.getElem?_cons_succ, List.getElem?_cons_zero, List.getElem_toArray, List.getElem_cons_succ, List.getElem_cons_zero]
              try simp only [List.setIfInBounds_toArray, List.set_cons_zero, List.set_cons_succ]
              refine wpAnyH_take (i := 7) (v := ?_) rfl (by kernel_rfl) (by kernel_rfl) (by kernel_rfl) (fun _ _ _ h => h) (Or.inl ⟨by kernel_rfl, ?_⟩) hS ?_
              rotate_left
              · intro w hSw
                (try dsimp only at hSw)
                go_simp
                try with_reducible rfl
              dsimp only [Act.put, List.getElem?_toArray, List.getElem?_cons_succ, List.getElem?_cons_zero, List.getElem_toArray, List.getElem_cons_succ, List.getElem_cons_zero]
              try simp only [List.setIfInBounds_toArray, List.set_cons_zero, List.set_cons_succ]
              refine wpAnyH_take (i := 8) (v := ?_) rfl (by kernel_rfl) (by kernel_rfl) (by kernel_rfl) (fun _ _ _ h => h) (Or.inl ⟨by kernel_rfl, ?_⟩) hS ?_
              rotate_left
              · intro w hSw
                (try dsimp only at hSw)
                go_simp
                try with_reducible rfl
              dsimp only [Act.put, List.getElem?_toArray, List.getElem?_cons_succ, List.getElem?_cons_zero, List.getElem_toArray, List.getElem_cons_succ, List.getElem_cons_zero]
              try simp only [List.setIfInBounds_toArray, List.set_cons_zero, List.set_cons_succ]
              refine wpAnyH_take (i := 9) (v := ?_) rfl (by kernel_rfl) (by kernel_rfl) (by kernel_rfl) (fun _ _ _ h => h) (Or.inl ⟨by kernel_rfl, ?_⟩) hS ?_
              rotate_left
              · intro w hSw
                (try dsimp only at hSw)
                go_simp
                try with_reducible rfl
              dsimp only [Act.put, List.getElem?_toArray, List.getElem?_cons_succ, List.getElem?_cons_zero, List.getElem_toArray, List.getElem_cons_succ, List.getElem_cons_zero]
              try simp only [List.setIfInBounds_toArray, List.set_cons_zero, List.set_cons_succ]
              refine wpAnyH_ready (rs := [10]) (by kernel_rfl) (by simp) (AllReadyH.cons rfl (fun K hK => ?_) AllReadyH.nil)
              go_simp
              go_wp2_with (go_at_call 42; (with_reducible refine (cell_any (xa1, xa2) ia _).mono ?_); rintro e wk1 ⟨rfl, bk1⟩; (have c1 : Below W.heap.size W wk1 := (Below.refl W.heap.size W).drew.trans (bk1.mono (Nat.le_refl _))); (have hS1 := KS.out _ c1))
              refine hK.out _ _ hS1 (fun _ => ?_)
              clear hK K
              try simp only [Act.put, List.setIfInBounds_toArray, List.set_cons_zero, List.set_cons_succ]
              refine wpAnyH_take (i := 11) (v := ?_) rfl (by kernel_rfl) (by kernel_rfl) (by kernel_rfl) (fun _ _ _ h => h) (Or.inl ⟨by kernel_rfl, ?_⟩) hS1 ?_
              rotate_left
              · intro w hSw
                (try dsimp only at hSw)
                go_simp
                try with_reducible rfl
              dsimp only [Act.put, List.getElem?_toArray, List.getElem?_cons_succ, List.getElem?_cons_zero, List.getElem_toArray, List.getElem_cons_succ, List.getElem_cons_zero]
              try simp only [List.setIfInBounds_toArray, List.set_cons_zero, List.set_cons_succ]
              refine wpAnyH_take (i := 12) (v := ?_) rfl (by kernel_rfl) (by kernel_rfl) (by kernel_rfl) (fun _ _ _ h => h) (Or.inl ⟨by kernel_rfl, ?_⟩) hS1 ?_
              rotate_left
              · intro w hSw
                (try dsimp only at hSw)
                go_simp
                try with_reducible rfl
              dsimp only [Act.put, List.getElem?_toArray, List.getElem?_cons_succ, List.getElem?_cons_zero, List.getElem_toArray, List.getElem_cons_succ, List.getElem_cons_zero]
              try simp only [List.setIfInBounds_toArray, List.set_cons_zero, List.set_cons_succ]
              refine wpAnyH_done (by kernel_rfl) ?_ _
              have hv2 := Boxed.below hvb.out c1
              have z0 := hv2.cell
              have f0 := hv2.frozen
              have hv3 : Hid (Boxed (wk1.setCell ⟨w.heap.size, 0, none⟩ (.bool false)) w.heap.size 4 (.bool false)) := Lib.hid (hv2.set _)
              gi_wp2
              exact ⟨((KeepsOthers.of_grownBy (row := none) ⟨c1.os, c1.tape, c1.output, c1.size, fun k hk _ => c1.block k hk⟩ (fun j o e => by cases e)).trans (KeepsOthers.setCell _ _ _)).from _, rfl, ⟨_, List.mem_append_right _ List.mem_cons_self, by unfold fitX; simp [hq]⟩, hv3.out, (hB.trans (c1.mono hB.size)).setCell (p := ⟨w.heap.size, 0, none⟩) (Nat.le_refl _) _⟩
            · skip
              have KS : ∀ W', Below W.heap.size W W' → (fun W : World => W.cell? ⟨Bx, 0, none⟩ = some (.int .i64 xk) ∧ W.cell? ⟨Bx, 1, none⟩ = some (.int .i64 xa1) ∧ W.cell? ⟨Bx, 2, none⟩ = some (.int .i64 xv) ∧ W.cell? ⟨Bx, 3, none⟩ = some (.int .i64 xb1) ∧ W.cell? ⟨Bx, 4, none⟩ = some (.int .i64 xv) ∧ W.cell? ⟨Bx, 5, none⟩ = some (.bool xs) ∧ W.cell? ⟨Bx, 6, none⟩ = some (.int .i64 xi.1) ∧ W.cell? ⟨Bx, 7, none⟩ = some (.bool xi.2) ∧ W.cell? ⟨Bx, 8, none⟩ = some (.bool ia) ∧ W.cell? ⟨Bx, 9, none⟩ = some (.bool true)) W' := fun W' hb => by
                have hX2 := XB.below hXb.out hb
                exact ⟨hX2.at 0 _ rfl, hX2.at 1 _ rfl, hX2.at 2 _ rfl, hX2.at 3 _ rfl, hX2.at 4 _ rfl, hX2.at 5 _ rfl, hX2.at 6 _ rfl, hX2.at 7 _ rfl, hX2.at 8 _ rfl, hX2.at 9 _ rfl⟩
              replace KS := Lib.hid KS
              gi_wp2
              refine wpIn_region_round (S := fun W => W.cell? ⟨Bx, 0, none⟩ = some (.int .i64 xk) ∧ W.cell? ⟨Bx, 1, none⟩ = some (.int .i64 xa1) ∧ W.cell? ⟨Bx, 2, none⟩ = some (.int .i64 xv) ∧ W.cell? ⟨Bx, 3, none⟩ = some (.int .i64 xb1) ∧ W.cell? ⟨Bx, 4, none⟩ = some (.int .i64 xv) ∧ W.cell? ⟨Bx, 5, none⟩ = some (.bool xs) ∧ W.cell? ⟨Bx, 6, none⟩ = some (.int .i64 xi.1) ∧ W.cell? ⟨Bx, 7, none⟩ = some (.bool xi.2) ∧ W.cell? ⟨Bx, 8, none⟩ = some (.bool ia) ∧ W.cell? ⟨Bx, 9, none⟩ = some (.bool true)) (by kernel_rfl) (by kernel_rfl) (by rintro ⟨a, w, h⟩; exact h) (KS.out _ (Below.refl _ _).drew) (fun hS => ?_)
              refine wpAnyH_take (i := 0) (v := ?_) rfl (by kernel_rfl) (by kernel_rfl) (by kernel_rfl) (fun _ _ _ h => h) (Or.inl ⟨by kernel_rfl, ?_⟩) hS ?_
              rotate_left
              · intro w hSw
                (try dsimp only at hSw)
                go_simp
                try with_reducible rfl
              dsimp only [Act.put, List.getElem?_toArray, List.getElem?_cons_succ, List.getElem?_cons_zero, List.getElem_toArray, List.getElem_cons_succ, List.getElem_cons_zero]
              try simp only [List.setIfInBounds_toArray, List.set_cons_zero, List.set_cons_succ]
              refine wpAnyH_take (i := 1) (v := ?_) rfl (by kernel_rfl) (by kernel_rfl) (by kernel_rfl) (fun _ _ _ h => h) (Or.inl ⟨by kernel_rfl, ?_⟩) hS ?_
              rotate_left
              · intro w hSw
                (try dsimp only at hSw)
                go_simp
                try with_reducible rfl
              dsimp only [Act.put, List.getElem?_toArray, List.getElem?_cons_succ, List.getElem?_cons_zero, List.getElem_toArray, List.getElem_cons_succ, List.getElem_cons_zero]
              try simp only [List.setIfInBounds_toArray, List.set_cons_zero, List.set_cons_succ]
              refine wpAnyH_take (i := 2) (v := ?_) rfl (by kernel_rfl) (by kernel_rfl) (by kernel_rfl) (fun _ _ _ h => h) (Or.inl ⟨by kernel_rfl, ?_⟩) hS ?_
              rotate_left
              · intro w hSw
                (try dsimp only at hSw)
                go_simp
                try with_reducible rfl
              dsimp only [Act.put, List.getElem?_toArray, List.getElem?_cons_succ, List.getElem?_cons_zero, List.getElem_toArray, List.getElem_cons_succ, List.getElem_cons_zero]
              try simp only [List.setIfInBounds_toArray, List.set_cons_zero, List.set_cons_succ]
              refine wpAnyH_take (i := 3) (v := ?_) rfl (by kernel_rfl) (by kernel_rfl) (by kernel_rfl) (fun _ _ _ h => h) (Or.inl ⟨by kernel_rfl, ?_⟩) hS ?_
              rotate_left
              · intro w hSw
                (try dsimp only at hSw)
                go_simp
                try with_reducible rfl
              dsimp only [Act.put, List.getElem?_toArray, List.getElem?_cons_succ, List.getElem?_cons_zero, List.getElem_toArray, List.getElem_cons_succ, List.getElem_cons_zero]
              try simp only [List.setIfInBounds_toArray, List.set_cons_zero, List.set_cons_succ]
              refine wpAnyH_take (i := 4) (v := ?_) rfl (by kernel_rfl) (by kernel_rfl) (by kernel_rfl) (fun _ _ _ h => h) (Or.inl ⟨by kernel_rfl, ?_⟩) hS ?_
              rotate_left
              · intro w hSw
                (try dsimp only at hSw)
                go_simp
                try with_reducible rfl
              dsimp only [Act.put, List.getElem?_toArray, List.getElem?_cons_succ, List.getElem?_cons_zero, List.getElem_toArray, List.getElem_cons_succ, List.getElem_cons_zero]
              try simp only [List.setIfInBounds_toArray, List.set_cons_zero, List.set_cons_succ]
              refine wpAnyH_take (i := 5) (v := ?_) rfl (by kernel_rfl) (by kernel_rfl) (by kernel_rfl) (fun _ _ _ h => h) (Or.inl ⟨by kernel_rfl, ?_⟩) hS ?_
              rotate_left
              · intro w hSw
                (try dsimp only at hSw)
                go_simp
                try with_reducible rfl
              dsimp only [Act.put, List.getElem?_toArray, List.getElem?_cons_succ, List.getElem?_cons_zero, List.getElem_toArray, List.getElem_cons_succ, List.getElem_cons_zero]
              try simp only [List.setIfInBounds_toArray, List.set_cons_zero, List.set_cons_succ]
              refine wpAnyH_take (i := 6) (v := ?_) rfl (by kernel_rfl) (by kernel_rfl) (by kernel_rfl) (fun _ _ _ h => h) (Or.inl ⟨by kernel_rfl, ?_⟩) hS ?_
              rotate_left
              · intro w hSw
                (try dsimp only at hSw)
                go_simp
                try with_reducible rfl
              dsimp only [Act.put, List.getElem?_toArray, List.getElem?_cons_succ, List.getElem?_cons_zero, List.getElem_toArray, List.getElem_cons_succ, List.getElem_cons_zero]
              try simp only [List.setIfInBounds_toArray, List.set_cons_zero, List.set_cons_succ]
              refine wpAnyH_take (i := 7) (v := ?_) rfl (by kernel_rfl) (by kernel_rfl) (by kernel_rfl) (fun _ _ _ h => h) (Or.inl ⟨by kernel_rfl, ?_⟩) hS ?_
              rotate_left
              · intro w hSw
                (try dsimp only at hSw)
                go_simp
                try with_reducible rfl
              dsimp only [Act.put, List.getElem?_toArray, List.getElem?_cons_succ, List.getElem?_cons_zero, List.getElem_toArray, List.getElem_cons_succ, List.getElem_cons_zero]
              try simp only [List.setIfInBounds_toArray, List.set_cons_zero, List.set_cons_succ]
              refine wpAnyH_take (i := 8) (v := ?_) rfl (by kernel_rfl) (by kernel_rfl) (by kernel_rfl) (fun _ _ _ h => h) (Or.inl ⟨by kernel_rfl, ?_⟩) hS ?_
              rotate_left
              · intro w hSw
                (try dsimp only at hSw)
                go_simp
                try with_reducible rfl
              dsimp only [Act.put, List.getElem?_toArray, List.getElem?_cons_succ, List.getElem?_cons_zero, List.getElem_toArray, List.getElem_cons_succ, List.getElem_cons_zero]
              try simp only [List.setIfInBounds_toArray, List.set_cons_zero, List.set_cons_succ]
              refine wpAnyH_take (i := 9) (v := ?_) rfl (by kernel_rfl) (by kernel_rfl) (by kernel_rfl) (fun _ _ _ h => h) (Or.inl ⟨by kernel_rfl, ?_⟩) hS ?_
              rotate_left
              · intro w hSw
                (try dsimp only at hSw)
                go_simp
                try with_reducible rfl
              dsimp only [Act.put, List.getElem?_toArray, List.getElem?_cons_succ, List.getElem?_cons_zero, List.getElem_toArray, List.getElem_cons_succ, List.getElem_cons_zero]
              try simp only [List.setIfInBounds_toArray, List.set_cons_zero, List.set_cons_succ]
              refine wpAnyH_ready (rs := [10]) (by kernel_rfl) (by simp) (AllReadyH.cons rfl (fun K hK => ?_) AllReadyH.nil)
              go_simp
              go_wp2_with (go_at_call 42; (with_reducible refine (cell_any (xa1, xv) ia _).mono ?_); rintro e wk1 ⟨rfl, bk1⟩; (have c1 : Below W.heap.size W wk1 := (Below.refl W.heap.size W).drew.trans (bk1.mono (Nat.le_refl _))); (have hS1 := KS.out _ c1))
              refine hK.out _ _ hS1 (fun _ => ?_)
              clear hK K
              try simp only [Act.put, List.setIfInBounds_toArray, List.set_cons_zero, List.set_cons_succ]
              refine wpAnyH_take (i := 11) (v := ?_) rfl (by kernel_rfl) (by kernel_rfl) (by kernel_rfl) (fun _ _ _ h => h) (Or.inl ⟨by kernel_rfl, ?_⟩) hS1 ?_
              rotate_left
              · intro w hSw
                (try dsimp only at hSw)
                go_simp
                try with_reducible rfl
              dsimp only [Act.put, List.getElem?_toArray, List.getElem?_cons_succ, List.getElem?_cons_zero, List.getElem_toArray, List.getElem_cons_succ, List.getElem_cons_zero]
              try simp only [List.setIfInBounds_toArray, List.set_cons_zero, List.set_cons_succ]
              refine wpAnyH_take (i := 12) (v := ?_) rfl (by kernel_rfl) (by kernel_rfl) (by kernel_rfl) (fun _ _ _ h => h) (Or.inl ⟨by kernel_rfl, ?_⟩) hS1 ?_
              rotate_left
              · intro w hSw
                (try dsimp only at hSw)
                go_simp
                try with_reducible rfl
              dsimp only [Act.put, List.getElem?_toArray, List.getElem?_cons_succ, List.getElem?_cons_zero, List.getElem_toArray, List.getElem_cons_succ, List.getElem_cons_zero]
              try simp only [List.setIfInBounds_toArray, List.set_cons_zero, List.set_cons_succ]
              refine wpAnyH_done (by kernel_rfl) ?_ _
              have hv2 := Boxed.below hvb.out c1
              have z0 := hv2.cell
              have f0 := hv2.frozen
              have hv3 : Hid (Boxed (wk1.setCell ⟨w.heap.size, 0, none⟩ (.bool false)) w.heap.size 4 (.bool false)) := Lib.hid (hv2.set _)
              gi_wp2
              exact ⟨((KeepsOthers.of_grownBy (row := none) ⟨c1.os, c1.tape, c1.output, c1.size, fun k hk _ => c1.block k hk⟩ (fun j o e => by cases e)).trans (KeepsOthers.setCell _ _ _)).from _, rfl, ⟨_, List.mem_append_right _ List.mem_cons_self, by unfold fitX; simp [hq]⟩, hv3.out, (hB.trans (c1.mono hB.size)).setCell (p := ⟨w.heap.size, 0, none⟩) (Nat.le_refl _) _⟩
      case done =>
        rintro D ys W hD rfl ⟨hI1, hv, hB, _⟩ hK
        have hc := hv.cell
        have hf := hv.frozen
        have hvb : Hid (Boxed W w.heap.size 4 (.bool false)) := Lib.hid hv
        go_wp2
        have hb2 : Boxed W w.heap.size 4 (.bool false) := hvb.out
        have hv2 := hb2.set (.bool true)
        have hK2 := (KeepsOthers.setCell W ⟨w.heap.size, 0, none⟩ (.bool true)).same D _ hK rfl
        refine ⟨by simp, .inl ⟨_, _, rfl, run_takeDeferred hK2, ?_⟩⟩
        have z1 : ((W.setCell ⟨w.heap.size, 0, none⟩ (.bool true)).putObj D (.deferred none)).cell? ⟨w.heap.size, 0, none⟩ = some (.bool true) := cell_kept hv2.cell (grownBy_putObj' _ D (.deferred none)) (fun r e => by cases e; exact ⟨_, hK2, rfl⟩)
        exact ⟨.bool true, by simp [results, Try.results22, go_sem, z1], by rw [hI1]; rfl, (hB.setCell (p := ⟨w.heap.size, 0, none⟩) (Nat.le_refl _) _).trans (belowK_b (w := w) (Nat.le_refl _) _ D _ _ (by have := B3.size; omega) hK2 rfl rfl)⟩
      case stop =>
        rintro D c pre W hD hpre ⟨rfl, hx, hv, hB⟩ hK
        have hfa : (meetsPT a b).all fitX = false := by
          obtain ⟨x, h1, h2⟩ := hx
          rw [List.all_eq_false]
          exact ⟨x, hpre.subset h1, by simp [h2]⟩
        gi_wp2
        have hv2 : Boxed W w.heap.size 4 (.bool false) := hv
        refine ⟨by simp, .inl ⟨_, _, rfl, run_takeDeferred hK, ?_⟩⟩
        have z1 : (W.putObj D (.deferred none)).cell? ⟨w.heap.size, 0, none⟩ = some (.bool false) := cell_kept hv2.cell (grownBy_putObj' _ D (.deferred none)) (fun r e => by cases e; exact ⟨_, hK, rfl⟩)
        exact ⟨.bool false, by simp [results, Try.results22, go_sem, z1], by rw [hfa], hB.trans (belowK_b (w := w) (Nat.le_refl _) W D _ _ (by have := B3.size; omega) hK rfl rfl)⟩
end Go.Proofs.Ytmifjippdlmpiaa
