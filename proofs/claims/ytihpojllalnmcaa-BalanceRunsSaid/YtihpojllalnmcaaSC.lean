/-
  Law3A, Law3B: one text.
-/
import Derived.Test.YtihpojllalnmcaaSA3
import Derived.Deep.SlicePairs
import Derived.Tactics2
/-
  A slice of spans that came in; what lies ready between a law's calls; THE WALK of SpanCounts.
-/
namespace Go.Proofs.Ytihpojllalnmcaa
open Go.RowKit Go.ChangeShapes Go.WideShapes Go.Deep Go.Shelf

theorem spansArg_of {H : Type} {enc : TypeId × Value → H} {w : World} {base : Nat} {spare : Nat → Bool} {held : Bool} {a : Option Addr} {len cap : Nat} {d : DataW H} {p : List MemPlace}
    (h : DataW.Trod enc Try.prog w base spare held 99 (.slice a len cap) d p) : ∃ ps, Arg w a len cap ps := by
  obtain ⟨fuel, hf⟩ := h
  rcases open_slice_pairs Try.underlying99 Try.underlying59 (by kernel_rfl) rfl rfl (by kernel_rfl) (by kernel_rfl) hf with ⟨hcs, _⟩ | ⟨x, l, c, m, n, V0, V1, D0, D1, P0, P1, hcs, _, hl, hm, hmm, _, hx⟩
  · simp [Value.cells] at hcs
    obtain ⟨rfl, rfl, rfl⟩ := hcs
    exact ⟨[], rfl, by simp, Nat.le_refl _, Nat.zero_le _, PIn.nil _ _ _⟩
  · simp [Value.cells] at hcs
    obtain ⟨rfl, rfl, rfl⟩ := hcs
    have hlm : len ≤ m := by rw [hmm]; split <;> omega
    have each : ∀ i, i < len → ∃ q : Int × Int, w.cell? (x.add (i * 2)) = some (.int .i64 q.1) ∧ w.cell? (x.add (i * 2 + 1)) = some (.int .i64 q.2) := by
      intro i hi'
      obtain ⟨c1, c2, r1, r2⟩ := hx i (by omega)
      obtain ⟨y0, e0, _, w0⟩ := DataW.trod_int Try.underlying3 r1
      obtain ⟨y1, e1, _, w1⟩ := DataW.trod_int Try.underlying3 r2
      simp at e0 e1
      rw [e0] at c1
      rw [e1] at c2
      exact ⟨(y0, y1), c1, c2⟩
    let q : Nat → Int × Int := fun i => if h : i < len then Classical.choose (each i h) else (0, 0)
    have hq : ∀ i (h : i < len), w.cell? (x.add (i * 2)) = some (.int .i64 (q i).1) ∧ w.cell? (x.add (i * 2 + 1)) = some (.int .i64 (q i).2) := by
      intro i h
      have := Classical.choose_spec (each i h)
      simp only [q, dif_pos h]
      exact this
    have hlen : ((List.range len).map q).length = len := by simp
    refine ⟨(List.range len).map q, hlen.symm, by rw [hlen]; unfold maxLen at hm; omega, by rw [hlen]; exact hl, hm, fun k hk => ?_⟩
    rw [hlen] at hk
    obtain ⟨b, off, spot⟩ := x
    obtain ⟨c1, c2⟩ := hq k hk
    have hspot : spot = none := by simpa [Addr.add] using World.cell?_spot (hq 0 (by omega)).1
    subst hspot
    have h2 : ((List.range len).map q).getD k (0, 0) = q k := by simp [List.getD, hk]
    rw [h2]
    rw [addr_add] at c1 c2
    exact ⟨b, off, rfl, World.block_lt_of_cell? w _ c1, c1, c2⟩

/-- What lies ready in the world W of a call that began in w0. -/
structure Env (w0 W : World) (L : List (Option Addr × Nat × Nat × List Sp)) : Prop where
  low : Below w0.heap.size w0 W
  args : ∀ x ∈ L, Arg W x.1 x.2.1 x.2.2.1 x.2.2.2
theorem Env.step {w0 W W' : World} {L : List (Option Addr × Nat × Nat × List Sp)} (h : Env w0 W L) (hb : Below W.heap.size W W') : Env w0 W' L := ⟨below_next h.low hb, fun x hx => (h.args x hx).below hb⟩
theorem Env.add {w0 W : World} {L : List (Option Addr × Nat × Nat × List Sp)} (h : Env w0 W L) {a : Option Addr} {n c : Nat} {l : List Sp} (ha : Arg W a n c l) : Env w0 W ((a, n, c, l) :: L) := ⟨h.low, fun x hx => by
  rcases List.mem_cons.1 hx with rfl | hx
  · exact ha
  · exact h.args x hx⟩
theorem Env.get {w0 W : World} {L : List (Option Addr × Nat × Nat × List Sp)} (h : Env w0 W L) {a : Option Addr} {n c : Nat} {l : List Sp} (hm : (a, n, c, l) ∈ L) : Arg W a n c l := h.args (a, n, c, l) hm

/-! What an answer without error says. -/
theorem mixP_ok {f : Bool → Bool → Bool} {A B : List Sp} (h : (mixP f A B).2 = 0) : chkB A = true ∧ chkB B = true ∧ (mixP f A B).1 = setOf (fun j => f (hasB A j) (hasB B j)) ∧ chkB (mixP f A B).1 = true := by
  unfold mixP at h ⊢
  by_cases hc : chkB A = true ∧ chkB B = true
  · rw [if_pos hc] at h ⊢
    unfold limP at h ⊢
    by_cases hl : (setOf fun j => f (hasB A j) (hasB B j)).length ≤ 64
    · rw [if_pos hl] at h ⊢
      exact ⟨hc.1, hc.2, rfl, by dsimp only; exact chkB_of (setOf_can _) hl⟩
    · rw [if_neg hl] at h
      cases h
  · rw [if_neg hc] at h
    cases h
theorem mixP_len (f : Bool → Bool → Bool) (A B : List Sp) : (mixP f A B).1.length ≤ 64 := by
  unfold mixP
  split
  · unfold limP
    split
    · assumption
    · simp
  · simp
theorem cntB_set {l : List Sp} {p : Int → Bool} (h : chkB l = true) (he : l = setOf p) : cntB l = cardOf p := by
  unfold cntB
  rw [if_pos h, he, setOf_sum]
theorem cntB_chk {l : List Sp} (h : chkB l = true) : cntB l = cardOf (hasB l) := by
  unfold cntB
  rw [if_pos h, sum_of_can (chkB_can h).1]
theorem cntB_bd (l : List Sp) : 0 ≤ cntB l ∧ cntB l ≤ 4096 := by
  unfold cntB
  split
  · rename_i h; exact sum_bd (chkB_can h).1
  · omega
theorem counts_math {A B : List Sp} (hj : (joinP A B).2 = 0) (hm : (meetP A B).2 = 0) : cntB A + cntB B = cntB (joinP A B).1 + cntB (meetP A B).1 ∧ touchB A B = decide (0 < cntB (meetP A B).1) := by
  obtain ⟨h1, h2, h3, h4⟩ := mixP_ok hj
  obtain ⟨_, _, h5, h6⟩ := mixP_ok hm
  rw [show joinP A B = mixP (fun x y => x || y) A B from rfl, show meetP A B = mixP (fun x y => x && y) A B from rfl, cntB_chk h1, cntB_chk h2, cntB_set h4 h3, cntB_set h6 h5]
  refine ⟨cntN_add 4096 fun k _ => ?_, ?_⟩
  · cases hasB A k <;> cases hasB B k <;> rfl
  · unfold touchB
    rw [h1, h2, Bool.true_and, Bool.true_and]
    unfold meets
    exact decide_eq_decide.2 (cntN_pos (fun j => hasB A j && hasB B j) 4096).symm

end Go.Proofs.Ytihpojllalnmcaa


/-
  THE WALKS of SpanOrder, SpanSpreads, SpanParts, SpanKeys.
-/
namespace Go.Proofs.Ytihpojllalnmcaa
open Go.RowKit Go.Shelf

theorem mixP_comm {f : Bool → Bool → Bool} (hf : ∀ x y, f x y = f y x) (A B : List Sp) : mixP f A B = mixP f B A := by
  unfold mixP
  rw [setOf_congr fun k _ _ => hf (hasB A k) (hasB B k)]
  by_cases hc : chkB A = true ∧ chkB B = true
  · rw [if_pos hc, if_pos ⟨hc.2, hc.1⟩]
  · rw [if_neg hc, if_neg fun h => hc ⟨h.2, h.1⟩]
theorem joinP_comm (A B : List Sp) : joinP A B = joinP B A := mixP_comm (fun x y => by cases x <;> cases y <;> rfl) A B
theorem meetP_comm (A B : List Sp) : meetP A B = meetP B A := mixP_comm (fun x y => by cases x <;> cases y <;> rfl) A B
theorem has_out {l : List Sp} {k : Int} (h : ¬ (0 ≤ k ∧ k < 4096)) : hasB l k = false := by
  cases hb : hasB l k
  · rfl
  · exact absurd (hasB_range hb) h
theorem mixP_has {f : Bool → Bool → Bool} (hf : f false false = false) {A B l : List Sp} (h : mixP f A B = (l, 0)) (k : Int) : hasB l k = f (hasB A k) (hasB B k) := by
  have h' := mixP_ok (f := f) (A := A) (B := B) (by rw [h])
  rw [h] at h'
  rw [show l = _ from h'.2.2.1, setOf_has]
  by_cases hk : 0 ≤ k ∧ k < 4096
  · rw [decide_eq_true hk, Bool.true_and]
  · rw [decide_eq_false hk, Bool.false_and, has_out hk, has_out hk, hf]
theorem mixP_chk {f : Bool → Bool → Bool} {A B l : List Sp} (h : mixP f A B = (l, 0)) : chkB A = true ∧ chkB B = true ∧ chkB l = true := by
  have h' := mixP_ok (f := f) (A := A) (B := B) (by rw [h])
  rw [h] at h'
  exact ⟨h'.1, h'.2.1, h'.2.2.2⟩
theorem chk_ext {l m : List Sp} (hl : chkB l = true) (hm : chkB m = true) (h : ∀ k, hasB l k = hasB m k) : l = m := can_ext l m _ _ (chkB_can hl).1 (chkB_can hm).1 h
theorem mixP_of {f : Bool → Bool → Bool} {A B l : List Sp} (hA : chkB A = true) (hB : chkB B = true) (hl : chkB l = true) (h : ∀ k, hasB l k = f (hasB A k) (hasB B k)) : mixP f A B = (l, 0) := by
  rw [mixP_yes f hA hB, ← setOf_eq (chkB_can hl).1 fun k _ _ => h k]
  exact limP_yes (chkB_can hl).2
theorem joinP_has {A B l : List Sp} (h : joinP A B = (l, 0)) (k : Int) : hasB l k = (hasB A k || hasB B k) := mixP_has (f := fun x y => x || y) rfl h k
theorem meetP_has {A B l : List Sp} (h : meetP A B = (l, 0)) (k : Int) : hasB l k = (hasB A k && hasB B k) := mixP_has (f := fun x y => x && y) rfl h k
theorem lessP_has {A B l : List Sp} (h : lessP A B = (l, 0)) (k : Int) : hasB l k = (hasB A k && !hasB B k) := mixP_has (f := fun x y => x && !y) rfl h k
theorem joinP_chk {A B l : List Sp} (h : joinP A B = (l, 0)) : chkB A = true ∧ chkB B = true ∧ chkB l = true := mixP_chk h
theorem meetP_chk {A B l : List Sp} (h : meetP A B = (l, 0)) : chkB A = true ∧ chkB B = true ∧ chkB l = true := mixP_chk h
theorem lessP_chk {A B l : List Sp} (h : lessP A B = (l, 0)) : chkB A = true ∧ chkB B = true ∧ chkB l = true := mixP_chk h
theorem joinP_len {A B l : List Sp} {e : Int} (h : joinP A B = (l, e)) : l.length ≤ 100000 := by have := mixP_len (fun x y => x || y) A B; rw [show mixP (fun x y => x || y) A B = (l, e) from h] at this; dsimp only at this; omega
theorem meetP_len {A B l : List Sp} {e : Int} (h : meetP A B = (l, e)) : l.length ≤ 100000 := by have := mixP_len (fun x y => x && y) A B; rw [show mixP (fun x y => x && y) A B = (l, e) from h] at this; dsimp only at this; omega
theorem few_len {w : World} {a : Option Addr} {n c : Nat} {l : List Sp} (h : Arg w a n c l) (hn : n ≤ 200) : l.length ≤ 100000 := by have := h.1; omega

theorem order_math {A B C AB ABC BC X : List Sp} (h1 : joinP A B = (AB, 0)) (h2 : joinP AB C = (ABC, 0)) (h3 : joinP B C = (BC, 0)) (h4 : joinP A BC = (X, 0)) : ABC = X :=
  (chk_ext (joinP_chk h2).2.2 (joinP_chk h4).2.2 fun k => by rw [joinP_has h2, joinP_has h1, joinP_has h4, joinP_has h3, Bool.or_assoc])
theorem spreads_math {A B C BC X AB AC Y : List Sp} (h1 : joinP B C = (BC, 0)) (h2 : meetP A BC = (X, 0)) (h3 : meetP A B = (AB, 0)) (h4 : meetP A C = (AC, 0)) (h5 : joinP AB AC = (Y, 0)) : X = Y :=
  (chk_ext (meetP_chk h2).2.2 (joinP_chk h5).2.2 fun k => by rw [meetP_has h2, joinP_has h1, joinP_has h5, meetP_has h3, meetP_has h4, Bool.and_or_distrib_left])
theorem within_of {A B : List Sp} (h : meetP A B = (A, 0)) : withinB A B = true := by
  unfold withinB; rw [h, decide_eq_true rfl, decide_eq_true rfl]; rfl
theorem parts_math {A B M L : List Sp} (h1 : meetP A B = (M, 0)) (h2 : lessP A B = (L, 0)) :
    joinP M L = (A, 0) ∧ touchB M L = false ∧ cntB M + cntB L = cntB A ∧ withinB M B = true ∧ withinB M A = true := by
  obtain ⟨cA, cB, cM⟩ := meetP_chk h1
  obtain ⟨_, _, cL⟩ := lessP_chk h2
  have kM := meetP_has h1
  have kL := lessP_has h2
  refine ⟨mixP_of cM cL cA fun k => ?_, ?_, ?_, within_of (mixP_of cM cB cM fun k => ?_), within_of (mixP_of cM cA cM fun k => ?_)⟩
  · rw [kM, kL]; cases hasB A k <;> cases hasB B k <;> rfl
  · unfold touchB
    rw [meets_no fun k => ?_, Bool.and_false]
    rw [kM, kL]; cases hasB A k <;> cases hasB B k <;> rfl
  · rw [cntB_chk cM, cntB_chk cL, cntB_chk cA]
    have h0 : cntN (fun _ => false) 4096 = 0 := by
      have : ∀ n, cntN (fun _ => false) n = 0 := fun n => by
        induction n with
        | zero => rfl
        | succ n ih => show cntN _ n + _ = 0; rw [ih]; rfl
      exact this 4096
    have := cntN_add (p := hasB M) (q := hasB L) (r := hasB A) (s := fun _ => false) 4096 fun k _ => by
      rw [kM, kL]; cases hasB A k <;> cases hasB B k <;> rfl
    rw [h0, Int.add_zero] at this
    exact this
  · rw [kM]; cases hasB A k <;> cases hasB B k <;> rfl
  · rw [kM]; cases hasB A k <;> cases hasB B k <;> rfl
theorem self_meet {A : List Sp} (h : chkB A = true) : meetP A A = (A, 0) := mixP_of h h h fun k => by cases hasB A k <;> rfl
theorem keys_math {A B : List Sp} (hA : chkB A = true) (hB : chkB B = true) : makeP A = (A, 0) ∧ decide (A = B) = (withinB A B && withinB B A) := by
  refine ⟨?_, ?_⟩
  · rw [makeP_yes (by rw [List.all_eq_true]; exact canB_all (chkB_can hA).1), setOf_of_can (chkB_can hA).1]
    exact limP_yes (chkB_can hA).2
  · by_cases h : A = B
    · subst h
      rw [within_of (self_meet hA), decide_eq_true rfl]; rfl
    · rw [decide_eq_false h]
      cases h1 : withinB A B
      · rfl
      · cases h2 : withinB B A
        · rfl
        · exfalso
          unfold withinB at h1 h2
          rw [Bool.and_eq_true, decide_eq_true_eq, decide_eq_true_eq] at h1 h2
          exact h (by rw [← h1.2, meetP_comm, h2.2])

end Go.Proofs.Ytihpojllalnmcaa
