/-
  A slice of spans that came in; what lies ready between a law's calls; THE WALK of SpanCounts.
-/
import Derived.Test.YtfnjadiibiedgaaAwake3
import Derived.Deep.SlicePairs
import Derived.Tactics2
namespace Go.Proofs.Ytfnjadiibiedgaa
open Go.RowKit Go.ChangeShapes Go.WideShapes Go.Deep Go.Shelf

theorem spansArg_of {H : Type} {enc : TypeId × Value → H} {w : World} {base : Nat} {spare : Nat → Bool} {held : Bool} {a : Option Addr} {len cap : Nat} {d : DataW H} {p : List MemPlace}
    (h : DataW.Trod enc Try.prog w base spare held 29 (.slice a len cap) d p) : ∃ ps, Arg w a len cap ps := by
  obtain ⟨fuel, hf⟩ := h
  rcases open_slice_pairs Try.underlying29 Try.underlying24 (by kernel_rfl) rfl rfl (by kernel_rfl) (by kernel_rfl) hf with ⟨hcs, _⟩ | ⟨x, l, c, m, n, V0, V1, D0, D1, P0, P1, hcs, _, hl, hm, hmm, _, hx⟩
  · simp [Value.cells] at hcs
    obtain ⟨rfl, rfl, rfl⟩ := hcs
    exact ⟨[], rfl, by simp, Nat.le_refl _, Nat.zero_le _, PIn.nil _ _ _⟩
  · simp [Value.cells] at hcs
    obtain ⟨rfl, rfl, rfl⟩ := hcs
    have hlm : len ≤ m := by rw [hmm]; split <;> omega
    have each : ∀ i, i < len → ∃ q : Int × Int, w.cell? (x.add (i * 2)) = some (.int .i64 q.1) ∧ w.cell? (x.add (i * 2 + 1)) = some (.int .i64 q.2) := by
      intro i hi'
      obtain ⟨c1, c2, r1, r2⟩ := hx i (by omega)
      obtain ⟨y0, e0, _, w0⟩ := DataW.trod_int Try.underlying3 r1
      obtain ⟨y1, e1, _, w1⟩ := DataW.trod_int Try.underlying3 r2
      simp at e0 e1
      rw [e0] at c1
      rw [e1] at c2
      exact ⟨(y0, y1), c1, c2⟩
    let q : Nat → Int × Int := fun i => if h : i < len then Classical.choose (each i h) else (0, 0)
    have hq : ∀ i (h : i < len), w.cell? (x.add (i * 2)) = some (.int .i64 (q i).1) ∧ w.cell? (x.add (i * 2 + 1)) = some (.int .i64 (q i).2) := by
      intro i h
      have := Classical.choose_spec (each i h)
      simp only [q, dif_pos h]
      exact this
    have hlen : ((List.range len).map q).length = len := by simp
    refine ⟨(List.range len).map q, hlen.symm, by rw [hlen]; unfold maxLen at hm; omega, by rw [hlen]; exact hl, hm, fun k hk => ?_⟩
    rw [hlen] at hk
    obtain ⟨b, off, spot⟩ := x
    obtain ⟨c1, c2⟩ := hq k hk
    have hspot : spot = none := by simpa [Addr.add] using World.cell?_spot (hq 0 (by omega)).1
    subst hspot
    have h2 : ((List.range len).map q).getD k (0, 0) = q k := by simp [List.getD, hk]
    rw [h2]
    rw [addr_add] at c1 c2
    exact ⟨b, off, rfl, World.block_lt_of_cell? w _ c1, c1, c2⟩

/-- What lies ready in the world W of a call that began in w0. -/
structure Env (w0 W : World) (L : List (Option Addr × Nat × Nat × List Sp)) : Prop where
  low : Below w0.heap.size w0 W
  args : ∀ x ∈ L, Arg W x.1 x.2.1 x.2.2.1 x.2.2.2
theorem Env.step {w0 W W' : World} {L : List (Option Addr × Nat × Nat × List Sp)} (h : Env w0 W L) (hb : Below W.heap.size W W') : Env w0 W' L := ⟨below_next h.low hb, fun x hx => (h.args x hx).below hb⟩
theorem Env.add {w0 W : World} {L : List (Option Addr × Nat × Nat × List Sp)} (h : Env w0 W L) {a : Option Addr} {n c : Nat} {l : List Sp} (ha : Arg W a n c l) : Env w0 W ((a, n, c, l) :: L) := ⟨h.low, fun x hx => by
  rcases List.mem_cons.1 hx with rfl | hx
  · exact ha
  · exact h.args x hx⟩
theorem Env.get {w0 W : World} {L : List (Option Addr × Nat × Nat × List Sp)} (h : Env w0 W L) {a : Option Addr} {n c : Nat} {l : List Sp} (hm : (a, n, c, l) ∈ L) : Arg W a n c l := h.args (a, n, c, l) hm

/-! What an answer without error says. -/
theorem mixP_ok {f : Bool → Bool → Bool} {A B : List Sp} (h : (mixP f A B).2 = 0) : chkB A = true ∧ chkB B = true ∧ (mixP f A B).1 = setOf (fun j => f (hasB A j) (hasB B j)) ∧ chkB (mixP f A B).1 = true := by
  unfold mixP at h ⊢
  by_cases hc : chkB A = true ∧ chkB B = true
  · rw [if_pos hc] at h ⊢
    unfold limP at h ⊢
    by_cases hl : (setOf fun j => f (hasB A j) (hasB B j)).length ≤ 64
    · rw [if_pos hl] at h ⊢
      exact ⟨hc.1, hc.2, rfl, by dsimp only; exact chkB_of (setOf_can _) hl⟩
    · rw [if_neg hl] at h
      cases h
  · rw [if_neg hc] at h
    cases h
theorem mixP_len (f : Bool → Bool → Bool) (A B : List Sp) : (mixP f A B).1.length ≤ 64 := by
  unfold mixP
  split
  · unfold limP
    split
    · assumption
    · simp
  · simp
theorem cntB_set {l : List Sp} {p : Int → Bool} (h : chkB l = true) (he : l = setOf p) : cntB l = cardOf p := by
  unfold cntB
  rw [if_pos h, he, setOf_sum]
theorem cntB_chk {l : List Sp} (h : chkB l = true) : cntB l = cardOf (hasB l) := by
  unfold cntB
  rw [if_pos h, sum_of_can (chkB_can h).1]
theorem cntB_bd (l : List Sp) : 0 ≤ cntB l ∧ cntB l ≤ 4096 := by
  unfold cntB
  split
  · rename_i h; exact sum_bd (chkB_can h).1
  · omega
theorem counts_math {A B : List Sp} (hj : (joinP A B).2 = 0) (hm : (meetP A B).2 = 0) : cntB A + cntB B = cntB (joinP A B).1 + cntB (meetP A B).1 ∧ touchB A B = decide (0 < cntB (meetP A B).1) := by
  obtain ⟨h1, h2, h3, h4⟩ := mixP_ok hj
  obtain ⟨_, _, h5, h6⟩ := mixP_ok hm
  rw [show joinP A B = mixP (fun x y => x || y) A B from rfl, show meetP A B = mixP (fun x y => x && y) A B from rfl, cntB_chk h1, cntB_chk h2, cntB_set h4 h3, cntB_set h6 h5]
  refine ⟨cntN_add 4096 fun k _ => ?_, ?_⟩
  · cases hasB A k <;> cases hasB B k <;> rfl
  · unfold touchB
    rw [h1, h2, Bool.true_and, Bool.true_and]
    unfold meets
    exact decide_eq_decide.2 (cntN_pos (fun j => hasB A j && hasB B j) 4096).symm

end Go.Proofs.Ytfnjadiibiedgaa
