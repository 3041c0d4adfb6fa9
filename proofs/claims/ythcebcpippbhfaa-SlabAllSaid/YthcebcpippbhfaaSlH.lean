/-
  SLABS: a loss as an argument; SlabNil.
-/
import Derived.Test.YthcebcpippbhfaaSlG
import Derived.OpenShut
import Derived.Lib.SmallJoins
namespace Go.Proofs.Ythcebcpippbhfaa
open Go.RowKit Go.Maps Go.ChangeMaps Go.ChangeShapes Go.WideShapes

theorem isB_i64 {n : Int} (h : (Lit.int .i64 n).wf = true) : -9223372036854775808 ≤ n ∧ n ≤ 9223372036854775807 := by
  have e1 : IntKind.i64.min = -9223372036854775808 := by decide
  have e2 : IntKind.i64.max = 9223372036854775807 := by decide
  simp [Lit.wf, e1, e2] at h
  exact h
/-- A row of whole numbers that came in. -/
structure KArg (w : World) (a : Option Addr) (n c : Nat) (zs : List Int) : Prop where
  len : n = zs.length
  cap : n ≤ c ∧ (c : Int) ≤ 9223372036854775807
  val : ∀ z ∈ zs, (Lit.int .i64 z).wf = true
  row : ∀ j, j < zs.length → ∃ b off, a = some ⟨b, off, none⟩ ∧ b < w.heap.size ∧ w.cell? ⟨b, off + j, none⟩ = some (.int .i64 (zs.getD j 0))
theorem KArg.nil (w : World) : KArg w none 0 0 [] := ⟨rfl, ⟨Nat.le_refl _, by decide⟩, by simp, fun j h => absurd h (Nat.not_lt_zero _)⟩
theorem KArg.below {w w' : World} {a : Option Addr} {n c : Nat} {zs : List Int} (h : KArg w a n c zs) (hb : Below w.heap.size w w') : KArg w' a n c zs :=
  ⟨h.len, h.cap, h.val, fun j hj => by
    obtain ⟨b, off, e, hlt, hc⟩ := h.row j hj
    exact ⟨b, off, e, Nat.lt_of_lt_of_le hlt hb.size, (World.cell?_of_block (w := w) (hb.block b hlt)).trans hc⟩⟩
theorem KArg.krow {w w' : World} {a : Option Addr} {n c : Nat} {zs : List Int} (h : KArg w a n c zs) (hb : Below w.heap.size w w') {p db mb : Nat} (h1 : w.heap.size ≤ p) (h2 : w.heap.size ≤ db) (h3 : w.heap.size ≤ mb) : KRow w' p db mb a n c zs :=
  ⟨h.len, h.cap, h.val, fun j hj => by
    obtain ⟨b, off, e, hlt, hc⟩ := h.row j hj
    exact ⟨b, off, e, Nat.lt_of_lt_of_le hlt hb.size, by omega, by omega, by omega, (World.cell?_of_block (w := w) (hb.block b hlt)).trans hc⟩⟩
theorem kArg_of {H : Type} {enc : TypeId × Value → H} {w : World} {base fuel : Nat} {spare : Nat → Bool} {held : Bool} {v : Value} {y : DataW H × List MemPlace}
    (h : DataW.trod enc Try.prog w base spare held fuel 26 [v] = some y) : ∃ a n c zs, KArg w a n c zs ∧ v = .slice a n c := by
  rcases open_ints Try.underlying26 Try.underlying3 (by kernel_rfl) h with ⟨hcs, _⟩ | ⟨x, l, c, zs, hcs, _, hl, hm, hz, _, hcell, hwz⟩
  · simp at hcs
    exact ⟨none, 0, 0, [], KArg.nil w, hcs⟩
  · simp at hcs
    have hlz : l ≤ zs.length := by rw [hz]; split <;> omega
    refine ⟨some x, l, c, zs.take l, ⟨by rw [List.length_take]; omega, ⟨hl, by unfold maxLen at hm; omega⟩, fun z h => hwz z (List.mem_of_mem_take h), fun j hj => ?_⟩, hcs⟩
    rw [List.length_take] at hj
    have hc := hcell j (by omega)
    obtain ⟨b, off, spot⟩ := x
    have hspot : spot = none := by simpa [Addr.add] using World.cell?_spot (hcell 0 (by omega))
    subst hspot
    have e2 : (zs.take l).getD j 0 = zs.getD j 0 := by
      simp only [List.getD, List.getElem?_take]
      rw [if_pos (by omega)]
    have hc' : w.cell? ⟨b, off + j, none⟩ = some (.int .i64 (zs.getD j 0)) := by
      rw [← hc]
      by_cases h0 : j = 0
      · subst h0; simp [Addr.add]
      · simp [Addr.add, h0]
    exact ⟨b, off, rfl, World.block_lt_of_cell? w _ hc', by rw [e2]; exact hc'⟩
set_option maxRecDepth 100000 in
theorem lossVal_of {H : Type} {enc : TypeId × Value → H} {w : World} {r : Reach} {b0 base : Nat} {spare : Nat → Bool} {held : Bool} {v : Value} {d : DataW H} {p : List MemPlace}
    (hv : Value.okWide Try.prog w r b0 35 v) (h : DataW.Trod enc Try.prog w base spare held 35 v d p) :
    ∃ (a : Option Addr) (n c : Nat) (zs : List Int) (torn at_ : Int), (KArg w a n c zs ∧ (Lit.int .i64 torn).wf = true ∧ (Lit.int .i64 at_).wf = true) ∧ v = .agg #[.slice a n c, .int .i64 torn, .int .i64 at_] := by
  obtain ⟨v0, v1, v2, y0, y1, y2, n, rfl, _, _, r0, r1, r2⟩ := Go.Joins.open_agg3 Try.underlying35 (by kernel_rfl) (by kernel_rfl) hv h
  obtain ⟨torn, e1, _, w1⟩ := DataW.trod_int Try.underlying3 r1
  obtain ⟨at_, e2, _, w2⟩ := DataW.trod_int Try.underlying3 r2
  obtain ⟨a, nn, c, zs, hA, e0⟩ := kArg_of r0
  simp at e1 e2
  rw [e0, e1, e2]
  exact ⟨a, nn, c, zs, torn, at_, ⟨hA, w1, w2⟩, rfl⟩
theorem RPost.toNext {v : Value} {w0 w : World} {e : Ending} {w' : World} (h : RPost v w e w') (b : Below w0.heap.size w0 w) : Below w0.heap.size w0 w' := b.trans (h.2.mono b.size)
set_option maxRecDepth 100000 in
set_option maxHeartbeats 2000000 in
theorem slabNil_walk (n : Int) (t : ByteArray) (a : Option Addr) (m c : Nat) (zs : List Int) (torn at_ : Int) (w : World) (_hn : (Lit.int .i64 n).wf = true) (_ht : t.size ≤ maxLen)
    (_hl : KArg w a m c zs ∧ (Lit.int .i64 torn).wf = true ∧ (Lit.int .i64 at_).wf = true) :
    Calls Try.prog 8 #[.int .i64 n, .string t, .agg #[.slice a m c, .int .i64 torn, .int .i64 at_]] w (TruePost w) := by
  obtain ⟨W1, hW1⟩ : ∃ W1, w.alloc (.cells #[.slice a m c, .int .i64 torn, .int .i64 at_] 35) = W1 := ⟨_, rfl⟩
  have B : Below w.heap.size w W1 := by rw [← hW1]; exact (Below.refl _ _).alloc (Nat.le_refl _) _
  have hbx : W1.heap[w.heap.size]? = some (.cells #[.slice a m c, .int .i64 torn, .int .i64 at_] 35) := by rw [← hW1]; exact heap_alloc_new _ _
  have z1 : w.heap.size < W1.heap.size := by rw [← hW1]; simp
  obtain ⟨y0, y1, y2⟩ := three_of hbx
  go_enter Try.func8, Try.ntmps8
  go_wp2_with (first
    | (go_at_call 22; refine (trip_nil W1 _ _ _ _ _ _).mono ?_; rintro e w2 ⟨rfl, b2⟩; have hb2 := (b2.block _ z1).trans hbx; obtain ⟨x0, x1, x2⟩ := three_of hb2)
    | (go_at_call 20; refine (fail_nil w2 _ _ _ _ _).mono ?_; rintro e w3 ⟨rfl, b3⟩)
    | (go_at_call 21; refine (wake_nil w3).mono ?_; rintro e w4 ⟨rfl, b4⟩)
    | (go_at_call 24; refine (read_nil _ w4).mono ?_; rintro e w5 ⟨rfl, hw5⟩; subst w5)
    | (go_at_call 12; refine (awake7_any w4).mono ?_; rintro e w6 ⟨rfl, b6⟩)
    | (go_at_call 25; refine (blocks_nil w6).mono ?_; rintro e w7 ⟨rfl, hw7⟩; subst w7)
    | (go_at_call 16; refine (write_nil _ _ w6).mono ?_; rintro e w8 ⟨rfl, hw8⟩; subst w8)
    | (go_at_call 17; refine (flush_nil w6).mono ?_; rintro e w9 ⟨rfl, hw9⟩; subst w9)
    | (go_at_call 23; refine (down_nil w6).mono ?_; rintro e w10 ⟨rfl, hw10⟩; subst w10)
    | (go_at_call 18; refine (loose_nil w6).mono ?_; rintro e w11 ⟨rfl, hw11⟩; subst w11))
  go_ret
  exact ⟨rfl, (((B.trans (b2.mono (by omega))).trans (b3.mono (by have := b2.size; omega))).trans (b4.mono (by have := b2.size; have := b3.size; omega))).trans (b6.mono (by have := b2.size; have := b3.size; have := b4.size; omega))⟩
end Go.Proofs.Ythcebcpippbhfaa
