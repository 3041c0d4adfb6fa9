/-
  SLABS: the trip, waking, flushing; a new slab.
-/
import Derived.Test.YthcebcpippbhfaaSlD
import Derived.Deep.OwnRows
namespace Go.Proofs.Ythcebcpippbhfaa
open Go.RowKit Go.Maps Go.ChangeMaps

def restS (s : St) : St := { s with left := 0, zs := [], torn := 0, at_ := 0 }
theorem SlK.loss {w : World} {p db mb : Nat} {ka : Option Addr} {kn kc : Nat} {s : St} (h : SlK w p db mb ka kn kc s) {a : Option Addr} {n c : Nat} {zs : List Int} (hk : KRow w p db mb a n c zs) {left torn at_ : Int}
    (hl : 0 ≤ left ∧ left ≤ 9223372036854775807) (ht : (Lit.int .i64 torn).wf = true) (ha : (Lit.int .i64 at_).wf = true) :
    SlK ((((w.setCell ⟨p, 3, none⟩ (.int .i64 left)).setCell ⟨p, 4, none⟩ (.slice a n c)).setCell ⟨p, 5, none⟩ (.int .i64 torn)).setCell ⟨p, 6, none⟩ (.int .i64 at_)) p db mb a n c { s with left := left, zs := zs, torn := torn, at_ := at_ } := by
  have h1 := h.putP 3 (.int .i64 left) { s with left := left } rfl rfl h.keep hl h.torn h.at_ h.calm
  have k1 := hk.but ((But.refl p db mb w).set (b := p) (i := 3) (.inl rfl) (.int .i64 left))
  have h2 := h1.putP 4 (.slice a n c) (ka' := a) (kn' := n) (kc' := c) { s with left := left, zs := zs } rfl rfl k1 hl h.torn h.at_ h.calm
  have h3 := h2.putP 5 (.int .i64 torn) { s with left := left, zs := zs, torn := torn } rfl rfl h2.keep hl ht h.at_ h.calm
  exact h3.putP 6 (.int .i64 at_) { s with left := left, zs := zs, torn := torn, at_ := at_ } rfl rfl h3.keep hl ht ha h.calm
set_option maxRecDepth 100000 in
set_option maxHeartbeats 1000000 in
theorem trip0_any {w : World} {p db mb : Nat} {ka : Option Addr} {kn kc : Nat} {s : St} (h : SlK w p db mb ka kn kc s) (n : Int) (hn : n ≤ 0) (a : Option Addr) (m c : Nat) (torn at_ : Int) :
    Calls Try.prog 22 #[.pointer (some ⟨p, 0, none⟩), .int .i64 n, .agg #[.slice a m c, .int .i64 torn, .int .i64 at_]] w (SPost p db mb (.tuple #[]) (restS s) w) := by
  obtain ⟨W1, hW1⟩ : ∃ W1, w.alloc (.cells #[.slice a m c, .int .i64 torn, .int .i64 at_] 35) = W1 := ⟨_, rfl⟩
  have B : Below w.heap.size w W1 := by rw [← hW1]; exact (Below.refl _ _).alloc (Nat.le_refl _) _
  have h1 := h.same B
  have f := h1.free
  obtain ⟨f3, f4, f5, f6⟩ : _ ∧ _ ∧ _ ∧ _ := ⟨f 3, f 4, f 5, f 6⟩
  obtain ⟨c0, c1, c2, c3, c4, c5, c6⟩ := h1.cells
  have hng : ¬ (0 < n) := by omega
  go_enter Try.func22, Try.ntmps22
  go_wp2
  go_end0
  have h2 := h1.loss (KRow.nil W1 p db mb) (left := 0) (torn := 0) (at_ := 0) ⟨by decide, by decide⟩ (by decide) (by decide)
  exact ⟨rfl, ⟨none, 0, 0, h2⟩, ((((But.of_below B).set (.inl rfl) _).set (.inl rfl) _).set (.inl rfl) _).set (.inl rfl) _⟩
theorem trip_nil (w : World) (n : Int) (a : Option Addr) (m c : Nat) (torn at_ : Int) :
    Calls Try.prog 22 #[.pointer none, .int .i64 n, .agg #[.slice a m c, .int .i64 torn, .int .i64 at_]] w (RPost (.tuple #[]) w) := by
  have B : Below w.heap.size w (w.alloc (.cells #[.slice a m c, .int .i64 torn, .int .i64 at_] 35)) := (Below.refl _ _).alloc (Nat.le_refl _) _
  go_enter Try.func22, Try.ntmps22
  go_wp2
  go_end0
  exact ⟨rfl, B⟩
def wakeS (s : St) : St := restS { s with down := false }
set_option maxRecDepth 100000 in
theorem wake_any {w : World} {p db mb : Nat} {ka : Option Addr} {kn kc : Nat} {s : St} (h : SlK w p db mb ka kn kc s) :
    Calls Try.prog 21 #[.pointer (some ⟨p, 0, none⟩)] w (SPost p db mb (.tuple #[]) (wakeS s) w) := by
  obtain ⟨c0, c1, c2, _⟩ := h.cells
  have f2 := h.free 2
  have h1 := h.putP 2 (.bool false) { s with down := false } rfl rfl h.keep h.left h.torn h.at_ (fun q => by cases q)
  have b1 : But p db mb w (w.setCell ⟨p, 2, none⟩ (.bool false)) := (But.refl _ _ _ _).set (.inl rfl) _
  go_enter Try.func21, Try.ntmps21
  go_wp2_with (go_at_call 22; refine (trip0_any h1 0 (by decide) _ _ _ _ _).mono ?_; rintro e w2 ⟨rfl, hs2, hb2⟩)
  go_end0
  exact ⟨rfl, hs2, b1.trans hb2⟩
theorem wake_nil (w : World) : Calls Try.prog 21 #[.pointer none] w (RPost (.tuple #[]) w) := by
  have B := Below.refl w.heap.size w
  go_enter Try.func21, Try.ntmps21
  go_wp2
  go_end0
  exact ⟨rfl, B⟩
set_option maxRecDepth 100000 in
theorem fail_nil (w : World) (a : Option Addr) (m c : Nat) (torn at_ : Int) :
    Calls Try.prog 20 #[.pointer none, .agg #[.slice a m c, .int .i64 torn, .int .i64 at_]] w (RPost (.tuple #[]) w) := by
  have B : Below w.heap.size w (w.alloc (.cells #[.slice a m c, .int .i64 torn, .int .i64 at_] 35)) := (Below.refl _ _).alloc (Nat.le_refl _) _
  go_enter Try.func20, Try.ntmps20
  go_wp2_with (go_at_call 23; refine (down_nil _).mono ?_; rintro e w2 ⟨rfl, hw2⟩; subst w2)
  go_end0
  exact ⟨rfl, B⟩
theorem flush_nil (w : World) : Calls Try.prog 17 #[.pointer none] w fun e w' => e = .returned (.int .i64 1) ∧ w' = w := by
  go_enter Try.func17, Try.ntmps17
  go_wp2
  go_ret
  exact ⟨rfl, rfl⟩
theorem loose_nil (w : World) : Calls Try.prog 18 #[.pointer none] w fun e w' => e = .returned (.slice none 0 0) ∧ w' = w := by
  go_enter Try.func18, Try.ntmps18
  go_wp2
  go_ret
  exact ⟨rfl, rfl⟩
/-- A new slab. -/
def newS (n : Nat) : St := { bs := List.replicate n bk0, down := false, left := 0, zs := [], torn := 0, at_ := 0 }
def NewPost (n : Nat) (w : World) (e : Ending) (w' : World) : Prop :=
  ∃ p db mb, e = .returned (.pointer (some ⟨p, 0, none⟩)) ∧ Sl w' p db mb (newS n) ∧ w.heap.size ≤ p ∧ w.heap.size ≤ db ∧ w.heap.size ≤ mb ∧ Below w.heap.size w w'
theorem Try.infoStr : (Try.prog.info? 9).map (fun i => (i.zero, i.size, i.bytes)) = some (some (.string ⟨#[]⟩), 1, 16) := by kernel_rfl
theorem made_row (n : Nat) : madeCells #[Value.string ⟨#[]⟩] n = rowS (List.replicate n bk0) := by
  apply Array.ext
  · simp [rowS, size_madeCells]
  · intro i h1 h2
    simp [madeCells, rowS, Nat.mod_one, bk0]
    rfl
set_option maxRecDepth 100000 in
theorem new_any (n : Nat) (h1 : 1 ≤ n) (h2 : n ≤ 4096) (w : World) : Calls Try.prog 10 #[.int .i64 (n : Int)] w (NewPost n w) := by
  have hmm := @run_makeMap Try.prog
  have hmk := run_make_row' (P := Try.prog) 58 9 (.string ⟨#[]⟩) 16 Try.underlying58 Try.infoStr rfl .i64 .i64 n (by omega) (by omega) w
  rw [made_row] at hmk
  have hn1 : ¬ ((n : Int) < 1) := by omega
  have hn2 : ¬ ((4096 : Int) < (n : Int)) := by omega
  obtain ⟨W1, hW1⟩ : ∃ W1, w.alloc (.cells (rowS (List.replicate n bk0)) 9) = W1 := ⟨_, rfl⟩
  obtain ⟨W2, hW2⟩ : ∃ W2, W1.alloc (.map #[] 0) = W2 := ⟨_, rfl⟩
  obtain ⟨W3, hW3⟩ : ∃ W3, W2.alloc (.cells (cellsS w.heap.size W1.heap.size none 0 0 (newS n)) 62) = W3 := ⟨_, rfl⟩
  have b1 : Below w.heap.size w W1 := by rw [← hW1]; exact (Below.refl _ _).alloc (Nat.le_refl _) _
  have b2 : Below W1.heap.size W1 W2 := by rw [← hW2]; exact (Below.refl _ _).alloc (Nat.le_refl _) _
  have b3 : Below W2.heap.size W2 W3 := by rw [← hW3]; exact (Below.refl _ _).alloc (Nat.le_refl _) _
  have g1 : W1.heap.size = w.heap.size + 1 := by rw [← hW1]; simp
  have g2 : W2.heap.size = w.heap.size + 2 := by rw [← hW2]; simp [g1]
  have hs : SlK W3 W2.heap.size w.heap.size W1.heap.size none 0 0 (newS n) := by
    refine { hp := ?_, hd := ?_, hm := ?_, keep := KRow.nil _ _ _ _, ne1 := by omega, ne2 := by omega, ne3 := by omega, len := by simp [newS]; omega, fit := Fits.new n, left := ⟨Int.le_refl 0, by show (0 : Int) ≤ _; omega⟩, torn := wf_i64 (k := 0) (by omega) (by omega), at_ := wf_i64 (k := 0) (by omega) (by omega), calm := fun _ => Calm.new n }
    · rw [← hW3]; exact heap_alloc_new _ _
    · rw [b3.block _ (by omega), b2.block _ (by omega), ← hW1]; exact heap_alloc_new _ _
    · refine (show Mp W2 W1.heap.size (newS n).bs from ?_).same (b3.block _ (by omega))
      rw [← hW2]
      exact Mp.made W1 (Calm.new n)
  have hB : Below w.heap.size w W3 := (b1.trans (b2.mono (by omega))).trans (b3.mono (by omega))
  have hlen : (newS n).bs.length = n := by simp [newS]
  unfold cellsS at hW3
  rw [hlen] at hW3
  simp only [newS] at hW3
  rw [hW1] at hmk
  replace hW1 := Lib.hid hW1
  replace g1 := Lib.hid g1
  replace g2 := Lib.hid g2
  go_enter Try.func10, Try.ntmps10
  go_wp2
  go_ret
  exact ⟨_, _, _, rfl, ⟨none, 0, 0, hs⟩, by have := g2.out; omega, Nat.le_refl _, by have := g1.out; omega, hB⟩
end Go.Proofs.Ythcebcpippbhfaa
