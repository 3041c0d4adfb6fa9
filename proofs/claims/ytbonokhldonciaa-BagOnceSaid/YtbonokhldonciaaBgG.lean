/-
  BAGS: setting apart; a nil bag; a new bag; the page's example (splicelaw10.awake).
-/
import Derived.Test.YtbonokhldonciaaBgF
namespace Go.Proofs.Ytbonokhldonciaa
open Go.RowKit Go.Maps Go.ChangeMaps

theorem heapDr {w : World} {p : Nat} {o : Option Obj} (h : w.heap[p]? = o) : w.drew.heap[p]? = o := h
def aparts (x y : Int) : Bool := addrB x && addrB y && !decide (x = y)
def apartS (s : Bs) (x y : Int) (on : Bool) : Bs := if aparts x y then { s with L := putL s.L (min x y) (max x y) on, c := if on then s.c + 1 else s.c } else s
def apartV (x y : Int) : Int := if aparts x y then 0 else 1
set_option maxRecDepth 100000 in
set_option maxHeartbeats 2000000 in
theorem apart_any {w : World} {p mb ab : Nat} {s : Bs} (h : Bg w p mb ab s) (hc : s.c ≤ 4000) {x y : Int} (hx : (Lit.int .i64 x).wf = true) (hy : (Lit.int .i64 y).wf = true) (on : Bool) :
    Calls Try.prog 18 #[.pointer (some ⟨p, 0, none⟩), .int .i64 x, .int .i64 y, .bool on] w (SPost p mb ab (.int .i64 (apartV x y)) (apartS s x y on) w) := by
  unfold apartS apartV
  cases e : aparts x y with
  | false =>
    rw [if_neg (by decide), if_neg (by decide)]
    unfold aparts at e
    rcases Bool.eq_false_or_eq_true (addrB x) with hf | hf
    · rcases Bool.eq_false_or_eq_true (addrB y) with ht | ht
      · have hxy : x = y := by rw [hf, ht] at e; simpa using e
        subst hxy
        go_enter Try.func18, Try.ntmps18
        go_wp2_with (go_at_call 29; (with_reducible refine (addr_any x _).mono ?_); rintro e w2 ⟨rfl, hw2⟩; subst w2; rw [hf])
        go_ret
        exact ⟨rfl, h, But.refl _ _ _ _⟩
      · go_enter Try.func18, Try.ntmps18
        go_wp2_with (first
          | (go_at_call 29; (with_reducible refine (addr_any x _).mono ?_); rintro e w2 ⟨rfl, hw2⟩; subst w2; rw [hf])
          | (go_at_call 29; (with_reducible refine (addr_any y _).mono ?_); rintro e w2 ⟨rfl, hw2⟩; subst w2; rw [ht]))
        go_ret
        exact ⟨rfl, h, But.refl _ _ _ _⟩
    · go_enter Try.func18, Try.ntmps18
      go_wp2_with (go_at_call 29; (with_reducible refine (addr_any x _).mono ?_); rintro e w2 ⟨rfl, hw2⟩; subst w2; rw [hf])
      go_ret
      exact ⟨rfl, h, But.refl _ _ _ _⟩
  | true =>
    rw [if_pos rfl, if_pos rfl]
    unfold aparts at e
    obtain ⟨⟨hf, ht⟩, hxy⟩ : (addrB x = true ∧ addrB y = true) ∧ ¬ (x = y) := by simpa using e
    obtain ⟨wf1, wf2⟩ := wf_min hx hy
    have hxy2 : decide (x = y) = false := by simpa using hxy
    clear e
    obtain ⟨c0, c1, c2⟩ := h.cells
    have KS : Hid (∀ W' : World, W'.heap[p]? = w.heap[p]? → W'.cell? ⟨p, 2, none⟩ = some (.map (some ab))) := Lib.hid fun W' hB => cell_of_row _ _ 2 _ _ _ (hB.trans h.hp)
    have hbg := h
    have hlt := h.lt.1
    have HB : Hid (Below w.heap.size w w) := Lib.hid (Below.refl _ _)
    cases on with
    | true =>
      go_enter Try.func18, Try.ntmps18
      go_wp2_with (first
        | (go_at_call 29; (with_reducible refine (addr_any x _).mono ?_); rintro e w2 ⟨rfl, hw2⟩; subst w2; rw [hf])
        | (go_at_call 29; (with_reducible refine (addr_any y _).mono ?_); rintro e w2 ⟨rfl, hw2⟩; subst w2; rw [ht]))
      go_region_held3 (fun W => W.cell? ⟨p, 2, none⟩ = some (.map (some ab))) (exact KS.out _ (by repeat (first | with_reducible exact rfl | with_reducible exact HQ.out | with_reducible exact H3.out | with_reducible refine heapDr ?_))) ((go_at_call 35; (with_reducible refine (between_any _ _ _).mono ?_); rintro e w2 ⟨rfl, b2⟩; (have bb : Below w.heap.size w w2 := (show Below w.heap.size w w.drew from toDr HB.out).trans (b2.mono (Nat.le_refl _))); (have h2 := hbg.same bb); obtain ⟨W3, hrun, ha3, ht3⟩ := h2.ha.store (by omega) wf1 wf2; clear HB; (have HQ : Hid (w2.heap[p]? = w.heap[p]?) := Lib.hid (bb.block p hlt)); (have H3 : Hid (W3.heap[p]? = w.heap[p]?) := Lib.hid ((ht3.grown.block p (by have := bb.size; omega) (fun q => hbg.ne2 (Option.some.inj q))).trans (bb.block p hlt))); have HB := Lib.hid bb; clear bb))
      all_goals
        go_wp2
        go_ret
        exact ⟨rfl, h2.turnA ht3 ha3, (But.of_below HB.out).grown ht3.grown (.inr (.inr (.inl rfl)))⟩
    | false =>
      go_enter Try.func18, Try.ntmps18
      go_wp2_with (first
        | (go_at_call 29; (with_reducible refine (addr_any x _).mono ?_); rintro e w2 ⟨rfl, hw2⟩; subst w2; rw [hf])
        | (go_at_call 29; (with_reducible refine (addr_any y _).mono ?_); rintro e w2 ⟨rfl, hw2⟩; subst w2; rw [ht]))
      go_region_held3 (fun W => W.cell? ⟨p, 2, none⟩ = some (.map (some ab))) (exact KS.out _ (by repeat (first | with_reducible exact rfl | with_reducible exact HQ.out | with_reducible exact H3.out | with_reducible refine heapDr ?_))) ((go_at_call 35; (with_reducible refine (between_any _ _ _).mono ?_); rintro e w2 ⟨rfl, b2⟩; (have bb : Below w.heap.size w w2 := (show Below w.heap.size w w.drew from toDr HB.out).trans (b2.mono (Nat.le_refl _))); (have h2 := hbg.same bb); obtain ⟨W3, hrun, ha3, ht3⟩ := h2.ha.drop wf1 wf2 0; clear HB; (have HQ : Hid (w2.heap[p]? = w.heap[p]?) := Lib.hid (bb.block p hlt)); (have H3 : Hid (W3.heap[p]? = w.heap[p]?) := Lib.hid ((ht3.grown.block p (by have := bb.size; omega) (fun q => hbg.ne2 (Option.some.inj q))).trans (bb.block p hlt))); have HB := Lib.hid bb; clear bb))
      all_goals
        go_wp2
        go_ret
        exact ⟨rfl, h2.turnA ht3 ha3, (But.of_below HB.out).grown ht3.grown (.inr (.inr (.inl rfl)))⟩
theorem apart_nil (x y : Int) (on : Bool) (w : World) : Calls Try.prog 18 #[.pointer none, .int .i64 x, .int .i64 y, .bool on] w fun e w' => e = .returned (.int .i64 1) ∧ w' = w := by
  go_enter Try.func18, Try.ntmps18
  go_wp2
  go_ret
  exact ⟨rfl, rfl⟩
theorem ids_nil (w : World) : Calls Try.prog 17 #[.pointer none] w fun e w' => e = .returned (.slice none 0 0) ∧ w' = w := by
  go_enter Try.func17, Try.ntmps17
  go_wp2
  go_ret
  exact ⟨rfl, rfl⟩
/-- A new bag. -/
def newB : Bs := ⟨noG, 0, 0, noL, 0⟩
def NewPost (w : World) (e : Ending) (w' : World) : Prop :=
  ∃ p mb ab, e = .returned (.pointer (some ⟨p, 0, none⟩)) ∧ Bg w' p mb ab newB ∧ w.heap.size ≤ p ∧ w.heap.size ≤ mb ∧ w.heap.size ≤ ab ∧ Below w.heap.size w w'
set_option maxRecDepth 100000 in
theorem new_any (w : World) : Calls Try.prog 9 #[] w (NewPost w) := by
  have hmm := @run_makeMap Try.prog
  obtain ⟨W1, hW1⟩ : ∃ W1, w.alloc (.map #[] 0) = W1 := ⟨_, rfl⟩
  obtain ⟨W2, hW2⟩ : ∃ W2, W1.alloc (.map #[] 0) = W2 := ⟨_, rfl⟩
  obtain ⟨W3, hW3⟩ : ∃ W3, W2.alloc (.cells #[.map (some w.heap.size), .int .i64 0, .map (some W1.heap.size)] 61) = W3 := ⟨_, rfl⟩
  have b1 : Below w.heap.size w W1 := by rw [← hW1]; exact (Below.refl _ _).alloc (Nat.le_refl _) _
  have b2 : Below W1.heap.size W1 W2 := by rw [← hW2]; exact (Below.refl _ _).alloc (Nat.le_refl _) _
  have b3 : Below W2.heap.size W2 W3 := by rw [← hW3]; exact (Below.refl _ _).alloc (Nat.le_refl _) _
  have g1 : W1.heap.size = w.heap.size + 1 := by rw [← hW1]; simp
  have g2 : W2.heap.size = w.heap.size + 2 := by rw [← hW2]; simp [g1]
  have m1 : Mp W1 w.heap.size noG 0 := by rw [← hW1]; exact Mp.made w
  have m2 : Ap W2 W1.heap.size noL 0 := by rw [← hW2]; exact Ap.made W1
  have hs : Bg W3 W2.heap.size w.heap.size W1.heap.size newB := by
    refine { hp := ?_, hm := ?_, ha := ?_, ne1 := by omega, ne2 := by omega, ne3 := by omega, n4 := Nat.zero_le _, last := ⟨Int.le_refl 0, by decide⟩, keys := fun k m hk => by cases hk }
    · rw [← hW3]; exact heap_alloc_new _ _
    · exact (m1.same (b2.block _ (by omega))).same (b3.block _ (by omega))
    · exact m2.same (b3.block _ (by omega))
  have hB : Below w.heap.size w W3 := (b1.trans (b2.mono (by omega))).trans (b3.mono (by omega))
  replace g1 := Lib.hid g1
  replace g2 := Lib.hid g2
  go_enter Try.func9, Try.ntmps9
  go_wp2
  go_ret
  exact ⟨_, _, _, rfl, hs, by have := g2.out; omega, Nat.le_refl _, by have := g1.out; omega, hB⟩
end Go.Proofs.Ytbonokhldonciaa
