/-
  SLABS: SlabAll.
-/
import Derived.Test.YthcebcpippbhfaaSlO
namespace Go.Proofs.Ythcebcpippbhfaa
open Go.RowKit Go.Maps Go.ChangeMaps Go.ChangeShapes Go.WideShapes Go.Deep

def Trio (p d m : Nat) (i : Nat) : Prop := i = p ∨ i = d ∨ i = m
/-- Two slabs have no block in common. -/
def Apart (p d m p' d' m' : Nat) : Prop := (p ≠ p' ∧ p ≠ d' ∧ p ≠ m') ∧ (d ≠ p' ∧ d ≠ d' ∧ d ≠ m') ∧ (m ≠ p' ∧ m ≠ d' ∧ m ≠ m')
theorem Apart.symm {p d m p' d' m' : Nat} (h : Apart p d m p' d' m') : Apart p' d' m' p d m := by
  obtain ⟨⟨a, b, c⟩, ⟨e, f, g⟩, ⟨i, j, k⟩⟩ := h
  exact ⟨⟨a.symm, e.symm, i.symm⟩, ⟨b.symm, f.symm, j.symm⟩, ⟨c.symm, g.symm, k.symm⟩⟩
theorem Apart.of_lt {p d m p' d' m' B : Nat} (h1 : p < B) (h2 : d < B) (h3 : m < B) (h4 : B ≤ p') (h5 : B ≤ d') (h6 : B ≤ m') : Apart p d m p' d' m' :=
  ⟨⟨by omega, by omega, by omega⟩, ⟨by omega, by omega, by omega⟩, ⟨by omega, by omega, by omega⟩⟩
/-- A slab stays while another one is called. -/
theorem Sl.beside {w w' : World} {p d m p' d' m' : Nat} {s : St} (h : Sl w p d m s) (hz : s.zs = []) (hb : But p' d' m' w w') (ha : Apart p d m p' d' m') : Sl w' p d m s := by
  obtain ⟨ka, kn, kc, h⟩ := h
  obtain ⟨l1, l2, l3⟩ := h.lt
  obtain ⟨⟨a1, a2, a3⟩, ⟨b1, b2, b3⟩, ⟨c1, c2, c3⟩⟩ := ha
  exact ⟨ka, kn, kc, h.move (hb.block p l1 a1 a2 a3) (hb.block d l2 b1 b2 b3) (hb.block m l3 c1 c2 c3) ⟨h.keep.len, h.keep.cap, h.keep.val, fun j hj => by rw [hz] at hj; exact absurd hj (Nat.not_lt_zero _)⟩⟩
theorem giveP_twice {bs : List Bk} {i : Nat} (t : ByteArray) : giveP (giveP bs i t) i t = giveP bs i t := by
  unfold giveP
  rw [List.set_set, getD_set]
  split
  · rfl
  · rfl
theorem looseL_contains {bs : List Bk} (k : Nat) : (looseL bs).contains (k : Int) = (atB bs k).2.isSome := by
  rw [Bool.eq_iff_iff, List.contains_iff_mem, looseL_mem, looseAt_atB]
/-- Keeping all is a flush. -/
theorem all_kept {s : St} (h : Up s) : r8 (all8 (wakeS (failS s (looseL s.bs) (-1) 0))) = r8 (fun k => seeB (atB s.bs k)) := r8_congr fun k hk => by
  rw [woken_read h.fit h.down (by rw [h.len]; decide) _ _ _ hk, looseL_contains]
  unfold leftB seeB
  cases (atB s.bs k).2 <;> rfl
theorem all_flushed {s : St} (h : Up s) : r8 (all8 (wakeS (failS { s with bs := flushP s.bs } [] 3 1))) = r8 (fun k => seeB (atB s.bs k)) := r8_congr fun k hk => by
  have h' := h.flush.2
  rw [woken_read h'.fit h'.down (by rw [h'.len]; decide) _ _ _ hk]
  show leftB (atB (flushP s.bs) k) _ _ _ = _
  rw [flush_at]
  rfl
theorem none_kept {s : St} (h : Up s) {sure : Nat → ByteArray} (hS : ∀ k, k < 8 → (atB s.bs k).1 = sure k) : r8 (all8 (wakeS (failS s [] (-1) 5))) = r8 sure := r8_congr fun k hk => by
  rw [woken_read h.fit h.down (by rw [h.len]; decide) _ _ _ hk]
  have e : decide ((k : Int) = -1) = false := decide_eq_false (by omega)
  rw [e, ← hS k hk]
  unfold leftB
  cases (atB s.bs k).2 <;> rfl
theorem flush_read {s : St} (h : Up s) : r8 (all8 { s with bs := flushP s.bs }) = r8 (fun k => seeB (atB s.bs k)) := r8_congr fun k hk => by
  have h' := h.flush.2
  rw [all8_at h'.down (by rw [h'.len]; decide) hk]
  show seeB (atB (flushP s.bs) k) = _
  rw [flush_at]
  rfl
theorem LPost.row {base : Nat} {l : List Int} {w : World} {e : Ending} {w' : World} (h : LPost base l w e w') (hw : ∀ z ∈ l, (Lit.int .i64 z).wf = true) {p db mb : Nat} (h1 : p < base) (h2 : db < base) (h3 : mb < base) :
    ∃ a n c, e = .returned (.slice a n c) ∧ KRow w' p db mb a n c l ∧ Below base w w' := by
  obtain ⟨v, he, ho, hn, hb⟩ := h
  by_cases hl : l = []
  · subst hl
    exact ⟨none, 0, 0, by rw [he, hn rfl], KRow.nil _ _ _ _, hb⟩
  · obtain ⟨g, c, e2, _, _, hk⟩ := OwnsI.row ho hw hl h1 h2 h3
    exact ⟨_, _, c, by rw [he, e2], hk w' rfl (Nat.le_refl _), hb⟩
theorem looseL_wf {bs : List Bk} (hl : bs.length ≤ 4096) : ∀ z ∈ looseL bs, (Lit.int .i64 z).wf = true := fun z hz => by
  rw [looseL_mem] at hz
  obtain ⟨t, ht⟩ := Option.isSome_iff_exists.1 hz
  obtain ⟨i, rfl, hi, _⟩ := looseAt_some ht
  exact wf_i64 (by omega) (by omega)
theorem Sl.drewT {w : World} {p db mb : Nat} {s : St} (h : Sl w p db mb s) : Sl w.drew p db mb s := h.same (Below.refl _ _).drew
theorem lowDrewT {B : Nat} {a X : World} (h : Below B a X) : Below B a X.drew := ⟨h.os, h.tape, h.output, h.size, h.block⟩
theorem heapDrew {W : World} {b : Nat} {o : Option Obj} (h : W.heap[b]? = o) : W.drew.heap[b]? = o := h
theorem lowBut {p d m : Nat} {w W wz : World} (h : Below w.heap.size w W) (hb : But p d m W wz) (h1 : w.heap.size ≤ p) (h2 : w.heap.size ≤ d) (h3 : w.heap.size ≤ m) : Below w.heap.size w wz := h.trans (hb.below h.size h1 h2 h3)
theorem Up.writes2 {s : St} (h : Up s) (k : Int) (t : ByteArray) : ∃ s' v, writeS s k t = (s', v) ∧ writeS s' k t = (s', v) ∧ Up s' ∧ ∀ j, (atB s'.bs j).1 = (atB s.bs j).1 := by
  rcases h.write k t with e | ⟨i, hi, hk, ht, e, hu⟩
  · exact ⟨s, 1, e, e, h, fun _ => rfl⟩
  · refine ⟨_, 0, e, ?_, hu, fun j => ?_⟩
    · rw [hk, write_calm hu.down hu.left (by rw [hu.len]; exact hi) ht]
      dsimp only
      rw [giveP_twice]
    · show (atB (giveP s.bs i t) j).1 = _
      rw [give_at (by rw [h.len]; exact hi)]
      split
      · rename_i q; rw [q]
      · rfl
theorem three8 {W : World} {b : Nat} {x y z u v s : Value} {t : TypeId} (h : W.heap[b]? = some (.cells #[x, y, z, u, v, s] t)) : W.cell? ⟨b, 0, none⟩ = some x ∧ W.cell? ⟨b, 1, none⟩ = some y ∧ W.cell? ⟨b, 2, none⟩ = some z ∧ W.cell? ⟨b, 3, none⟩ = some u ∧ W.cell? ⟨b, 4, none⟩ = some v ∧ W.cell? ⟨b, 5, none⟩ = some s :=
  ⟨cell_of_row _ _ 0 _ _ _ h, cell_of_row _ _ 1 _ _ _ h, cell_of_row _ _ 2 _ _ _ h, cell_of_row _ _ 3 _ _ _ h, cell_of_row _ _ 4 _ _ _ h, cell_of_row _ _ 5 _ _ _ h⟩
set_option maxRecDepth 100000 in
set_option maxHeartbeats 8000000 in
theorem slabAll_walk (a : Option Addr) (len cap : Nat) (l : List ActV) (w : World) (hX : XArg w a len cap l) :
    Calls Try.prog 6 #[.slice a len cap] w (TruePost w) := by
  have hcap := hX.cap
  go_enter Try.func6, Try.ntmps6
  go_wp2_with (first
    | (go_at_call 10; refine (new_any 8 (by decide) (by decide) w).mono ?_; rintro e w1 ⟨p1, d1, m1, rfl, hs1, p11, p12, p13, b1⟩)
    | (go_at_call 10; refine (new_any 8 (by decide) (by decide) w1).mono ?_; rintro e w2 ⟨p2, d2, m2, rfl, hs2, p21, p22, p23, b2⟩; have hs12 := hs1.same b2)
    | (go_at_call 10; refine (new_any 8 (by decide) (by decide) w2).mono ?_; rintro e w3 ⟨p3, d3, m3, rfl, hs3, p31, p32, p33, b3⟩; have hs13 := hs12.same b3; have hs23 := hs2.same b3)
    | (go_at_call 12; (with_reducible refine (awake7_any w3).mono ?_); rintro e w4 ⟨rfl, b4⟩; have hs14 := hs13.same b4; have hs24 := hs23.same b4; have hs34 := hs3.same b4))
  obtain ⟨W5, hW5⟩ : ∃ W5, w4.alloc (.cells #[.string ⟨#[]⟩, .string ⟨#[]⟩, .string ⟨#[]⟩, .string ⟨#[]⟩, .string ⟨#[]⟩, .string ⟨#[]⟩, .string ⟨#[]⟩, .string ⟨#[]⟩] 45) = W5 := ⟨_, rfl⟩
  have c5 : Below w4.heap.size w4 W5 := by rw [← hW5]; exact (Below.refl _ _).alloc (Nat.le_refl _) _
  have k5 : W5.heap[w4.heap.size]? = some (.cells (r8 e8) 45) := by rw [← hW5]; exact heap_alloc_new _ _
  have e1 := hs14.same c5
  have e2 := hs24.same c5
  have e3 := hs34.same c5
  have f1 : p1 < w1.heap.size ∧ d1 < w1.heap.size ∧ m1 < w1.heap.size := by obtain ⟨_, _, _, h⟩ := hs1; exact h.lt
  have f2 : p2 < w2.heap.size ∧ d2 < w2.heap.size ∧ m2 < w2.heap.size := by obtain ⟨_, _, _, h⟩ := hs2; exact h.lt
  have f3 : p3 < w3.heap.size ∧ d3 < w3.heap.size ∧ m3 < w3.heap.size := by obtain ⟨_, _, _, h⟩ := hs3; exact h.lt
  have g1 := b1.size
  have g2 := b2.size
  have g3 := b3.size
  have g4 := b4.size
  have B5 : Below w.heap.size w W5 := (((b1.trans (b2.mono g1)).trans (b3.mono (by omega))).trans (b4.mono (by omega))).trans (c5.mono (by omega))
  have A12 : Apart p1 d1 m1 p2 d2 m2 := Apart.of_lt f1.1 f1.2.1 f1.2.2 p21 p22 p23
  have A13 : Apart p1 d1 m1 p3 d3 m3 := Apart.of_lt f1.1 f1.2.1 f1.2.2 (by omega) (by omega) (by omega)
  have A23 : Apart p2 d2 m2 p3 d3 m3 := Apart.of_lt f2.1 f2.2.1 f2.2.2 p31 p32 p33
  have A21 := A12.symm
  have A31 := A13.symm
  have A32 := A23.symm
  have Q1 : w.heap.size ≤ p1 ∧ w.heap.size ≤ d1 ∧ w.heap.size ≤ m1 := ⟨p11, p12, p13⟩
  have Q2 : w.heap.size ≤ p2 ∧ w.heap.size ≤ d2 ∧ w.heap.size ≤ m2 := ⟨by omega, by omega, by omega⟩
  have Q3 : w.heap.size ≤ p3 ∧ w.heap.size ≤ d3 ∧ w.heap.size ≤ m3 := ⟨by omega, by omega, by omega⟩
  have G1 : w4.heap.size ≠ p1 ∧ w4.heap.size ≠ d1 ∧ w4.heap.size ≠ m1 := ⟨by omega, by omega, by omega⟩
  have G2 : w4.heap.size ≠ p2 ∧ w4.heap.size ≠ d2 ∧ w4.heap.size ≠ m2 := ⟨by omega, by omega, by omega⟩
  have G3 : w4.heap.size ≠ p3 ∧ w4.heap.size ≠ d3 ∧ w4.heap.size ≠ m3 := ⟨by omega, by omega, by omega⟩
  have GW : w.heap.size ≤ w4.heap.size := by omega
  (try rw [hW5])
  replace hW5 := Lib.hid hW5
  clear hs1 hs2 hs3 hs12 hs13 hs23 hs14 hs24 hs34 b1 b2 b3 b4 c5 f1 f2 f3 p11 p12 p13 p21 p22 p23 p31 p32 p33 g1 g2 g3 g4
  go_loopw [7, 8] (fun i _ wr => ∃ (j : Nat) (s : St) (sure : Nat → ByteArray), i = .int .i64 (j : Int) ∧ j ≤ 40 ∧ Up s ∧ Hid (∀ k, k < 8 → (atB s.bs k).1 = sure k) ∧ Sl wr p1 d1 m1 s ∧ Sl wr p2 d2 m2 s ∧ Sl wr p3 d3 m3 s ∧ wr.heap[w4.heap.size]? = some (.cells (r8 sure) 45) ∧ Below w.heap.size w wr)
    (fun i _ _ => 40 - (intOf i).toNat)
  case atStart => exact ⟨0, newS 8, _, rfl, by decide, Up.start, Lib.hid (fun k _ => by show (atB (List.replicate 8 bk0) k).1 = _; rw [new_at]; rfl), e1, e2, e3, k5, B5⟩
  case round =>
    clear e1 e2 e3 k5 B5
    obtain ⟨j, s, sure, rfl, hj, hU, hS, hs1, hs2, hs3, hg, hb⟩ := hrel
    have ug := (Array.getElem?_eq_some_iff.1 hg).1
    have l1 : p1 < wr.heap.size ∧ d1 < wr.heap.size ∧ m1 < wr.heap.size := by obtain ⟨_, _, _, h⟩ := hs1; exact h.lt
    have l2 : p2 < wr.heap.size ∧ d2 < wr.heap.size ∧ m2 < wr.heap.size := by obtain ⟨_, _, _, h⟩ := hs2; exact h.lt
    have l3 : p3 < wr.heap.size ∧ d3 < wr.heap.size ∧ m3 < wr.heap.size := by obtain ⟨_, _, _, h⟩ := hs3; exact h.lt
    by_cases hin : j < len ∧ j < 40
    · obtain ⟨hjl, hj40⟩ := hin
      have hjs : j < l.length := by rw [← hX.len]; exact hjl
      obtain ⟨xb, off, rfl, hxb, hc⟩ := hX.cells hb hjs
      have hok := hX.ok _ (List.getElem_mem hjs)
      generalize l[j] = x at hok hc
      have zl : (j : Int) < (len : Int) := by omega
      have z2 : (j : Int) < 40 := by omega
      obtain ⟨y0, y1, y2, y3, y4, y5⟩ := hc
      obtain ⟨W6, hW6⟩ : ∃ W6, wr.alloc (.cells #[.int .i64 x.kind, .int .i64 x.n, .string x.s, .slice x.ka x.kn x.kc, .int .i64 x.torn, .int .i64 x.at_] 37) = W6 := ⟨_, rfl⟩
      have c6 : Below wr.heap.size wr W6 := by rw [← hW6]; exact (Below.refl _ _).alloc (Nat.le_refl _) _
      have k6 : W6.heap[wr.heap.size]? = some (.cells #[.int .i64 x.kind, .int .i64 x.n, .string x.s, .slice x.ka x.kn x.kc, .int .i64 x.torn, .int .i64 x.at_] 37) := by rw [← hW6]; exact heap_alloc_new _ _
      have z6 : wr.heap.size < W6.heap.size := by rw [← hW6]; simp
      obtain ⟨v0, v1, v2, v3, v4, v5⟩ := three8 k6
      have e1 := hs1.same c6
      have e2 := hs2.same c6
      have e3 := hs3.same c6
      have hg6 := (c6.block _ ug).trans hg
      have hb6 : Below w.heap.size w W6 := hb.trans (c6.mono hb.size)
      by_cases h0 : x.kind = 0
      · have HL := light_any x W6 (hok.below hb6)
        rw [h0] at v0 y0 HL hW6
        cases hlx : lightX x with
        | false =>
          rw [hlx] at HL
          go_wp2_with (go_at_call 13; (try rw [hW6]); refine HL.mono ?_; rintro e w7 ⟨rfl, b7⟩; have t0 := (cell_of_row _ _ 0 _ _ _ ((b7.block _ z6).trans k6)); rw [h0] at t0)
          have hs17 := e1.same b7
          have hs27 := e2.same b7
          have hs37 := e3.same b7
          have hg7 := (b7.block _ (Array.getElem?_eq_some_iff.1 hg6).1).trans hg6
          have hb7 : Below w.heap.size w w7 := hb6.trans (b7.mono hb6.size)
          go_roundw
          case rel => exact ⟨j + 1, s, sure, by go_num, by omega, hU, hS, hs17, hs27, hs37, hg7, hb7⟩
          case measure => simp [intOf]; omega
        | true =>
          rw [hlx] at HL
          go_wp2_with (go_at_call 13; (try rw [hW6]); refine HL.mono ?_; rintro e w7 ⟨rfl, b7⟩; have HBX := Lib.hid (show w7.heap[wr.heap.size]? = some (.cells #[.int .i64 x.kind, .int .i64 x.n, .string x.s, .slice x.ka x.kn x.kc, .int .i64 x.torn, .int .i64 x.at_] 37) from (b7.block _ z6).trans k6))
          have HS1 := Lib.hid (e1.same b7)
          have HS2 := Lib.hid (e2.same b7)
          have HS3 := Lib.hid (e3.same b7)
          have HG := Lib.hid (show w7.heap[w4.heap.size]? = some (.cells (r8 sure) 45) from (b7.block _ (Array.getElem?_eq_some_iff.1 hg6).1).trans hg6)
          have HB := Lib.hid (show Below w.heap.size w w7 from hb6.trans (b7.mono hb6.size))
          have X1 : wr.heap.size ≠ p1 ∧ wr.heap.size ≠ d1 ∧ wr.heap.size ≠ m1 := ⟨by omega, by omega, by omega⟩
          have X2 : wr.heap.size ≠ p2 ∧ wr.heap.size ≠ d2 ∧ wr.heap.size ≠ m2 := ⟨by omega, by omega, by omega⟩
          have X3 : wr.heap.size ≠ p3 ∧ wr.heap.size ≠ d3 ∧ wr.heap.size ≠ m3 := ⟨by omega, by omega, by omega⟩
          obtain ⟨s', v, hw1, hw2, hU', hS'⟩ := hU.writes2 x.n x.s
          have HW1 := Lib.hid (fun W (h : Sl W p1 d1 m1 s) => writeE h hw1 hok.s)
          have HW2 := Lib.hid (fun W (h : Sl W p2 d2 m2 s) => writeE h hw1 hok.s)
          have HW3 := Lib.hid (fun W (h : Sl W p3 d3 m3 s) => writeE h hw1 hok.s)
          have HW1' := Lib.hid (fun W (h : Sl W p1 d1 m1 s') => writeE h hw2 hok.s)
          have KX := Lib.hid (fun (W : World) (h : W.heap[wr.heap.size]? = some (.cells #[.int .i64 x.kind, .int .i64 x.n, .string x.s, .slice x.ka x.kn x.kc, .int .i64 x.torn, .int .i64 x.at_] 37)) => (show W.cell? ⟨wr.heap.size, 1, none⟩ = some (.int .i64 x.n) ∧ W.cell? ⟨wr.heap.size, 2, none⟩ = some (.string x.s) from ⟨(three8 h).2.1, (three8 h).2.2.1⟩))
          replace hw1 := Lib.hid hw1
          replace hw2 := Lib.hid hw2
          replace hS' := Lib.hid hS'
          obtain ⟨t1, t2⟩ := KX.out _ HBX.out
          have T1 : True := trivial
          have T2 : True := trivial
          have T3 : True := trivial
          have T4 : True := trivial
          clear e1 e2 e3 hg6 hb6 hs1 hs2 hs3 hg hb v0 v1 v2 v3 v4 v5 y0 y1 y2 y3 y4 y5 k6 c6 b7
          replace hW6 := Lib.hid hW6
          (first | go_region_held3 (fun W => W.cell? ⟨wr.heap.size, 1, none⟩ = some (.int .i64 x.n) ∧ W.cell? ⟨wr.heap.size, 2, none⟩ = some (.string x.s)) (exact KX.out _ (by repeat (first | with_reducible exact HBX.out | with_reducible refine heapDrew ?_))) ((first | (go_at_call 16; have _t := T1; (with_reducible refine (HW1.out _ (by repeat (first | with_reducible exact HS1.out | with_reducible refine Sl.drewT ?_))).mono ?_); rintro e wz ⟨rfl, hsz, hbz⟩; clear _t T1; have HS2 := Lib.hid (show Sl wz p2 d2 m2 s from Sl.beside (by repeat (first | with_reducible exact HS2.out | with_reducible refine Sl.drewT ?_)) hU.zs hbz A21); have HS3 := Lib.hid (show Sl wz p3 d3 m3 s from Sl.beside (by repeat (first | with_reducible exact HS3.out | with_reducible refine Sl.drewT ?_)) hU.zs hbz A31); have HS1 := Lib.hid hsz; have HBX := Lib.hid (show wz.heap[wr.heap.size]? = some (.cells #[.int .i64 x.kind, .int .i64 x.n, .string x.s, .slice x.ka x.kn x.kc, .int .i64 x.torn, .int .i64 x.at_] 37) from (hbz.block _ (Array.getElem?_eq_some_iff.1 HBX.out).1 X1.1 X1.2.1 X1.2.2).trans HBX.out); have HG := Lib.hid (show wz.heap[w4.heap.size]? = some (.cells (r8 sure) 45) from (hbz.block _ (Array.getElem?_eq_some_iff.1 HG.out).1 G1.1 G1.2.1 G1.2.2).trans HG.out); have HB := Lib.hid (show Below w.heap.size w wz from lowBut (by repeat (first | with_reducible exact HB.out | with_reducible refine lowDrewT ?_)) hbz Q1.1 Q1.2.1 Q1.2.2)) | (go_at_call 16; have _t := T2; (with_reducible refine (HW2.out _ (by repeat (first | with_reducible exact HS2.out | with_reducible refine Sl.drewT ?_))).mono ?_); rintro e wz ⟨rfl, hsz, hbz⟩; clear _t T2; have HS1 := Lib.hid (show Sl wz p1 d1 m1 s' from Sl.beside (by repeat (first | with_reducible exact HS1.out | with_reducible refine Sl.drewT ?_)) hU'.zs hbz A12); have HS3 := Lib.hid (show Sl wz p3 d3 m3 s from Sl.beside (by repeat (first | with_reducible exact HS3.out | with_reducible refine Sl.drewT ?_)) hU.zs hbz A32); have HS2 := Lib.hid hsz; have HBX := Lib.hid (show wz.heap[wr.heap.size]? = some (.cells #[.int .i64 x.kind, .int .i64 x.n, .string x.s, .slice x.ka x.kn x.kc, .int .i64 x.torn, .int .i64 x.at_] 37) from (hbz.block _ (Array.getElem?_eq_some_iff.1 HBX.out).1 X2.1 X2.2.1 X2.2.2).trans HBX.out); have HG := Lib.hid (show wz.heap[w4.heap.size]? = some (.cells (r8 sure) 45) from (hbz.block _ (Array.getElem?_eq_some_iff.1 HG.out).1 G2.1 G2.2.1 G2.2.2).trans HG.out); have HB := Lib.hid (show Below w.heap.size w wz from lowBut (by repeat (first | with_reducible exact HB.out | with_reducible refine lowDrewT ?_)) hbz Q2.1 Q2.2.1 Q2.2.2)) | (go_at_call 16; have _t := T3; (with_reducible refine (HW1'.out _ (by repeat (first | with_reducible exact HS1.out | with_reducible refine Sl.drewT ?_))).mono ?_); rintro e wz ⟨rfl, hsz, hbz⟩; clear _t T3; have HS2 := Lib.hid (show Sl wz p2 d2 m2 s' from Sl.beside (by repeat (first | with_reducible exact HS2.out | with_reducible refine Sl.drewT ?_)) hU'.zs hbz A21); have HS3 := Lib.hid (show Sl wz p3 d3 m3 s from Sl.beside (by repeat (first | with_reducible exact HS3.out | with_reducible refine Sl.drewT ?_)) hU.zs hbz A31); have HS1 := Lib.hid hsz; have HBX := Lib.hid (show wz.heap[wr.heap.size]? = some (.cells #[.int .i64 x.kind, .int .i64 x.n, .string x.s, .slice x.ka x.kn x.kc, .int .i64 x.torn, .int .i64 x.at_] 37) from (hbz.block _ (Array.getElem?_eq_some_iff.1 HBX.out).1 X1.1 X1.2.1 X1.2.2).trans HBX.out); have HG := Lib.hid (show wz.heap[w4.heap.size]? = some (.cells (r8 sure) 45) from (hbz.block _ (Array.getElem?_eq_some_iff.1 HG.out).1 G1.1 G1.2.1 G1.2.2).trans HG.out); have HB := Lib.hid (show Below w.heap.size w wz from lowBut (by repeat (first | with_reducible exact HB.out | with_reducible refine lowDrewT ?_)) hbz Q1.1 Q1.2.1 Q1.2.2)) | (go_at_call 16; have _t := T4; (with_reducible refine (HW3.out _ (by repeat (first | with_reducible exact HS3.out | with_reducible refine Sl.drewT ?_))).mono ?_); rintro e wz ⟨rfl, hsz, hbz⟩; clear _t T4; have HS1 := Lib.hid (show Sl wz p1 d1 m1 s' from Sl.beside (by repeat (first | with_reducible exact HS1.out | with_reducible refine Sl.drewT ?_)) hU'.zs hbz A13); have HS2 := Lib.hid (show Sl wz p2 d2 m2 s' from Sl.beside (by repeat (first | with_reducible exact HS2.out | with_reducible refine Sl.drewT ?_)) hU'.zs hbz A23); have HS3 := Lib.hid hsz; have HBX := Lib.hid (show wz.heap[wr.heap.size]? = some (.cells #[.int .i64 x.kind, .int .i64 x.n, .string x.s, .slice x.ka x.kn x.kc, .int .i64 x.torn, .int .i64 x.at_] 37) from (hbz.block _ (Array.getElem?_eq_some_iff.1 HBX.out).1 X3.1 X3.2.1 X3.2.2).trans HBX.out); have HG := Lib.hid (show wz.heap[w4.heap.size]? = some (.cells (r8 sure) 45) from (hbz.block _ (Array.getElem?_eq_some_iff.1 HG.out).1 G3.1 G3.2.1 G3.2.2).trans HG.out); have HB := Lib.hid (show Below w.heap.size w wz from lowBut (by repeat (first | with_reducible exact HB.out | with_reducible refine lowDrewT ?_)) hbz Q3.1 Q3.2.1 Q3.2.2)))) | fail)
          all_goals
            have k9 := HBX.out
            obtain ⟨v0, _⟩ := three8 k9
            rw [h0] at v0
            have e1 := HS1.out
            have e2 := HS2.out
            have e3 := HS3.out
            have hg9 := HG.out
            have hb9 := HB.out
            have hS9 : Hid (∀ k, k < 8 → (atB s'.bs k).1 = sure k) := Lib.hid (fun k hk => (hS'.out k).trans (hS.out k hk))
            clear HS1 HS2 HS3 HG HB HBX
            go_wp2
            go_roundw
            case rel => exact ⟨j + 1, s', sure, by go_num, by omega, hU', hS9, e1, e2, e3, hg9, hb9⟩
            case measure => simp [intOf]; omega
      · by_cases h2 : x.kind = 2
        · rw [h2] at v0 y0 hW6
          obtain ⟨E1, hU1⟩ := hU.flush
          have hR := flush_read hU
          have hS1 : Hid (∀ k, k < 8 → (atB ({ s with bs := flushP s.bs } : St).bs k).1 = seeB (atB s.bs k)) := Lib.hid (fun k _ => by show (atB (flushP s.bs) k).1 = _; rw [flush_at]; rfl)
          obtain ⟨sn, hsn⟩ : ∃ sn : Nat → ByteArray, (fun k => seeB (atB s.bs k)) = sn := ⟨_, rfl⟩
          rw [hsn] at hR
          have hS2 : Hid (∀ k, k < 8 → (atB ({ s with bs := flushP s.bs } : St).bs k).1 = sn k) := by rw [← hsn]; exact hS1
          clear hS1
          generalize ({ s with bs := flushP s.bs } : St) = s1 at E1 hU1 hR hS2
          replace hsn := Lib.hid hsn
          replace h2 := Lib.hid h2
          replace h0 := Lib.hid h0
          have HF1 := Lib.hid (fun W (h : Sl W p1 d1 m1 s) => flushE h E1)
          have HF2 := Lib.hid (fun W (h : Sl W p2 d2 m2 s) => flushE h E1)
          have HF3 := Lib.hid (fun W (h : Sl W p3 d3 m3 s) => flushE h E1)
          have HRd := Lib.hid (fun W (h : Sl W p3 d3 m3 s1) => (show Calls Try.prog 19 #[.pointer (some ⟨p3, 0, none⟩)] W (RPost (.agg #[.string (sn 0), .string (sn 1), .string (sn 2), .string (sn 3), .string (sn 4), .string (sn 5), .string (sn 6), .string (sn 7)]) W) by have := read8_any h; rwa [hR] at this))
          replace E1 := Lib.hid E1
          replace hR := Lib.hid hR
          go_wp2_with (first
            | (go_at_call 17; (try rw [hW6]); (with_reducible refine (HF1.out _ e1).mono ?_); rintro e w7 ⟨rfl, hs17, b7⟩; have hs27 := e2.beside hU.zs b7 A21; have hs37 := e3.beside hU.zs b7 A31)
            | (go_at_call 17; (with_reducible refine (HF2.out _ hs27).mono ?_); rintro e w8 ⟨rfl, hs28, b8⟩; have hs18 := hs17.beside hU1.zs b8 A12; have hs38 := hs37.beside hU.zs b8 A32)
            | (go_at_call 17; (with_reducible refine (HF3.out _ hs38).mono ?_); rintro e w9 ⟨rfl, hs39, b9⟩; have hs19 := hs18.beside hU1.zs b9 A13; have hs29 := hs28.beside hU1.zs b9 A23)
            | (go_at_call 19; (with_reducible refine (HRd.out _ hs39).mono ?_); rintro e w10 ⟨rfl, b10⟩; have hg7 := (b7.block _ (Array.getElem?_eq_some_iff.1 hg6).1 G1.1 G1.2.1 G1.2.2).trans hg6; have hg8 := (b8.block _ (Array.getElem?_eq_some_iff.1 hg7).1 G2.1 G2.2.1 G2.2.2).trans hg7; have hg9 := (b9.block _ (Array.getElem?_eq_some_iff.1 hg8).1 G3.1 G3.2.1 G3.2.2).trans hg8; have hg10 := (b10.block _ (Array.getElem?_eq_some_iff.1 hg9).1).trans hg9; obtain ⟨r0, r1, r2, r3, r4, r5, r6, r7⟩ := cells8 hg10; obtain ⟨q0, q1, q2, q3, q4, q5, q6, q7⟩ := free8 hg10))
          have hb7 := lowBut hb6 b7 Q1.1 Q1.2.1 Q1.2.2
          have hb8 := lowBut hb7 b8 Q2.1 Q2.2.1 Q2.2.2
          have hb9 := lowBut hb8 b9 Q3.1 Q3.2.1 Q3.2.2
          have hb10 : Below w.heap.size w w10 := hb9.trans (b10.mono hb9.size)
          have hb11 := but8 hb10 (g := w4.heap.size) GW sn
          have hg11 := set8 hg10 sn
          have hs111 := (((((((((hs19.same b10).setOther hU1.zs (g := w4.heap.size) (Ne.symm G1.1) (Ne.symm G1.2.1) (Ne.symm G1.2.2) 0 (.string (sn 0))).setOther hU1.zs (g := w4.heap.size) (Ne.symm G1.1) (Ne.symm G1.2.1) (Ne.symm G1.2.2) 1 (.string (sn 1))).setOther hU1.zs (g := w4.heap.size) (Ne.symm G1.1) (Ne.symm G1.2.1) (Ne.symm G1.2.2) 2 (.string (sn 2))).setOther hU1.zs (g := w4.heap.size) (Ne.symm G1.1) (Ne.symm G1.2.1) (Ne.symm G1.2.2) 3 (.string (sn 3))).setOther hU1.zs (g := w4.heap.size) (Ne.symm G1.1) (Ne.symm G1.2.1) (Ne.symm G1.2.2) 4 (.string (sn 4))).setOther hU1.zs (g := w4.heap.size) (Ne.symm G1.1) (Ne.symm G1.2.1) (Ne.symm G1.2.2) 5 (.string (sn 5))).setOther hU1.zs (g := w4.heap.size) (Ne.symm G1.1) (Ne.symm G1.2.1) (Ne.symm G1.2.2) 6 (.string (sn 6))).setOther hU1.zs (g := w4.heap.size) (Ne.symm G1.1) (Ne.symm G1.2.1) (Ne.symm G1.2.2) 7 (.string (sn 7)))
          have hs211 := (((((((((hs29.same b10).setOther hU1.zs (g := w4.heap.size) (Ne.symm G2.1) (Ne.symm G2.2.1) (Ne.symm G2.2.2) 0 (.string (sn 0))).setOther hU1.zs (g := w4.heap.size) (Ne.symm G2.1) (Ne.symm G2.2.1) (Ne.symm G2.2.2) 1 (.string (sn 1))).setOther hU1.zs (g := w4.heap.size) (Ne.symm G2.1) (Ne.symm G2.2.1) (Ne.symm G2.2.2) 2 (.string (sn 2))).setOther hU1.zs (g := w4.heap.size) (Ne.symm G2.1) (Ne.symm G2.2.1) (Ne.symm G2.2.2) 3 (.string (sn 3))).setOther hU1.zs (g := w4.heap.size) (Ne.symm G2.1) (Ne.symm G2.2.1) (Ne.symm G2.2.2) 4 (.string (sn 4))).setOther hU1.zs (g := w4.heap.size) (Ne.symm G2.1) (Ne.symm G2.2.1) (Ne.symm G2.2.2) 5 (.string (sn 5))).setOther hU1.zs (g := w4.heap.size) (Ne.symm G2.1) (Ne.symm G2.2.1) (Ne.symm G2.2.2) 6 (.string (sn 6))).setOther hU1.zs (g := w4.heap.size) (Ne.symm G2.1) (Ne.symm G2.2.1) (Ne.symm G2.2.2) 7 (.string (sn 7)))
          have hs311 := (((((((((hs39.same b10).setOther hU1.zs (g := w4.heap.size) (Ne.symm G3.1) (Ne.symm G3.2.1) (Ne.symm G3.2.2) 0 (.string (sn 0))).setOther hU1.zs (g := w4.heap.size) (Ne.symm G3.1) (Ne.symm G3.2.1) (Ne.symm G3.2.2) 1 (.string (sn 1))).setOther hU1.zs (g := w4.heap.size) (Ne.symm G3.1) (Ne.symm G3.2.1) (Ne.symm G3.2.2) 2 (.string (sn 2))).setOther hU1.zs (g := w4.heap.size) (Ne.symm G3.1) (Ne.symm G3.2.1) (Ne.symm G3.2.2) 3 (.string (sn 3))).setOther hU1.zs (g := w4.heap.size) (Ne.symm G3.1) (Ne.symm G3.2.1) (Ne.symm G3.2.2) 4 (.string (sn 4))).setOther hU1.zs (g := w4.heap.size) (Ne.symm G3.1) (Ne.symm G3.2.1) (Ne.symm G3.2.2) 5 (.string (sn 5))).setOther hU1.zs (g := w4.heap.size) (Ne.symm G3.1) (Ne.symm G3.2.1) (Ne.symm G3.2.2) 6 (.string (sn 6))).setOther hU1.zs (g := w4.heap.size) (Ne.symm G3.1) (Ne.symm G3.2.1) (Ne.symm G3.2.2) 7 (.string (sn 7)))
          go_roundw
          case rel => exact ⟨j + 1, s1, sn, by go_num, by omega, hU1, hS2, hs111, hs211, hs311, hg11, hb11⟩
          case measure => simp [intOf]; omega
        · have h0z : (x.kind == 0) = false := by simpa using h0
          have h2z : (x.kind == 2) = false := by simpa using h2
          go_wp2
          go_roundw
          case rel => exact ⟨j + 1, s, sure, by go_num, by omega, hU, hS, e1, e2, e3, hg6, hb6⟩
          case measure => simp [intOf]; omega
    · have hcond : ((j : Int) < (len : Int) ∧ ¬ ((j : Int) < 40)) ∨ ¬ ((j : Int) < (len : Int)) := by omega
      obtain ⟨E1, hU1⟩ := hU.flush
      obtain ⟨sn, hsn⟩ : ∃ sn : Nat → ByteArray, (fun k => seeB (atB s.bs k)) = sn := ⟨_, rfl⟩
      have R1 := all_kept hU
      have R2 := all_flushed hU
      have R3 := none_kept hU hS.out
      rw [hsn] at R1 R2
      replace hsn := Lib.hid hsn
      generalize ({ s with bs := flushP s.bs } : St) = s1 at E1 hU1 R2
      have za : (failS s (looseL s.bs) (-1) 0).zs = [] := by unfold failS; rw [if_neg (by rw [hU.down]; decide)]; exact hU.zs
      have zb : (failS s1 [] 3 1).zs = [] := by unfold failS; rw [if_neg (by rw [hU1.down]; decide)]; exact hU1.zs
      have zc : (failS s [] (-1) 5).zs = [] := by unfold failS; rw [if_neg (by rw [hU.down]; decide)]; exact hU.zs
      have hwf := looseL_wf (bs := s.bs) (by rw [hU.len]; decide)
      have HLo := loose_any hs1
      obtain ⟨sa, hsa⟩ : ∃ sa, failS s (looseL s.bs) (-1) 0 = sa := ⟨_, rfl⟩
      obtain ⟨sb, hsb⟩ : ∃ sb, failS s1 [] 3 1 = sb := ⟨_, rfl⟩
      obtain ⟨sc, hsc⟩ : ∃ sc, failS s [] (-1) 5 = sc := ⟨_, rfl⟩
      rw [hsa] at R1 za
      rw [hsb] at R2 zb
      rw [hsc] at R3 zc
      obtain ⟨ta, hta⟩ : ∃ ta, wakeS sa = ta := ⟨_, rfl⟩
      obtain ⟨tb, htb⟩ : ∃ tb, wakeS sb = tb := ⟨_, rfl⟩
      obtain ⟨tc, htc⟩ : ∃ tc, wakeS sc = tc := ⟨_, rfl⟩
      have za' : ta.zs = [] := by rw [← hta]; rfl
      have zb' : tb.zs = [] := by rw [← htb]; rfl
      rw [hta] at R1
      rw [htb] at R2
      rw [htc] at R3
      replace hsa := Lib.hid hsa
      replace hsb := Lib.hid hsb
      replace hsc := Lib.hid hsc
      replace hta := Lib.hid hta
      replace htb := Lib.hid htb
      replace htc := Lib.hid htc
      replace E1 := Lib.hid E1
      have RA := Lib.hid (fun W (h : Sl W p1 d1 m1 ta) => (show Calls Try.prog 19 #[.pointer (some ⟨p1, 0, none⟩)] W (RPost (.agg #[.string (sn 0), .string (sn 1), .string (sn 2), .string (sn 3), .string (sn 4), .string (sn 5), .string (sn 6), .string (sn 7)]) W) by have := read8_any h; rwa [R1] at this))
      have RB := Lib.hid (fun W (h : Sl W p2 d2 m2 tb) => (show Calls Try.prog 19 #[.pointer (some ⟨p2, 0, none⟩)] W (RPost (.agg #[.string (sn 0), .string (sn 1), .string (sn 2), .string (sn 3), .string (sn 4), .string (sn 5), .string (sn 6), .string (sn 7)]) W) by have := read8_any h; rwa [R2] at this))
      have RC := Lib.hid (fun W (h : Sl W p3 d3 m3 tc) => (show Calls Try.prog 19 #[.pointer (some ⟨p3, 0, none⟩)] W (RPost (.agg #[.string (sure 0), .string (sure 1), .string (sure 2), .string (sure 3), .string (sure 4), .string (sure 5), .string (sure 6), .string (sure 7)]) W) by have := read8_any h; rwa [R3] at this))
      replace R1 := Lib.hid R1
      replace R2 := Lib.hid R2
      replace R3 := Lib.hid R3
      rcases hcond with ⟨hjlz, hj40⟩ | hjlz
      all_goals
        go_wp2_with (first
          | (go_at_call 18; (with_reducible refine HLo.mono ?_); intro e w11 hlp; obtain ⟨a9, n9, c9, rfl, kr, b11⟩ := LPost.row hlp hwf l1.1 l1.2.1 l1.2.2; have hs11 := hs1.same b11)
          | (go_at_call 20; (with_reducible refine (failE hs11 kr (by decide) hsa.out).mono ?_); rintro e w12 ⟨rfl, hs112, b12⟩; have hs212 := (hs2.same b11).beside hU.zs b12 A21; have hs312 := (hs3.same b11).beside hU.zs b12 A31)
          | (go_at_call 17; (with_reducible refine (flushE hs212 E1.out).mono ?_); rintro e w13 ⟨rfl, hs213, b13⟩; have hs113 := hs112.beside za b13 A12; have hs313 := hs312.beside hU.zs b13 A32)
          | (go_at_call 20; (with_reducible refine (failE hs213 (KRow.nil w13 p2 d2 m2) (by decide) hsb.out).mono ?_); rintro e w14 ⟨rfl, hs214, b14⟩; have hs114 := hs113.beside za b14 A12; have hs314 := hs313.beside hU.zs b14 A32)
          | (go_at_call 20; (with_reducible refine (failE hs314 (KRow.nil w14 p3 d3 m3) (by decide) hsc.out).mono ?_); rintro e w15 ⟨rfl, hs315, b15⟩; have hs115 := hs114.beside za b15 A13; have hs215 := hs214.beside zb b15 A23)
          | (go_at_call 21; (with_reducible refine (wakeE hs115 hta.out).mono ?_); rintro e w16 ⟨rfl, hs116, b16⟩; have hs216 := hs215.beside zb b16 A21; have hs316 := hs315.beside zc b16 A31)
          | (go_at_call 21; (with_reducible refine (wakeE hs216 htb.out).mono ?_); rintro e w17 ⟨rfl, hs217, b17⟩; have hs117 := hs116.beside za' b17 A12; have hs317 := hs316.beside zc b17 A32)
          | (go_at_call 21; (with_reducible refine (wakeE hs317 htc.out).mono ?_); rintro e w18 ⟨rfl, hs318, b18⟩; have hs118 := hs117.beside za' b18 A13; have hs218 := hs217.beside zb' b18 A23))
        have hg11 := (b11.block _ ug).trans hg
        have hg12 := (b12.block _ (Array.getElem?_eq_some_iff.1 hg11).1 G1.1 G1.2.1 G1.2.2).trans hg11
        have hg13 := (b13.block _ (Array.getElem?_eq_some_iff.1 hg12).1 G2.1 G2.2.1 G2.2.2).trans hg12
        have hg14 := (b14.block _ (Array.getElem?_eq_some_iff.1 hg13).1 G2.1 G2.2.1 G2.2.2).trans hg13
        have hg15 := (b15.block _ (Array.getElem?_eq_some_iff.1 hg14).1 G3.1 G3.2.1 G3.2.2).trans hg14
        have hg16 := (b16.block _ (Array.getElem?_eq_some_iff.1 hg15).1 G1.1 G1.2.1 G1.2.2).trans hg15
        have hg17 := (b17.block _ (Array.getElem?_eq_some_iff.1 hg16).1 G2.1 G2.2.1 G2.2.2).trans hg16
        have hg18 := (b18.block _ (Array.getElem?_eq_some_iff.1 hg17).1 G3.1 G3.2.1 G3.2.2).trans hg17
        have hb11 : Below w.heap.size w w11 := hb.trans (b11.mono hb.size)
        have hb12 := lowBut hb11 b12 Q1.1 Q1.2.1 Q1.2.2
        have hb13 := lowBut hb12 b13 Q2.1 Q2.2.1 Q2.2.2
        have hb14 := lowBut hb13 b14 Q2.1 Q2.2.1 Q2.2.2
        have hb15 := lowBut hb14 b15 Q3.1 Q3.2.1 Q3.2.2
        have hb16 := lowBut hb15 b16 Q1.1 Q1.2.1 Q1.2.2
        have hb17 := lowBut hb16 b17 Q2.1 Q2.2.1 Q2.2.2
        have hb18 := lowBut hb17 b18 Q3.1 Q3.2.1 Q3.2.2
        have ug18 := (Array.getElem?_eq_some_iff.1 hg18).1
        have KG := Lib.hid (fun W (hB : Below w18.heap.size w18 W) => cells8 ((hB.block _ ug18).trans hg18))
        have NE1 := fun W => eqlArr8 sn W
        have NE2 := fun W => eqlArr8 sure W
        unfold r8 at NE1 NE2
        clear hg11 hg12 hg13 hg14 hg15 hg16 hg17 hb11 hb12 hb13 hb14 hb15 hb16 hb17 hs11 hs112 hs212 hs312 hs113 hs213 hs313 hs114 hs214 hs314 hs115 hs215 hs315 hs116 hs216 hs316 hs117 hs217 hs317 b11 b12 b13 b14 b15 b16 b17 b18
        obtain ⟨ι, F, hF, hall⟩ := family w18
        obtain ⟨n0, h0⟩ := hall _ (Below.refl w18.heap.size w18).drew
        haveI : Nonempty ι := ⟨n0⟩
        have hself : ∀ n, ∃ m, F n = F m := fun n => ⟨n, rfl⟩
        have x0 := fun n => (KG.out (F n) (hF n)).1
        have x1 := fun n => (KG.out (F n) (hF n)).2.1
        have x2 := fun n => (KG.out (F n) (hF n)).2.2.1
        have x3 := fun n => (KG.out (F n) (hF n)).2.2.2.1
        have x4 := fun n => (KG.out (F n) (hF n)).2.2.2.2.1
        have x5 := fun n => (KG.out (F n) (hF n)).2.2.2.2.2.1
        have x6 := fun n => (KG.out (F n) (hF n)).2.2.2.2.2.2.1
        have x7 := fun n => (KG.out (F n) (hF n)).2.2.2.2.2.2.2
        have hF' := Lib.hid hF
        have hall' := Lib.hid hall
        clear hF hall
        refine wp_region_clsV F (by kernel_rfl) (by kernel_rfl) n0 h0 ?_
        clear h0
        repeat (go_big_quiet_step ((first
          | (go_at_call 19; (with_reducible refine (RA.out _ (hs118.same (hF'.out _))).mono ?_); rintro e wz ⟨rfl, hbz⟩; obtain ⟨nz, hz⟩ := hall'.out wz (below_nextS (hF'.out _) hbz); exact ⟨rfl, nz, hz.symm⟩)
          | (go_at_call 19; (with_reducible refine (RB.out _ (hs218.same (hF'.out _))).mono ?_); rintro e wz ⟨rfl, hbz⟩; obtain ⟨nz, hz⟩ := hall'.out wz (below_nextS (hF'.out _) hbz); exact ⟨rfl, nz, hz.symm⟩)
          | (go_at_call 19; (with_reducible refine (RC.out _ (hs318.same (hF'.out _))).mono ?_); rintro e wz ⟨rfl, hbz⟩; obtain ⟨nz, hz⟩ := hall'.out wz (below_nextS (hF'.out _) hbz); exact ⟨rfl, nz, hz.symm⟩))))
        refine wpQuiet_nil ?_
        intro wq hw'
        obtain ⟨nq, hw''⟩ := hw'
        subst hw''
        have hbq := hF'.out nq
        clear x0 x1 x2 x3 x4 x5 x6 x7
        generalize F nq = w19 at hbq
        clear hself hF' hall'
        go_wp2
        go_ret
        exact ⟨rfl, hb18.trans (hbq.mono hb18.size)⟩
end Go.Proofs.Ythcebcpippbhfaa
