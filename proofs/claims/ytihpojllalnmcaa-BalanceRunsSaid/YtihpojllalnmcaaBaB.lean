/-
  CONTRACTS: balance.best and balance.only at their types: the first one of the greatest measure, and those that may be.
-/
import Derived.Test.YtihpojllalnmcaaBaA
import Derived.Test.YtihpojllalnmcaaChT
namespace Go.Proofs.Ytihpojllalnmcaa
open Go.RowKit Go.Shelf

/-- A part: a shard, where its pairs lie, its load. -/
structure Pt where
  s : Sd
  a : Option Addr
  n : Nat
  c : Nat
  ps : List Sp
  v : Int
instance : Inhabited Pt := ⟨⟨(0, 0, 0, 0), none, 0, 0, [], 0⟩⟩
def encPt (x : Pt) : List Value := [.int .i64 x.s.1, .int .i64 x.s.2.1, .int .i64 x.s.2.2.1, .int .i64 x.s.2.2.2, .slice x.a x.n x.c, .int .i64 x.v]
theorem encPt_len (x : Pt) : (encPt x).length = 6 := rfl
def zeroPt : Pt := ⟨(0, 0, 0, 0), none, 0, 0, [], 0⟩
/-- Two parts side by side, and where they lie. -/
structure Wn where
  a : Option Addr
  c : Nat
  x : Pt
  y : Pt
instance : Inhabited Wn := ⟨⟨none, 0, default, default⟩⟩
def encWn (x : Wn) : List Value := [.slice x.a 2 x.c]
theorem encWn_len (x : Wn) : (encWn x).length = 1 := rfl
theorem spC_len (x : Sp) : (spC x).length = 2 := rfl
/-- A measure that a closure gives. -/
def MeasG {α : Type} (g : Nat) (lb : Array Value) (val : α → Value) (m : α → Int) (l : List α) (w : World) : Prop :=
  ∀ (W : World) (x : α), Below w.heap.size w W → x ∈ l → Calls Try.prog g (#[val x] ++ lb) W (Gives W (.int .i64 (m x)))
def MayG {α : Type} (g : Nat) (lb : Array Value) (val : α → Value) (p : α → Bool) (l : List α) (w : World) : Prop :=
  ∀ (W : World) (x : α), Below w.heap.size w W → x ∈ l → Calls Try.prog g (#[val x] ++ lb) W (Gives W (.bool (p x)))
theorem best_none {α : Type} {m : α → Int} {l : List α} (h : bestF m l = none) : l = [] := by
  cases l with
  | nil => rfl
  | cons x t => have := best_isSome m (x :: t) (by simp); rw [h] at this; cases this
theorem mem_bang {α : Type} [Inhabited α] {l : List α} {k : Nat} (h : k < l.length) : l[k]! ∈ l := by rw [getElem!_pos l k h]; exact List.getElem_mem h
theorem best_more {α : Type} [Inhabited α] (m : α → Int) {l : List α} {k : Nat} (h : k < l.length) : bestF m (l.take (k + 1)) = stepBa m (bestF m (l.take k)) l[k]! := by
  rw [take_moreG h, best_snoc]
theorem filt_more {α : Type} [Inhabited α] (p : α → Bool) {l : List α} {k : Nat} (h : k < l.length) : (l.take (k + 1)).filter p = (l.take k).filter p ++ (if p l[k]! = true then [l[k]!] else []) := by
  rw [take_moreG h, List.filter_append, List.filter_cons]
  split <;> rfl
theorem filt_len {α : Type} (p : α → Bool) (l : List α) (k : Nat) : ((l.take k).filter p).length ≤ k := Nat.le_trans (List.length_filter_le _ _) (List.length_take_le _ _)
theorem set6B {W : World} {b : Nat} {x y z u v s x' y' z' u' v' s' : Value} {t : TypeId} (h : W.heap[b]? = some (.cells #[x, y, z, u, v, s] t)) :
    ((((((W.setCell ⟨b, 0, none⟩ x').setCell ⟨b, 1, none⟩ y').setCell ⟨b, 2, none⟩ z').setCell ⟨b, 3, none⟩ u').setCell ⟨b, 4, none⟩ v').setCell ⟨b, 5, none⟩ s').heap[b]? = some (.cells #[x', y', z', u', v', s'] t) := by
  have h0 := heap_setCell_same _ _ 0 _ _ x' h
  have h1 := heap_setCell_same _ _ 1 _ _ y' h0
  have h2 := heap_setCell_same _ _ 2 _ _ z' h1
  have h3 := heap_setCell_same _ _ 3 _ _ u' h2
  have h4 := heap_setCell_same _ _ 4 _ _ v' h3
  exact heap_setCell_same _ _ 5 _ _ s' h4
theorem set2B {W : World} {b : Nat} {x y x' y' : Value} {t : TypeId} (h : W.heap[b]? = some (.cells #[x, y] t)) :
    ((W.setCell ⟨b, 0, none⟩ x').setCell ⟨b, 1, none⟩ y').heap[b]? = some (.cells #[x', y'] t) := by
  have h0 := heap_setCell_same _ _ 0 _ _ x' h
  exact heap_setCell_same _ _ 1 _ _ y' h0
theorem cells6B {W : World} {b : Nat} {x y z u v s : Value} {t : TypeId} (h : W.heap[b]? = some (.cells #[x, y, z, u, v, s] t)) :
    (W.cell? ⟨b, 0, none⟩ = some x ∧ W.cell? ⟨b, 1, none⟩ = some y ∧ W.cell? ⟨b, 2, none⟩ = some z ∧ W.cell? ⟨b, 3, none⟩ = some u ∧ W.cell? ⟨b, 4, none⟩ = some v ∧ W.cell? ⟨b, 5, none⟩ = some s) ∧ ∀ i, W.frozen? ⟨b, i, none⟩ = false :=
  ⟨⟨cell_of_row _ _ 0 _ _ _ h, cell_of_row _ _ 1 _ _ _ h, cell_of_row _ _ 2 _ _ _ h, cell_of_row _ _ 3 _ _ _ h, cell_of_row _ _ 4 _ _ _ h, cell_of_row _ _ 5 _ _ _ h⟩, fun _ => frozen_of_row _ _ _ _ _ h⟩
theorem cells2B {W : World} {b : Nat} {x y : Value} {t : TypeId} (h : W.heap[b]? = some (.cells #[x, y] t)) :
    (W.cell? ⟨b, 0, none⟩ = some x ∧ W.cell? ⟨b, 1, none⟩ = some y) ∧ ∀ i, W.frozen? ⟨b, i, none⟩ = false :=
  ⟨⟨cell_of_row _ _ 0 _ _ _ h, cell_of_row _ _ 1 _ _ _ h⟩, fun _ => frozen_of_row _ _ _ _ _ h⟩
set_option maxRecDepth 100000 in
set_option maxHeartbeats 4000000 in
theorem bestPart_any (m : Pt → Int) (g : Nat) (lb : Array Value) (eg : ∀ args w, (callFunc g args).run Try.prog w = .ok (.enter g args) w) (a : Option Addr) (n c : Nat) (l : List Pt) (w : World) (h : RArg encPt 6 w a n c l)
    (hm : MeasG g lb (fun x => .agg #[.int .i64 x.s.1, .int .i64 x.s.2.1, .int .i64 x.s.2.2.1, .int .i64 x.s.2.2.2, .slice x.a x.n x.c, .int .i64 x.v]) m l w) :
    Calls Try.prog 63 #[.slice a n c, .func (.func g) #[] lb] w fun e w' => e = .returned (.tuple #[.agg #[.int .i64 (((bestF m l)).getD zeroPt).s.1, .int .i64 (((bestF m l)).getD zeroPt).s.2.1, .int .i64 (((bestF m l)).getD zeroPt).s.2.2.1, .int .i64 (((bestF m l)).getD zeroPt).s.2.2.2, .slice (((bestF m l)).getD zeroPt).a (((bestF m l)).getD zeroPt).n (((bestF m l)).getD zeroPt).c, .int .i64 (((bestF m l)).getD zeroPt).v], .bool (bestF m l).isSome]) ∧ Below w.heap.size w w' := by
  obtain ⟨hn, hz, hc1, hc2, hp⟩ := h
  have hnz : (n : Int) ≤ 9223372036854775807 := by omega
  replace hn := Lib.hid hn
  replace hp := Lib.hid hp
  replace hm := Lib.hid hm
  obtain ⟨W1, hW1⟩ : ∃ W1, w.alloc (.cells #[.int .i64 0, .int .i64 0, .int .i64 0, .int .i64 0, .slice none 0 0, .int .i64 0] 101) = W1 := ⟨_, rfl⟩
  have bw : Below w.heap.size w W1 := by rw [← hW1]; exact (Below.refl _ _).alloc (Nat.le_refl _) _
  have HB0 := Lib.hid (show W1.heap[w.heap.size]? = some (.cells #[.int .i64 (zeroPt : Pt).s.1, .int .i64 (zeroPt : Pt).s.2.1, .int .i64 (zeroPt : Pt).s.2.2.1, .int .i64 (zeroPt : Pt).s.2.2.2, .slice (zeroPt : Pt).a (zeroPt : Pt).n (zeroPt : Pt).c, .int .i64 (zeroPt : Pt).v] 101) by rw [← hW1]; exact heap_alloc_new _ _)
  go_enter Try.func63, Try.ntmps63
  go_wp2_with fail
  replace hW1 := Lib.hid hW1
  go_loopw [5, 6, 12] (fun s mo i wr => ∃ (k : Nat) (o : Option Pt) (q : Pt) (z : Int) (b : Bool), i = .int .i64 (k : Int) ∧ s = .bool b ∧ mo = .int .i64 z ∧ k ≤ n ∧ Hid (o = bestF m (l.take k) ∧ q = o.getD zeroPt ∧ b = o.isSome ∧ (∀ x, o = some x → z = m x)) ∧ Hid (wr.heap[w.heap.size]? = some (.cells #[.int .i64 q.s.1, .int .i64 q.s.2.1, .int .i64 q.s.2.2.1, .int .i64 q.s.2.2.2, .slice q.a q.n q.c, .int .i64 q.v] 101)) ∧ Below w.heap.size w wr)
    (fun _ _ i _ => n - (intOf i).toNat)
  case atStart => exact ⟨0, none, zeroPt, 0, false, rfl, rfl, rfl, by omega, Lib.hid ⟨rfl, rfl, rfl, fun x e => by cases e⟩, HB0, bw⟩
  case round =>
    obtain ⟨k, o, q, z, b, rfl, rfl, rfl, hk, HO, HQ, hbl⟩ := hrel
    by_cases hlt : k < n
    · have hkl : k < l.length := by rw [← hn.out]; exact hlt
      have hkz : (k : Int) < (n : Int) := by omega
      have hmem := mem_bang hkl
      have hmore := best_more m hkl
      obtain ⟨bb, off, e, hb9, hcs⟩ := (hp.out.below hbl) k hkl
      subst e
      obtain ⟨y, hy⟩ : ∃ y, l[k]! = y := ⟨_, rfl⟩
      rw [hy] at hmem hmore hcs
      clear hy
      have hmy := fun W (hb : Below w.heap.size w W) => hm.out W y hb hmem
      clear hmem
      obtain ⟨mz, hmz⟩ : ∃ mz, m y = mz := ⟨_, rfl⟩
      dsimp only at hmy
      rw [hmz] at hmy
      obtain ⟨⟨i1, i2, i3, i4⟩, a9, n9, c9, ps9, v9⟩ := y
      have c0 := hcs 0 (.int .i64 i1) rfl
      rw [show off + k * 6 + 0 = off + k * 6 by omega] at c0
      have c1 := hcs 1 (.int .i64 i2) rfl
      have c2 := hcs 2 (.int .i64 i3) rfl
      have c3 := hcs 3 (.int .i64 i4) rfl
      have c4 := hcs 4 (.slice a9 n9 c9) rfl
      have c5 := hcs 5 (.int .i64 v9) rfl
      clear hcs
      obtain ⟨W4, hW4⟩ : ∃ W4, wr.alloc (.cells #[.int .i64 i1, .int .i64 i2, .int .i64 i3, .int .i64 i4, .slice a9 n9 c9, .int .i64 v9] 101) = W4 := ⟨_, rfl⟩
      have b4 : Below wr.heap.size wr W4 := by rw [← hW4]; exact (Below.refl _ _).alloc (Nat.le_refl _) _
      have g4 : wr.heap.size < W4.heap.size := by rw [← hW4]; simp
      have hwr : w.heap.size < wr.heap.size := heap_lt HQ.out
      have hr4 : W4.heap[wr.heap.size]? = some (.cells #[.int .i64 i1, .int .i64 i2, .int .i64 i3, .int .i64 i4, .slice a9 n9 c9, .int .i64 v9] 101) := by rw [← hW4]; exact heap_alloc_new _ _
      have HM := Lib.hid (fun W (hb : Below w.heap.size w W) => hmy W hb)
      have X4 := Lib.hid (fun W (hb : Below W4.heap.size W4 W) => (cells6B ((hb.block _ g4).trans hr4)).1)
      have Q4 := Lib.hid (fun W (hb : Below W4.heap.size W4 W) => (hb.block _ (Nat.lt_trans hwr g4)).trans ((b4.block _ hwr).trans HQ.out))
      have hbl4 := below_next hbl b4
      obtain ⟨x0, x1, x2, x3, x4, x5⟩ := X4.out _ (Below.refl _ _)
      clear hmy hr4
      have ho := HO.out.1
      by_cases hk0 : k = 0
      · have HN := Lib.hid (show (some ⟨⟨i1, i2, i3, i4⟩, a9, n9, c9, ps9, v9⟩ : Option Pt) = bestF m (l.take (k + 1)) ∧ (⟨⟨i1, i2, i3, i4⟩, a9, n9, c9, ps9, v9⟩ : Pt) = (some ⟨⟨i1, i2, i3, i4⟩, a9, n9, c9, ps9, v9⟩ : Option Pt).getD zeroPt ∧ true = (some ⟨⟨i1, i2, i3, i4⟩, a9, n9, c9, ps9, v9⟩ : Option Pt).isSome ∧ (∀ x, (some ⟨⟨i1, i2, i3, i4⟩, a9, n9, c9, ps9, v9⟩ : Option Pt) = some x → mz = m x) from ⟨by rw [hmore, hk0]; rfl, rfl, rfl, fun x e => by cases e; exact hmz.symm⟩)
        have e0 : ((k : Int) == 0) = true := by rw [hk0]; rfl
        have HK0 := Lib.hid hk0
        clear hmore ho hmz hk0
        go_wp2_with (go_at_fn g; (with_reducible refine (HM.out _ hbl4).mono ?_); rintro e w6 ⟨rfl, hb6⟩; obtain ⟨y0, y1, y2, y3, y4, y5⟩ := X4.out _ hb6; have HQ6 := Lib.hid (Q4.out _ hb6); obtain ⟨⟨z0, z1, z2, z3, z4, z5⟩, fz⟩ := cells6B HQ6.out; have f0 := fz 0; have f1 := fz 1; have f2 := fz 2; have f3 := fz 3; have f4 := fz 4; have f5 := fz 5; clear fz; have hb46 := below_next hbl4 hb6)
        go_roundw
        case rel => exact ⟨k + 1, some ⟨⟨i1, i2, i3, i4⟩, a9, n9, c9, ps9, v9⟩, ⟨⟨i1, i2, i3, i4⟩, a9, n9, c9, ps9, v9⟩, mz, true, by go_num, rfl, rfl, by omega, HN, Lib.hid (set6B HQ6.out), (by repeat (first | with_reducible exact hb46 | with_reducible refine Below.alloc ?_ (by first | exact Nat.le_refl _ | omega | (simp; omega)) _ | with_reducible refine Below.setCell ?_ (by first | with_reducible exact Nat.le_refl _ | (dsimp only; omega)) _))⟩
        case measure => have hk0 := HK0.out; simp [intOf]; omega
      · have e0 : ((k : Int) == 0) = false := by simpa using hk0
        have hsome : o.isSome = true := by rw [ho]; exact best_isSome m _ (by intro e; have := congrArg List.length e; rw [List.length_take, Nat.min_eq_left (by omega)] at this; exact hk0 this)
        obtain ⟨x, hx⟩ := Option.isSome_iff_exists.1 hsome
        have hzx := HO.out.2.2.2 x hx
        have hst : bestF m (l.take (k + 1)) = if m x < mz then some ⟨⟨i1, i2, i3, i4⟩, a9, n9, c9, ps9, v9⟩ else some x := by rw [hmore, ← ho, hx, ← hmz]; rfl
        rw [← hzx] at hst
        by_cases hgt : z < mz
        · rw [if_pos hgt] at hst
          have HN := Lib.hid (show (some ⟨⟨i1, i2, i3, i4⟩, a9, n9, c9, ps9, v9⟩ : Option Pt) = bestF m (l.take (k + 1)) ∧ (⟨⟨i1, i2, i3, i4⟩, a9, n9, c9, ps9, v9⟩ : Pt) = (some ⟨⟨i1, i2, i3, i4⟩, a9, n9, c9, ps9, v9⟩ : Option Pt).getD zeroPt ∧ true = (some ⟨⟨i1, i2, i3, i4⟩, a9, n9, c9, ps9, v9⟩ : Option Pt).isSome ∧ (∀ x, (some ⟨⟨i1, i2, i3, i4⟩, a9, n9, c9, ps9, v9⟩ : Option Pt) = some x → mz = m x) from ⟨hst.symm, rfl, rfl, fun x e => by cases e; exact hmz.symm⟩)
          clear hmore ho hmz hst hsome hx hzx hk0
          go_wp2_with (go_at_fn g; (with_reducible refine (HM.out _ hbl4).mono ?_); rintro e w6 ⟨rfl, hb6⟩; obtain ⟨y0, y1, y2, y3, y4, y5⟩ := X4.out _ hb6; have HQ6 := Lib.hid (Q4.out _ hb6); obtain ⟨⟨z0, z1, z2, z3, z4, z5⟩, fz⟩ := cells6B HQ6.out; have f0 := fz 0; have f1 := fz 1; have f2 := fz 2; have f3 := fz 3; have f4 := fz 4; have f5 := fz 5; clear fz; have hb46 := below_next hbl4 hb6)
          go_roundw
          case rel => exact ⟨k + 1, some ⟨⟨i1, i2, i3, i4⟩, a9, n9, c9, ps9, v9⟩, ⟨⟨i1, i2, i3, i4⟩, a9, n9, c9, ps9, v9⟩, mz, true, by go_num, rfl, rfl, by omega, HN, Lib.hid (set6B HQ6.out), (by repeat (first | with_reducible exact hb46 | with_reducible refine Below.alloc ?_ (by first | exact Nat.le_refl _ | omega | (simp; omega)) _ | with_reducible refine Below.setCell ?_ (by first | with_reducible exact Nat.le_refl _ | (dsimp only; omega)) _))⟩
          case measure => simp [intOf]; omega
        · rw [if_neg hgt, ← hx] at hst
          have HN := Lib.hid (show o = bestF m (l.take (k + 1)) ∧ q = o.getD zeroPt ∧ b = o.isSome ∧ (∀ x, o = some x → z = m x) from ⟨hst.symm, HO.out.2⟩)
          clear hmore ho hmz hst hsome hx hzx hk0
          go_wp2_with (go_at_fn g; (with_reducible refine (HM.out _ hbl4).mono ?_); rintro e w6 ⟨rfl, hb6⟩; obtain ⟨y0, y1, y2, y3, y4, y5⟩ := X4.out _ hb6; have HQ6 := Lib.hid (Q4.out _ hb6); obtain ⟨⟨z0, z1, z2, z3, z4, z5⟩, fz⟩ := cells6B HQ6.out; have f0 := fz 0; have f1 := fz 1; have f2 := fz 2; have f3 := fz 3; have f4 := fz 4; have f5 := fz 5; clear fz; have hb46 := below_next hbl4 hb6)
          go_roundw
          case rel => exact ⟨k + 1, o, q, z, b, by go_num, rfl, rfl, by omega, HN, HQ6, hb46⟩
          case measure => simp [intOf]; omega
    · have hkz : ¬ (k : Int) < (n : Int) := by omega
      have hfin := HO.out
      rw [List.take_of_length_le (by rw [← hn.out]; omega)] at hfin
      have HF := Lib.hid (show q = (bestF m l).getD zeroPt ∧ b = (bestF m l).isSome from ⟨by rw [hfin.2.1, hfin.1], by rw [hfin.2.2.1, hfin.1]⟩)
      clear hfin
      obtain ⟨⟨z0, z1, z2, z3, z4, z5⟩, fz⟩ := cells6B HQ.out
      have f0 := fz 0
      have f1 := fz 1
      have f2 := fz 2
      have f3 := fz 3
      have f4 := fz 4
      have f5 := fz 5
      clear fz
      have hwr : w.heap.size < wr.heap.size := heap_lt HQ.out
      go_wp2_with fail
      exact bodyPost_ret (v := .tuple #[.agg #[.int .i64 q.s.1, .int .i64 q.s.2.1, .int .i64 q.s.2.2.1, .int .i64 q.s.2.2.2, .slice q.a q.n q.c, .int .i64 q.v], .bool b]) (by simp [results, Try.results63, go_sem, z0, z1, z2, z3, z4, z5]) rfl ⟨by rw [HF.out.1, HF.out.2], (by repeat (first | with_reducible exact hbl | with_reducible refine Below.alloc ?_ (by first | exact Nat.le_refl _ | omega | (simp; omega)) _ | with_reducible refine Below.setCell ?_ (by first | with_reducible exact Nat.le_refl _ | (dsimp only; omega)) _))⟩
set_option maxRecDepth 100000 in
set_option maxHeartbeats 4000000 in
theorem bestCut_any (m : Sp → Int) (g : Nat) (lb : Array Value) (eg : ∀ args w, (callFunc g args).run Try.prog w = .ok (.enter g args) w) (a : Option Addr) (n c : Nat) (l : List Sp) (w : World) (h : RArg spC 2 w a n c l)
    (hm : MeasG g lb (fun x => .agg #[.int .i64 x.1, .int .i64 x.2]) m l w) :
    Calls Try.prog 65 #[.slice a n c, .func (.func g) #[] lb] w fun e w' => e = .returned (.tuple #[.agg #[.int .i64 (((bestF m l)).getD (0, 0)).1, .int .i64 (((bestF m l)).getD (0, 0)).2], .bool (bestF m l).isSome]) ∧ Below w.heap.size w w' := by
  obtain ⟨hn, hz, hc1, hc2, hp⟩ := h
  have hnz : (n : Int) ≤ 9223372036854775807 := by omega
  replace hn := Lib.hid hn
  replace hp := Lib.hid hp
  replace hm := Lib.hid hm
  obtain ⟨W1, hW1⟩ : ∃ W1, w.alloc (.cells #[.int .i64 0, .int .i64 0] 120) = W1 := ⟨_, rfl⟩
  have bw : Below w.heap.size w W1 := by rw [← hW1]; exact (Below.refl _ _).alloc (Nat.le_refl _) _
  have HB0 := Lib.hid (show W1.heap[w.heap.size]? = some (.cells #[.int .i64 ((0, 0) : Sp).1, .int .i64 ((0, 0) : Sp).2] 120) by rw [← hW1]; exact heap_alloc_new _ _)
  go_enter Try.func65, Try.ntmps65
  go_wp2_with fail
  replace hW1 := Lib.hid hW1
  go_loopw [5, 6, 12] (fun s mo i wr => ∃ (k : Nat) (o : Option Sp) (q : Sp) (z : Int) (b : Bool), i = .int .i64 (k : Int) ∧ s = .bool b ∧ mo = .int .i64 z ∧ k ≤ n ∧ Hid (o = bestF m (l.take k) ∧ q = o.getD (0, 0) ∧ b = o.isSome ∧ (∀ x, o = some x → z = m x)) ∧ Hid (wr.heap[w.heap.size]? = some (.cells #[.int .i64 q.1, .int .i64 q.2] 120)) ∧ Below w.heap.size w wr)
    (fun _ _ i _ => n - (intOf i).toNat)
  case atStart => exact ⟨0, none, (0, 0), 0, false, rfl, rfl, rfl, by omega, Lib.hid ⟨rfl, rfl, rfl, fun x e => by cases e⟩, HB0, bw⟩
  case round =>
    obtain ⟨k, o, q, z, b, rfl, rfl, rfl, hk, HO, HQ, hbl⟩ := hrel
    by_cases hlt : k < n
    · have hkl : k < l.length := by rw [← hn.out]; exact hlt
      have hkz : (k : Int) < (n : Int) := by omega
      have hmem := mem_bang hkl
      have hmore := best_more m hkl
      obtain ⟨bb, off, e, hb9, hcs⟩ := (hp.out.below hbl) k hkl
      subst e
      obtain ⟨y, hy⟩ : ∃ y, l[k]! = y := ⟨_, rfl⟩
      rw [hy] at hmem hmore hcs
      clear hy
      have hmy := fun W (hb : Below w.heap.size w W) => hm.out W y hb hmem
      clear hmem
      obtain ⟨mz, hmz⟩ : ∃ mz, m y = mz := ⟨_, rfl⟩
      dsimp only at hmy
      rw [hmz] at hmy
      obtain ⟨i1, i2⟩ := y
      have c0 := hcs 0 (.int .i64 i1) rfl
      rw [show off + k * 2 + 0 = off + k * 2 by omega] at c0
      have c1 := hcs 1 (.int .i64 i2) rfl
      clear hcs
      obtain ⟨W4, hW4⟩ : ∃ W4, wr.alloc (.cells #[.int .i64 i1, .int .i64 i2] 120) = W4 := ⟨_, rfl⟩
      have b4 : Below wr.heap.size wr W4 := by rw [← hW4]; exact (Below.refl _ _).alloc (Nat.le_refl _) _
      have g4 : wr.heap.size < W4.heap.size := by rw [← hW4]; simp
      have hwr : w.heap.size < wr.heap.size := heap_lt HQ.out
      have hr4 : W4.heap[wr.heap.size]? = some (.cells #[.int .i64 i1, .int .i64 i2] 120) := by rw [← hW4]; exact heap_alloc_new _ _
      have HM := Lib.hid (fun W (hb : Below w.heap.size w W) => hmy W hb)
      have X4 := Lib.hid (fun W (hb : Below W4.heap.size W4 W) => (cells2B ((hb.block _ g4).trans hr4)).1)
      have Q4 := Lib.hid (fun W (hb : Below W4.heap.size W4 W) => (hb.block _ (Nat.lt_trans hwr g4)).trans ((b4.block _ hwr).trans HQ.out))
      have hbl4 := below_next hbl b4
      obtain ⟨x0, x1⟩ := X4.out _ (Below.refl _ _)
      clear hmy hr4
      have ho := HO.out.1
      by_cases hk0 : k = 0
      · have HN := Lib.hid (show (some (i1, i2) : Option Sp) = bestF m (l.take (k + 1)) ∧ ((i1, i2) : Sp) = (some (i1, i2) : Option Sp).getD (0, 0) ∧ true = (some (i1, i2) : Option Sp).isSome ∧ (∀ x, (some (i1, i2) : Option Sp) = some x → mz = m x) from ⟨by rw [hmore, hk0]; rfl, rfl, rfl, fun x e => by cases e; exact hmz.symm⟩)
        have e0 : ((k : Int) == 0) = true := by rw [hk0]; rfl
        have HK0 := Lib.hid hk0
        clear hmore ho hmz hk0
        go_wp2_with (go_at_fn g; (with_reducible refine (HM.out _ hbl4).mono ?_); rintro e w6 ⟨rfl, hb6⟩; obtain ⟨y0, y1⟩ := X4.out _ hb6; have HQ6 := Lib.hid (Q4.out _ hb6); obtain ⟨⟨z0, z1⟩, fz⟩ := cells2B HQ6.out; have f0 := fz 0; have f1 := fz 1; clear fz; have hb46 := below_next hbl4 hb6)
        go_roundw
        case rel => exact ⟨k + 1, some (i1, i2), (i1, i2), mz, true, by go_num, rfl, rfl, by omega, HN, Lib.hid (set2B HQ6.out), (by repeat (first | with_reducible exact hb46 | with_reducible refine Below.alloc ?_ (by first | exact Nat.le_refl _ | omega | (simp; omega)) _ | with_reducible refine Below.setCell ?_ (by first | with_reducible exact Nat.le_refl _ | (dsimp only; omega)) _))⟩
        case measure => have hk0 := HK0.out; simp [intOf]; omega
      · have e0 : ((k : Int) == 0) = false := by simpa using hk0
        have hsome : o.isSome = true := by rw [ho]; exact best_isSome m _ (by intro e; have := congrArg List.length e; rw [List.length_take, Nat.min_eq_left (by omega)] at this; exact hk0 this)
        obtain ⟨x, hx⟩ := Option.isSome_iff_exists.1 hsome
        have hzx := HO.out.2.2.2 x hx
        have hst : bestF m (l.take (k + 1)) = if m x < mz then some (i1, i2) else some x := by rw [hmore, ← ho, hx, ← hmz]; rfl
        rw [← hzx] at hst
        by_cases hgt : z < mz
        · rw [if_pos hgt] at hst
          have HN := Lib.hid (show (some (i1, i2) : Option Sp) = bestF m (l.take (k + 1)) ∧ ((i1, i2) : Sp) = (some (i1, i2) : Option Sp).getD (0, 0) ∧ true = (some (i1, i2) : Option Sp).isSome ∧ (∀ x, (some (i1, i2) : Option Sp) = some x → mz = m x) from ⟨hst.symm, rfl, rfl, fun x e => by cases e; exact hmz.symm⟩)
          clear hmore ho hmz hst hsome hx hzx hk0
          go_wp2_with (go_at_fn g; (with_reducible refine (HM.out _ hbl4).mono ?_); rintro e w6 ⟨rfl, hb6⟩; obtain ⟨y0, y1⟩ := X4.out _ hb6; have HQ6 := Lib.hid (Q4.out _ hb6); obtain ⟨⟨z0, z1⟩, fz⟩ := cells2B HQ6.out; have f0 := fz 0; have f1 := fz 1; clear fz; have hb46 := below_next hbl4 hb6)
          go_roundw
          case rel => exact ⟨k + 1, some (i1, i2), (i1, i2), mz, true, by go_num, rfl, rfl, by omega, HN, Lib.hid (set2B HQ6.out), (by repeat (first | with_reducible exact hb46 | with_reducible refine Below.alloc ?_ (by first | exact Nat.le_refl _ | omega | (simp; omega)) _ | with_reducible refine Below.setCell ?_ (by first | with_reducible exact Nat.le_refl _ | (dsimp only; omega)) _))⟩
          case measure => simp [intOf]; omega
        · rw [if_neg hgt, ← hx] at hst
          have HN := Lib.hid (show o = bestF m (l.take (k + 1)) ∧ q = o.getD (0, 0) ∧ b = o.isSome ∧ (∀ x, o = some x → z = m x) from ⟨hst.symm, HO.out.2⟩)
          clear hmore ho hmz hst hsome hx hzx hk0
          go_wp2_with (go_at_fn g; (with_reducible refine (HM.out _ hbl4).mono ?_); rintro e w6 ⟨rfl, hb6⟩; obtain ⟨y0, y1⟩ := X4.out _ hb6; have HQ6 := Lib.hid (Q4.out _ hb6); obtain ⟨⟨z0, z1⟩, fz⟩ := cells2B HQ6.out; have f0 := fz 0; have f1 := fz 1; clear fz; have hb46 := below_next hbl4 hb6)
          go_roundw
          case rel => exact ⟨k + 1, o, q, z, b, by go_num, rfl, rfl, by omega, HN, HQ6, hb46⟩
          case measure => simp [intOf]; omega
    · have hkz : ¬ (k : Int) < (n : Int) := by omega
      have hfin := HO.out
      rw [List.take_of_length_le (by rw [← hn.out]; omega)] at hfin
      have HF := Lib.hid (show q = (bestF m l).getD (0, 0) ∧ b = (bestF m l).isSome from ⟨by rw [hfin.2.1, hfin.1], by rw [hfin.2.2.1, hfin.1]⟩)
      clear hfin
      obtain ⟨⟨z0, z1⟩, fz⟩ := cells2B HQ.out
      have f0 := fz 0
      have f1 := fz 1
      clear fz
      have hwr : w.heap.size < wr.heap.size := heap_lt HQ.out
      go_wp2_with fail
      exact bodyPost_ret (v := .tuple #[.agg #[.int .i64 q.1, .int .i64 q.2], .bool b]) (by simp [results, Try.results65, go_sem, z0, z1]) rfl ⟨by rw [HF.out.1, HF.out.2], (by repeat (first | with_reducible exact hbl | with_reducible refine Below.alloc ?_ (by first | exact Nat.le_refl _ | omega | (simp; omega)) _ | with_reducible refine Below.setCell ?_ (by first | with_reducible exact Nat.le_refl _ | (dsimp only; omega)) _))⟩
set_option maxRecDepth 100000 in
set_option maxHeartbeats 4000000 in
theorem bestInt_any (m : Int → Int) (g : Nat) (lb : Array Value) (eg : ∀ args w, (callFunc g args).run Try.prog w = .ok (.enter g args) w) (a : Option Addr) (n c : Nat) (l : List Int) (w : World) (h : RArg encI 1 w a n c l)
    (hm : MeasG g lb (fun x => .int .i64 x) m l w) :
    Calls Try.prog 68 #[.slice a n c, .func (.func g) #[] lb] w fun e w' => e = .returned (.tuple #[.int .i64 (((bestF m l)).getD 0), .bool (bestF m l).isSome]) ∧ Below w.heap.size w w' := by
  obtain ⟨hn, hz, hc1, hc2, hp⟩ := h
  have hnz : (n : Int) ≤ 9223372036854775807 := by omega
  replace hn := Lib.hid hn
  replace hp := Lib.hid hp
  replace hm := Lib.hid hm
  go_enter Try.func68, Try.ntmps68
  go_wp2_with fail
  go_loopw [4, 5, 6, 12] (fun v4 s mo i wr => ∃ (k : Nat) (o : Option Int) (q : Int) (z : Int) (b : Bool), i = .int .i64 (k : Int) ∧ s = .bool b ∧ mo = .int .i64 z ∧ k ≤ n ∧ Hid (o = bestF m (l.take k) ∧ q = o.getD 0 ∧ b = o.isSome ∧ (∀ x, o = some x → z = m x)) ∧ v4 = .int .i64 q ∧ Below w.heap.size w wr)
    (fun _ _ _ i _ => n - (intOf i).toNat)
  case atStart => exact ⟨0, none, 0, 0, false, rfl, rfl, rfl, by omega, Lib.hid ⟨rfl, rfl, rfl, fun x e => by cases e⟩, rfl, Below.refl _ _⟩
  case round =>
    obtain ⟨k, o, q, z, b, rfl, rfl, rfl, hk, HO, rfl, hbl⟩ := hrel
    by_cases hlt : k < n
    · have hkl : k < l.length := by rw [← hn.out]; exact hlt
      have hkz : (k : Int) < (n : Int) := by omega
      have hmem := mem_bang hkl
      have hmore := best_more m hkl
      obtain ⟨bb, off, e, hb9, hcs⟩ := (hp.out.below hbl) k hkl
      subst e
      obtain ⟨i1, hy⟩ : ∃ y, l[k]! = y := ⟨_, rfl⟩
      rw [hy] at hmem hmore hcs
      clear hy
      have hmy := fun W (hb : Below w.heap.size w W) => hm.out W i1 hb hmem
      clear hmem
      obtain ⟨mz, hmz⟩ : ∃ mz, m i1 = mz := ⟨_, rfl⟩
      dsimp only at hmy
      rw [hmz] at hmy
      skip
      have c0 := hcs 0 (.int .i64 i1) rfl
      rw [show off + k * 1 + 0 = off + k by omega] at c0
      clear hcs
      have HM := Lib.hid (fun W (hb : Below w.heap.size w W) => hmy W hb)
      clear hmy
      have ho := HO.out.1
      by_cases hk0 : k = 0
      · have HN := Lib.hid (show (some i1 : Option Int) = bestF m (l.take (k + 1)) ∧ (i1 : Int) = (some i1 : Option Int).getD 0 ∧ true = (some i1 : Option Int).isSome ∧ (∀ x, (some i1 : Option Int) = some x → mz = m x) from ⟨by rw [hmore, hk0]; rfl, rfl, rfl, fun x e => by cases e; exact hmz.symm⟩)
        have e0 : ((k : Int) == 0) = true := by rw [hk0]; rfl
        have HK0 := Lib.hid hk0
        clear hmore ho hmz hk0
        go_wp2_with (go_at_fn g; (with_reducible refine (HM.out _ hbl).mono ?_); rintro e w6 ⟨rfl, hb6⟩; have hb46 := below_next hbl hb6)
        go_roundw
        case rel => exact ⟨k + 1, some i1, i1, mz, true, by go_num, rfl, rfl, by omega, HN, rfl, hb46⟩
        case measure => have hk0 := HK0.out; simp [intOf]; omega
      · have e0 : ((k : Int) == 0) = false := by simpa using hk0
        have hsome : o.isSome = true := by rw [ho]; exact best_isSome m _ (by intro e; have := congrArg List.length e; rw [List.length_take, Nat.min_eq_left (by omega)] at this; exact hk0 this)
        obtain ⟨x, hx⟩ := Option.isSome_iff_exists.1 hsome
        have hzx := HO.out.2.2.2 x hx
        have hst : bestF m (l.take (k + 1)) = if m x < mz then some i1 else some x := by rw [hmore, ← ho, hx, ← hmz]; rfl
        rw [← hzx] at hst
        by_cases hgt : z < mz
        · rw [if_pos hgt] at hst
          have HN := Lib.hid (show (some i1 : Option Int) = bestF m (l.take (k + 1)) ∧ (i1 : Int) = (some i1 : Option Int).getD 0 ∧ true = (some i1 : Option Int).isSome ∧ (∀ x, (some i1 : Option Int) = some x → mz = m x) from ⟨hst.symm, rfl, rfl, fun x e => by cases e; exact hmz.symm⟩)
          clear hmore ho hmz hst hsome hx hzx hk0
          go_wp2_with (go_at_fn g; (with_reducible refine (HM.out _ hbl).mono ?_); rintro e w6 ⟨rfl, hb6⟩; have hb46 := below_next hbl hb6)
          go_roundw
          case rel => exact ⟨k + 1, some i1, i1, mz, true, by go_num, rfl, rfl, by omega, HN, rfl, hb46⟩
          case measure => simp [intOf]; omega
        · rw [if_neg hgt, ← hx] at hst
          have HN := Lib.hid (show o = bestF m (l.take (k + 1)) ∧ q = o.getD 0 ∧ b = o.isSome ∧ (∀ x, o = some x → z = m x) from ⟨hst.symm, HO.out.2⟩)
          clear hmore ho hmz hst hsome hx hzx hk0
          go_wp2_with (go_at_fn g; (with_reducible refine (HM.out _ hbl).mono ?_); rintro e w6 ⟨rfl, hb6⟩; have hb46 := below_next hbl hb6)
          go_roundw
          case rel => exact ⟨k + 1, o, q, z, b, by go_num, rfl, rfl, by omega, HN, rfl, hb46⟩
          case measure => simp [intOf]; omega
    · have hkz : ¬ (k : Int) < (n : Int) := by omega
      have hfin := HO.out
      rw [List.take_of_length_le (by rw [← hn.out]; omega)] at hfin
      have HF := Lib.hid (show q = (bestF m l).getD 0 ∧ b = (bestF m l).isSome from ⟨by rw [hfin.2.1, hfin.1], by rw [hfin.2.2.1, hfin.1]⟩)
      clear hfin
      go_wp2_with fail
      go_ret2
      rw [← HF.out.1, ← HF.out.2]
      exact ⟨rfl, hbl⟩
set_option maxRecDepth 100000 in
set_option maxHeartbeats 4000000 in
theorem bestWin_any (m : Wn → Int) (g : Nat) (lb : Array Value) (eg : ∀ args w, (callFunc g args).run Try.prog w = .ok (.enter g args) w) (a : Option Addr) (n c : Nat) (l : List Wn) (w : World) (h : RArg encWn 1 w a n c l)
    (hm : MeasG g lb (fun x => .slice x.a 2 x.c) m l w) :
    Calls Try.prog 76 #[.slice a n c, .func (.func g) #[] lb] w fun e w' => ∃ v : Value, e = .returned (.tuple #[v, .bool (bestF m l).isSome]) ∧ (∀ x, bestF m l = some x → v = .slice x.a 2 x.c) ∧ Below w.heap.size w w' := by
  obtain ⟨hn, hz, hc1, hc2, hp⟩ := h
  have hnz : (n : Int) ≤ 9223372036854775807 := by omega
  replace hn := Lib.hid hn
  replace hp := Lib.hid hp
  replace hm := Lib.hid hm
  go_enter Try.func76, Try.ntmps76
  go_wp2_with fail
  go_loopw [4, 5, 6, 12] (fun v4 s mo i wr => ∃ (k : Nat) (o : Option Wn) (_q : Unit) (z : Int) (b : Bool), i = .int .i64 (k : Int) ∧ s = .bool b ∧ mo = .int .i64 z ∧ k ≤ n ∧ Hid (o = bestF m (l.take k) ∧ b = o.isSome ∧ (∀ x, o = some x → z = m x)) ∧ Hid (∀ x, o = some x → v4 = .slice x.a 2 x.c) ∧ Below w.heap.size w wr)
    (fun _ _ _ i _ => n - (intOf i).toNat)
  case atStart => exact ⟨0, none, (), 0, false, rfl, rfl, rfl, by omega, Lib.hid ⟨rfl, rfl, fun x e => by cases e⟩, Lib.hid (fun x e => by cases e), Below.refl _ _⟩
  case round =>
    obtain ⟨k, o, q, z, b, rfl, rfl, rfl, hk, HO, HV, hbl⟩ := hrel
    by_cases hlt : k < n
    · have hkl : k < l.length := by rw [← hn.out]; exact hlt
      have hkz : (k : Int) < (n : Int) := by omega
      have hmem := mem_bang hkl
      have hmore := best_more m hkl
      obtain ⟨bb, off, e, hb9, hcs⟩ := (hp.out.below hbl) k hkl
      subst e
      obtain ⟨y, hy⟩ : ∃ y, l[k]! = y := ⟨_, rfl⟩
      rw [hy] at hmem hmore hcs
      clear hy
      have hmy := fun W (hb : Below w.heap.size w W) => hm.out W y hb hmem
      clear hmem
      obtain ⟨mz, hmz⟩ : ∃ mz, m y = mz := ⟨_, rfl⟩
      dsimp only at hmy
      rw [hmz] at hmy
      obtain ⟨a9, c9, x9, y9⟩ := y
      have c0 := hcs 0 (.slice a9 2 c9) rfl
      rw [show off + k * 1 + 0 = off + k by omega] at c0
      clear hcs
      have HM := Lib.hid (fun W (hb : Below w.heap.size w W) => hmy W hb)
      clear hmy
      have ho := HO.out.1
      by_cases hk0 : k = 0
      · have HN := Lib.hid (show (some ⟨a9, c9, x9, y9⟩ : Option Wn) = bestF m (l.take (k + 1)) ∧ true = (some ⟨a9, c9, x9, y9⟩ : Option Wn).isSome ∧ (∀ x, (some ⟨a9, c9, x9, y9⟩ : Option Wn) = some x → mz = m x) from ⟨by rw [hmore, hk0]; rfl, rfl, fun x e => by cases e; exact hmz.symm⟩)
        have e0 : ((k : Int) == 0) = true := by rw [hk0]; rfl
        have HK0 := Lib.hid hk0
        clear hmore ho hmz hk0
        go_wp2_with (go_at_fn g; (with_reducible refine (HM.out _ hbl).mono ?_); rintro e w6 ⟨rfl, hb6⟩; have hb46 := below_next hbl hb6)
        go_roundw
        case rel => exact ⟨k + 1, some ⟨a9, c9, x9, y9⟩, (), mz, true, by go_num, rfl, rfl, by omega, HN, Lib.hid (fun x e => by cases e; rfl), hb46⟩
        case measure => have hk0 := HK0.out; simp [intOf]; omega
      · have e0 : ((k : Int) == 0) = false := by simpa using hk0
        have hsome : o.isSome = true := by rw [ho]; exact best_isSome m _ (by intro e; have := congrArg List.length e; rw [List.length_take, Nat.min_eq_left (by omega)] at this; exact hk0 this)
        obtain ⟨x, hx⟩ := Option.isSome_iff_exists.1 hsome
        have hzx := HO.out.2.2 x hx
        have hst : bestF m (l.take (k + 1)) = if m x < mz then some ⟨a9, c9, x9, y9⟩ else some x := by rw [hmore, ← ho, hx, ← hmz]; rfl
        rw [← hzx] at hst
        by_cases hgt : z < mz
        · rw [if_pos hgt] at hst
          have HN := Lib.hid (show (some ⟨a9, c9, x9, y9⟩ : Option Wn) = bestF m (l.take (k + 1)) ∧ true = (some ⟨a9, c9, x9, y9⟩ : Option Wn).isSome ∧ (∀ x, (some ⟨a9, c9, x9, y9⟩ : Option Wn) = some x → mz = m x) from ⟨hst.symm, rfl, fun x e => by cases e; exact hmz.symm⟩)
          clear hmore ho hmz hst hsome hx hzx hk0
          go_wp2_with (go_at_fn g; (with_reducible refine (HM.out _ hbl).mono ?_); rintro e w6 ⟨rfl, hb6⟩; have hb46 := below_next hbl hb6)
          go_roundw
          case rel => exact ⟨k + 1, some ⟨a9, c9, x9, y9⟩, (), mz, true, by go_num, rfl, rfl, by omega, HN, Lib.hid (fun x e => by cases e; rfl), hb46⟩
          case measure => simp [intOf]; omega
        · rw [if_neg hgt, ← hx] at hst
          have HN := Lib.hid (show o = bestF m (l.take (k + 1)) ∧ b = o.isSome ∧ (∀ x, o = some x → z = m x) from ⟨hst.symm, HO.out.2⟩)
          clear hmore ho hmz hst hsome hx hzx hk0
          go_wp2_with (go_at_fn g; (with_reducible refine (HM.out _ hbl).mono ?_); rintro e w6 ⟨rfl, hb6⟩; have hb46 := below_next hbl hb6)
          go_roundw
          case rel => exact ⟨k + 1, o, q, z, b, by go_num, rfl, rfl, by omega, HN, HV, hb46⟩
          case measure => simp [intOf]; omega
    · have hkz : ¬ (k : Int) < (n : Int) := by omega
      have hfin := HO.out
      rw [List.take_of_length_le (by rw [← hn.out]; omega)] at hfin
      have HF := Lib.hid (show b = (bestF m l).isSome from by rw [hfin.2.1, hfin.1])
      have HG := Lib.hid (show o = bestF m l from hfin.1)
      clear hfin
      go_wp2_with fail
      go_ret2
      rw [← HF.out]
      exact ⟨_, rfl, fun x hx => HV.out x (HG.out.trans hx), hbl⟩
end Go.Proofs.Ytihpojllalnmcaa
