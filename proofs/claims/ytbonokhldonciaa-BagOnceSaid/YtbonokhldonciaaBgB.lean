/-
  BAGS, THE MEMORY: a struct of three cells and two maps; what of a world a call may turn. The small calls.
-/
import Derived.Test.YtbonokhldonciaaBgA
import Derived.Test.YtbonokhldonciaaRows
import Derived.Laws.Rows
import Derived.Lib.MinMax
import Derived.Lib.Hide
import Derived.RegionTactic
import Derived.BigRegion
import Derived.Deep.RegionWith
import Derived.LoopTactic
import Derived.WalkLawsBesides
import Derived.WalkSpells
namespace Go.Proofs.Ytbonokhldonciaa
open Go.RowKit Go.Maps Go.ChangeMaps

/-- What a bag is. -/
structure Bs where
  G : Int → Option Ml
  n : Nat
  last : Int
  L : Int → Int → Bool
  c : Nat
/-- But for a bag's three blocks the world is as it was. -/
structure But (p db mb : Nat) (w w' : World) : Prop where
  os : w'.os = w.os
  tape : w'.tape = w.tape
  output : w'.output = w.output
  size : w.heap.size ≤ w'.heap.size
  block : ∀ i, i < w.heap.size → i ≠ p → i ≠ db → i ≠ mb → w'.heap[i]? = w.heap[i]?
theorem But.refl (p db mb : Nat) (w : World) : But p db mb w w := ⟨rfl, rfl, rfl, Nat.le_refl _, fun _ _ _ _ _ => rfl⟩
theorem But.trans {p db mb : Nat} {a b c : World} (h : But p db mb a b) (k : But p db mb b c) : But p db mb a c :=
  ⟨k.os.trans h.os, k.tape.trans h.tape, k.output.trans h.output, Nat.le_trans h.size k.size, fun i hi h1 h2 h3 => (k.block i (Nat.lt_of_lt_of_le hi h.size) h1 h2 h3).trans (h.block i hi h1 h2 h3)⟩
theorem But.drew {p db mb : Nat} {a w : World} (h : But p db mb a w) : But p db mb a w.drew := ⟨h.os, h.tape, h.output, h.size, h.block⟩
theorem But.alloc {p db mb : Nat} {a w : World} (h : But p db mb a w) (o : Obj) : But p db mb a (w.alloc o) :=
  h.trans ⟨rfl, rfl, rfl, by simp, fun k hk _ _ _ => Below.heap_alloc _ _ _ hk⟩
theorem But.set {p db mb : Nat} {a w : World} (h : But p db mb a w) {b i : Nat} (hb : b = p ∨ b = db ∨ b = mb ∨ a.heap.size ≤ b) (u : Value) : But p db mb a (w.setCell ⟨b, i, none⟩ u) :=
  ⟨h.os, h.tape, h.output, by simp [World.setCell]; exact h.size, fun k hk h1 h2 h3 => (Below.heap_setCell _ _ _ _ (by show k ≠ b; omega)).trans (h.block k hk h1 h2 h3)⟩
theorem But.grown {p db mb : Nat} {a w w' : World} (h : But p db mb a w) {r : Nat} (hg : w.grownBy w' (some r)) (hr : r = p ∨ r = db ∨ r = mb ∨ a.heap.size ≤ r) : But p db mb a w' :=
  ⟨hg.os.trans h.os, hg.tape.trans h.tape, hg.output.trans h.output, Nat.le_trans h.size hg.size, fun k hk h1 h2 h3 => (hg.block k (Nat.lt_of_lt_of_le hk h.size) (fun e => by have := Option.some.inj e; omega)).trans (h.block k hk h1 h2 h3)⟩
theorem But.below {p db mb : Nat} {w w' : World} (h : But p db mb w w') {B : Nat} (hB : B ≤ w.heap.size) (h1 : B ≤ p) (h2 : B ≤ db) (h3 : B ≤ mb) : Below B w w' :=
  ⟨h.os, h.tape, h.output, h.size, fun k hk => h.block k (by omega) (by omega) (by omega) (by omega)⟩
theorem But.of_below {p db mb : Nat} {w w' : World} (h : Below w.heap.size w w') : But p db mb w w' := ⟨h.os, h.tape, h.output, h.size, fun k hk _ _ _ => h.block k hk⟩
structure Bg (w : World) (p mb ab : Nat) (s : Bs) : Prop where
  hp : w.heap[p]? = some (.cells #[.map (some mb), .int .i64 s.last, .map (some ab)] 61)
  hm : Mp w mb s.G s.n
  ha : Ap w ab s.L s.c
  ne1 : p ≠ mb
  ne2 : p ≠ ab
  ne3 : mb ≠ ab
  n4 : s.n ≤ 400
  last : 0 ≤ s.last ∧ s.last ≤ 100000
  keys : ∀ k m, s.G k = some m → 1 ≤ k ∧ k ≤ s.last ∧ m.id = k ∧ (0 ≤ m.fr ∧ m.fr ≤ 63) ∧ 0 ≤ m.to ∧ m.to ≤ 63
theorem Bg.lt {w : World} {p mb ab : Nat} {s : Bs} (h : Bg w p mb ab s) : p < w.heap.size ∧ mb < w.heap.size ∧ ab < w.heap.size := ⟨(Array.getElem?_eq_some_iff.1 h.hp).1, h.hm.lt, h.ha.lt⟩
theorem Bg.cells {w : World} {p mb ab : Nat} {s : Bs} (h : Bg w p mb ab s) :
    w.cell? ⟨p, 0, none⟩ = some (.map (some mb)) ∧ w.cell? ⟨p, 1, none⟩ = some (.int .i64 s.last) ∧ w.cell? ⟨p, 2, none⟩ = some (.map (some ab)) :=
  ⟨cell_of_row _ _ 0 _ _ _ h.hp, cell_of_row _ _ 1 _ _ _ h.hp, cell_of_row _ _ 2 _ _ _ h.hp⟩
theorem Bg.free {w : World} {p mb ab : Nat} {s : Bs} (h : Bg w p mb ab s) (i : Nat) : w.frozen? ⟨p, i, none⟩ = false := frozen_of_row _ _ i _ _ h.hp
theorem Bg.same {w w' : World} {p mb ab : Nat} {s : Bs} (h : Bg w p mb ab s) (hb : Below w.heap.size w w') : Bg w' p mb ab s := by
  obtain ⟨l1, l2, l3⟩ := h.lt
  exact { h with hp := (hb.block p l1).trans h.hp, hm := h.hm.same (hb.block mb l2), ha := h.ha.same (hb.block ab l3) }
theorem Bg.drew {w : World} {p mb ab : Nat} {s : Bs} (h : Bg w p mb ab s) : Bg w.drew p mb ab s := h.same (Below.refl _ _).drew
/-- The last number is another one. -/
theorem Bg.setL {w : World} {p mb ab : Nat} {s : Bs} (h : Bg w p mb ab s) {z : Int} (h1 : s.last ≤ z) (h2 : z ≤ 100000) : Bg (w.setCell ⟨p, 1, none⟩ (.int .i64 z)) p mb ab { s with last := z } := by
  have o : ∀ k, k ≠ p → (w.setCell ⟨p, 1, none⟩ (.int .i64 z)).heap[k]? = w.heap[k]? := fun k hk => Below.heap_setCell _ _ _ _ hk
  have hl := h.last.1
  refine { h with hp := ?_, hm := h.hm.same (o mb (Ne.symm h.ne1)), ha := h.ha.same (o ab (Ne.symm h.ne2)), last := ⟨by dsimp only; omega, h2⟩, keys := fun k m hk => ?_ }
  · rw [heap_setCell_same _ _ _ _ _ _ h.hp]; rfl
  · obtain ⟨k1, k2, k3⟩ := h.keys k m hk
    exact ⟨k1, by dsimp only; omega, k3⟩
/-- The map of mails has turned. -/
theorem Bg.turnM {w w' : World} {p mb ab : Nat} {s : Bs} (h : Bg w p mb ab s) (ht : w.mapTurned w' mb) {G' : Int → Option Ml} {n' : Nat} (hm : Mp w' mb G' n') (hn : n' ≤ 400)
    (hk : ∀ k m, G' k = some m → 1 ≤ k ∧ k ≤ s.last ∧ m.id = k ∧ (0 ≤ m.fr ∧ m.fr ≤ 63) ∧ 0 ≤ m.to ∧ m.to ≤ 63) : Bg w' p mb ab { s with G := G', n := n' } := by
  have hg := ht.grown
  obtain ⟨l1, l2, l3⟩ := h.lt
  have o : ∀ k, k < w.heap.size → k ≠ mb → w'.heap[k]? = w.heap[k]? := fun k hk hne => hg.block k hk (fun q => hne (Option.some.inj q))
  exact { h with hp := (o p l1 h.ne1).trans h.hp, hm := hm, ha := h.ha.same (o ab l3 (Ne.symm h.ne3)), n4 := hn, keys := hk }
/-- The set of pairs has turned. -/
theorem Bg.turnA {w w' : World} {p mb ab : Nat} {s : Bs} (h : Bg w p mb ab s) (ht : w.mapTurned w' ab) {L' : Int → Int → Bool} {c' : Nat} (ha : Ap w' ab L' c') : Bg w' p mb ab { s with L := L', c := c' } := by
  have hg := ht.grown
  obtain ⟨l1, l2, l3⟩ := h.lt
  have o : ∀ k, k < w.heap.size → k ≠ ab → w'.heap[k]? = w.heap[k]? := fun k hk hne => hg.block k hk (fun q => hne (Option.some.inj q))
  exact { h with hp := (o p l1 h.ne2).trans h.hp, hm := h.hm.same (o mb l2 h.ne3), ha := ha }
/-- What a call on a bag leaves. -/
def SPost (p mb ab : Nat) (v : Value) (s : Bs) (w : World) (e : Ending) (w' : World) : Prop := e = .returned v ∧ Bg w' p mb ab s ∧ But p mb ab w w'
/-- What a call that only reads leaves. -/
def RPost (v : Value) (w : World) (e : Ending) (w' : World) : Prop := e = .returned v ∧ Below w.heap.size w w'
def addrB (n : Int) : Bool := decide (0 ≤ n) && decide (n ≤ 63)
theorem addr_any (n : Int) (w : World) : Calls Try.prog 29 #[.int .i64 n] w fun e w' => e = .returned (.bool (addrB n)) ∧ w' = w := by
  unfold addrB
  by_cases h0 : 0 ≤ n
  · go_enter Try.func29, Try.ntmps29
    go_wp2
    go_ret
    exact ⟨by simp [h0], rfl⟩
  · go_enter Try.func29, Try.ntmps29
    go_wp2
    go_ret
    exact ⟨by simp; omega, rfl⟩
theorem between_any (x y : Int) (w : World) : Calls Try.prog 35 #[.int .i64 x, .int .i64 y] w (RPost (.agg #[.int .i64 (min x y), .int .i64 (max x y)]) w) := by
  have B : Below w.heap.size w (w.alloc (.cells #[.int .i64 (min x y), .int .i64 (max x y)] 82)) := (Below.refl _ _).alloc (Nat.le_refl _) _
  go_enter Try.func35, Try.ntmps35
  go_wp2
  exact bodyPost_ret (v := .agg #[.int .i64 (min x y), .int .i64 (max x y)]) (by simp [results, Try.results35, go_sem]) rfl ⟨rfl, B⟩
theorem wf_min {x y : Int} (hx : (Lit.int .i64 x).wf = true) (hy : (Lit.int .i64 y).wf = true) : (Lit.int .i64 (min x y)).wf = true ∧ (Lit.int .i64 (max x y)).wf = true := by
  have h1 := isB_i64 hx
  have h2 := isB_i64 hy
  exact ⟨wf_i64 (by omega) (by omega), wf_i64 (by omega) (by omega)⟩
def cutB (s : Bs) (x y : Int) : Bool := s.L (min x y) (max x y)
end Go.Proofs.Ytbonokhldonciaa
