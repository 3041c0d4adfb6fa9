/-
  BAGS: BagOnce, what its rounds turn: a row of texts, a row of numbers, a bag below both.
-/
import Derived.Test.YtbonokhldonciaaBgQ
import Derived.StillTailTactics
import Derived.BigQuiet
namespace Go.Proofs.Ytbonokhldonciaa
open Go.RowKit Go.Maps Go.ChangeMaps Go.ChangeShapes Go.WideShapes Go.Deep

theorem Try.infoInt : (Try.prog.info? 3).map (fun i => (i.zero, i.size, i.bytes)) = some (some (.int .i64 0), 1, 8) := by kernel_rfl
theorem below_refl_drewN (w : World) (n : Nat) : Below w.heap.size w (w.drewN n) := ⟨rfl, rfl, rfl, Nat.le_refl _, fun _ _ => rfl⟩
/-- Two rows of the call's own above a bag. -/
structure Two (w : World) (base p mb ab : Nat) (q : List ByteArray) (gone : List Int) (v u : Value) (wr : World) : Prop where
  rowS : OwnsS wr base v (ByteArray.empty :: q)
  rowI : OwnsI wr base u gone
  low : Below w.heap.size w wr
  size : base ≤ wr.heap.size
  b0 : w.heap.size ≤ base
  b1 : p < base ∧ w.heap.size ≤ p
  b2 : mb < base ∧ w.heap.size ≤ mb
  b3 : ab < base ∧ w.heap.size ≤ ab
theorem Two.alloc {w : World} {base p mb ab : Nat} {q : List ByteArray} {gone : List Int} {v u : Value} {wr : World} (h : Two w base p mb ab q gone v u wr) (o : Obj) : Two w base p mb ab q gone v u (wr.alloc o) :=
  { h with rowS := World.ownsRow.alloc h.rowS o, rowI := World.ownsRow.alloc h.rowI o, low := h.low.alloc h.low.size o, size := by simp; exact Nat.le_succ_of_le h.size }
theorem Two.but {w : World} {base p mb ab : Nat} {q : List ByteArray} {gone : List Int} {v u : Value} {wr w' : World} (h : Two w base p mb ab q gone v u wr) (hb : But p mb ab wr w') : Two w base p mb ab q gone v u w' :=
  { h with rowS := h.rowS.but hb h.b1.1 h.b2.1 h.b3.1, rowI := h.rowI.but hb h.b1.1 h.b2.1 h.b3.1, low := h.low.trans (hb.below h.low.size h.b1.2 h.b2.2 h.b3.2), size := Nat.le_trans h.size hb.size }
theorem Two.pushS {w : World} {base p mb ab : Nat} {q : List ByteArray} {gone : List Int} {v u : Value} {wr : World} (h : Two w base p mb ab q gone v u wr) {o : Obj} {t : ByteArray} {v' : Value} {w5 : World}
    (hown : w5.ownsRow base 9 1 v' ((ByteArray.empty :: q).length + 1) ((ByteArray.empty :: q).map Value.string ++ [.string t])) (hg : (wr.alloc o).grownBy w5 v.ownBlock) :
    Two w base p mb ab (q ++ [t]) gone v' u w5 ∧ ∀ i, i < base → w5.heap[i]? = wr.heap[i]? := by
  have hap := own_apart h.rowI h.rowS
  have hS : OwnsS w5 base v' (ByteArray.empty :: (q ++ [t])) := OwnsS.push (l := ByteArray.empty :: q) hown
  have hr : ∀ k, v.ownBlock = some k → base ≤ k := fun k hk => (World.ownsRow.lt h.rowS k hk).1
  refine ⟨{ h with rowS := hS, rowI := World.ownsRow.kept (World.ownsRow.alloc h.rowI o) hg hap.1, low := (h.low.alloc h.low.size o).grown hg (by have := h.low.size; simp; omega) (fun i hi => Nat.le_trans h.b0 (hr i hi)), size := ?_ }, fun i hi => ?_⟩
  · have t1 := hg.size
    have t2 := h.size
    simp at t1
    omega
  · have t2 := h.size
    rw [hg.block i (by simp; omega) (fun q => by have := hr i q.symm; omega)]
    exact Below.heap_alloc _ _ _ (by omega)
theorem Two.pushI {w : World} {base p mb ab : Nat} {q : List ByteArray} {gone : List Int} {v u : Value} {wr : World} (h : Two w base p mb ab q gone v u wr) {o : Obj} {x : Int} {v' : Value} {w5 : World}
    (hown : w5.ownsRow base 3 1 v' (gone.length + 1) (gone.map (Value.int .i64) ++ [.int .i64 x])) (hg : (wr.alloc o).grownBy w5 u.ownBlock) :
    Two w base p mb ab q (gone ++ [x]) v v' w5 ∧ ∀ i, i < base → w5.heap[i]? = wr.heap[i]? := by
  have hap := own_apart h.rowI h.rowS
  have hr : ∀ k, u.ownBlock = some k → base ≤ k := fun k hk => (World.ownsRow.lt h.rowI k hk).1
  refine ⟨{ h with rowI := OwnsI.push hown, rowS := World.ownsRow.kept (World.ownsRow.alloc h.rowS o) hg hap.2, low := (h.low.alloc h.low.size o).grown hg (by have := h.low.size; simp; omega) (fun i hi => Nat.le_trans h.b0 (hr i hi)), size := ?_ }, fun i hi => ?_⟩
  · have t1 := hg.size
    have t2 := h.size
    simp at t1
    omega
  · have t2 := h.size
    rw [hg.block i (by simp; omega) (fun q => by have := hr i q.symm; omega)]
    exact Below.heap_alloc _ _ _ (by omega)
theorem Bg.low {w w' : World} {p mb ab base : Nat} {s : Bs} (h : Bg w p mb ab s) (hb : ∀ i, i < base → w'.heap[i]? = w.heap[i]?) (h1 : p < base) (h2 : mb < base) (h3 : ab < base) : Bg w' p mb ab s :=
  h.keep (fun k hk => hb k (by rcases hk with rfl | rfl | rfl <;> assumption))
/-- A round's world. -/
structure Ro (w : World) (base p mb ab : Nat) (s : Bs) (q : List ByteArray) (gone : List Int) (v u : Value) (wr : World) : Prop where
  two : Two w base p mb ab q gone v u wr
  bag : Bg wr p mb ab s
  onc : Onc s q gone
theorem Ro.alloc {w : World} {base p mb ab : Nat} {s : Bs} {q : List ByteArray} {gone : List Int} {v u : Value} {wr : World} (h : Ro w base p mb ab s q gone v u wr) (o : Obj) : Ro w base p mb ab s q gone v u (wr.alloc o) :=
  ⟨h.two.alloc o, h.bag.same ((Below.refl _ _).alloc (Nat.le_refl _) o), h.onc⟩
theorem Ro.below {w : World} {base p mb ab : Nat} {s : Bs} {q : List ByteArray} {gone : List Int} {v u : Value} {wr w' : World} (h : Ro w base p mb ab s q gone v u wr) (hb : Below wr.heap.size wr w') : Ro w base p mb ab s q gone v u w' :=
  ⟨h.two.but (But.of_below hb), h.bag.same hb, h.onc⟩
/-- Behind an append to the texts. -/
theorem Ro.pushS {w : World} {base p mb ab : Nat} {s : Bs} {q : List ByteArray} {gone : List Int} {v u : Value} {wr : World} (h2 : Two w base p mb ab q gone v u wr) (hB : Bg wr p mb ab s) {o : Obj} {t : ByteArray} {v' : Value} {w5 : World}
    (hO : Onc s (q ++ [t]) gone) (hown : w5.ownsRow base 9 1 v' ((ByteArray.empty :: q).length + 1) ((ByteArray.empty :: q).map Value.string ++ [.string t])) (hg : (wr.alloc o).grownBy w5 v.ownBlock) :
    Ro w base p mb ab s (q ++ [t]) gone v' u w5 := by
  obtain ⟨r1, r2⟩ := h2.pushS hown hg
  exact ⟨r1, hB.low r2 h2.b1.1 h2.b2.1 h2.b3.1, hO⟩
theorem Ro.pushI {w : World} {base p mb ab : Nat} {s : Bs} {q : List ByteArray} {gone : List Int} {v u : Value} {wr : World} (h2 : Two w base p mb ab q gone v u wr) (hB : Bg wr p mb ab s) {o : Obj} {x : Int} {v' : Value} {w5 : World}
    (hO : Onc s q (gone ++ [x])) (hown : w5.ownsRow base 3 1 v' (gone.length + 1) (gone.map (Value.int .i64) ++ [.int .i64 x])) (hg : (wr.alloc o).grownBy w5 u.ownBlock) :
    Ro w base p mb ab s q (gone ++ [x]) v v' w5 := by
  obtain ⟨r1, r2⟩ := h2.pushI hown hg
  exact ⟨r1, hB.low r2 h2.b1.1 h2.b2.1 h2.b3.1, hO⟩
end Go.Proofs.Ytbonokhldonciaa
