/-
  SLABS, THE MEMORY: a struct of seven cells, a row of texts, a map; what of a world a call may turn. The calls that only read.
-/
import Derived.Test.YthcebcpippbhfaaSlA
import Derived.Test.YthcebcpippbhfaaRows
import Derived.Laws.Rows
import Derived.Lib.MinMax
import Derived.Lib.Hide
import Derived.RegionTactic
import Derived.BigRegion
import Derived.LoopTactic
import Derived.WalkLawsBesides
import Derived.WalkSpells
namespace Go.Proofs.Ythcebcpippbhfaa
open Go.RowKit Go.Maps Go.ChangeMaps

/-- What a slab is: its blocks, whether it is down, how many operations are left till the trip, and its loss. -/
structure St where
  bs : List Bk
  down : Bool
  left : Int
  zs : List Int
  torn : Int
  at_ : Int
/-- But for a slab's three blocks the world is as it was. -/
structure But (p db mb : Nat) (w w' : World) : Prop where
  os : w'.os = w.os
  tape : w'.tape = w.tape
  output : w'.output = w.output
  size : w.heap.size ≤ w'.heap.size
  block : ∀ i, i < w.heap.size → i ≠ p → i ≠ db → i ≠ mb → w'.heap[i]? = w.heap[i]?
theorem But.refl (p db mb : Nat) (w : World) : But p db mb w w := ⟨rfl, rfl, rfl, Nat.le_refl _, fun _ _ _ _ _ => rfl⟩
theorem But.trans {p db mb : Nat} {a b c : World} (h : But p db mb a b) (k : But p db mb b c) : But p db mb a c :=
  ⟨k.os.trans h.os, k.tape.trans h.tape, k.output.trans h.output, Nat.le_trans h.size k.size, fun i hi h1 h2 h3 => (k.block i (Nat.lt_of_lt_of_le hi h.size) h1 h2 h3).trans (h.block i hi h1 h2 h3)⟩
theorem But.drew {p db mb : Nat} {a w : World} (h : But p db mb a w) : But p db mb a w.drew := ⟨h.os, h.tape, h.output, h.size, h.block⟩
theorem But.alloc {p db mb : Nat} {a w : World} (h : But p db mb a w) (o : Obj) : But p db mb a (w.alloc o) :=
  h.trans ⟨rfl, rfl, rfl, by simp, fun k hk _ _ _ => Below.heap_alloc _ _ _ hk⟩
theorem But.set {p db mb : Nat} {a w : World} (h : But p db mb a w) {b i : Nat} (hb : b = p ∨ b = db ∨ b = mb ∨ a.heap.size ≤ b) (u : Value) : But p db mb a (w.setCell ⟨b, i, none⟩ u) :=
  ⟨h.os, h.tape, h.output, by simp [World.setCell]; exact h.size, fun k hk h1 h2 h3 => (Below.heap_setCell _ _ _ _ (by show k ≠ b; omega)).trans (h.block k hk h1 h2 h3)⟩
theorem But.grown {p db mb : Nat} {a w w' : World} (h : But p db mb a w) {r : Nat} (hg : w.grownBy w' (some r)) (hr : r = p ∨ r = db ∨ r = mb ∨ a.heap.size ≤ r) : But p db mb a w' :=
  ⟨hg.os.trans h.os, hg.tape.trans h.tape, hg.output.trans h.output, Nat.le_trans h.size hg.size, fun k hk h1 h2 h3 => (hg.block k (Nat.lt_of_lt_of_le hk h.size) (fun e => by have := Option.some.inj e; omega)).trans (h.block k hk h1 h2 h3)⟩
theorem But.grown0 {p db mb : Nat} {a w w' : World} (h : But p db mb a w) (hg : w.grownBy w' none) : But p db mb a w' :=
  ⟨hg.os.trans h.os, hg.tape.trans h.tape, hg.output.trans h.output, Nat.le_trans h.size hg.size, fun k hk h1 h2 h3 => (hg.block k (Nat.lt_of_lt_of_le hk h.size) (by simp)).trans (h.block k hk h1 h2 h3)⟩
theorem But.below {p db mb : Nat} {w w' : World} (h : But p db mb w w') {B : Nat} (hB : B ≤ w.heap.size) (h1 : B ≤ p) (h2 : B ≤ db) (h3 : B ≤ mb) : Below B w w' :=
  ⟨h.os, h.tape, h.output, h.size, fun k hk => h.block k (by omega) (by omega) (by omega) (by omega)⟩
theorem But.of_below {p db mb : Nat} {w w' : World} (h : Below w.heap.size w w') : But p db mb w w' := ⟨h.os, h.tape, h.output, h.size, fun k hk _ _ _ => h.block k hk⟩
/-- A row of whole numbers that is none of the slab's blocks. -/
structure KRow (w : World) (p db mb : Nat) (a : Option Addr) (n c : Nat) (zs : List Int) : Prop where
  len : n = zs.length
  cap : n ≤ c ∧ (c : Int) ≤ 9223372036854775807
  val : ∀ z ∈ zs, (Lit.int .i64 z).wf = true
  row : ∀ j, j < zs.length → ∃ b off, a = some ⟨b, off, none⟩ ∧ b < w.heap.size ∧ b ≠ p ∧ b ≠ db ∧ b ≠ mb ∧ w.cell? ⟨b, off + j, none⟩ = some (.int .i64 (zs.getD j 0))
theorem KRow.nil (w : World) (p db mb : Nat) : KRow w p db mb none 0 0 [] := ⟨rfl, ⟨Nat.le_refl _, by decide⟩, by simp, fun j h => absurd h (Nat.not_lt_zero _)⟩
theorem KRow.but {w w' : World} {p db mb : Nat} {a : Option Addr} {n c : Nat} {zs : List Int} (h : KRow w p db mb a n c zs) (hb : But p db mb w w') : KRow w' p db mb a n c zs :=
  ⟨h.len, h.cap, h.val, fun j hj => by
    obtain ⟨b, off, e, hlt, h1, h2, h3, hc⟩ := h.row j hj
    exact ⟨b, off, e, Nat.lt_of_lt_of_le hlt hb.size, h1, h2, h3, (World.cell?_of_block (w := w) (hb.block b hlt h1 h2 h3)).trans hc⟩⟩
/-- The struct's cells. -/
def cellsS (db mb : Nat) (ka : Option Addr) (kn kc : Nat) (s : St) : Array Value :=
  #[.slice (some ⟨db, 0, none⟩) s.bs.length s.bs.length, .map (some mb), .bool s.down, .int .i64 s.left, .slice ka kn kc, .int .i64 s.torn, .int .i64 s.at_]
def rowS (bs : List Bk) : Array Value := (bs.map fun x => Value.string x.1).toArray
theorem rowS_get {bs : List Bk} {i : Nat} (hi : i < bs.length) : (rowS bs)[i]? = some (.string bs[i].1) := by simp [rowS, hi]
theorem rowS_set {bs : List Bk} {i : Nat} (a : ByteArray) (o : Option ByteArray) : (rowS bs).setIfInBounds i (.string a) = rowS (bs.set i (a, o)) := by
  unfold rowS
  simp [List.map_set]
structure SlK (w : World) (p db mb : Nat) (ka : Option Addr) (kn kc : Nat) (s : St) : Prop where
  hp : w.heap[p]? = some (.cells (cellsS db mb ka kn kc s) 62)
  hd : w.heap[db]? = some (.cells (rowS s.bs) 9)
  hm : Mp w mb s.bs
  keep : KRow w p db mb ka kn kc s.zs
  ne1 : p ≠ db
  ne2 : p ≠ mb
  ne3 : db ≠ mb
  len : 1 ≤ s.bs.length ∧ s.bs.length ≤ 4096
  fit : Fits s.bs
  left : 0 ≤ s.left ∧ s.left ≤ 9223372036854775807
  torn : (Lit.int .i64 s.torn).wf = true
  at_ : (Lit.int .i64 s.at_).wf = true
  calm : s.down = true → Calm s.bs
/-- A slab lies at p. -/
def Sl (w : World) (p db mb : Nat) (s : St) : Prop := ∃ ka kn kc, SlK w p db mb ka kn kc s
theorem SlK.lt {w : World} {p db mb : Nat} {ka : Option Addr} {kn kc : Nat} {s : St} (h : SlK w p db mb ka kn kc s) : p < w.heap.size ∧ db < w.heap.size ∧ mb < w.heap.size :=
  ⟨(Array.getElem?_eq_some_iff.1 h.hp).1, (Array.getElem?_eq_some_iff.1 h.hd).1, h.hm.lt⟩
theorem SlK.cells {w : World} {p db mb : Nat} {ka : Option Addr} {kn kc : Nat} {s : St} (h : SlK w p db mb ka kn kc s) :
    w.cell? ⟨p, 0, none⟩ = some (.slice (some ⟨db, 0, none⟩) s.bs.length s.bs.length) ∧ w.cell? ⟨p, 1, none⟩ = some (.map (some mb)) ∧ w.cell? ⟨p, 2, none⟩ = some (.bool s.down) ∧ w.cell? ⟨p, 3, none⟩ = some (.int .i64 s.left) ∧
    w.cell? ⟨p, 4, none⟩ = some (.slice ka kn kc) ∧ w.cell? ⟨p, 5, none⟩ = some (.int .i64 s.torn) ∧ w.cell? ⟨p, 6, none⟩ = some (.int .i64 s.at_) :=
  ⟨cell_of_row _ _ 0 _ _ _ h.hp, cell_of_row _ _ 1 _ _ _ h.hp, cell_of_row _ _ 2 _ _ _ h.hp, cell_of_row _ _ 3 _ _ _ h.hp, cell_of_row _ _ 4 _ _ _ h.hp, cell_of_row _ _ 5 _ _ _ h.hp, cell_of_row _ _ 6 _ _ _ h.hp⟩
theorem SlK.free {w : World} {p db mb : Nat} {ka : Option Addr} {kn kc : Nat} {s : St} (h : SlK w p db mb ka kn kc s) (i : Nat) : w.frozen? ⟨p, i, none⟩ = false := frozen_of_row _ _ i _ _ h.hp
/-- A slab stays while nothing is written but to other blocks. -/
theorem SlK.same {w w' : World} {p db mb : Nat} {ka : Option Addr} {kn kc : Nat} {s : St} (h : SlK w p db mb ka kn kc s) (hb : Below w.heap.size w w') : SlK w' p db mb ka kn kc s := by
  obtain ⟨l1, l2, l3⟩ := h.lt
  exact { h with hp := (hb.block p l1).trans h.hp, hd := (hb.block db l2).trans h.hd, hm := h.hm.same (hb.block mb l3), keep := h.keep.but (But.of_below hb) }
theorem Sl.same {w w' : World} {p db mb : Nat} {s : St} (h : Sl w p db mb s) (hb : Below w.heap.size w w') : Sl w' p db mb s := by obtain ⟨ka, kn, kc, h⟩ := h; exact ⟨ka, kn, kc, h.same hb⟩
theorem SlK.drew {w : World} {p db mb : Nat} {ka : Option Addr} {kn kc : Nat} {s : St} (h : SlK w p db mb ka kn kc s) : SlK w.drew p db mb ka kn kc s :=
  h.same (Below.refl _ _).drew
theorem rowS_size (bs : List Bk) : (rowS bs).size = bs.length := by simp [rowS]
theorem rowS_congr {bs bs' : List Bk} (h : bs'.map (·.1) = bs.map (·.1)) : rowS bs' = rowS bs := by
  unfold rowS
  have : ∀ l : List Bk, (l.map fun x => Value.string x.1) = (l.map (·.1)).map Value.string := fun l => by simp
  rw [this, this, h]
/-- A block's sure text is another one. -/
theorem SlK.setD {w : World} {p db mb : Nat} {ka : Option Addr} {kn kc : Nat} {s : St} (h : SlK w p db mb ka kn kc s) {i : Nat} (hi : i < s.bs.length) {a : ByteArray} (ha : a.size ≤ 256) :
    SlK (w.setCell ⟨db, i, none⟩ (.string a)) p db mb ka kn kc { s with bs := s.bs.set i (a, s.bs[i].2) } := by
  obtain ⟨l1, l2, l3⟩ := h.lt
  have o : ∀ k, k ≠ db → (w.setCell ⟨db, i, none⟩ (.string a)).heap[k]? = w.heap[k]? := fun k hk => Below.heap_setCell _ _ _ _ hk
  have hlen : (s.bs.set i (a, s.bs[i].2)).length = s.bs.length := by simp
  refine { h with hp := ?_, hd := ?_, hm := ?_, keep := ?_, len := ?_, fit := ?_, calm := ?_ }
  · rw [o p h.ne1, h.hp]
    unfold cellsS
    dsimp only
    rw [hlen]
  · dsimp only
    rw [heap_setCell_same _ _ _ _ _ _ h.hd, rowS_set a s.bs[i].2]
  · refine (h.hm.same (o mb (Ne.symm h.ne3))).congr (fun k => ?_) ?_
    · rw [looseAt_set _ _ hi]
      split
      · rename_i e; rw [e, looseAt_get hi]
      · rfl
    · have := cnt_set hi (a, s.bs[i].2)
      dsimp only at this ⊢
      omega
  · exact h.keep.but ((But.refl _ _ _ _).set (.inr (.inl rfl)) _)
  · dsimp only; rw [hlen]; exact h.len
  · exact h.fit.set i ha (fun t ht => (h.fit _ (List.getElem_mem hi)).2 t ht)
  · intro hd x hx
    rcases List.mem_or_eq_of_mem_set hx with hx | rfl
    · exact h.calm hd x hx
    · exact (show s.bs[i].2 = none from h.calm hd s.bs[i] (List.getElem_mem hi))
/-- The map has turned. -/
theorem SlK.turn {w w' : World} {p db mb : Nat} {ka : Option Addr} {kn kc : Nat} {s : St} (h : SlK w p db mb ka kn kc s) (ht : w.mapTurned w' mb) {bs' : List Bk} (hm : Mp w' mb bs') (e : bs'.map (·.1) = s.bs.map (·.1)) (hf : Fits bs') (hc : s.down = true → Calm bs') :
    SlK w' p db mb ka kn kc { s with bs := bs' } := by
  have hg := ht.grown
  obtain ⟨l1, l2, l3⟩ := h.lt
  have hlen : bs'.length = s.bs.length := by have := congrArg List.length e; simpa using this
  have o : ∀ k, k < w.heap.size → k ≠ mb → w'.heap[k]? = w.heap[k]? := fun k hk hne => hg.block k hk (fun q => hne (Option.some.inj q))
  refine { h with hp := ?_, hd := ?_, hm := hm, keep := ?_, len := ?_, fit := hf, calm := hc }
  · rw [o p l1 h.ne2, h.hp]
    unfold cellsS
    dsimp only
    rw [hlen]
  · rw [o db l2 h.ne3, h.hd]
    dsimp only
    rw [rowS_congr e]
  · exact h.keep.but ((But.refl _ _ _ _).grown hg (.inr (.inr (.inl rfl))))
  · dsimp only; rw [hlen]; exact h.len
/-- A cell of the struct is another one. -/
theorem SlK.putP {w : World} {p db mb : Nat} {ka : Option Addr} {kn kc : Nat} {s : St} (h : SlK w p db mb ka kn kc s) (i : Nat) (v : Value) {ka' : Option Addr} {kn' kc' : Nat} (s' : St) (hb : s'.bs = s.bs)
    (hc : (cellsS db mb ka kn kc s).setIfInBounds i v = cellsS db mb ka' kn' kc' s') (hk : KRow w p db mb ka' kn' kc' s'.zs) (hl : 0 ≤ s'.left ∧ s'.left ≤ 9223372036854775807) (ht : (Lit.int .i64 s'.torn).wf = true)
    (ha : (Lit.int .i64 s'.at_).wf = true) (hq : s'.down = true → Calm s.bs) : SlK (w.setCell ⟨p, i, none⟩ v) p db mb ka' kn' kc' s' := by
  have o : ∀ k, k ≠ p → (w.setCell ⟨p, i, none⟩ v).heap[k]? = w.heap[k]? := fun k hk => Below.heap_setCell _ _ _ _ hk
  refine { hp := ?_, hd := ?_, hm := ?_, keep := ?_, ne1 := h.ne1, ne2 := h.ne2, ne3 := h.ne3, len := by rw [hb]; exact h.len, fit := by rw [hb]; exact h.fit, left := hl, torn := ht, at_ := ha, calm := by rw [hb]; exact hq }
  · rw [heap_setCell_same _ _ _ _ _ _ h.hp, hc]
  · rw [o db (Ne.symm h.ne1), h.hd, hb]
  · rw [hb]; exact h.hm.same (o mb (Ne.symm h.ne2))
  · exact hk.but ((But.refl _ _ _ _).set (.inl rfl) _)
/-- What a call on a slab leaves. -/
def SPost (p db mb : Nat) (v : Value) (s : St) (w : World) (e : Ending) (w' : World) : Prop := e = .returned v ∧ Sl w' p db mb s ∧ But p db mb w w'

def insideB (bs : List Bk) (k : Int) : Bool := decide (0 ≤ k) && decide (k < (bs.length : Int))
theorem has_any {w : World} {p db mb : Nat} {ka : Option Addr} {kn kc : Nat} {s : St} (h : SlK w p db mb ka kn kc s) (k : Int) :
    Calls Try.prog 33 #[.pointer (some ⟨p, 0, none⟩), .int .i64 k] w fun e w' => e = .returned (.bool (insideB s.bs k)) ∧ w' = w := by
  obtain ⟨c0, _⟩ := h.cells
  unfold insideB
  by_cases h0 : 0 ≤ k
  · go_enter Try.func33, Try.ntmps33
    go_wp2
    go_ret
    exact ⟨by simp [h0], rfl⟩
  · go_enter Try.func33, Try.ntmps33
    go_wp2
    go_ret
    exact ⟨by simp; omega, rfl⟩
theorem down_any {w : World} {p db mb : Nat} {ka : Option Addr} {kn kc : Nat} {s : St} (h : SlK w p db mb ka kn kc s) :
    Calls Try.prog 23 #[.pointer (some ⟨p, 0, none⟩)] w fun e w' => e = .returned (.bool s.down) ∧ w' = w := by
  obtain ⟨_, _, c2, _⟩ := h.cells
  go_enter Try.func23, Try.ntmps23
  go_wp2
  go_ret
  exact ⟨rfl, rfl⟩
theorem down_nil (w : World) : Calls Try.prog 23 #[.pointer none] w fun e w' => e = .returned (.bool true) ∧ w' = w := by
  go_enter Try.func23, Try.ntmps23
  go_wp2
  go_ret
  exact ⟨rfl, rfl⟩
theorem blocks_any {w : World} {p db mb : Nat} {ka : Option Addr} {kn kc : Nat} {s : St} (h : SlK w p db mb ka kn kc s) :
    Calls Try.prog 25 #[.pointer (some ⟨p, 0, none⟩)] w fun e w' => e = .returned (.int .i64 (s.bs.length : Int)) ∧ w' = w := by
  obtain ⟨c0, _⟩ := h.cells
  go_enter Try.func25, Try.ntmps25
  go_wp2
  go_ret
  exact ⟨rfl, rfl⟩
theorem blocks_nil (w : World) : Calls Try.prog 25 #[.pointer none] w fun e w' => e = .returned (.int .i64 0) ∧ w' = w := by
  go_enter Try.func25, Try.ntmps25
  go_wp2
  go_ret
  exact ⟨rfl, rfl⟩
end Go.Proofs.Ythcebcpippbhfaa
