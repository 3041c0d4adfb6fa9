/-
  CONTRACT: mut.Read; what a mutation is read as, plain.
-/
import Derived.Test.YtfpgelobddglaaaRvF
import Derived.Test.YtfpgelobddglaaaRvD
import Derived.Test.YtfpgelobddglaaaRvB
namespace Go.Proofs.Ytfpgelobddglaaa
open Go.RowKit Go.Shelf Go.ChangeShapes Go.WideShapes Go.Deep

structure MutV where
  c : Int
  s : Int
  k : Int
  l : List Sp
  lo : Int
  hi : Int
  old : Int
def noM : MutV := ⟨0, 0, 0, [], 0, 0, 0⟩
def mFin (c q k : Int) (l : List Sp) (lo hi old x : Int) : MutV × Int := if x = 0 then (if chkM c q k l lo hi old = true then (⟨c, q, k, l, lo, hi, old⟩, 0) else (noM, 3)) else (noM, x)
/-- What stands behind the pairs. -/
def mTail (k : Int) (s : ByteArray) (e : Int) : Int × Int × Int × ByteArray × Int :=
  if k = 2 then ((rNum s e).1, (rNum (rNum s e).2.1 (rNum s e).2.2).1, 0, (rNum (rNum s e).2.1 (rNum s e).2.2).2)
  else if k = 4 then (0, 0, (rWhole s e).1, (rWhole s e).2) else (0, 0, 0, s, e)
def mR4 (P : ByteArray → Int → List Sp × ByteArray × Int) (c q k : Int) (s : ByteArray) (e : Int) : MutV × Int :=
  mFin c q k (P s e).1 (mTail k (P s e).2.1 (P s e).2.2).1 (mTail k (P s e).2.1 (P s e).2.2).2.1 (mTail k (P s e).2.1 (P s e).2.2).2.2.1 (rEnd (mTail k (P s e).2.1 (P s e).2.2).2.2.2.1 (mTail k (P s e).2.1 (P s e).2.2).2.2.2.2)
def mR3 (P : ByteArray → Int → List Sp × ByteArray × Int) (c q : Int) (s : ByteArray) (e : Int) : MutV × Int := mR4 P c q (rNum s e).1 (rNum s e).2.1 (rNum s e).2.2
def mR2 (P : ByteArray → Int → List Sp × ByteArray × Int) (c : Int) (s : ByteArray) (e : Int) : MutV × Int := mR3 P c (rNum s e).1 (rNum s e).2.1 (rNum s e).2.2
def mRd (P : ByteArray → Int → List Sp × ByteArray × Int) (s : ByteArray) : MutV × Int := mR2 P (rNum s 0).1 (rNum s 0).2.1 (rNum s 0).2.2
theorem mRd_eq {P : ByteArray → Int → List Sp × ByteArray × Int} {s s1 s2 s3 s4 s5 : ByteArray} {c q k lo hi old e1 e2 e3 e4 e5 x : Int} {l : List Sp} (hA : rNum s 0 = (c, s1, e1)) (hB : rNum s1 e1 = (q, s2, e2)) (hC : rNum s2 e2 = (k, s3, e3)) (hD : P s3 e3 = (l, s4, e4)) (hT : mTail k s4 e4 = (lo, hi, old, s5, e5)) (hx : rEnd s5 e5 = x) :
    mRd P s = mFin c q k l lo hi old x := by
  unfold mRd
  rw [hA]
  unfold mR2
  dsimp only
  rw [hB]
  unfold mR3
  dsimp only
  rw [hC]
  unfold mR4
  dsimp only
  rw [hD]
  dsimp only
  rw [hT]
  dsimp only
  rw [hx]
theorem mTail_2 {s s1 s2 : ByteArray} {e lo hi e1 e2 : Int} (hA : rNum s e = (lo, s1, e1)) (hB : rNum s1 e1 = (hi, s2, e2)) : mTail 2 s e = (lo, hi, 0, s2, e2) := by
  unfold mTail
  rw [if_pos rfl, hA]
  dsimp only
  rw [hB]
theorem mTail_4 {s s1 : ByteArray} {e old e1 : Int} (hA : rWhole s e = (old, s1, e1)) : mTail 4 s e = (0, 0, old, s1, e1) := by
  unfold mTail
  rw [if_neg (by decide), if_pos rfl, hA]
theorem mTail_0 {k : Int} (s : ByteArray) (e : Int) (h2 : k ≠ 2) (h4 : k ≠ 4) : mTail k s e = (0, 0, 0, s, e) := by
  unfold mTail
  rw [if_neg h2, if_neg h4]

def MutRet (w : World) (r : MutV × Int) (e : Ending) (w' : World) : Prop := ∃ a n cp, e = .returned (.tuple #[.agg #[.int .i64 r.1.c, .int .i64 r.1.s, .int .i64 r.1.k, .slice a n cp, .int .i64 r.1.lo, .int .i64 r.1.hi, .int .i64 r.1.old], .int .i64 r.2]) ∧ Arg w' a n cp r.1.l ∧ Below w.heap.size w w'

/-- Block g holds a mutation. -/
def Mv (t : TypeId) (w : World) (g : Nat) (c q k : Int) (v : Value) (lo hi old : Int) : Prop := w.heap[g]? = some (.cells #[.int .i64 c, .int .i64 q, .int .i64 k, v, .int .i64 lo, .int .i64 hi, .int .i64 old] t (0, 0))
section
variable {t : TypeId} {w w' : World} {g : Nat} {c q k : Int} {v : Value} {lo hi old : Int}
theorem Mv.new (t : TypeId) (w : World) (c q k : Int) (v : Value) (lo hi old : Int) : Mv t (w.alloc (.cells #[.int .i64 c, .int .i64 q, .int .i64 k, v, .int .i64 lo, .int .i64 hi, .int .i64 old] t)) w.heap.size c q k v lo hi old := heap_alloc_new w _
theorem Mv.lt (h : Mv t w g c q k v lo hi old) : g < w.heap.size := by
  rcases Nat.lt_or_ge g w.heap.size with h1 | h1
  · exact h1
  · unfold Mv at h; rw [Array.getElem?_eq_none h1] at h; cases h
theorem Mv.cells (h : Mv t w g c q k v lo hi old) : w.cell? ⟨g, 0, none⟩ = some (.int .i64 c) ∧ w.cell? ⟨g, 1, none⟩ = some (.int .i64 q) ∧ w.cell? ⟨g, 2, none⟩ = some (.int .i64 k) ∧ w.cell? ⟨g, 3, none⟩ = some v ∧ w.cell? ⟨g, 4, none⟩ = some (.int .i64 lo) ∧ w.cell? ⟨g, 5, none⟩ = some (.int .i64 hi) ∧ w.cell? ⟨g, 6, none⟩ = some (.int .i64 old) :=
  ⟨cell_of_row w g 0 _ _ _ h, cell_of_row w g 1 _ _ _ h, cell_of_row w g 2 _ _ _ h, cell_of_row w g 3 _ _ _ h, cell_of_row w g 4 _ _ _ h, cell_of_row w g 5 _ _ _ h, cell_of_row w g 6 _ _ _ h⟩
theorem Mv.free1 (h : Mv t w g c q k v lo hi old) (i : Nat) : w.frozen? ⟨g, i, none⟩ = false := frozen_of_row _ _ _ _ _ h
theorem Mv.free (h : Mv t w g c q k v lo hi old) : w.frozen? ⟨g, 0, none⟩ = false ∧ w.frozen? ⟨g, 1, none⟩ = false ∧ w.frozen? ⟨g, 2, none⟩ = false ∧ w.frozen? ⟨g, 3, none⟩ = false ∧ w.frozen? ⟨g, 4, none⟩ = false ∧ w.frozen? ⟨g, 5, none⟩ = false ∧ w.frozen? ⟨g, 6, none⟩ = false := ⟨h.free1 0, h.free1 1, h.free1 2, h.free1 3, h.free1 4, h.free1 5, h.free1 6⟩
theorem Mv.same (h : Mv t w g c q k v lo hi old) (hg : w'.heap[g]? = w.heap[g]?) : Mv t w' g c q k v lo hi old := hg.trans h
theorem Mv.below (h : Mv t w g c q k v lo hi old) (hb : Below w.heap.size w w') : Mv t w' g c q k v lo hi old := h.same (hb.block g h.lt)
theorem Mv.grown {row : Option Nat} (h : Mv t w g c q k v lo hi old) (hg : w.grownBy w' row) (hne : some g ≠ row) : Mv t w' g c q k v lo hi old := h.same (hg.block g h.lt hne)
theorem Mv.set0 (h : Mv t w g c q k v lo hi old) (c' : Int) : Mv t (w.setCell ⟨g, 0, none⟩ (.int .i64 c')) g c' q k v lo hi old := by
  unfold Mv at h ⊢; simp [World.setCell, Array.getElem?_modify, h]
theorem Mv.set1 (h : Mv t w g c q k v lo hi old) (q' : Int) : Mv t (w.setCell ⟨g, 1, none⟩ (.int .i64 q')) g c q' k v lo hi old := by
  unfold Mv at h ⊢; simp [World.setCell, Array.getElem?_modify, h]
theorem Mv.set2 (h : Mv t w g c q k v lo hi old) (k' : Int) : Mv t (w.setCell ⟨g, 2, none⟩ (.int .i64 k')) g c q k' v lo hi old := by
  unfold Mv at h ⊢; simp [World.setCell, Array.getElem?_modify, h]
theorem Mv.set3 (h : Mv t w g c q k v lo hi old) (v' : Value) : Mv t (w.setCell ⟨g, 3, none⟩ v') g c q k v' lo hi old := by
  unfold Mv at h ⊢; simp [World.setCell, Array.getElem?_modify, h]
theorem Mv.set4 (h : Mv t w g c q k v lo hi old) (lo' : Int) : Mv t (w.setCell ⟨g, 4, none⟩ (.int .i64 lo')) g c q k v lo' hi old := by
  unfold Mv at h ⊢; simp [World.setCell, Array.getElem?_modify, h]
theorem Mv.set5 (h : Mv t w g c q k v lo hi old) (hi' : Int) : Mv t (w.setCell ⟨g, 5, none⟩ (.int .i64 hi')) g c q k v lo hi' old := by
  unfold Mv at h ⊢; simp [World.setCell, Array.getElem?_modify, h]
theorem Mv.set6 (h : Mv t w g c q k v lo hi old) (old' : Int) : Mv t (w.setCell ⟨g, 6, none⟩ (.int .i64 old')) g c q k v lo hi old' := by
  unfold Mv at h ⊢; simp [World.setCell, Array.getElem?_modify, h]
theorem Mv.far (h : Mv t w g c q k v lo hi old) (p : Addr) (u : Value) (hp : p.block ≠ g) : Mv t (w.setCell p u) g c q k v lo hi old := h.grown (grown_setCell w p u) (by simp <;> omega)
end
theorem Rd.far {w : World} {g : Nat} {s : ByteArray} {e : Int} (h : Rd w g s e) (p : Addr) (u : Value) (hp : p.block ≠ g) : Rd (w.setCell p u) g s e := rd_grown h (grown_setCell w p u) (by simp <;> omega)
theorem row_grown {t : TypeId} {w w' : World} {base k n g : Nat} {v : Value} {xs : List Value} (h : w.ownsRow base t k v n xs) (hg : w.grownBy w' (some g)) (hlt : g < base) : w'.ownsRow base t k v n xs :=
  World.ownsRow.kept h hg (by right; intro he; have := (h.lt _ he).1; omega)
theorem Arg.nil0 (w : World) : Arg w none 0 0 [] := ⟨rfl, by simp, Nat.le_refl _, Nat.zero_le _, PIn.nil _ _ _⟩
theorem cPs_size (c : Nat) : ∀ (n : Nat) (acc : List Sp) (s : ByteArray) (e : Int), (cPs c n acc s e).2.1.size ≤ s.size
  | 0, _, _, _ => Nat.le_refl _
  | n + 1, acc, s, e => by
    have h1 := rNum_size s e
    have h2 := rWhole_size (rNum s e).2.1 (rNum s e).2.2
    rw [cPs]
    split
    · exact Nat.le_trans (cPs_size c n _ _ _) (Nat.le_trans h2 h1)
    · exact Nat.le_trans h2 h1
theorem cPairs_size (s : ByteArray) (e : Int) : (cPairs s e).2.1.size ≤ s.size := Nat.le_trans (cPs_size 8 _ _ _ _) (rNum_size s e)
/-- The kind that is read. -/
def mKind (s : ByteArray) : Int := (rNum (rNum (rNum s 0).2.1 (rNum s 0).2.2).2.1 (rNum (rNum s 0).2.1 (rNum s 0).2.2).2.2).1

set_option maxRecDepth 100000 in
set_option maxHeartbeats 4000000 in
theorem mread_2 (s : ByteArray) (w : World) (hs : (s.size : Int) ≤ 1000000000000) (hk : (mKind s) = 2) : Calls Try.prog 29 #[.string s] w (MutRet w (mRd cPairs s)) := by
  obtain ⟨c, s1, e1, hA⟩ : ∃ x s1 e1, rNum s 0 = (x, s1, e1) := ⟨_, _, _, rfl⟩
  obtain ⟨q, s2, e2, hB⟩ : ∃ x s2 e2, rNum s1 e1 = (x, s2, e2) := ⟨_, _, _, rfl⟩
  obtain ⟨k, s3, e3, hC⟩ : ∃ x s3 e3, rNum s2 e2 = (x, s3, e3) := ⟨_, _, _, rfl⟩
  obtain ⟨l, s4, e4, hD⟩ : ∃ x s4 e4, cPairs s3 e3 = (x, s4, e4) := ⟨_, _, _, rfl⟩
  have z1 : s1.size ≤ s.size := by have := rNum_size s 0; rw [hA] at this; exact this
  have z2 : s2.size ≤ s1.size := by have := rNum_size s1 e1; rw [hB] at this; exact this
  have z3 : s3.size ≤ s2.size := by have := rNum_size s2 e2; rw [hC] at this; exact this
  have z4 : s4.size ≤ s3.size := by have := cPairs_size s3 e3; rw [hD] at this; exact this
  obtain ⟨W0, hW0⟩ : ∃ W0, w.alloc (.cells #[.int .i64 0, .int .i64 0, .int .i64 0, .slice none 0 0, .int .i64 0, .int .i64 0, .int .i64 0] 26) = W0 := ⟨_, rfl⟩
  obtain ⟨W1, hW1⟩ : ∃ W1, W0.alloc (.cells #[.string s, .int .i64 0] 155) = W1 := ⟨_, rfl⟩
  have hgB : W0.heap.size = w.heap.size + 1 := by rw [← hW0]; simp
  have B0 : Mv 26 W0 w.heap.size 0 0 0 (.slice none 0 0) 0 0 0 := by rw [← hW0]; exact Mv.new _ _ _ _ _ _ _ _ _
  have B1 : Mv 26 W1 w.heap.size 0 0 0 (.slice none 0 0) 0 0 0 := by rw [← hW1]; exact B0.grown (World.grownBy_alloc _ _ none) (by simp)
  have b0 : Below w.heap.size w W0 := by rw [← hW0]; exact (Below.refl _ _).alloc (Nat.le_refl _) _
  have b1 : Below w.heap.size w W1 := by rw [← hW1]; exact b0.alloc b0.size _
  have C0 : Calls Try.prog 67 #[.string s] W0 fun e w' => e = .returned (.pointer (some ⟨W0.heap.size, 0, none⟩)) ∧ W1 = w' := by rw [← hW1]; exact from_any s W0
  have R1 : Rd W1 W0.heap.size s 0 := by rw [← hW1]; exact Rd.new W0 s 0
  obtain ⟨g, hg⟩ : ∃ g, W0.heap.size = g := ⟨_, rfl⟩
  rw [hg] at C0 R1 hgB
  have hgl : w.heap.size < g := by omega
  clear hgB
  have CA : Hid (∀ W, Rd W g s 0 → Calls Try.prog 68 #[.pointer (some ⟨g, 0, none⟩)] W (RdPost W g (.int .i64 c) (s1, e1))) := Lib.hid fun W hR => (rnum_any hR (by omega)).mono fun e w' h => by rw [hA] at h; exact h
  have CB : Hid (∀ W, Rd W g s1 e1 → Calls Try.prog 68 #[.pointer (some ⟨g, 0, none⟩)] W (RdPost W g (.int .i64 q) (s2, e2))) := Lib.hid fun W hR => (rnum_any hR (by omega)).mono fun e w' h => by rw [hB] at h; exact h
  have CC : Hid (∀ W, Rd W g s2 e2 → Calls Try.prog 68 #[.pointer (some ⟨g, 0, none⟩)] W (RdPost W g (.int .i64 k) (s3, e3))) := Lib.hid fun W hR => (rnum_any hR (by omega)).mono fun e w' h => by rw [hC] at h; exact h
  have CP : Hid (∀ W, Rd W g s3 e3 → Calls Try.prog 69 #[.pointer (some ⟨g, 0, none⟩)] W (PsPost W g l (s4, e4))) := Lib.hid fun W hR => (mpairs_any hR (by omega)).mono fun e w' h => by rw [hD] at h; exact h
  replace C0 := Lib.hid C0
  rw [show mKind s = k by unfold mKind; rw [hA]; dsimp only; rw [hB]; dsimp only; rw [hC]] at hk
  subst hk
  obtain ⟨lo, s9, e9, hE⟩ : ∃ x s9 e9, rNum s4 e4 = (x, s9, e9) := ⟨_, _, _, rfl⟩
  obtain ⟨hi, s5, e5, hF⟩ : ∃ x s5 e5, rNum s9 e9 = (x, s5, e5) := ⟨_, _, _, rfl⟩
  have z5 : s9.size ≤ s4.size := by have := rNum_size s4 e4; rw [hE] at this; exact this
  have CE : Hid (∀ W, Rd W g s4 e4 → Calls Try.prog 68 #[.pointer (some ⟨g, 0, none⟩)] W (RdPost W g (.int .i64 lo) (s9, e9))) := Lib.hid fun W hR => (rnum_any hR (by omega)).mono fun e w' h => by rw [hE] at h; exact h
  have CF : Hid (∀ W, Rd W g s9 e9 → Calls Try.prog 68 #[.pointer (some ⟨g, 0, none⟩)] W (RdPost W g (.int .i64 hi) (s5, e5))) := Lib.hid fun W hR => (rnum_any hR (by omega)).mono fun e w' h => by rw [hF] at h; exact h
  have hT := mTail_2 hE hF
  obtain ⟨x, hx⟩ : ∃ x, rEnd s5 e5 = x := ⟨_, rfl⟩
  have CX := Lib.hid (fun W (h : Rd W g s5 e5) => hx ▸ end_any h)
  have HR : mRd cPairs s = mFin c q 2 l lo hi 0 x := mRd_eq hA hB hC hD hT hx
  obtain ⟨R, hR⟩ : ∃ R, mRd cPairs s = R := ⟨_, rfl⟩
  rw [hR] at HR ⊢
  replace hR := Lib.hid hR
  replace hg := Lib.hid hg
  clear hA hB hC hD hT hx hE hF
  by_cases h0 : x = 0
  · have d1 : (x != 0) = false := by simpa using h0
    cases hc : chkM c q 2 l lo hi 0
    · have HF := Lib.hid (show R = (noM, 3) by rw [HR]; unfold mFin; rw [if_pos h0, if_neg (by rw [hc]; simp)])
      have hck := Lib.hid hc
      clear HR hc
      replace h0 := Lib.hid h0
      go_enter Try.func29, Try.ntmps29
      go_wp2_with (first
        | (go_at_call 67; (with_reducible refine C0.out.mono ?_); rintro en w1 ⟨rfl, rfl⟩)
        | (go_at_call 68; (with_reducible refine (CA.out W1 R1).mono ?_); rintro en w2 ⟨rfl, R2, G2⟩; have B2 := B1.grown G2 (by simp <;> omega); have b2 := b1.grown G2 b1.size (by intro j hj; cases hj; omega))
        | (go_at_call 68; (with_reducible refine (CB.out w2 R2).mono ?_); rintro en w3 ⟨rfl, R3, G3⟩; have B3 := B2.grown G3 (by simp <;> omega); have b3 := b2.grown G3 b2.size (by intro j hj; cases hj; omega))
        | (go_at_call 68; (with_reducible refine (CC.out w3 R3).mono ?_); rintro en w4 ⟨rfl, R4, G4⟩; have B4 := B3.grown G4 (by simp <;> omega); have b4 := b3.grown G4 b3.size (by intro j hj; cases hj; omega); have hgM := R4.lt; have hMs : (w4.alloc (.cells #[.int .i64 c, .int .i64 q, .int .i64 2, .slice none 0 0, .int .i64 0, .int .i64 0, .int .i64 0] 26)).heap.size = w4.heap.size + 1 := (by simp); have M5 : Mv 26 (w4.alloc (.cells #[.int .i64 c, .int .i64 q, .int .i64 2, .slice none 0 0, .int .i64 0, .int .i64 0, .int .i64 0] 26)) w4.heap.size c q 2 (.slice none 0 0) 0 0 0 := (Mv.new _ _ _ _ _ _ _ _ _); have R5 : Rd (w4.alloc (.cells #[.int .i64 c, .int .i64 q, .int .i64 2, .slice none 0 0, .int .i64 0, .int .i64 0, .int .i64 0] 26)) g s3 e3 := (rd_grown R4 (World.grownBy_alloc _ _ none) (by simp)); have B5 : Mv 26 (w4.alloc (.cells #[.int .i64 c, .int .i64 q, .int .i64 2, .slice none 0 0, .int .i64 0, .int .i64 0, .int .i64 0] 26)) w.heap.size 0 0 0 (.slice none 0 0) 0 0 0 := (B4.grown (World.grownBy_alloc _ _ none) (by simp)); have b5 : Below w.heap.size w (w4.alloc (.cells #[.int .i64 c, .int .i64 q, .int .i64 2, .slice none 0 0, .int .i64 0, .int .i64 0, .int .i64 0] 26)) := (b4.alloc b4.size _); replace hMs := Lib.hid hMs)
        | (go_at_call 69; (with_reducible refine (CP.out _ R5).mono ?_); rintro en w6 ⟨v6, rfl, o6, R6, G6⟩; rw [hMs.out] at o6; obtain ⟨a6, p6, hv6, _, _, _, _⟩ := o6.arg; subst hv6; obtain ⟨n6, hn6⟩ : ∃ n, l.length = n := ⟨_, rfl⟩; have o6' : w6.ownsRow (w4.heap.size + 1) 87 2 (.slice a6 n6 p6) n6 (flatP l) := (by rw [← hn6]; exact o6); rw [hn6]; have B6 := B5.grown G6 (by simp <;> omega); have M6 := M5.grown G6 (by simp <;> omega); have b6 := b5.grown G6 b5.size (by intro j hj; cases hj; omega); have f6 := M6.free1 3; obtain ⟨d0, d1, d2, d3, d4, d5, d6⟩ := M6.cells; obtain ⟨W7, hW7⟩ : ∃ W7, w6.setCell ⟨w4.heap.size, 3, none⟩ (.slice a6 n6 p6) = W7 := ⟨_, rfl⟩; have M7 : Mv 26 W7 w4.heap.size c q 2 (.slice a6 n6 p6) 0 0 0 := (by rw [← hW7]; exact M6.set3 _); have R7 : Rd W7 g s4 e4 := (by rw [← hW7]; exact R6.far _ _ (by simp <;> omega)); have B7 : Mv 26 W7 w.heap.size 0 0 0 (.slice none 0 0) 0 0 0 := (by rw [← hW7]; exact B6.far _ _ (by have := B4.lt; simp <;> omega)); have o7 : W7.ownsRow (w4.heap.size + 1) 87 2 (.slice a6 n6 p6) n6 (flatP l) := (by rw [← hW7]; exact row_far o6' _ _ (by simp <;> omega)); have b7 : Below w.heap.size w W7 := (by rw [← hW7]; exact b6.setCell (by have := B4.lt; simp <;> omega) _); obtain ⟨x0, x1, x2, x3, x4, x5, x6⟩ := M7.cells; obtain ⟨y0, y1, y2, y3, y4, y5, y6⟩ := M7.free; replace hn6 := Lib.hid hn6)
        | (go_at_call 68; (with_reducible refine (CE.out W7 R7).mono ?_); rintro en w8 ⟨rfl, R8, G8⟩; have B8 := B7.grown G8 (by simp <;> omega); have M8 := M7.grown G8 (by simp <;> omega); have o8 := row_grown o7 G8 (by omega); have b8 := b7.grown G8 b7.size (by intro j hj; cases hj; omega))
        | (go_at_call 68; (with_reducible refine (CF.out w8 R8).mono ?_); rintro en w9 ⟨rfl, R9, G9⟩; have B9 := B8.grown G9 (by simp <;> omega); have M9 := M8.grown G9 (by simp <;> omega); have o9 := row_grown o8 G9 (by omega); have b9 := b8.grown G9 b8.size (by intro j hj; cases hj; omega); obtain ⟨_, _, _, _, u4, u5, _⟩ := M9.cells; obtain ⟨_, _, _, _, v4, v5, _⟩ := M9.free; obtain ⟨WA, hWA⟩ : ∃ WA, (w9.setCell ⟨w4.heap.size, 4, none⟩ (.int .i64 lo)).setCell ⟨w4.heap.size, 5, none⟩ (.int .i64 hi) = WA := ⟨_, rfl⟩; have MA : Mv 26 WA w4.heap.size c q 2 (.slice a6 n6 p6) lo hi 0 := (by rw [← hWA]; exact (M9.set4 _).set5 _); have RA : Rd WA g s5 e5 := (by rw [← hWA]; exact (R9.far _ _ (by simp <;> omega)).far _ _ (by simp <;> omega)); have BA : Mv 26 WA w.heap.size 0 0 0 (.slice none 0 0) 0 0 0 := (by rw [← hWA]; exact (B9.far _ _ (by have := B4.lt; simp <;> omega)).far _ _ (by have := B4.lt; simp <;> omega)); have oA : WA.ownsRow (w4.heap.size + 1) 87 2 (.slice a6 n6 p6) n6 (flatP l) := (by rw [← hWA]; exact row_far (row_far o9 _ _ (by simp <;> omega)) _ _ (by simp <;> omega)); have bA : Below w.heap.size w WA := (by rw [← hWA]; exact (b9.setCell (by have := B4.lt; simp <;> omega) _).setCell (by have := B4.lt; simp <;> omega) _); obtain ⟨x0, x1, x2, x3, x4, x5, x6⟩ := MA.cells; obtain ⟨i0, i1, i2, i3, i4, i5, i6⟩ := BA.cells; obtain ⟨j0, j1, j2, j3, j4, j5, j6⟩ := BA.free)
        | (go_at_call 71; (with_reducible refine (CX.out WA RA).mono ?_); rintro en w10 ⟨rfl, rfl⟩)
        | (go_at_call 32; (with_reducible refine (mcheck_any c q 2 a6 n6 p6 l lo hi 0 WA (Arg.of_own (ownsP_of_row oA hn6.out.symm) hn6.out.symm)).mono ?_); rw [hck.out]; rintro en w11 ⟨rfl, b11⟩; have M11 := MA.below b11; have B11 := BA.below b11; have o11 := row_belowR oA b11; have bb11 := below_next bA b11; obtain ⟨x0, x1, x2, x3, x4, x5, x6⟩ := M11.cells; obtain ⟨i0, i1, i2, i3, i4, i5, i6⟩ := B11.cells; obtain ⟨j0, j1, j2, j3, j4, j5, j6⟩ := B11.free))
      refine bodyPost_ret (v := .tuple #[.agg #[.int .i64 0, .int .i64 0, .int .i64 0, .slice none 0 0, .int .i64 0, .int .i64 0, .int .i64 0], .int .i64 3]) (by simp [results, Try.results29, go_sem, i0, i1, i2, i3, i4, i5, i6]; try rfl) rfl ?_
      rw [HF.out]
      exact ⟨none, 0, 0, rfl, Arg.nil0 _, (((((((bb11.setCell (Nat.le_refl _) _).setCell (Nat.le_refl _) _).setCell (Nat.le_refl _) _).setCell (Nat.le_refl _) _).setCell (Nat.le_refl _) _).setCell (Nat.le_refl _) _).setCell (Nat.le_refl _) _)⟩
    · have HF := Lib.hid (show R = (⟨c, q, 2, l, lo, hi, 0⟩, 0) by rw [HR]; unfold mFin; rw [if_pos h0, if_pos hc])
      have hck := Lib.hid hc
      clear HR hc
      replace h0 := Lib.hid h0
      go_enter Try.func29, Try.ntmps29
      go_wp2_with (first
        | (go_at_call 67; (with_reducible refine C0.out.mono ?_); rintro en w1 ⟨rfl, rfl⟩)
        | (go_at_call 68; (with_reducible refine (CA.out W1 R1).mono ?_); rintro en w2 ⟨rfl, R2, G2⟩; have B2 := B1.grown G2 (by simp <;> omega); have b2 := b1.grown G2 b1.size (by intro j hj; cases hj; omega))
        | (go_at_call 68; (with_reducible refine (CB.out w2 R2).mono ?_); rintro en w3 ⟨rfl, R3, G3⟩; have B3 := B2.grown G3 (by simp <;> omega); have b3 := b2.grown G3 b2.size (by intro j hj; cases hj; omega))
        | (go_at_call 68; (with_reducible refine (CC.out w3 R3).mono ?_); rintro en w4 ⟨rfl, R4, G4⟩; have B4 := B3.grown G4 (by simp <;> omega); have b4 := b3.grown G4 b3.size (by intro j hj; cases hj; omega); have hgM := R4.lt; have hMs : (w4.alloc (.cells #[.int .i64 c, .int .i64 q, .int .i64 2, .slice none 0 0, .int .i64 0, .int .i64 0, .int .i64 0] 26)).heap.size = w4.heap.size + 1 := (by simp); have M5 : Mv 26 (w4.alloc (.cells #[.int .i64 c, .int .i64 q, .int .i64 2, .slice none 0 0, .int .i64 0, .int .i64 0, .int .i64 0] 26)) w4.heap.size c q 2 (.slice none 0 0) 0 0 0 := (Mv.new _ _ _ _ _ _ _ _ _); have R5 : Rd (w4.alloc (.cells #[.int .i64 c, .int .i64 q, .int .i64 2, .slice none 0 0, .int .i64 0, .int .i64 0, .int .i64 0] 26)) g s3 e3 := (rd_grown R4 (World.grownBy_alloc _ _ none) (by simp)); have B5 : Mv 26 (w4.alloc (.cells #[.int .i64 c, .int .i64 q, .int .i64 2, .slice none 0 0, .int .i64 0, .int .i64 0, .int .i64 0] 26)) w.heap.size 0 0 0 (.slice none 0 0) 0 0 0 := (B4.grown (World.grownBy_alloc _ _ none) (by simp)); have b5 : Below w.heap.size w (w4.alloc (.cells #[.int .i64 c, .int .i64 q, .int .i64 2, .slice none 0 0, .int .i64 0, .int .i64 0, .int .i64 0] 26)) := (b4.alloc b4.size _); replace hMs := Lib.hid hMs)
        | (go_at_call 69; (with_reducible refine (CP.out _ R5).mono ?_); rintro en w6 ⟨v6, rfl, o6, R6, G6⟩; rw [hMs.out] at o6; obtain ⟨a6, p6, hv6, _, _, _, _⟩ := o6.arg; subst hv6; obtain ⟨n6, hn6⟩ : ∃ n, l.length = n := ⟨_, rfl⟩; have o6' : w6.ownsRow (w4.heap.size + 1) 87 2 (.slice a6 n6 p6) n6 (flatP l) := (by rw [← hn6]; exact o6); rw [hn6]; have B6 := B5.grown G6 (by simp <;> omega); have M6 := M5.grown G6 (by simp <;> omega); have b6 := b5.grown G6 b5.size (by intro j hj; cases hj; omega); have f6 := M6.free1 3; obtain ⟨d0, d1, d2, d3, d4, d5, d6⟩ := M6.cells; obtain ⟨W7, hW7⟩ : ∃ W7, w6.setCell ⟨w4.heap.size, 3, none⟩ (.slice a6 n6 p6) = W7 := ⟨_, rfl⟩; have M7 : Mv 26 W7 w4.heap.size c q 2 (.slice a6 n6 p6) 0 0 0 := (by rw [← hW7]; exact M6.set3 _); have R7 : Rd W7 g s4 e4 := (by rw [← hW7]; exact R6.far _ _ (by simp <;> omega)); have B7 : Mv 26 W7 w.heap.size 0 0 0 (.slice none 0 0) 0 0 0 := (by rw [← hW7]; exact B6.far _ _ (by have := B4.lt; simp <;> omega)); have o7 : W7.ownsRow (w4.heap.size + 1) 87 2 (.slice a6 n6 p6) n6 (flatP l) := (by rw [← hW7]; exact row_far o6' _ _ (by simp <;> omega)); have b7 : Below w.heap.size w W7 := (by rw [← hW7]; exact b6.setCell (by have := B4.lt; simp <;> omega) _); obtain ⟨x0, x1, x2, x3, x4, x5, x6⟩ := M7.cells; obtain ⟨y0, y1, y2, y3, y4, y5, y6⟩ := M7.free; replace hn6 := Lib.hid hn6)
        | (go_at_call 68; (with_reducible refine (CE.out W7 R7).mono ?_); rintro en w8 ⟨rfl, R8, G8⟩; have B8 := B7.grown G8 (by simp <;> omega); have M8 := M7.grown G8 (by simp <;> omega); have o8 := row_grown o7 G8 (by omega); have b8 := b7.grown G8 b7.size (by intro j hj; cases hj; omega))
        | (go_at_call 68; (with_reducible refine (CF.out w8 R8).mono ?_); rintro en w9 ⟨rfl, R9, G9⟩; have B9 := B8.grown G9 (by simp <;> omega); have M9 := M8.grown G9 (by simp <;> omega); have o9 := row_grown o8 G9 (by omega); have b9 := b8.grown G9 b8.size (by intro j hj; cases hj; omega); obtain ⟨_, _, _, _, u4, u5, _⟩ := M9.cells; obtain ⟨_, _, _, _, v4, v5, _⟩ := M9.free; obtain ⟨WA, hWA⟩ : ∃ WA, (w9.setCell ⟨w4.heap.size, 4, none⟩ (.int .i64 lo)).setCell ⟨w4.heap.size, 5, none⟩ (.int .i64 hi) = WA := ⟨_, rfl⟩; have MA : Mv 26 WA w4.heap.size c q 2 (.slice a6 n6 p6) lo hi 0 := (by rw [← hWA]; exact (M9.set4 _).set5 _); have RA : Rd WA g s5 e5 := (by rw [← hWA]; exact (R9.far _ _ (by simp <;> omega)).far _ _ (by simp <;> omega)); have BA : Mv 26 WA w.heap.size 0 0 0 (.slice none 0 0) 0 0 0 := (by rw [← hWA]; exact (B9.far _ _ (by have := B4.lt; simp <;> omega)).far _ _ (by have := B4.lt; simp <;> omega)); have oA : WA.ownsRow (w4.heap.size + 1) 87 2 (.slice a6 n6 p6) n6 (flatP l) := (by rw [← hWA]; exact row_far (row_far o9 _ _ (by simp <;> omega)) _ _ (by simp <;> omega)); have bA : Below w.heap.size w WA := (by rw [← hWA]; exact (b9.setCell (by have := B4.lt; simp <;> omega) _).setCell (by have := B4.lt; simp <;> omega) _); obtain ⟨x0, x1, x2, x3, x4, x5, x6⟩ := MA.cells; obtain ⟨i0, i1, i2, i3, i4, i5, i6⟩ := BA.cells; obtain ⟨j0, j1, j2, j3, j4, j5, j6⟩ := BA.free)
        | (go_at_call 71; (with_reducible refine (CX.out WA RA).mono ?_); rintro en w10 ⟨rfl, rfl⟩)
        | (go_at_call 32; (with_reducible refine (mcheck_any c q 2 a6 n6 p6 l lo hi 0 WA (Arg.of_own (ownsP_of_row oA hn6.out.symm) hn6.out.symm)).mono ?_); rw [hck.out]; rintro en w11 ⟨rfl, b11⟩; have M11 := MA.below b11; have B11 := BA.below b11; have o11 := row_belowR oA b11; have bb11 := below_next bA b11; obtain ⟨x0, x1, x2, x3, x4, x5, x6⟩ := M11.cells; obtain ⟨i0, i1, i2, i3, i4, i5, i6⟩ := B11.cells; obtain ⟨j0, j1, j2, j3, j4, j5, j6⟩ := B11.free))
      have oF := row_far (row_far (row_far (row_far (row_far (row_far (row_far o11 ⟨w.heap.size, 0, none⟩ (.int .i64 c) (by simp <;> omega)) ⟨w.heap.size, 1, none⟩ (.int .i64 q) (by simp <;> omega)) ⟨w.heap.size, 2, none⟩ (.int .i64 2) (by simp <;> omega)) ⟨w.heap.size, 3, none⟩ (.slice a6 n6 p6) (by simp <;> omega)) ⟨w.heap.size, 4, none⟩ (.int .i64 lo) (by simp <;> omega)) ⟨w.heap.size, 5, none⟩ (.int .i64 hi) (by simp <;> omega)) ⟨w.heap.size, 6, none⟩ (.int .i64 0) (by simp <;> omega)
      refine bodyPost_ret (v := .tuple #[.agg #[.int .i64 c, .int .i64 q, .int .i64 2, .slice a6 n6 p6, .int .i64 lo, .int .i64 hi, .int .i64 0], .int .i64 0]) (by simp [results, Try.results29, go_sem, i0, i1, i2, i3, i4, i5, i6]; try rfl) rfl ?_
      rw [HF.out]
      exact ⟨a6, n6, p6, rfl, Arg.of_own (ownsP_of_row oF hn6.out.symm) hn6.out.symm, (((((((bb11.setCell (Nat.le_refl _) _).setCell (Nat.le_refl _) _).setCell (Nat.le_refl _) _).setCell (Nat.le_refl _) _).setCell (Nat.le_refl _) _).setCell (Nat.le_refl _) _).setCell (Nat.le_refl _) _)⟩
  · have d1 : (x != 0) = true := by simpa using h0
    have HF := Lib.hid (show R = (noM, x) by rw [HR]; unfold mFin; rw [if_neg h0])
    clear HR
    replace h0 := Lib.hid h0
    go_enter Try.func29, Try.ntmps29
    go_wp2_with (first
      | (go_at_call 67; (with_reducible refine C0.out.mono ?_); rintro en w1 ⟨rfl, rfl⟩)
      | (go_at_call 68; (with_reducible refine (CA.out W1 R1).mono ?_); rintro en w2 ⟨rfl, R2, G2⟩; have B2 := B1.grown G2 (by simp <;> omega); have b2 := b1.grown G2 b1.size (by intro j hj; cases hj; omega))
      | (go_at_call 68; (with_reducible refine (CB.out w2 R2).mono ?_); rintro en w3 ⟨rfl, R3, G3⟩; have B3 := B2.grown G3 (by simp <;> omega); have b3 := b2.grown G3 b2.size (by intro j hj; cases hj; omega))
      | (go_at_call 68; (with_reducible refine (CC.out w3 R3).mono ?_); rintro en w4 ⟨rfl, R4, G4⟩; have B4 := B3.grown G4 (by simp <;> omega); have b4 := b3.grown G4 b3.size (by intro j hj; cases hj; omega); have hgM := R4.lt; have hMs : (w4.alloc (.cells #[.int .i64 c, .int .i64 q, .int .i64 2, .slice none 0 0, .int .i64 0, .int .i64 0, .int .i64 0] 26)).heap.size = w4.heap.size + 1 := (by simp); have M5 : Mv 26 (w4.alloc (.cells #[.int .i64 c, .int .i64 q, .int .i64 2, .slice none 0 0, .int .i64 0, .int .i64 0, .int .i64 0] 26)) w4.heap.size c q 2 (.slice none 0 0) 0 0 0 := (Mv.new _ _ _ _ _ _ _ _ _); have R5 : Rd (w4.alloc (.cells #[.int .i64 c, .int .i64 q, .int .i64 2, .slice none 0 0, .int .i64 0, .int .i64 0, .int .i64 0] 26)) g s3 e3 := (rd_grown R4 (World.grownBy_alloc _ _ none) (by simp)); have B5 : Mv 26 (w4.alloc (.cells #[.int .i64 c, .int .i64 q, .int .i64 2, .slice none 0 0, .int .i64 0, .int .i64 0, .int .i64 0] 26)) w.heap.size 0 0 0 (.slice none 0 0) 0 0 0 := (B4.grown (World.grownBy_alloc _ _ none) (by simp)); have b5 : Below w.heap.size w (w4.alloc (.cells #[.int .i64 c, .int .i64 q, .int .i64 2, .slice none 0 0, .int .i64 0, .int .i64 0, .int .i64 0] 26)) := (b4.alloc b4.size _); replace hMs := Lib.hid hMs)
      | (go_at_call 69; (with_reducible refine (CP.out _ R5).mono ?_); rintro en w6 ⟨v6, rfl, o6, R6, G6⟩; rw [hMs.out] at o6; obtain ⟨a6, p6, hv6, _, _, _, _⟩ := o6.arg; subst hv6; obtain ⟨n6, hn6⟩ : ∃ n, l.length = n := ⟨_, rfl⟩; have o6' : w6.ownsRow (w4.heap.size + 1) 87 2 (.slice a6 n6 p6) n6 (flatP l) := (by rw [← hn6]; exact o6); rw [hn6]; have B6 := B5.grown G6 (by simp <;> omega); have M6 := M5.grown G6 (by simp <;> omega); have b6 := b5.grown G6 b5.size (by intro j hj; cases hj; omega); have f6 := M6.free1 3; obtain ⟨d0, d1, d2, d3, d4, d5, d6⟩ := M6.cells; obtain ⟨W7, hW7⟩ : ∃ W7, w6.setCell ⟨w4.heap.size, 3, none⟩ (.slice a6 n6 p6) = W7 := ⟨_, rfl⟩; have M7 : Mv 26 W7 w4.heap.size c q 2 (.slice a6 n6 p6) 0 0 0 := (by rw [← hW7]; exact M6.set3 _); have R7 : Rd W7 g s4 e4 := (by rw [← hW7]; exact R6.far _ _ (by simp <;> omega)); have B7 : Mv 26 W7 w.heap.size 0 0 0 (.slice none 0 0) 0 0 0 := (by rw [← hW7]; exact B6.far _ _ (by have := B4.lt; simp <;> omega)); have o7 : W7.ownsRow (w4.heap.size + 1) 87 2 (.slice a6 n6 p6) n6 (flatP l) := (by rw [← hW7]; exact row_far o6' _ _ (by simp <;> omega)); have b7 : Below w.heap.size w W7 := (by rw [← hW7]; exact b6.setCell (by have := B4.lt; simp <;> omega) _); obtain ⟨x0, x1, x2, x3, x4, x5, x6⟩ := M7.cells; obtain ⟨y0, y1, y2, y3, y4, y5, y6⟩ := M7.free; replace hn6 := Lib.hid hn6)
      | (go_at_call 68; (with_reducible refine (CE.out W7 R7).mono ?_); rintro en w8 ⟨rfl, R8, G8⟩; have B8 := B7.grown G8 (by simp <;> omega); have M8 := M7.grown G8 (by simp <;> omega); have o8 := row_grown o7 G8 (by omega); have b8 := b7.grown G8 b7.size (by intro j hj; cases hj; omega))
      | (go_at_call 68; (with_reducible refine (CF.out w8 R8).mono ?_); rintro en w9 ⟨rfl, R9, G9⟩; have B9 := B8.grown G9 (by simp <;> omega); have M9 := M8.grown G9 (by simp <;> omega); have o9 := row_grown o8 G9 (by omega); have b9 := b8.grown G9 b8.size (by intro j hj; cases hj; omega); obtain ⟨_, _, _, _, u4, u5, _⟩ := M9.cells; obtain ⟨_, _, _, _, v4, v5, _⟩ := M9.free; obtain ⟨WA, hWA⟩ : ∃ WA, (w9.setCell ⟨w4.heap.size, 4, none⟩ (.int .i64 lo)).setCell ⟨w4.heap.size, 5, none⟩ (.int .i64 hi) = WA := ⟨_, rfl⟩; have MA : Mv 26 WA w4.heap.size c q 2 (.slice a6 n6 p6) lo hi 0 := (by rw [← hWA]; exact (M9.set4 _).set5 _); have RA : Rd WA g s5 e5 := (by rw [← hWA]; exact (R9.far _ _ (by simp <;> omega)).far _ _ (by simp <;> omega)); have BA : Mv 26 WA w.heap.size 0 0 0 (.slice none 0 0) 0 0 0 := (by rw [← hWA]; exact (B9.far _ _ (by have := B4.lt; simp <;> omega)).far _ _ (by have := B4.lt; simp <;> omega)); have oA : WA.ownsRow (w4.heap.size + 1) 87 2 (.slice a6 n6 p6) n6 (flatP l) := (by rw [← hWA]; exact row_far (row_far o9 _ _ (by simp <;> omega)) _ _ (by simp <;> omega)); have bA : Below w.heap.size w WA := (by rw [← hWA]; exact (b9.setCell (by have := B4.lt; simp <;> omega) _).setCell (by have := B4.lt; simp <;> omega) _); obtain ⟨x0, x1, x2, x3, x4, x5, x6⟩ := MA.cells; obtain ⟨i0, i1, i2, i3, i4, i5, i6⟩ := BA.cells; obtain ⟨j0, j1, j2, j3, j4, j5, j6⟩ := BA.free)
      | (go_at_call 71; (with_reducible refine (CX.out WA RA).mono ?_); rintro en w10 ⟨rfl, rfl⟩))
    refine bodyPost_ret (v := .tuple #[.agg #[.int .i64 0, .int .i64 0, .int .i64 0, .slice none 0 0, .int .i64 0, .int .i64 0, .int .i64 0], .int .i64 x]) (by simp [results, Try.results29, go_sem, i0, i1, i2, i3, i4, i5, i6]; try rfl) rfl ?_
    rw [HF.out]
    exact ⟨none, 0, 0, rfl, Arg.nil0 _, (((((((bA.setCell (Nat.le_refl _) _).setCell (Nat.le_refl _) _).setCell (Nat.le_refl _) _).setCell (Nat.le_refl _) _).setCell (Nat.le_refl _) _).setCell (Nat.le_refl _) _).setCell (Nat.le_refl _) _)⟩

set_option maxRecDepth 100000 in
set_option maxHeartbeats 4000000 in
theorem mread_4 (s : ByteArray) (w : World) (hs : (s.size : Int) ≤ 1000000000000) (hk : (mKind s) = 4) : Calls Try.prog 29 #[.string s] w (MutRet w (mRd cPairs s)) := by
  obtain ⟨c, s1, e1, hA⟩ : ∃ x s1 e1, rNum s 0 = (x, s1, e1) := ⟨_, _, _, rfl⟩
  obtain ⟨q, s2, e2, hB⟩ : ∃ x s2 e2, rNum s1 e1 = (x, s2, e2) := ⟨_, _, _, rfl⟩
  obtain ⟨k, s3, e3, hC⟩ : ∃ x s3 e3, rNum s2 e2 = (x, s3, e3) := ⟨_, _, _, rfl⟩
  obtain ⟨l, s4, e4, hD⟩ : ∃ x s4 e4, cPairs s3 e3 = (x, s4, e4) := ⟨_, _, _, rfl⟩
  have z1 : s1.size ≤ s.size := by have := rNum_size s 0; rw [hA] at this; exact this
  have z2 : s2.size ≤ s1.size := by have := rNum_size s1 e1; rw [hB] at this; exact this
  have z3 : s3.size ≤ s2.size := by have := rNum_size s2 e2; rw [hC] at this; exact this
  have z4 : s4.size ≤ s3.size := by have := cPairs_size s3 e3; rw [hD] at this; exact this
  obtain ⟨W0, hW0⟩ : ∃ W0, w.alloc (.cells #[.int .i64 0, .int .i64 0, .int .i64 0, .slice none 0 0, .int .i64 0, .int .i64 0, .int .i64 0] 26) = W0 := ⟨_, rfl⟩
  obtain ⟨W1, hW1⟩ : ∃ W1, W0.alloc (.cells #[.string s, .int .i64 0] 155) = W1 := ⟨_, rfl⟩
  have hgB : W0.heap.size = w.heap.size + 1 := by rw [← hW0]; simp
  have B0 : Mv 26 W0 w.heap.size 0 0 0 (.slice none 0 0) 0 0 0 := by rw [← hW0]; exact Mv.new _ _ _ _ _ _ _ _ _
  have B1 : Mv 26 W1 w.heap.size 0 0 0 (.slice none 0 0) 0 0 0 := by rw [← hW1]; exact B0.grown (World.grownBy_alloc _ _ none) (by simp)
  have b0 : Below w.heap.size w W0 := by rw [← hW0]; exact (Below.refl _ _).alloc (Nat.le_refl _) _
  have b1 : Below w.heap.size w W1 := by rw [← hW1]; exact b0.alloc b0.size _
  have C0 : Calls Try.prog 67 #[.string s] W0 fun e w' => e = .returned (.pointer (some ⟨W0.heap.size, 0, none⟩)) ∧ W1 = w' := by rw [← hW1]; exact from_any s W0
  have R1 : Rd W1 W0.heap.size s 0 := by rw [← hW1]; exact Rd.new W0 s 0
  obtain ⟨g, hg⟩ : ∃ g, W0.heap.size = g := ⟨_, rfl⟩
  rw [hg] at C0 R1 hgB
  have hgl : w.heap.size < g := by omega
  clear hgB
  have CA : Hid (∀ W, Rd W g s 0 → Calls Try.prog 68 #[.pointer (some ⟨g, 0, none⟩)] W (RdPost W g (.int .i64 c) (s1, e1))) := Lib.hid fun W hR => (rnum_any hR (by omega)).mono fun e w' h => by rw [hA] at h; exact h
  have CB : Hid (∀ W, Rd W g s1 e1 → Calls Try.prog 68 #[.pointer (some ⟨g, 0, none⟩)] W (RdPost W g (.int .i64 q) (s2, e2))) := Lib.hid fun W hR => (rnum_any hR (by omega)).mono fun e w' h => by rw [hB] at h; exact h
  have CC : Hid (∀ W, Rd W g s2 e2 → Calls Try.prog 68 #[.pointer (some ⟨g, 0, none⟩)] W (RdPost W g (.int .i64 k) (s3, e3))) := Lib.hid fun W hR => (rnum_any hR (by omega)).mono fun e w' h => by rw [hC] at h; exact h
  have CP : Hid (∀ W, Rd W g s3 e3 → Calls Try.prog 69 #[.pointer (some ⟨g, 0, none⟩)] W (PsPost W g l (s4, e4))) := Lib.hid fun W hR => (mpairs_any hR (by omega)).mono fun e w' h => by rw [hD] at h; exact h
  replace C0 := Lib.hid C0
  rw [show mKind s = k by unfold mKind; rw [hA]; dsimp only; rw [hB]; dsimp only; rw [hC]] at hk
  subst hk
  obtain ⟨old, s5, e5, hE⟩ : ∃ x s5 e5, rWhole s4 e4 = (x, s5, e5) := ⟨_, _, _, rfl⟩
  have CE : Hid (∀ W, Rd W g s4 e4 → Calls Try.prog 70 #[.pointer (some ⟨g, 0, none⟩)] W (RdPost W g (.int .i64 old) (s5, e5))) := Lib.hid fun W hR => (rwhole_any hR (by omega)).mono fun e w' h => by rw [hE] at h; exact h
  have hT := mTail_4 hE
  obtain ⟨x, hx⟩ : ∃ x, rEnd s5 e5 = x := ⟨_, rfl⟩
  have CX := Lib.hid (fun W (h : Rd W g s5 e5) => hx ▸ end_any h)
  have HR : mRd cPairs s = mFin c q 4 l 0 0 old x := mRd_eq hA hB hC hD hT hx
  obtain ⟨R, hR⟩ : ∃ R, mRd cPairs s = R := ⟨_, rfl⟩
  rw [hR] at HR ⊢
  replace hR := Lib.hid hR
  replace hg := Lib.hid hg
  clear hA hB hC hD hT hx hE
  by_cases h0 : x = 0
  · have d1 : (x != 0) = false := by simpa using h0
    cases hc : chkM c q 4 l 0 0 old
    · have HF := Lib.hid (show R = (noM, 3) by rw [HR]; unfold mFin; rw [if_pos h0, if_neg (by rw [hc]; simp)])
      have hck := Lib.hid hc
      clear HR hc
      replace h0 := Lib.hid h0
      go_enter Try.func29, Try.ntmps29
      go_wp2_with (first
        | (go_at_call 67; (with_reducible refine C0.out.mono ?_); rintro en w1 ⟨rfl, rfl⟩)
        | (go_at_call 68; (with_reducible refine (CA.out W1 R1).mono ?_); rintro en w2 ⟨rfl, R2, G2⟩; have B2 := B1.grown G2 (by simp <;> omega); have b2 := b1.grown G2 b1.size (by intro j hj; cases hj; omega))
        | (go_at_call 68; (with_reducible refine (CB.out w2 R2).mono ?_); rintro en w3 ⟨rfl, R3, G3⟩; have B3 := B2.grown G3 (by simp <;> omega); have b3 := b2.grown G3 b2.size (by intro j hj; cases hj; omega))
        | (go_at_call 68; (with_reducible refine (CC.out w3 R3).mono ?_); rintro en w4 ⟨rfl, R4, G4⟩; have B4 := B3.grown G4 (by simp <;> omega); have b4 := b3.grown G4 b3.size (by intro j hj; cases hj; omega); have hgM := R4.lt; have hMs : (w4.alloc (.cells #[.int .i64 c, .int .i64 q, .int .i64 4, .slice none 0 0, .int .i64 0, .int .i64 0, .int .i64 0] 26)).heap.size = w4.heap.size + 1 := (by simp); have M5 : Mv 26 (w4.alloc (.cells #[.int .i64 c, .int .i64 q, .int .i64 4, .slice none 0 0, .int .i64 0, .int .i64 0, .int .i64 0] 26)) w4.heap.size c q 4 (.slice none 0 0) 0 0 0 := (Mv.new _ _ _ _ _ _ _ _ _); have R5 : Rd (w4.alloc (.cells #[.int .i64 c, .int .i64 q, .int .i64 4, .slice none 0 0, .int .i64 0, .int .i64 0, .int .i64 0] 26)) g s3 e3 := (rd_grown R4 (World.grownBy_alloc _ _ none) (by simp)); have B5 : Mv 26 (w4.alloc (.cells #[.int .i64 c, .int .i64 q, .int .i64 4, .slice none 0 0, .int .i64 0, .int .i64 0, .int .i64 0] 26)) w.heap.size 0 0 0 (.slice none 0 0) 0 0 0 := (B4.grown (World.grownBy_alloc _ _ none) (by simp)); have b5 : Below w.heap.size w (w4.alloc (.cells #[.int .i64 c, .int .i64 q, .int .i64 4, .slice none 0 0, .int .i64 0, .int .i64 0, .int .i64 0] 26)) := (b4.alloc b4.size _); replace hMs := Lib.hid hMs)
        | (go_at_call 69; (with_reducible refine (CP.out _ R5).mono ?_); rintro en w6 ⟨v6, rfl, o6, R6, G6⟩; rw [hMs.out] at o6; obtain ⟨a6, p6, hv6, _, _, _, _⟩ := o6.arg; subst hv6; obtain ⟨n6, hn6⟩ : ∃ n, l.length = n := ⟨_, rfl⟩; have o6' : w6.ownsRow (w4.heap.size + 1) 87 2 (.slice a6 n6 p6) n6 (flatP l) := (by rw [← hn6]; exact o6); rw [hn6]; have B6 := B5.grown G6 (by simp <;> omega); have M6 := M5.grown G6 (by simp <;> omega); have b6 := b5.grown G6 b5.size (by intro j hj; cases hj; omega); have f6 := M6.free1 3; obtain ⟨d0, d1, d2, d3, d4, d5, d6⟩ := M6.cells; obtain ⟨W7, hW7⟩ : ∃ W7, w6.setCell ⟨w4.heap.size, 3, none⟩ (.slice a6 n6 p6) = W7 := ⟨_, rfl⟩; have M7 : Mv 26 W7 w4.heap.size c q 4 (.slice a6 n6 p6) 0 0 0 := (by rw [← hW7]; exact M6.set3 _); have R7 : Rd W7 g s4 e4 := (by rw [← hW7]; exact R6.far _ _ (by simp <;> omega)); have B7 : Mv 26 W7 w.heap.size 0 0 0 (.slice none 0 0) 0 0 0 := (by rw [← hW7]; exact B6.far _ _ (by have := B4.lt; simp <;> omega)); have o7 : W7.ownsRow (w4.heap.size + 1) 87 2 (.slice a6 n6 p6) n6 (flatP l) := (by rw [← hW7]; exact row_far o6' _ _ (by simp <;> omega)); have b7 : Below w.heap.size w W7 := (by rw [← hW7]; exact b6.setCell (by have := B4.lt; simp <;> omega) _); obtain ⟨x0, x1, x2, x3, x4, x5, x6⟩ := M7.cells; obtain ⟨y0, y1, y2, y3, y4, y5, y6⟩ := M7.free; replace hn6 := Lib.hid hn6)
        | (go_at_call 70; (with_reducible refine (CE.out W7 R7).mono ?_); rintro en w9 ⟨rfl, R9, G9⟩; have B9 := B7.grown G9 (by simp <;> omega); have M9 := M7.grown G9 (by simp <;> omega); have o9 := row_grown o7 G9 (by omega); have b9 := b7.grown G9 b7.size (by intro j hj; cases hj; omega); obtain ⟨_, _, _, _, _, _, u6⟩ := M9.cells; have v6 := M9.free1 6; obtain ⟨WA, hWA⟩ : ∃ WA, w9.setCell ⟨w4.heap.size, 6, none⟩ (.int .i64 old) = WA := ⟨_, rfl⟩; have MA : Mv 26 WA w4.heap.size c q 4 (.slice a6 n6 p6) 0 0 old := (by rw [← hWA]; exact M9.set6 _); have RA : Rd WA g s5 e5 := (by rw [← hWA]; exact R9.far _ _ (by simp <;> omega)); have BA : Mv 26 WA w.heap.size 0 0 0 (.slice none 0 0) 0 0 0 := (by rw [← hWA]; exact B9.far _ _ (by have := B4.lt; simp <;> omega)); have oA : WA.ownsRow (w4.heap.size + 1) 87 2 (.slice a6 n6 p6) n6 (flatP l) := (by rw [← hWA]; exact row_far o9 _ _ (by simp <;> omega)); have bA : Below w.heap.size w WA := (by rw [← hWA]; exact b9.setCell (by have := B4.lt; simp <;> omega) _); obtain ⟨x0, x1, x2, x3, x4, x5, x6⟩ := MA.cells; obtain ⟨i0, i1, i2, i3, i4, i5, i6⟩ := BA.cells; obtain ⟨j0, j1, j2, j3, j4, j5, j6⟩ := BA.free)
        | (go_at_call 71; (with_reducible refine (CX.out WA RA).mono ?_); rintro en w10 ⟨rfl, rfl⟩)
        | (go_at_call 32; (with_reducible refine (mcheck_any c q 4 a6 n6 p6 l 0 0 old WA (Arg.of_own (ownsP_of_row oA hn6.out.symm) hn6.out.symm)).mono ?_); rw [hck.out]; rintro en w11 ⟨rfl, b11⟩; have M11 := MA.below b11; have B11 := BA.below b11; have o11 := row_belowR oA b11; have bb11 := below_next bA b11; obtain ⟨x0, x1, x2, x3, x4, x5, x6⟩ := M11.cells; obtain ⟨i0, i1, i2, i3, i4, i5, i6⟩ := B11.cells; obtain ⟨j0, j1, j2, j3, j4, j5, j6⟩ := B11.free))
      refine bodyPost_ret (v := .tuple #[.agg #[.int .i64 0, .int .i64 0, .int .i64 0, .slice none 0 0, .int .i64 0, .int .i64 0, .int .i64 0], .int .i64 3]) (by simp [results, Try.results29, go_sem, i0, i1, i2, i3, i4, i5, i6]; try rfl) rfl ?_
      rw [HF.out]
      exact ⟨none, 0, 0, rfl, Arg.nil0 _, (((((((bb11.setCell (Nat.le_refl _) _).setCell (Nat.le_refl _) _).setCell (Nat.le_refl _) _).setCell (Nat.le_refl _) _).setCell (Nat.le_refl _) _).setCell (Nat.le_refl _) _).setCell (Nat.le_refl _) _)⟩
    · have HF := Lib.hid (show R = (⟨c, q, 4, l, 0, 0, old⟩, 0) by rw [HR]; unfold mFin; rw [if_pos h0, if_pos hc])
      have hck := Lib.hid hc
      clear HR hc
      replace h0 := Lib.hid h0
      go_enter Try.func29, Try.ntmps29
      go_wp2_with (first
        | (go_at_call 67; (with_reducible refine C0.out.mono ?_); rintro en w1 ⟨rfl, rfl⟩)
        | (go_at_call 68; (with_reducible refine (CA.out W1 R1).mono ?_); rintro en w2 ⟨rfl, R2, G2⟩; have B2 := B1.grown G2 (by simp <;> omega); have b2 := b1.grown G2 b1.size (by intro j hj; cases hj; omega))
        | (go_at_call 68; (with_reducible refine (CB.out w2 R2).mono ?_); rintro en w3 ⟨rfl, R3, G3⟩; have B3 := B2.grown G3 (by simp <;> omega); have b3 := b2.grown G3 b2.size (by intro j hj; cases hj; omega))
        | (go_at_call 68; (with_reducible refine (CC.out w3 R3).mono ?_); rintro en w4 ⟨rfl, R4, G4⟩; have B4 := B3.grown G4 (by simp <;> omega); have b4 := b3.grown G4 b3.size (by intro j hj; cases hj; omega); have hgM := R4.lt; have hMs : (w4.alloc (.cells #[.int .i64 c, .int .i64 q, .int .i64 4, .slice none 0 0, .int .i64 0, .int .i64 0, .int .i64 0] 26)).heap.size = w4.heap.size + 1 := (by simp); have M5 : Mv 26 (w4.alloc (.cells #[.int .i64 c, .int .i64 q, .int .i64 4, .slice none 0 0, .int .i64 0, .int .i64 0, .int .i64 0] 26)) w4.heap.size c q 4 (.slice none 0 0) 0 0 0 := (Mv.new _ _ _ _ _ _ _ _ _); have R5 : Rd (w4.alloc (.cells #[.int .i64 c, .int .i64 q, .int .i64 4, .slice none 0 0, .int .i64 0, .int .i64 0, .int .i64 0] 26)) g s3 e3 := (rd_grown R4 (World.grownBy_alloc _ _ none) (by simp)); have B5 : Mv 26 (w4.alloc (.cells #[.int .i64 c, .int .i64 q, .int .i64 4, .slice none 0 0, .int .i64 0, .int .i64 0, .int .i64 0] 26)) w.heap.size 0 0 0 (.slice none 0 0) 0 0 0 := (B4.grown (World.grownBy_alloc _ _ none) (by simp)); have b5 : Below w.heap.size w (w4.alloc (.cells #[.int .i64 c, .int .i64 q, .int .i64 4, .slice none 0 0, .int .i64 0, .int .i64 0, .int .i64 0] 26)) := (b4.alloc b4.size _); replace hMs := Lib.hid hMs)
        | (go_at_call 69; (with_reducible refine (CP.out _ R5).mono ?_); rintro en w6 ⟨v6, rfl, o6, R6, G6⟩; rw [hMs.out] at o6; obtain ⟨a6, p6, hv6, _, _, _, _⟩ := o6.arg; subst hv6; obtain ⟨n6, hn6⟩ : ∃ n, l.length = n := ⟨_, rfl⟩; have o6' : w6.ownsRow (w4.heap.size + 1) 87 2 (.slice a6 n6 p6) n6 (flatP l) := (by rw [← hn6]; exact o6); rw [hn6]; have B6 := B5.grown G6 (by simp <;> omega); have M6 := M5.grown G6 (by simp <;> omega); have b6 := b5.grown G6 b5.size (by intro j hj; cases hj; omega); have f6 := M6.free1 3; obtain ⟨d0, d1, d2, d3, d4, d5, d6⟩ := M6.cells; obtain ⟨W7, hW7⟩ : ∃ W7, w6.setCell ⟨w4.heap.size, 3, none⟩ (.slice a6 n6 p6) = W7 := ⟨_, rfl⟩; have M7 : Mv 26 W7 w4.heap.size c q 4 (.slice a6 n6 p6) 0 0 0 := (by rw [← hW7]; exact M6.set3 _); have R7 : Rd W7 g s4 e4 := (by rw [← hW7]; exact R6.far _ _ (by simp <;> omega)); have B7 : Mv 26 W7 w.heap.size 0 0 0 (.slice none 0 0) 0 0 0 := (by rw [← hW7]; exact B6.far _ _ (by have := B4.lt; simp <;> omega)); have o7 : W7.ownsRow (w4.heap.size + 1) 87 2 (.slice a6 n6 p6) n6 (flatP l) := (by rw [← hW7]; exact row_far o6' _ _ (by simp <;> omega)); have b7 : Below w.heap.size w W7 := (by rw [← hW7]; exact b6.setCell (by have := B4.lt; simp <;> omega) _); obtain ⟨x0, x1, x2, x3, x4, x5, x6⟩ := M7.cells; obtain ⟨y0, y1, y2, y3, y4, y5, y6⟩ := M7.free; replace hn6 := Lib.hid hn6)
        | (go_at_call 70; (with_reducible refine (CE.out W7 R7).mono ?_); rintro en w9 ⟨rfl, R9, G9⟩; have B9 := B7.grown G9 (by simp <;> omega); have M9 := M7.grown G9 (by simp <;> omega); have o9 := row_grown o7 G9 (by omega); have b9 := b7.grown G9 b7.size (by intro j hj; cases hj; omega); obtain ⟨_, _, _, _, _, _, u6⟩ := M9.cells; have v6 := M9.free1 6; obtain ⟨WA, hWA⟩ : ∃ WA, w9.setCell ⟨w4.heap.size, 6, none⟩ (.int .i64 old) = WA := ⟨_, rfl⟩; have MA : Mv 26 WA w4.heap.size c q 4 (.slice a6 n6 p6) 0 0 old := (by rw [← hWA]; exact M9.set6 _); have RA : Rd WA g s5 e5 := (by rw [← hWA]; exact R9.far _ _ (by simp <;> omega)); have BA : Mv 26 WA w.heap.size 0 0 0 (.slice none 0 0) 0 0 0 := (by rw [← hWA]; exact B9.far _ _ (by have := B4.lt; simp <;> omega)); have oA : WA.ownsRow (w4.heap.size + 1) 87 2 (.slice a6 n6 p6) n6 (flatP l) := (by rw [← hWA]; exact row_far o9 _ _ (by simp <;> omega)); have bA : Below w.heap.size w WA := (by rw [← hWA]; exact b9.setCell (by have := B4.lt; simp <;> omega) _); obtain ⟨x0, x1, x2, x3, x4, x5, x6⟩ := MA.cells; obtain ⟨i0, i1, i2, i3, i4, i5, i6⟩ := BA.cells; obtain ⟨j0, j1, j2, j3, j4, j5, j6⟩ := BA.free)
        | (go_at_call 71; (with_reducible refine (CX.out WA RA).mono ?_); rintro en w10 ⟨rfl, rfl⟩)
        | (go_at_call 32; (with_reducible refine (mcheck_any c q 4 a6 n6 p6 l 0 0 old WA (Arg.of_own (ownsP_of_row oA hn6.out.symm) hn6.out.symm)).mono ?_); rw [hck.out]; rintro en w11 ⟨rfl, b11⟩; have M11 := MA.below b11; have B11 := BA.below b11; have o11 := row_belowR oA b11; have bb11 := below_next bA b11; obtain ⟨x0, x1, x2, x3, x4, x5, x6⟩ := M11.cells; obtain ⟨i0, i1, i2, i3, i4, i5, i6⟩ := B11.cells; obtain ⟨j0, j1, j2, j3, j4, j5, j6⟩ := B11.free))
      have oF := row_far (row_far (row_far (row_far (row_far (row_far (row_far o11 ⟨w.heap.size, 0, none⟩ (.int .i64 c) (by simp <;> omega)) ⟨w.heap.size, 1, none⟩ (.int .i64 q) (by simp <;> omega)) ⟨w.heap.size, 2, none⟩ (.int .i64 4) (by simp <;> omega)) ⟨w.heap.size, 3, none⟩ (.slice a6 n6 p6) (by simp <;> omega)) ⟨w.heap.size, 4, none⟩ (.int .i64 0) (by simp <;> omega)) ⟨w.heap.size, 5, none⟩ (.int .i64 0) (by simp <;> omega)) ⟨w.heap.size, 6, none⟩ (.int .i64 old) (by simp <;> omega)
      refine bodyPost_ret (v := .tuple #[.agg #[.int .i64 c, .int .i64 q, .int .i64 4, .slice a6 n6 p6, .int .i64 0, .int .i64 0, .int .i64 old], .int .i64 0]) (by simp [results, Try.results29, go_sem, i0, i1, i2, i3, i4, i5, i6]; try rfl) rfl ?_
      rw [HF.out]
      exact ⟨a6, n6, p6, rfl, Arg.of_own (ownsP_of_row oF hn6.out.symm) hn6.out.symm, (((((((bb11.setCell (Nat.le_refl _) _).setCell (Nat.le_refl _) _).setCell (Nat.le_refl _) _).setCell (Nat.le_refl _) _).setCell (Nat.le_refl _) _).setCell (Nat.le_refl _) _).setCell (Nat.le_refl _) _)⟩
  · have d1 : (x != 0) = true := by simpa using h0
    have HF := Lib.hid (show R = (noM, x) by rw [HR]; unfold mFin; rw [if_neg h0])
    clear HR
    replace h0 := Lib.hid h0
    go_enter Try.func29, Try.ntmps29
    go_wp2_with (first
      | (go_at_call 67; (with_reducible refine C0.out.mono ?_); rintro en w1 ⟨rfl, rfl⟩)
      | (go_at_call 68; (with_reducible refine (CA.out W1 R1).mono ?_); rintro en w2 ⟨rfl, R2, G2⟩; have B2 := B1.grown G2 (by simp <;> omega); have b2 := b1.grown G2 b1.size (by intro j hj; cases hj; omega))
      | (go_at_call 68; (with_reducible refine (CB.out w2 R2).mono ?_); rintro en w3 ⟨rfl, R3, G3⟩; have B3 := B2.grown G3 (by simp <;> omega); have b3 := b2.grown G3 b2.size (by intro j hj; cases hj; omega))
      | (go_at_call 68; (with_reducible refine (CC.out w3 R3).mono ?_); rintro en w4 ⟨rfl, R4, G4⟩; have B4 := B3.grown G4 (by simp <;> omega); have b4 := b3.grown G4 b3.size (by intro j hj; cases hj; omega); have hgM := R4.lt; have hMs : (w4.alloc (.cells #[.int .i64 c, .int .i64 q, .int .i64 4, .slice none 0 0, .int .i64 0, .int .i64 0, .int .i64 0] 26)).heap.size = w4.heap.size + 1 := (by simp); have M5 : Mv 26 (w4.alloc (.cells #[.int .i64 c, .int .i64 q, .int .i64 4, .slice none 0 0, .int .i64 0, .int .i64 0, .int .i64 0] 26)) w4.heap.size c q 4 (.slice none 0 0) 0 0 0 := (Mv.new _ _ _ _ _ _ _ _ _); have R5 : Rd (w4.alloc (.cells #[.int .i64 c, .int .i64 q, .int .i64 4, .slice none 0 0, .int .i64 0, .int .i64 0, .int .i64 0] 26)) g s3 e3 := (rd_grown R4 (World.grownBy_alloc _ _ none) (by simp)); have B5 : Mv 26 (w4.alloc (.cells #[.int .i64 c, .int .i64 q, .int .i64 4, .slice none 0 0, .int .i64 0, .int .i64 0, .int .i64 0] 26)) w.heap.size 0 0 0 (.slice none 0 0) 0 0 0 := (B4.grown (World.grownBy_alloc _ _ none) (by simp)); have b5 : Below w.heap.size w (w4.alloc (.cells #[.int .i64 c, .int .i64 q, .int .i64 4, .slice none 0 0, .int .i64 0, .int .i64 0, .int .i64 0] 26)) := (b4.alloc b4.size _); replace hMs := Lib.hid hMs)
      | (go_at_call 69; (with_reducible refine (CP.out _ R5).mono ?_); rintro en w6 ⟨v6, rfl, o6, R6, G6⟩; rw [hMs.out] at o6; obtain ⟨a6, p6, hv6, _, _, _, _⟩ := o6.arg; subst hv6; obtain ⟨n6, hn6⟩ : ∃ n, l.length = n := ⟨_, rfl⟩; have o6' : w6.ownsRow (w4.heap.size + 1) 87 2 (.slice a6 n6 p6) n6 (flatP l) := (by rw [← hn6]; exact o6); rw [hn6]; have B6 := B5.grown G6 (by simp <;> omega); have M6 := M5.grown G6 (by simp <;> omega); have b6 := b5.grown G6 b5.size (by intro j hj; cases hj; omega); have f6 := M6.free1 3; obtain ⟨d0, d1, d2, d3, d4, d5, d6⟩ := M6.cells; obtain ⟨W7, hW7⟩ : ∃ W7, w6.setCell ⟨w4.heap.size, 3, none⟩ (.slice a6 n6 p6) = W7 := ⟨_, rfl⟩; have M7 : Mv 26 W7 w4.heap.size c q 4 (.slice a6 n6 p6) 0 0 0 := (by rw [← hW7]; exact M6.set3 _); have R7 : Rd W7 g s4 e4 := (by rw [← hW7]; exact R6.far _ _ (by simp <;> omega)); have B7 : Mv 26 W7 w.heap.size 0 0 0 (.slice none 0 0) 0 0 0 := (by rw [← hW7]; exact B6.far _ _ (by have := B4.lt; simp <;> omega)); have o7 : W7.ownsRow (w4.heap.size + 1) 87 2 (.slice a6 n6 p6) n6 (flatP l) := (by rw [← hW7]; exact row_far o6' _ _ (by simp <;> omega)); have b7 : Below w.heap.size w W7 := (by rw [← hW7]; exact b6.setCell (by have := B4.lt; simp <;> omega) _); obtain ⟨x0, x1, x2, x3, x4, x5, x6⟩ := M7.cells; obtain ⟨y0, y1, y2, y3, y4, y5, y6⟩ := M7.free; replace hn6 := Lib.hid hn6)
      | (go_at_call 70; (with_reducible refine (CE.out W7 R7).mono ?_); rintro en w9 ⟨rfl, R9, G9⟩; have B9 := B7.grown G9 (by simp <;> omega); have M9 := M7.grown G9 (by simp <;> omega); have o9 := row_grown o7 G9 (by omega); have b9 := b7.grown G9 b7.size (by intro j hj; cases hj; omega); obtain ⟨_, _, _, _, _, _, u6⟩ := M9.cells; have v6 := M9.free1 6; obtain ⟨WA, hWA⟩ : ∃ WA, w9.setCell ⟨w4.heap.size, 6, none⟩ (.int .i64 old) = WA := ⟨_, rfl⟩; have MA : Mv 26 WA w4.heap.size c q 4 (.slice a6 n6 p6) 0 0 old := (by rw [← hWA]; exact M9.set6 _); have RA : Rd WA g s5 e5 := (by rw [← hWA]; exact R9.far _ _ (by simp <;> omega)); have BA : Mv 26 WA w.heap.size 0 0 0 (.slice none 0 0) 0 0 0 := (by rw [← hWA]; exact B9.far _ _ (by have := B4.lt; simp <;> omega)); have oA : WA.ownsRow (w4.heap.size + 1) 87 2 (.slice a6 n6 p6) n6 (flatP l) := (by rw [← hWA]; exact row_far o9 _ _ (by simp <;> omega)); have bA : Below w.heap.size w WA := (by rw [← hWA]; exact b9.setCell (by have := B4.lt; simp <;> omega) _); obtain ⟨x0, x1, x2, x3, x4, x5, x6⟩ := MA.cells; obtain ⟨i0, i1, i2, i3, i4, i5, i6⟩ := BA.cells; obtain ⟨j0, j1, j2, j3, j4, j5, j6⟩ := BA.free)
      | (go_at_call 71; (with_reducible refine (CX.out WA RA).mono ?_); rintro en w10 ⟨rfl, rfl⟩))
    refine bodyPost_ret (v := .tuple #[.agg #[.int .i64 0, .int .i64 0, .int .i64 0, .slice none 0 0, .int .i64 0, .int .i64 0, .int .i64 0], .int .i64 x]) (by simp [results, Try.results29, go_sem, i0, i1, i2, i3, i4, i5, i6]; try rfl) rfl ?_
    rw [HF.out]
    exact ⟨none, 0, 0, rfl, Arg.nil0 _, (((((((bA.setCell (Nat.le_refl _) _).setCell (Nat.le_refl _) _).setCell (Nat.le_refl _) _).setCell (Nat.le_refl _) _).setCell (Nat.le_refl _) _).setCell (Nat.le_refl _) _).setCell (Nat.le_refl _) _)⟩

set_option maxRecDepth 100000 in
set_option maxHeartbeats 4000000 in
theorem mread_0 (s : ByteArray) (w : World) (hs : (s.size : Int) ≤ 1000000000000) (hk : (mKind s) ≠ 2 ∧ (mKind s) ≠ 4) : Calls Try.prog 29 #[.string s] w (MutRet w (mRd cPairs s)) := by
  obtain ⟨c, s1, e1, hA⟩ : ∃ x s1 e1, rNum s 0 = (x, s1, e1) := ⟨_, _, _, rfl⟩
  obtain ⟨q, s2, e2, hB⟩ : ∃ x s2 e2, rNum s1 e1 = (x, s2, e2) := ⟨_, _, _, rfl⟩
  obtain ⟨k, s3, e3, hC⟩ : ∃ x s3 e3, rNum s2 e2 = (x, s3, e3) := ⟨_, _, _, rfl⟩
  obtain ⟨l, s4, e4, hD⟩ : ∃ x s4 e4, cPairs s3 e3 = (x, s4, e4) := ⟨_, _, _, rfl⟩
  have z1 : s1.size ≤ s.size := by have := rNum_size s 0; rw [hA] at this; exact this
  have z2 : s2.size ≤ s1.size := by have := rNum_size s1 e1; rw [hB] at this; exact this
  have z3 : s3.size ≤ s2.size := by have := rNum_size s2 e2; rw [hC] at this; exact this
  have z4 : s4.size ≤ s3.size := by have := cPairs_size s3 e3; rw [hD] at this; exact this
  obtain ⟨W0, hW0⟩ : ∃ W0, w.alloc (.cells #[.int .i64 0, .int .i64 0, .int .i64 0, .slice none 0 0, .int .i64 0, .int .i64 0, .int .i64 0] 26) = W0 := ⟨_, rfl⟩
  obtain ⟨W1, hW1⟩ : ∃ W1, W0.alloc (.cells #[.string s, .int .i64 0] 155) = W1 := ⟨_, rfl⟩
  have hgB : W0.heap.size = w.heap.size + 1 := by rw [← hW0]; simp
  have B0 : Mv 26 W0 w.heap.size 0 0 0 (.slice none 0 0) 0 0 0 := by rw [← hW0]; exact Mv.new _ _ _ _ _ _ _ _ _
  have B1 : Mv 26 W1 w.heap.size 0 0 0 (.slice none 0 0) 0 0 0 := by rw [← hW1]; exact B0.grown (World.grownBy_alloc _ _ none) (by simp)
  have b0 : Below w.heap.size w W0 := by rw [← hW0]; exact (Below.refl _ _).alloc (Nat.le_refl _) _
  have b1 : Below w.heap.size w W1 := by rw [← hW1]; exact b0.alloc b0.size _
  have C0 : Calls Try.prog 67 #[.string s] W0 fun e w' => e = .returned (.pointer (some ⟨W0.heap.size, 0, none⟩)) ∧ W1 = w' := by rw [← hW1]; exact from_any s W0
  have R1 : Rd W1 W0.heap.size s 0 := by rw [← hW1]; exact Rd.new W0 s 0
  obtain ⟨g, hg⟩ : ∃ g, W0.heap.size = g := ⟨_, rfl⟩
  rw [hg] at C0 R1 hgB
  have hgl : w.heap.size < g := by omega
  clear hgB
  have CA : Hid (∀ W, Rd W g s 0 → Calls Try.prog 68 #[.pointer (some ⟨g, 0, none⟩)] W (RdPost W g (.int .i64 c) (s1, e1))) := Lib.hid fun W hR => (rnum_any hR (by omega)).mono fun e w' h => by rw [hA] at h; exact h
  have CB : Hid (∀ W, Rd W g s1 e1 → Calls Try.prog 68 #[.pointer (some ⟨g, 0, none⟩)] W (RdPost W g (.int .i64 q) (s2, e2))) := Lib.hid fun W hR => (rnum_any hR (by omega)).mono fun e w' h => by rw [hB] at h; exact h
  have CC : Hid (∀ W, Rd W g s2 e2 → Calls Try.prog 68 #[.pointer (some ⟨g, 0, none⟩)] W (RdPost W g (.int .i64 k) (s3, e3))) := Lib.hid fun W hR => (rnum_any hR (by omega)).mono fun e w' h => by rw [hC] at h; exact h
  have CP : Hid (∀ W, Rd W g s3 e3 → Calls Try.prog 69 #[.pointer (some ⟨g, 0, none⟩)] W (PsPost W g l (s4, e4))) := Lib.hid fun W hR => (mpairs_any hR (by omega)).mono fun e w' h => by rw [hD] at h; exact h
  replace C0 := Lib.hid C0
  rw [show mKind s = k by unfold mKind; rw [hA]; dsimp only; rw [hB]; dsimp only; rw [hC]] at hk
  obtain ⟨s5, e5, h5⟩ : ∃ s5 e5, (s4, e4) = (s5, e5) := ⟨_, _, rfl⟩
  cases h5
  have hk2 : (k == 2) = false := by simpa using hk.1
  have hk4 : (k == 4) = false := by simpa using hk.2
  have hT := mTail_0 s4 e4 hk.1 hk.2
  clear hk
  obtain ⟨x, hx⟩ : ∃ x, rEnd s4 e4 = x := ⟨_, rfl⟩
  have CX := Lib.hid (fun W (h : Rd W g s4 e4) => hx ▸ end_any h)
  have HR : mRd cPairs s = mFin c q k l 0 0 0 x := mRd_eq hA hB hC hD hT hx
  obtain ⟨R, hR⟩ : ∃ R, mRd cPairs s = R := ⟨_, rfl⟩
  rw [hR] at HR ⊢
  replace hR := Lib.hid hR
  replace hg := Lib.hid hg
  clear hA hB hC hD hT hx
  by_cases h0 : x = 0
  · have d1 : (x != 0) = false := by simpa using h0
    cases hc : chkM c q k l 0 0 0
    · have HF := Lib.hid (show R = (noM, 3) by rw [HR]; unfold mFin; rw [if_pos h0, if_neg (by rw [hc]; simp)])
      have hck := Lib.hid hc
      clear HR hc
      replace h0 := Lib.hid h0
      go_enter Try.func29, Try.ntmps29
      go_wp2_with (first
        | (go_at_call 67; (with_reducible refine C0.out.mono ?_); rintro en w1 ⟨rfl, rfl⟩)
        | (go_at_call 68; (with_reducible refine (CA.out W1 R1).mono ?_); rintro en w2 ⟨rfl, R2, G2⟩; have B2 := B1.grown G2 (by simp <;> omega); have b2 := b1.grown G2 b1.size (by intro j hj; cases hj; omega))
        | (go_at_call 68; (with_reducible refine (CB.out w2 R2).mono ?_); rintro en w3 ⟨rfl, R3, G3⟩; have B3 := B2.grown G3 (by simp <;> omega); have b3 := b2.grown G3 b2.size (by intro j hj; cases hj; omega))
        | (go_at_call 68; (with_reducible refine (CC.out w3 R3).mono ?_); rintro en w4 ⟨rfl, R4, G4⟩; have B4 := B3.grown G4 (by simp <;> omega); have b4 := b3.grown G4 b3.size (by intro j hj; cases hj; omega); have hgM := R4.lt; have hMs : (w4.alloc (.cells #[.int .i64 c, .int .i64 q, .int .i64 k, .slice none 0 0, .int .i64 0, .int .i64 0, .int .i64 0] 26)).heap.size = w4.heap.size + 1 := (by simp); have M5 : Mv 26 (w4.alloc (.cells #[.int .i64 c, .int .i64 q, .int .i64 k, .slice none 0 0, .int .i64 0, .int .i64 0, .int .i64 0] 26)) w4.heap.size c q k (.slice none 0 0) 0 0 0 := (Mv.new _ _ _ _ _ _ _ _ _); have R5 : Rd (w4.alloc (.cells #[.int .i64 c, .int .i64 q, .int .i64 k, .slice none 0 0, .int .i64 0, .int .i64 0, .int .i64 0] 26)) g s3 e3 := (rd_grown R4 (World.grownBy_alloc _ _ none) (by simp)); have B5 : Mv 26 (w4.alloc (.cells #[.int .i64 c, .int .i64 q, .int .i64 k, .slice none 0 0, .int .i64 0, .int .i64 0, .int .i64 0] 26)) w.heap.size 0 0 0 (.slice none 0 0) 0 0 0 := (B4.grown (World.grownBy_alloc _ _ none) (by simp)); have b5 : Below w.heap.size w (w4.alloc (.cells #[.int .i64 c, .int .i64 q, .int .i64 k, .slice none 0 0, .int .i64 0, .int .i64 0, .int .i64 0] 26)) := (b4.alloc b4.size _); replace hMs := Lib.hid hMs)
        | (go_at_call 69; (with_reducible refine (CP.out _ R5).mono ?_); rintro en w6 ⟨v6, rfl, o6, R6, G6⟩; rw [hMs.out] at o6; obtain ⟨a6, p6, hv6, _, _, _, _⟩ := o6.arg; subst hv6; obtain ⟨n6, hn6⟩ : ∃ n, l.length = n := ⟨_, rfl⟩; have o6' : w6.ownsRow (w4.heap.size + 1) 87 2 (.slice a6 n6 p6) n6 (flatP l) := (by rw [← hn6]; exact o6); rw [hn6]; have B6 := B5.grown G6 (by simp <;> omega); have M6 := M5.grown G6 (by simp <;> omega); have b6 := b5.grown G6 b5.size (by intro j hj; cases hj; omega); have f6 := M6.free1 3; obtain ⟨d0, d1, d2, d3, d4, d5, d6⟩ := M6.cells; obtain ⟨W7, hW7⟩ : ∃ W7, w6.setCell ⟨w4.heap.size, 3, none⟩ (.slice a6 n6 p6) = W7 := ⟨_, rfl⟩; have M7 : Mv 26 W7 w4.heap.size c q k (.slice a6 n6 p6) 0 0 0 := (by rw [← hW7]; exact M6.set3 _); have R7 : Rd W7 g s4 e4 := (by rw [← hW7]; exact R6.far _ _ (by simp <;> omega)); have B7 : Mv 26 W7 w.heap.size 0 0 0 (.slice none 0 0) 0 0 0 := (by rw [← hW7]; exact B6.far _ _ (by have := B4.lt; simp <;> omega)); have o7 : W7.ownsRow (w4.heap.size + 1) 87 2 (.slice a6 n6 p6) n6 (flatP l) := (by rw [← hW7]; exact row_far o6' _ _ (by simp <;> omega)); have b7 : Below w.heap.size w W7 := (by rw [← hW7]; exact b6.setCell (by have := B4.lt; simp <;> omega) _); obtain ⟨x0, x1, x2, x3, x4, x5, x6⟩ := M7.cells; obtain ⟨y0, y1, y2, y3, y4, y5, y6⟩ := M7.free; obtain ⟨i0, i1, i2, i3, i4, i5, i6⟩ := B7.cells; obtain ⟨j0, j1, j2, j3, j4, j5, j6⟩ := B7.free; replace hn6 := Lib.hid hn6)
        | (go_at_call 71; (with_reducible refine (CX.out W7 R7).mono ?_); rintro en w10 ⟨rfl, rfl⟩)
        | (go_at_call 32; (with_reducible refine (mcheck_any c q k a6 n6 p6 l 0 0 0 W7 (Arg.of_own (ownsP_of_row o7 hn6.out.symm) hn6.out.symm)).mono ?_); rw [hck.out]; rintro en w11 ⟨rfl, b11⟩; have M11 := M7.below b11; have B11 := B7.below b11; have o11 := row_belowR o7 b11; have bb11 := below_next b7 b11; obtain ⟨x0, x1, x2, x3, x4, x5, x6⟩ := M11.cells; obtain ⟨i0, i1, i2, i3, i4, i5, i6⟩ := B11.cells; obtain ⟨j0, j1, j2, j3, j4, j5, j6⟩ := B11.free))
      refine bodyPost_ret (v := .tuple #[.agg #[.int .i64 0, .int .i64 0, .int .i64 0, .slice none 0 0, .int .i64 0, .int .i64 0, .int .i64 0], .int .i64 3]) (by simp [results, Try.results29, go_sem, i0, i1, i2, i3, i4, i5, i6]; try rfl) rfl ?_
      rw [HF.out]
      exact ⟨none, 0, 0, rfl, Arg.nil0 _, (((((((bb11.setCell (Nat.le_refl _) _).setCell (Nat.le_refl _) _).setCell (Nat.le_refl _) _).setCell (Nat.le_refl _) _).setCell (Nat.le_refl _) _).setCell (Nat.le_refl _) _).setCell (Nat.le_refl _) _)⟩
    · have HF := Lib.hid (show R = (⟨c, q, k, l, 0, 0, 0⟩, 0) by rw [HR]; unfold mFin; rw [if_pos h0, if_pos hc])
      have hck := Lib.hid hc
      clear HR hc
      replace h0 := Lib.hid h0
      go_enter Try.func29, Try.ntmps29
      go_wp2_with (first
        | (go_at_call 67; (with_reducible refine C0.out.mono ?_); rintro en w1 ⟨rfl, rfl⟩)
        | (go_at_call 68; (with_reducible refine (CA.out W1 R1).mono ?_); rintro en w2 ⟨rfl, R2, G2⟩; have B2 := B1.grown G2 (by simp <;> omega); have b2 := b1.grown G2 b1.size (by intro j hj; cases hj; omega))
        | (go_at_call 68; (with_reducible refine (CB.out w2 R2).mono ?_); rintro en w3 ⟨rfl, R3, G3⟩; have B3 := B2.grown G3 (by simp <;> omega); have b3 := b2.grown G3 b2.size (by intro j hj; cases hj; omega))
        | (go_at_call 68; (with_reducible refine (CC.out w3 R3).mono ?_); rintro en w4 ⟨rfl, R4, G4⟩; have B4 := B3.grown G4 (by simp <;> omega); have b4 := b3.grown G4 b3.size (by intro j hj; cases hj; omega); have hgM := R4.lt; have hMs : (w4.alloc (.cells #[.int .i64 c, .int .i64 q, .int .i64 k, .slice none 0 0, .int .i64 0, .int .i64 0, .int .i64 0] 26)).heap.size = w4.heap.size + 1 := (by simp); have M5 : Mv 26 (w4.alloc (.cells #[.int .i64 c, .int .i64 q, .int .i64 k, .slice none 0 0, .int .i64 0, .int .i64 0, .int .i64 0] 26)) w4.heap.size c q k (.slice none 0 0) 0 0 0 := (Mv.new _ _ _ _ _ _ _ _ _); have R5 : Rd (w4.alloc (.cells #[.int .i64 c, .int .i64 q, .int .i64 k, .slice none 0 0, .int .i64 0, .int .i64 0, .int .i64 0] 26)) g s3 e3 := (rd_grown R4 (World.grownBy_alloc _ _ none) (by simp)); have B5 : Mv 26 (w4.alloc (.cells #[.int .i64 c, .int .i64 q, .int .i64 k, .slice none 0 0, .int .i64 0, .int .i64 0, .int .i64 0] 26)) w.heap.size 0 0 0 (.slice none 0 0) 0 0 0 := (B4.grown (World.grownBy_alloc _ _ none) (by simp)); have b5 : Below w.heap.size w (w4.alloc (.cells #[.int .i64 c, .int .i64 q, .int .i64 k, .slice none 0 0, .int .i64 0, .int .i64 0, .int .i64 0] 26)) := (b4.alloc b4.size _); replace hMs := Lib.hid hMs)
        | (go_at_call 69; (with_reducible refine (CP.out _ R5).mono ?_); rintro en w6 ⟨v6, rfl, o6, R6, G6⟩; rw [hMs.out] at o6; obtain ⟨a6, p6, hv6, _, _, _, _⟩ := o6.arg; subst hv6; obtain ⟨n6, hn6⟩ : ∃ n, l.length = n := ⟨_, rfl⟩; have o6' : w6.ownsRow (w4.heap.size + 1) 87 2 (.slice a6 n6 p6) n6 (flatP l) := (by rw [← hn6]; exact o6); rw [hn6]; have B6 := B5.grown G6 (by simp <;> omega); have M6 := M5.grown G6 (by simp <;> omega); have b6 := b5.grown G6 b5.size (by intro j hj; cases hj; omega); have f6 := M6.free1 3; obtain ⟨d0, d1, d2, d3, d4, d5, d6⟩ := M6.cells; obtain ⟨W7, hW7⟩ : ∃ W7, w6.setCell ⟨w4.heap.size, 3, none⟩ (.slice a6 n6 p6) = W7 := ⟨_, rfl⟩; have M7 : Mv 26 W7 w4.heap.size c q k (.slice a6 n6 p6) 0 0 0 := (by rw [← hW7]; exact M6.set3 _); have R7 : Rd W7 g s4 e4 := (by rw [← hW7]; exact R6.far _ _ (by simp <;> omega)); have B7 : Mv 26 W7 w.heap.size 0 0 0 (.slice none 0 0) 0 0 0 := (by rw [← hW7]; exact B6.far _ _ (by have := B4.lt; simp <;> omega)); have o7 : W7.ownsRow (w4.heap.size + 1) 87 2 (.slice a6 n6 p6) n6 (flatP l) := (by rw [← hW7]; exact row_far o6' _ _ (by simp <;> omega)); have b7 : Below w.heap.size w W7 := (by rw [← hW7]; exact b6.setCell (by have := B4.lt; simp <;> omega) _); obtain ⟨x0, x1, x2, x3, x4, x5, x6⟩ := M7.cells; obtain ⟨y0, y1, y2, y3, y4, y5, y6⟩ := M7.free; obtain ⟨i0, i1, i2, i3, i4, i5, i6⟩ := B7.cells; obtain ⟨j0, j1, j2, j3, j4, j5, j6⟩ := B7.free; replace hn6 := Lib.hid hn6)
        | (go_at_call 71; (with_reducible refine (CX.out W7 R7).mono ?_); rintro en w10 ⟨rfl, rfl⟩)
        | (go_at_call 32; (with_reducible refine (mcheck_any c q k a6 n6 p6 l 0 0 0 W7 (Arg.of_own (ownsP_of_row o7 hn6.out.symm) hn6.out.symm)).mono ?_); rw [hck.out]; rintro en w11 ⟨rfl, b11⟩; have M11 := M7.below b11; have B11 := B7.below b11; have o11 := row_belowR o7 b11; have bb11 := below_next b7 b11; obtain ⟨x0, x1, x2, x3, x4, x5, x6⟩ := M11.cells; obtain ⟨i0, i1, i2, i3, i4, i5, i6⟩ := B11.cells; obtain ⟨j0, j1, j2, j3, j4, j5, j6⟩ := B11.free))
      have oF := row_far (row_far (row_far (row_far (row_far (row_far (row_far o11 ⟨w.heap.size, 0, none⟩ (.int .i64 c) (by simp <;> omega)) ⟨w.heap.size, 1, none⟩ (.int .i64 q) (by simp <;> omega)) ⟨w.heap.size, 2, none⟩ (.int .i64 k) (by simp <;> omega)) ⟨w.heap.size, 3, none⟩ (.slice a6 n6 p6) (by simp <;> omega)) ⟨w.heap.size, 4, none⟩ (.int .i64 0) (by simp <;> omega)) ⟨w.heap.size, 5, none⟩ (.int .i64 0) (by simp <;> omega)) ⟨w.heap.size, 6, none⟩ (.int .i64 0) (by simp <;> omega)
      refine bodyPost_ret (v := .tuple #[.agg #[.int .i64 c, .int .i64 q, .int .i64 k, .slice a6 n6 p6, .int .i64 0, .int .i64 0, .int .i64 0], .int .i64 0]) (by simp [results, Try.results29, go_sem, i0, i1, i2, i3, i4, i5, i6]; try rfl) rfl ?_
      rw [HF.out]
      exact ⟨a6, n6, p6, rfl, Arg.of_own (ownsP_of_row oF hn6.out.symm) hn6.out.symm, (((((((bb11.setCell (Nat.le_refl _) _).setCell (Nat.le_refl _) _).setCell (Nat.le_refl _) _).setCell (Nat.le_refl _) _).setCell (Nat.le_refl _) _).setCell (Nat.le_refl _) _).setCell (Nat.le_refl _) _)⟩
  · have d1 : (x != 0) = true := by simpa using h0
    have HF := Lib.hid (show R = (noM, x) by rw [HR]; unfold mFin; rw [if_neg h0])
    clear HR
    replace h0 := Lib.hid h0
    go_enter Try.func29, Try.ntmps29
    go_wp2_with (first
      | (go_at_call 67; (with_reducible refine C0.out.mono ?_); rintro en w1 ⟨rfl, rfl⟩)
      | (go_at_call 68; (with_reducible refine (CA.out W1 R1).mono ?_); rintro en w2 ⟨rfl, R2, G2⟩; have B2 := B1.grown G2 (by simp <;> omega); have b2 := b1.grown G2 b1.size (by intro j hj; cases hj; omega))
      | (go_at_call 68; (with_reducible refine (CB.out w2 R2).mono ?_); rintro en w3 ⟨rfl, R3, G3⟩; have B3 := B2.grown G3 (by simp <;> omega); have b3 := b2.grown G3 b2.size (by intro j hj; cases hj; omega))
      | (go_at_call 68; (with_reducible refine (CC.out w3 R3).mono ?_); rintro en w4 ⟨rfl, R4, G4⟩; have B4 := B3.grown G4 (by simp <;> omega); have b4 := b3.grown G4 b3.size (by intro j hj; cases hj; omega); have hgM := R4.lt; have hMs : (w4.alloc (.cells #[.int .i64 c, .int .i64 q, .int .i64 k, .slice none 0 0, .int .i64 0, .int .i64 0, .int .i64 0] 26)).heap.size = w4.heap.size + 1 := (by simp); have M5 : Mv 26 (w4.alloc (.cells #[.int .i64 c, .int .i64 q, .int .i64 k, .slice none 0 0, .int .i64 0, .int .i64 0, .int .i64 0] 26)) w4.heap.size c q k (.slice none 0 0) 0 0 0 := (Mv.new _ _ _ _ _ _ _ _ _); have R5 : Rd (w4.alloc (.cells #[.int .i64 c, .int .i64 q, .int .i64 k, .slice none 0 0, .int .i64 0, .int .i64 0, .int .i64 0] 26)) g s3 e3 := (rd_grown R4 (World.grownBy_alloc _ _ none) (by simp)); have B5 : Mv 26 (w4.alloc (.cells #[.int .i64 c, .int .i64 q, .int .i64 k, .slice none 0 0, .int .i64 0, .int .i64 0, .int .i64 0] 26)) w.heap.size 0 0 0 (.slice none 0 0) 0 0 0 := (B4.grown (World.grownBy_alloc _ _ none) (by simp)); have b5 : Below w.heap.size w (w4.alloc (.cells #[.int .i64 c, .int .i64 q, .int .i64 k, .slice none 0 0, .int .i64 0, .int .i64 0, .int .i64 0] 26)) := (b4.alloc b4.size _); replace hMs := Lib.hid hMs)
      | (go_at_call 69; (with_reducible refine (CP.out _ R5).mono ?_); rintro en w6 ⟨v6, rfl, o6, R6, G6⟩; rw [hMs.out] at o6; obtain ⟨a6, p6, hv6, _, _, _, _⟩ := o6.arg; subst hv6; obtain ⟨n6, hn6⟩ : ∃ n, l.length = n := ⟨_, rfl⟩; have o6' : w6.ownsRow (w4.heap.size + 1) 87 2 (.slice a6 n6 p6) n6 (flatP l) := (by rw [← hn6]; exact o6); rw [hn6]; have B6 := B5.grown G6 (by simp <;> omega); have M6 := M5.grown G6 (by simp <;> omega); have b6 := b5.grown G6 b5.size (by intro j hj; cases hj; omega); have f6 := M6.free1 3; obtain ⟨d0, d1, d2, d3, d4, d5, d6⟩ := M6.cells; obtain ⟨W7, hW7⟩ : ∃ W7, w6.setCell ⟨w4.heap.size, 3, none⟩ (.slice a6 n6 p6) = W7 := ⟨_, rfl⟩; have M7 : Mv 26 W7 w4.heap.size c q k (.slice a6 n6 p6) 0 0 0 := (by rw [← hW7]; exact M6.set3 _); have R7 : Rd W7 g s4 e4 := (by rw [← hW7]; exact R6.far _ _ (by simp <;> omega)); have B7 : Mv 26 W7 w.heap.size 0 0 0 (.slice none 0 0) 0 0 0 := (by rw [← hW7]; exact B6.far _ _ (by have := B4.lt; simp <;> omega)); have o7 : W7.ownsRow (w4.heap.size + 1) 87 2 (.slice a6 n6 p6) n6 (flatP l) := (by rw [← hW7]; exact row_far o6' _ _ (by simp <;> omega)); have b7 : Below w.heap.size w W7 := (by rw [← hW7]; exact b6.setCell (by have := B4.lt; simp <;> omega) _); obtain ⟨x0, x1, x2, x3, x4, x5, x6⟩ := M7.cells; obtain ⟨y0, y1, y2, y3, y4, y5, y6⟩ := M7.free; obtain ⟨i0, i1, i2, i3, i4, i5, i6⟩ := B7.cells; obtain ⟨j0, j1, j2, j3, j4, j5, j6⟩ := B7.free; replace hn6 := Lib.hid hn6)
      | (go_at_call 71; (with_reducible refine (CX.out W7 R7).mono ?_); rintro en w10 ⟨rfl, rfl⟩))
    refine bodyPost_ret (v := .tuple #[.agg #[.int .i64 0, .int .i64 0, .int .i64 0, .slice none 0 0, .int .i64 0, .int .i64 0, .int .i64 0], .int .i64 x]) (by simp [results, Try.results29, go_sem, i0, i1, i2, i3, i4, i5, i6]; try rfl) rfl ?_
    rw [HF.out]
    exact ⟨none, 0, 0, rfl, Arg.nil0 _, (((((((b7.setCell (Nat.le_refl _) _).setCell (Nat.le_refl _) _).setCell (Nat.le_refl _) _).setCell (Nat.le_refl _) _).setCell (Nat.le_refl _) _).setCell (Nat.le_refl _) _).setCell (Nat.le_refl _) _)⟩

theorem mread_any (s : ByteArray) (w : World) (hs : (s.size : Int) ≤ 1000000000000) : Calls Try.prog 29 #[.string s] w (MutRet w (mRd cPairs s)) := by
  by_cases h2 : mKind s = 2
  · exact mread_2 s w hs h2
  · by_cases h4 : mKind s = 4
    · exact mread_4 s w hs h4
    · exact mread_0 s w hs ⟨h2, h4⟩
end Go.Proofs.Ytfpgelobddglaaa
