/-
  CONTRACT: balance.divide: a row of parts, each with its shard, its pairs and its load.
-/
import Derived.Test.YtihpojllalnmcaaBaC
import Derived.Test.YtihpojllalnmcaaChH
namespace Go.Proofs.Ytihpojllalnmcaa
open Go.RowKit Go.Shelf

theorem Arg.grownA {W W' : World} {row : Option Nat} {a : Option Addr} {n c : Nat} {l : List Sp} (h : Arg W a n c l) (hg : W.grownBy W' row) (ho : ∀ p, a = some p → some p.block ≠ row) : Arg W' a n c l :=
  ⟨h.1, h.2.1, h.2.2.1, h.2.2.2.1, fun j hj => by
    obtain ⟨b, off, e, hb, h0, h1⟩ := h.2.2.2.2 j hj
    exact ⟨b, off, e, Nat.lt_of_lt_of_le hb hg.size, World.grownBy.cell hg (a := ⟨b, off + j * 2, none⟩) h0 (ho ⟨b, off, none⟩ e), World.grownBy.cell hg (a := ⟨b, off + j * 2 + 1, none⟩) h1 (ho ⟨b, off, none⟩ e)⟩⟩
theorem Arg.lt {W : World} {a : Option Addr} {n c : Nat} {l : List Sp} (h : Arg W a n c l) (hl : l ≠ []) : ∀ p, a = some p → p.block < W.heap.size := fun p hp => by
  obtain ⟨b, off, e, hb, _⟩ := h.2.2.2.2 0 (List.length_pos_iff.2 hl)
  rw [hp] at e
  cases e
  exact hb
theorem OwnsP.fresh {t : TypeId} {W : World} {base : Nat} {v : Value} {l : List Sp} (h : OwnsP t W base v l) : ∃ a n c, v = .slice a n c ∧ Arg W a n c l ∧ ∀ p, a = some p → base ≤ p.block ∧ p.block < W.heap.size := by
  obtain ⟨a, c, rfl, _⟩ := h.arg
  exact ⟨a, _, c, rfl, Arg.of_own h rfl, fun p hp => by subst hp; exact World.ownsRow.lt h p.block rfl⟩
theorem span_at {W : World} {b : Nat} {lo hi : Int} {t : TypeId} (h : W.heap[b]? = some (.cells #[.int .i64 lo, .int .i64 hi] t)) : Arg W (some ⟨b, 0, none⟩) 1 1 [(lo, hi)] := by
  refine ⟨rfl, by simp, by simp, by unfold maxLen; omega, fun j hj => ?_⟩
  have hj0 : j = 0 := by simpa using hj
  subst hj0
  exact ⟨b, 0, rfl, heap_lt h, cell_of_row _ _ 0 _ _ _ h, cell_of_row _ _ 1 _ _ _ h⟩
/-- Parts whose pairs lie outside a block. -/
def PRows (g : Nat) (W : World) (ps : List Pt) : Prop := ∀ x ∈ ps, Arg W x.a x.n x.c x.ps ∧ ∀ p, x.a = some p → p.block ≠ g ∧ p.block < W.heap.size
theorem PRows.nil (g : Nat) (W : World) : PRows g W [] := fun _ h => absurd h (by simp)
theorem PRows.below {g : Nat} {W W' : World} {ps : List Pt} (h : PRows g W ps) (hb : Below W.heap.size W W') : PRows g W' ps := fun x hx => ⟨(h x hx).1.below hb, fun p hp => ⟨((h x hx).2 p hp).1, Nat.lt_of_lt_of_le ((h x hx).2 p hp).2 hb.size⟩⟩
theorem PRows.grownB {g B : Nat} {W W' : World} {ps : List Pt} (h : PRows g W ps) (hg : W.grownBy W' (some B)) (hB : ∀ x ∈ ps, ∀ p, x.a = some p → p.block ≠ B) : PRows g W' ps := fun x hx =>
  ⟨(h x hx).1.grownA hg (fun p hp e => hB x hx p hp (by injection e)), fun p hp => ⟨((h x hx).2 p hp).1, Nat.lt_of_lt_of_le ((h x hx).2 p hp).2 hg.size⟩⟩
theorem PRows.snoc {g : Nat} {W : World} {ps : List Pt} {x : Pt} (h : PRows g W ps) (hx : Arg W x.a x.n x.c x.ps ∧ ∀ p, x.a = some p → p.block ≠ g ∧ p.block < W.heap.size) : PRows g W (ps ++ [x]) := fun y hy => by
  rcases List.mem_append.1 hy with hy | hy
  · exact h y hy
  · rw [List.mem_singleton] at hy
    rw [hy]
    exact hx
theorem OwnsR.grownP {α : Type} {enc : α → List Value} {k : Nat} {t : TypeId} {W W' : World} {base B : Nat} {v : Value} {l : List α} (h : OwnsR enc k t W base v l) (hg : W.grownBy W' (some B)) (hB : v.ownBlock ≠ some B) : OwnsR enc k t W' base v l := by
  refine ⟨h.1, ?_⟩
  rcases h.2 with hn | ⟨g, cap, cur, rfl, hbb, hgg, rest⟩
  · exact .inl hn
  · exact .inr ⟨g, cap, cur, rfl, hbb, (hg.block g (World.ownsRow.lt h g rfl).2 (fun e => hB (by rw [← e]; rfl))).trans hgg, rest⟩
theorem made6 (n : Nat) : (madeCells #[.int .i64 0, .int .i64 0, .int .i64 0, .int .i64 0, .slice none 0 0, .int .i64 0] (n * 6)).toList = flatR encPt (List.replicate n zeroPt) := by
  have hl : (flatR encPt (List.replicate n zeroPt)).length = n * 6 := by rw [flatR_length encPt_len, List.length_replicate]
  apply List.ext_getElem?
  intro j
  by_cases hj : j < n * 6
  · have hq : j / 6 < n := by omega
    have hd : j / 6 * 6 + j % 6 = j := by omega
    have hm : j % 6 < 6 := Nat.mod_lt _ (by omega)
    have e0 : (List.replicate n zeroPt)[j / 6]! = zeroPt := by rw [getElem!_pos _ _ (by simpa using hq), List.getElem_replicate]
    have e1 := flatR_get encPt_len (List.replicate n zeroPt) (j / 6) (j % 6) ((encPt zeroPt)[j % 6]'(by rw [encPt_len]; exact hm)) (by simpa using hq) (by rw [e0]; exact List.getElem?_eq_getElem _)
    rw [hd] at e1
    rw [e1]
    simp [madeCells, hj]
    have : j % 6 = 0 ∨ j % 6 = 1 ∨ j % 6 = 2 ∨ j % 6 = 3 ∨ j % 6 = 4 ∨ j % 6 = 5 := by omega
    rcases this with h | h | h | h | h | h <;> simp [h, encPt, zeroPt]
  · rw [List.getElem?_eq_none (l := flatR encPt (List.replicate n zeroPt)) (by rw [hl]; omega), List.getElem?_eq_none (by rw [Array.length_toList, size_madeCells]; omega)]
theorem set6_flat (x y : Pt) : ∀ (A B : List Pt), ((((((flatR encPt (A ++ x :: B)).set (A.length * 6) (.int .i64 y.s.1)).set (A.length * 6 + 1) (.int .i64 y.s.2.1)).set (A.length * 6 + 2) (.int .i64 y.s.2.2.1)).set (A.length * 6 + 3) (.int .i64 y.s.2.2.2)).set (A.length * 6 + 4) (.slice y.a y.n y.c)).set (A.length * 6 + 5) (.int .i64 y.v) = flatR encPt (A ++ y :: B)
  | [], B => rfl
  | z :: A, B => by
    have ih := set6_flat x y A B
    have e : ∀ (q : Pt) (L : List Pt), flatR encPt (q :: L) = .int .i64 q.s.1 :: .int .i64 q.s.2.1 :: .int .i64 q.s.2.2.1 :: .int .i64 q.s.2.2.2 :: .slice q.a q.n q.c :: .int .i64 q.v :: flatR encPt L := fun _ _ => rfl
    rw [List.cons_append, List.cons_append, e, e, List.length_cons, show (A.length + 1) * 6 = A.length * 6 + 1 + 1 + 1 + 1 + 1 + 1 from by omega]
    simp only [List.set_cons_succ, show A.length * 6 + 1 + 1 + 1 + 1 + 1 + 1 + 2 = A.length * 6 + 2 + 1 + 1 + 1 + 1 + 1 + 1 from by omega, show A.length * 6 + 1 + 1 + 1 + 1 + 1 + 1 + 3 = A.length * 6 + 3 + 1 + 1 + 1 + 1 + 1 + 1 from by omega, show A.length * 6 + 1 + 1 + 1 + 1 + 1 + 1 + 4 = A.length * 6 + 4 + 1 + 1 + 1 + 1 + 1 + 1 from by omega, show A.length * 6 + 1 + 1 + 1 + 1 + 1 + 1 + 5 = A.length * 6 + 5 + 1 + 1 + 1 + 1 + 1 + 1 from by omega]
    rw [ih]
def rowPt (n : Nat) (ps : List Pt) : List Pt := ps ++ List.replicate (n - ps.length) zeroPt
theorem rowPt_len {n : Nat} {ps : List Pt} (h : ps.length ≤ n) : (rowPt n ps).length = n := by unfold rowPt; rw [List.length_append, List.length_replicate]; omega
theorem rowPt_set {n : Nat} {ps : List Pt} (h : ps.length < n) (y : Pt) : ((((((flatR encPt (rowPt n ps)).set (ps.length * 6) (.int .i64 y.s.1)).set (ps.length * 6 + 1) (.int .i64 y.s.2.1)).set (ps.length * 6 + 2) (.int .i64 y.s.2.2.1)).set (ps.length * 6 + 3) (.int .i64 y.s.2.2.2)).set (ps.length * 6 + 4) (.slice y.a y.n y.c)).set (ps.length * 6 + 5) (.int .i64 y.v) = flatR encPt (rowPt n (ps ++ [y])) := by
  have e1 : rowPt n ps = ps ++ zeroPt :: List.replicate (n - (ps.length + 1)) zeroPt := by
    unfold rowPt
    rw [show n - ps.length = (n - (ps.length + 1)) + 1 by omega, List.replicate_succ]
  have e2 : rowPt n (ps ++ [y]) = ps ++ y :: List.replicate (n - (ps.length + 1)) zeroPt := by
    unfold rowPt
    rw [List.append_assoc, List.length_append, List.length_singleton]
    rfl
  rw [e1, e2]
  exact set6_flat zeroPt y ps _
/-- What the parts say: the first k shards, each with its pairs and its load. -/
structure DivOk (l : List Sp) (sd : List Sd) (k : Nat) (ps : List Pt) : Prop where
  len : ps.length = k
  its : ps.map (fun x => (x.s, x.v)) = itsB l (sd.take k)
  prs : ∀ x ∈ ps, x.ps = l.filter (inK x.s.2.1 x.s.2.2.1)
theorem DivOk.next {l : List Sp} {sd : List Sd} {k : Nat} {ps : List Pt} (h : DivOk l sd k ps) (hk : k < sd.length) {x : Pt} (h1 : x.s = sd[k]!) (h2 : x.v = sumK l x.s.2.1 x.s.2.2.1) (h3 : x.ps = l.filter (inK x.s.2.1 x.s.2.2.1)) : DivOk l sd (k + 1) (ps ++ [x]) where
  len := by rw [List.length_append, h.len]; rfl
  its := by
    rw [List.map_append, h.its, take_moreG hk]
    unfold itsB
    rw [List.map_append, ← h1]
    simp only [List.map_cons, List.map_nil]
    rw [h2]
  prs := fun y hy => by
    rcases List.mem_append.1 hy with hy | hy
    · exact h.prs y hy
    · rw [List.mem_singleton] at hy
      rw [hy]
      exact h3
/-- The parts, in a row of the call's own. -/
def PartsPost (l : List Sp) (sd : List Sd) (w : World) (e : Ending) (w' : World) : Prop := ∃ v ps, e = .returned v ∧ OwnsR encPt 6 101 w' w.heap.size v ps ∧ (∀ x ∈ ps, Arg w' x.a x.n x.c x.ps) ∧ DivOk l sd sd.length ps ∧ Below w.heap.size w w'
theorem clip_one {l : List Sp} {lo hi : Int} (hl : tblB l = true) (ho : oneB (lo, hi) = true) : clipP l [(lo, hi)] = l.filter (inK lo hi) := by
  have g := (oneB_iff _).1 ho
  dsimp only at g
  have hc : chkB [(lo, hi)] = true := by
    unfold chkB
    rw [Bool.and_eq_true]
    refine ⟨?_, by simp⟩
    show (oneB (lo, hi) && decide (-1 < lo) && true) = true
    rw [ho]
    simp
    omega
  rw [show clipP l [(lo, hi)] = l.filter (fun p => hasB [(lo, hi)] p.1) from if_pos ⟨hl, hc⟩]
  refine List.filter_congr fun p _ => ?_
  show (inB (lo, hi) p.1 || false) = inK lo hi p
  unfold inB inK
  rw [ho, Bool.or_false, Bool.true_and]
  simp only [Bool.decide_and]
theorem toDB {B : Nat} {a X : World} (h : Below B a X) : Below B a X.drew := ⟨h.os, h.tape, h.output, h.size, h.block⟩
theorem heap_next (W : World) (o o' : Obj) : ((W.alloc o).alloc o').heap[W.heap.size + 1]? = some o' := by
  have := heap_alloc_new (W.alloc o) o'
  rwa [show (W.alloc o).heap.size = W.heap.size + 1 by simp] at this
theorem heap_nextD (W : World) (o o' : Obj) : (((W.alloc o).alloc o').drew).heap[W.heap.size + 1]? = some o' := heap_next W o o'
theorem heap_oldD (W : World) (o o' : Obj) : (((W.alloc o).alloc o').drew).heap[W.heap.size]? = some o := by
  have b1 : Below (W.alloc o).heap.size (W.alloc o) ((W.alloc o).alloc o') := (Below.refl _ _).alloc (Nat.le_refl _) _
  exact (b1.block _ (by simp)).trans (heap_alloc_new W _)
theorem grow6B (W : World) (b : Nat) (x y z u v s : Value) : W.grownBy ((((((W.setCell ⟨b, 0, none⟩ x).setCell ⟨b, 1, none⟩ y).setCell ⟨b, 2, none⟩ z).setCell ⟨b, 3, none⟩ u).setCell ⟨b, 4, none⟩ v).setCell ⟨b, 5, none⟩ s) (some b) :=
  grown_trans (grown_trans (grown_trans (grown_trans (grown_trans (grown_setCell _ ⟨b, 0, none⟩ _) (grown_setCell _ ⟨b, 1, none⟩ _)) (grown_setCell _ ⟨b, 2, none⟩ _)) (grown_setCell _ ⟨b, 3, none⟩ _)) (grown_setCell _ ⟨b, 4, none⟩ _)) (grown_setCell _ ⟨b, 5, none⟩ _)
theorem below6B {a W : World} {B b : Nat} {x y z u v s : Value} (h : Below B a W) (hb : B ≤ b) : Below B a ((((((W.setCell ⟨b, 0, none⟩ x).setCell ⟨b, 1, none⟩ y).setCell ⟨b, 2, none⟩ z).setCell ⟨b, 3, none⟩ u).setCell ⟨b, 4, none⟩ v).setCell ⟨b, 5, none⟩ s) := by
  repeat (first | with_reducible exact h | with_reducible refine Below.setCell ?_ (show B ≤ b from hb) _)
theorem grow6R (W : World) (b q : Nat) (x y z u v s : Value) : W.grownBy ((((((W.setCell ⟨b, q, none⟩ x).setCell ⟨b, q + 1, none⟩ y).setCell ⟨b, q + 2, none⟩ z).setCell ⟨b, q + 3, none⟩ u).setCell ⟨b, q + 4, none⟩ v).setCell ⟨b, q + 5, none⟩ s) (some b) :=
  grown_trans (grown_trans (grown_trans (grown_trans (grown_trans (grown_setCell _ ⟨b, q, none⟩ _) (grown_setCell _ ⟨b, q + 1, none⟩ _)) (grown_setCell _ ⟨b, q + 2, none⟩ _)) (grown_setCell _ ⟨b, q + 3, none⟩ _)) (grown_setCell _ ⟨b, q + 4, none⟩ _)) (grown_setCell _ ⟨b, q + 5, none⟩ _)
theorem below6R {a W : World} {B b q : Nat} {x y z u v s : Value} (h : Below B a W) (hb : B ≤ b) : Below B a ((((((W.setCell ⟨b, q, none⟩ x).setCell ⟨b, q + 1, none⟩ y).setCell ⟨b, q + 2, none⟩ z).setCell ⟨b, q + 3, none⟩ u).setCell ⟨b, q + 4, none⟩ v).setCell ⟨b, q + 5, none⟩ s) := by
  repeat (first | with_reducible exact h | with_reducible refine Below.setCell ?_ (show B ≤ b from hb) _)
theorem span_drewB {W : World} {b : Nat} {lo hi : Int} {t : TypeId} (hb : b = W.heap.size) : Arg ((W.alloc (.cells #[.int .i64 lo, .int .i64 hi] t)).drew) (some ⟨b, 0, none⟩) 1 1 [(lo, hi)] := by
  subst hb
  exact span_at (W := (W.alloc (.cells #[.int .i64 lo, .int .i64 hi] t)).drew) (t := t) (heap_alloc_new W _)
theorem span_drewC {W : World} {b : Nat} {lo hi : Int} {t : TypeId} {ob : Obj} (hb : b = W.heap.size) : Arg (((W.alloc (.cells #[.int .i64 lo, .int .i64 hi] t)).alloc ob).drew) (some ⟨b, 0, none⟩) 1 1 [(lo, hi)] := by
  subst hb
  refine span_at (W := ((W.alloc (.cells #[.int .i64 lo, .int .i64 hi] t)).alloc ob).drew) (t := t) ?_
  show ((W.alloc (.cells #[.int .i64 lo, .int .i64 hi] t)).alloc ob).heap[W.heap.size]? = _
  have b1 : Below (W.alloc (.cells #[.int .i64 lo, .int .i64 hi] t)).heap.size (W.alloc (.cells #[.int .i64 lo, .int .i64 hi] t)) ((W.alloc (.cells #[.int .i64 lo, .int .i64 hi] t)).alloc ob) := (Below.refl _ _).alloc (Nat.le_refl _) _
  exact (b1.block _ (by simp)).trans (heap_alloc_new W _)
set_option maxRecDepth 100000 in
set_option maxHeartbeats 4000000 in
theorem divide_any (ep nx : Int) (a : Option Addr) (n c : Nat) (sd : List Sd) (a2 : Option Addr) (n2 c2 : Nat) (l : List Sp) (w : World) (h : RArg encS 4 w a n c sd) (hL : Arg w a2 n2 c2 l) (hc : chkC ep nx sd = true) (hl : loadB l = true) :
    Calls Try.prog 23 #[.agg #[.int .i64 ep, .int .i64 nx, .slice a n c], .slice a2 n2 c2] w (PartsPost l sd w) := by
  obtain ⟨i0, hi0, hz0, hz1, hz2⟩ := info_parts Try.infoPart
  obtain ⟨W1, hW1⟩ : ∃ W1, w.alloc (.cells #[.int .i64 ep, .int .i64 nx, .slice a n c] 24) = W1 := ⟨_, rfl⟩
  have bw : Below w.heap.size w W1 := by rw [← hW1]; exact (Below.refl _ _).alloc (Nat.le_refl _) _
  have g1 : w.heap.size < W1.heap.size := by rw [← hW1]; simp
  have KX := Lib.hid (fun W (h : Below W1.heap.size W1 W) => box3D (w := w) (t := 24) (x := .int .i64 ep) (y := .int .i64 nx) (z := .slice a n c) (w' := W) (by rw [hW1]; exact h))
  have HP := Lib.hid (h.below bw)
  have HL := Lib.hid (hL.below bw)
  obtain ⟨q0, q1, q2⟩ := KX.out _ (Below.refl _ _)
  have hn := h.1
  have hn24 := (chkC_parts hc).2.2.1
  have h1n : 1 ≤ n := by omega
  have h24 : n ≤ 24 := by omega
  have hTB := Lib.hid (loadB_iff.1 hl).2
  have HLD := Lib.hid hl
  have HON := Lib.hid (fun k (hk : k < sd.length) => chk_one hc (mem_bang hk))
  clear h hL hc hl hn24
  replace hn := Lib.hid hn
  go_enter Try.func23, Try.ntmps23
  go_wp2_with (at_make; refine wpList_make_full _ rfl (.tmp 13) (.tmp 13) 72 rfl W1.heap.size 101 i0 (.agg #[.int .i64 0, .int .i64 0, .int .i64 0, .int .i64 0, .slice none 0 0, .int .i64 0]) 6 Try.underlying72 hi0 hz0 hz1 .i64 .i64 n n n rfl rfl rfl rfl (by rw [hz2]; omega) (by unfold maxLen; omega) (Nat.le_refl _) ?_)
  intro w3 hrow hg3
  have b03 : Below W1.heap.size W1 w3 := (Below.refl _ _).grown hg3 (Nat.le_refl _) (fun _ h => by cases h)
  have HR3 := Lib.hid (show OwnsR encPt 6 101 w3 W1.heap.size (.slice (some ⟨W1.heap.size, 0, none⟩) n n) (rowPt n []) by
    unfold OwnsR
    rw [rowPt_len (Nat.zero_le _), show rowPt n [] = List.replicate n zeroPt from rfl, ← made6]
    exact hrow)
  have G : W1.heap.size < w3.heap.size := (hrow.lt W1.heap.size rfl).2
  obtain ⟨z0, z1, z2⟩ := KX.out _ b03
  clear hrow hg3
  replace hW1 := Lib.hid hW1
  go_wp2_with fail
  go_loopw [18] (fun i wr => ∃ (k : Nat) (ps : List Pt), i = .int .i64 (k : Int) ∧ k ≤ n ∧ Hid (DivOk l sd k ps) ∧ Hid (OwnsR encPt 6 101 wr W1.heap.size (.slice (some ⟨W1.heap.size, 0, none⟩) n n) (rowPt n ps)) ∧ Hid (PRows W1.heap.size wr ps) ∧ Below W1.heap.size W1 wr ∧ W1.heap.size < wr.heap.size)
    (fun i _ => n - (intOf i).toNat)
  case atStart => exact ⟨0, [], rfl, Nat.zero_le _, Lib.hid ⟨rfl, rfl, fun _ h => absurd h (by simp)⟩, HR3, Lib.hid (PRows.nil _ _), b03, G⟩
  case round =>
    obtain ⟨k, ps, rfl, hk, HD, HO, HR, hbl, hG⟩ := hrel
    by_cases hlt : k < n
    · have hkl : k < sd.length := by rw [← hn.out]; exact hlt
      have hkz : (k : Int) < (n : Int) := by omega
      obtain ⟨b, off, e, hb9, d0, d1, d2, d3⟩ := (HP.out.below hbl).2.2.2.2.shard k hkl
      subst e
      have ho := HON.out k hkl
      obtain ⟨⟨i, lo, hi, nd⟩, hs⟩ : ∃ s, sd[k]! = s := ⟨_, rfl⟩
      rw [hs] at d0 d1 d2 d3 ho
      dsimp only at d0 d1 d2 d3 ho
      have HC := Lib.hid (clip_one (l := l) (lo := lo) (hi := hi) hTB.out ho)
      replace hs := Lib.hid hs
      clear ho
      obtain ⟨W4, hW4⟩ : ∃ W4, wr.alloc (.cells #[.int .i64 i, .int .i64 lo, .int .i64 hi, .int .i64 nd] 61) = W4 := ⟨_, rfl⟩
      have b4 : Below wr.heap.size wr W4 := by rw [← hW4]; exact (Below.refl _ _).alloc (Nat.le_refl _) _
      have g4 : wr.heap.size < W4.heap.size := by rw [← hW4]; simp
      have hr4 : W4.heap[wr.heap.size]? = some (.cells #[.int .i64 i, .int .i64 lo, .int .i64 hi, .int .i64 nd] 61) := by rw [← hW4]; exact heap_alloc_new _ _
      have S4 := Lib.hid (fun W (hb : Below W4.heap.size W4 W) => (show W.cell? ⟨wr.heap.size, 0, none⟩ = some (.int .i64 i) ∧ W.cell? ⟨wr.heap.size, 1, none⟩ = some (.int .i64 lo) ∧ W.cell? ⟨wr.heap.size, 2, none⟩ = some (.int .i64 hi) ∧ W.cell? ⟨wr.heap.size, 3, none⟩ = some (.int .i64 nd) from
        have e := (hb.block _ g4).trans hr4
        ⟨cell_of_row _ _ 0 _ _ _ e, cell_of_row _ _ 1 _ _ _ e, cell_of_row _ _ 2 _ _ _ e, cell_of_row _ _ 3 _ _ _ e⟩))
      have hbl4 := below_next hbl b4
      have HL4 := Lib.hid (HL.out.below hbl4)
      have B4' := Lib.hid b4
      clear hr4 b4
      go_upto_region 5 with fail
      replace hW4 := Lib.hid hW4
      go_cut [8] from 23 to 29 (fun p wx => ∃ (B : Nat) (a3 : Option Addr) (n3 c3 : Nat), p = .pointer (some ⟨B, 0, none⟩) ∧ wx.heap[B]? = some (.cells #[.int .i64 i, .int .i64 lo, .int .i64 hi, .int .i64 nd, .slice a3 n3 c3, .int .i64 0] 101) ∧ Hid (Arg wx a3 n3 c3 (l.filter (inK lo hi)) ∧ ∀ p, a3 = some p → p.block ≠ B ∧ W4.heap.size ≤ p.block ∧ p.block < wx.heap.size) ∧ W4.heap.size ≤ B ∧ Below W4.heap.size W4 wx)
      case first =>
        have HBD : Below W4.heap.size W4 W4 := Below.refl _ _
        go_region_held3 (fun WW => WW.cell? ⟨wr.heap.size, 0, none⟩ = some (.int .i64 i) ∧ WW.cell? ⟨wr.heap.size, 1, none⟩ = some (.int .i64 lo) ∧ WW.cell? ⟨wr.heap.size, 2, none⟩ = some (.int .i64 hi) ∧ WW.cell? ⟨wr.heap.size, 3, none⟩ = some (.int .i64 nd)) (exact S4.out _ (by repeat (first | with_reducible exact HBD | with_reducible refine toDB ?_ | with_reducible refine Below.alloc ?_ (by first | exact Nat.le_refl _ | omega | (simp; done) | (simp; omega)) _ | with_reducible refine Below.setCell ?_ (by first | with_reducible exact Nat.le_refl _ | (dsimp only; omega)) _))) ((first | (go_at_call 48; (with_reducible refine (clip_any a2 n2 c2 l _ 1 1 [(lo, hi)] _ (HL4.out.below (by repeat (first | with_reducible exact HBD | with_reducible refine toDB ?_ | with_reducible refine Below.alloc ?_ (by first | exact Nat.le_refl _ | omega | (simp; done) | (simp; omega)) _ | with_reducible refine Below.setCell ?_ (by first | with_reducible exact Nat.le_refl _ | (dsimp only; omega)) _))) (by first | exact span_drewB (by first | rfl | simp) | exact span_drewC (by first | rfl | simp))).mono ?_); rintro e wz ⟨v, rfl, hv, hbz⟩; obtain ⟨a3, n3, c3, rfl, hA3, hN3⟩ := OwnsP.fresh hv; replace hA3 := Lib.hid hA3; replace hN3 := Lib.hid hN3; have HBD := below_next (w := W4) (by repeat (first | with_reducible exact HBD | with_reducible refine toDB ?_ | with_reducible refine Below.alloc ?_ (by first | exact Nat.le_refl _ | omega | (simp; done) | (simp; omega)) _ | with_reducible refine Below.setCell ?_ (by first | with_reducible exact Nat.le_refl _ | (dsimp only; omega)) _)) hbz; have HBZ := HBD.size; have kzb := (fun k hk => hbz.block k hk); have kzc := (fun (i : Nat) h => hbz.cell (p := ⟨W4.heap.size, i, none⟩) h); have kzf := (fun (i : Nat) h => hbz.frozen (p := ⟨W4.heap.size, i, none⟩) h); have kyc := (fun (i : Nat) h => hbz.cell (p := ⟨W4.heap.size + 1, i, none⟩) h); have kyf := (fun (i : Nat) h => hbz.frozen (p := ⟨W4.heap.size + 1, i, none⟩) h); clear hbz) | fail))
        · go_wp2_with fail
          go_meet
          have hAA := hA3.out
          rw [HC.out] at hAA
          have hNN := hN3.out
          refine ⟨wz.heap.size, a3, n3, c3, rfl, ?_, Lib.hid ⟨hAA.below ((Below.refl _ _).alloc (Nat.le_refl _) _), fun p hp => (by have := hNN p hp; simp at this ⊢; omega)⟩, HBZ, ?_⟩
          · exact heap_alloc_new _ _
          · exact HBD.alloc HBZ _
        · go_wp2_with fail
          go_meet
          have hAA := hA3.out
          rw [HC.out] at hAA
          have hNN := hN3.out
          have hz6 : wz.heap[W4.heap.size + 1]? = some (.cells #[.int .i64 0, .int .i64 0, .int .i64 0, .int .i64 0, .slice none 0 0, .int .i64 0] 101) := (kzb _ (by simp)).trans (heap_nextD _ _ _)
          have hz7 := set6B (x' := .int .i64 i) (y' := .int .i64 lo) (z' := .int .i64 hi) (u' := .int .i64 nd) (v' := .slice a3 n3 c3) (s' := .int .i64 0) hz6
          refine ⟨W4.heap.size + 1, a3, n3, c3, rfl, (by with_reducible exact hz7), ?_⟩
          exact ⟨Lib.hid ⟨hAA.grownA (grow6B _ _ _ _ _ _ _ _) (fun p hp e => by have := hNN p hp; injection e; simp at this; omega), fun p hp => (by have := hNN p hp; simp at this ⊢; omega)⟩, (by omega), below6B HBD (by omega)⟩
        · go_wp2_with fail
          go_meet
          have hAA := hA3.out
          rw [HC.out] at hAA
          have hNN := hN3.out
          have hz6 : wz.heap[W4.heap.size]? = some (.cells #[.int .i64 0, .int .i64 0, .int .i64 0, .int .i64 0, .slice none 0 0, .int .i64 0] 101) := (kzb _ (by simp; omega)).trans (heap_oldD _ _ _)
          have hz7 := set6B (x' := .int .i64 i) (y' := .int .i64 lo) (z' := .int .i64 hi) (u' := .int .i64 nd) (v' := .slice a3 n3 c3) (s' := .int .i64 0) hz6
          refine ⟨W4.heap.size, a3, n3, c3, rfl, (by with_reducible exact hz7), ?_⟩
          exact ⟨Lib.hid ⟨hAA.grownA (grow6B _ _ _ _ _ _ _ _) (fun p hp e => by have := hNN p hp; injection e; simp at this; omega), fun p hp => (by have := hNN p hp; simp at this ⊢; omega)⟩, (by omega), below6B HBD (by omega)⟩
      case rest =>
        obtain ⟨B, a3, n3, c3, rfl, hB, HA, hWB, hbx⟩ := hcut
        obtain ⟨L3, hL3⟩ : ∃ L3, l.filter (inK lo hi) = L3 := ⟨_, rfl⟩
        have hsub : ∀ m, m.Sublist L3 → 0 ≤ valS m ∧ valS m ≤ 4503599627370496 := fun m hm => load_sub HLD.out (hm.trans (by rw [← hL3]; exact List.filter_sublist))
        have HSB := Lib.hid hsub
        have HSUM := Lib.hid (show sumK l lo hi = valS L3 by rw [← hL3]; rfl)
        rw [hL3] at HA
        replace hL3 := Lib.hid hL3
        clear hsub
        have hn3 := HA.out.1.1
        have hn3z : (n3 : Int) ≤ 9223372036854775807 := by have := HA.out.1.2.1; omega
        replace hn3 := Lib.hid hn3
        have hBl : B < wc.heap.size := heap_lt hB
        obtain ⟨⟨x0, x1, x2, x3, x4, x5⟩, fz⟩ := cells6B hB
        clear fz
        have HB := Lib.hid hB
        clear hB
        have hblc := below_next hbl4 hbx
        have brc := below_next B4'.out hbx
        have HBRC := Lib.hid brc
        clear brc
        go_wp2_with fail
        go_loopw [33] (fun jj wi => ∃ (j : Nat) (z : Int), jj = .int .i64 (j : Int) ∧ j ≤ n3 ∧ Hid (z = valS (L3.take j)) ∧ Hid (wi.heap[B]? = some (.cells #[.int .i64 i, .int .i64 lo, .int .i64 hi, .int .i64 nd, .slice a3 n3 c3, .int .i64 z] 101)) ∧ Hid (wc.grownBy wi (some B)))
          (fun jj _ => n3 - (intOf jj).toNat)
        case atStart => exact ⟨0, 0, rfl, Nat.zero_le _, Lib.hid rfl, HB, Lib.hid (World.grownBy.refl _ _)⟩
        case round =>
          obtain ⟨wk, hwk⟩ : ∃ wk, wk = wr := ⟨_, rfl⟩
          obtain ⟨j, z, rfl, hj, HZ, HBJ, HG⟩ := hrel
          have hBl2 : B < wr.heap.size := heap_lt HBJ.out
          obtain ⟨⟨x0, x1, x2, x3, x4, x5⟩, fz⟩ := cells6B HBJ.out
          have f5 := fz 5
          clear fz
          have harg := HA.out.1.grownA HG.out (fun p hp e => (HA.out.2 p hp).1 (by injection e))
          have hb2 := HSB.out (L3.take (j + 1)) (List.take_sublist _ _)
          by_cases hjt : j < n3
          · have hjl : j < L3.length := by rw [← hn3.out]; exact hjt
            have hjz : (j : Int) < (n3 : Int) := by omega
            obtain ⟨b', off', e', _, y0, y1⟩ := harg.2.2.2.2 j hjl
            have hv : valS (L3.take (j + 1)) = z + (L3.getD j (0, 0)).2 := by rw [take_more hjl, valS_append, ← HZ.out]; simp [valS]
            obtain ⟨s, hs⟩ : ∃ s, L3.getD j (0, 0) = s := ⟨_, rfl⟩
            rw [hs] at y0 y1 hv
            obtain ⟨kx, v⟩ := s
            dsimp only at y0 y1 hv
            rw [hv] at hb2
            have hw : IntKind.i64.wrap (z + v) = z + v := IntWalk.i64_in _ (by omega)
            have HV := Lib.hid hv
            obtain ⟨W5, hW5⟩ : ∃ W5, wr.alloc (.cells #[.int .i64 kx, .int .i64 v] 68) = W5 := ⟨_, rfl⟩
            have b5 : Below wr.heap.size wr W5 := by rw [← hW5]; exact (Below.refl _ _).alloc (Nat.le_refl _) _
            have p1 : W5.cell? ⟨wr.heap.size, 1, none⟩ = some (.int .i64 v) := by rw [← hW5]; exact cell_of_row _ _ 1 _ _ _ (heap_alloc_new _ _)
            have x5' : W5.cell? ⟨B, 5, none⟩ = some (.int .i64 z) := (b5.cell (p := ⟨B, 5, none⟩) hBl2).trans x5
            have f5' : W5.frozen? ⟨B, 5, none⟩ = false := (b5.frozen (p := ⟨B, 5, none⟩) hBl2).trans f5
            have HB5 := Lib.hid ((b5.block B hBl2).trans HBJ.out)
            have HG5 := Lib.hid (show wc.grownBy W5 (some B) by rw [← hW5]; exact grown_trans HG.out (World.grownBy_alloc _ _ _))
            subst e'
            clear harg hs hv hb2 b5
            go_wp2_with fail
            go_roundw
            case rel => exact ⟨j + 1, z + v, by go_num, by omega, Lib.hid HV.out.symm, Lib.hid (heap_setCell_same _ _ 5 _ _ _ HB5.out), Lib.hid (grown_trans HG5.out (grown_setCell _ ⟨B, 5, none⟩ _))⟩
            case measure => simp [intOf]; omega
          · have hjz : ¬ (j : Int) < (n3 : Int) := by omega
            have hz : z = valS L3 := by have := HZ.out; rwa [List.take_of_length_le (by rw [← hn3.out]; omega)] at this
            have HZS := Lib.hid (show z = sumK l lo hi by rw [hz, HSUM.out])
            clear hb2 hz
            have hgB : W1.heap.size ≠ B := by have := B4'.out.size; omega
            have hro0 := (HO.out.below HBRC.out).grownP HG.out (show Value.ownBlock (.slice (some ⟨W1.heap.size, 0, none⟩) n n) ≠ some B from fun e => hgB (by injection e))
            have hlenk : ps.length = k := HD.out.len
            have hlen' : (rowPt n ps).length = n := rowPt_len (by omega)
            have hro := hro0
            unfold OwnsR at hro
            rw [hlen'] at hro
            have hset := rowPt_set (n := n) (ps := ps) (by omega) ⟨(i, lo, hi, nd), a3, n3, c3, L3, z⟩
            dsimp only at hset
            rw [hlenk] at hset
            have HRO := Lib.hid hro
            have hfl : (flatR encPt (rowPt n ps)).length = n * 6 := by rw [flatR_length encPt_len, hlen']
            have cz : ∀ q, q < n * 6 → ∃ v, wr.cell? ⟨W1.heap.size, q, none⟩ = some v := fun q hq => ⟨_, (World.ownsRow.cellAt HRO.out q hq).trans (List.getElem?_eq_getElem (by rw [hfl]; exact hq))⟩
            obtain ⟨v0, r0⟩ := cz (k * 6) (by omega)
            obtain ⟨v1, r1⟩ := cz (k * 6 + 1) (by omega)
            obtain ⟨v2, r2⟩ := cz (k * 6 + 2) (by omega)
            obtain ⟨v3, r3⟩ := cz (k * 6 + 3) (by omega)
            obtain ⟨v4, r4⟩ := cz (k * 6 + 4) (by omega)
            obtain ⟨v5, r5⟩ := cz (k * 6 + 5) (by omega)
            have e0 := World.ownsRow.frozenAt HRO.out (k * 6)
            have e1 := World.ownsRow.frozenAt HRO.out (k * 6 + 1)
            have e2 := World.ownsRow.frozenAt HRO.out (k * 6 + 2)
            have e3 := World.ownsRow.frozenAt HRO.out (k * 6 + 3)
            have e4 := World.ownsRow.frozenAt HRO.out (k * 6 + 4)
            have e5 := World.ownsRow.frozenAt HRO.out (k * 6 + 5)
            have HSET := Lib.hid (show ((((((wr.setCell ⟨W1.heap.size, k * 6, none⟩ (.int .i64 i)).setCell ⟨W1.heap.size, k * 6 + 1, none⟩ (.int .i64 lo)).setCell ⟨W1.heap.size, k * 6 + 2, none⟩ (.int .i64 hi)).setCell ⟨W1.heap.size, k * 6 + 3, none⟩ (.int .i64 nd)).setCell ⟨W1.heap.size, k * 6 + 4, none⟩ (.slice a3 n3 c3)).setCell ⟨W1.heap.size, k * 6 + 5, none⟩ (.int .i64 z)).ownsRow W1.heap.size 101 6 (.slice (some ⟨W1.heap.size, 0, none⟩) n n) n (flatR encPt (rowPt n (ps ++ [⟨(i, lo, hi, nd), a3, n3, c3, L3, z⟩]))) by
              rw [← hset]
              exact (World.ownsRow.stored (World.ownsRow.stored (World.ownsRow.stored (World.ownsRow.stored (World.ownsRow.stored (World.ownsRow.stored HRO.out _ _).1 _ _).1 _ _).1 _ _).1 _ _).1 _ _).1)
            have HD' := Lib.hid (HD.out.next (by rw [← hn.out]; omega) (x := ⟨(i, lo, hi, nd), a3, n3, c3, L3, z⟩) hs.out.symm HZS.out hL3.out.symm)
            have HPR := Lib.hid (show PRows W1.heap.size wr (ps ++ [⟨(i, lo, hi, nd), a3, n3, c3, L3, z⟩]) from
              PRows.snoc ((HR.out.below HBRC.out).grownB HG.out (fun x hx p hp => by have h1 := ((HR.out x hx).2 p hp).2; have h2 := B4'.out.size; omega)) ⟨harg, fun p hp => by have h1 := HA.out.2 p hp; have h2 := B4'.out.size; have h3 := HG.out.size; exact ⟨by omega, by omega⟩⟩)
            have hblf : Below W1.heap.size W1 wr := hblc.grown HG.out (by have := hblc.size; omega) (fun q hq => by injection hq with hq; have := B4'.out.size; omega)
            have hGf : W1.heap.size < wr.heap.size := by have h2 := B4'.out.size; have h3 := HG.out.size; have h4 := hbx.size; omega
            clear hset hro hro0 hfl cz hlenk hlen' harg
            go_wp2_with fail
            go_roundw
            case rel =>
              refine ⟨k + 1, ps ++ [⟨(i, lo, hi, nd), a3, n3, c3, L3, z⟩], by go_num, by omega, HD', Lib.hid ?_, Lib.hid (HPR.out.grownB (grow6R _ _ _ _ _ _ _ _ _) (fun x hx p hp => ((HPR.out x hx).2 p hp).1)), ?_, by simpa using hGf⟩
              · unfold OwnsR
                rw [rowPt_len (by rw [HD'.out.len]; omega)]
                exact HSET.out
              · exact below6R hblf (Nat.le_refl _)
            case measure => simp [intOf]; omega
    · have hkn : k = n := by omega
      have hkz : ¬ (k : Int) < (n : Int) := by omega
      have HF := Lib.hid (show OwnsR encPt 6 101 wr W1.heap.size (.slice (some ⟨W1.heap.size, 0, none⟩) n n) ps by
        have := HO.out
        rwa [show rowPt n ps = ps by unfold rowPt; rw [HD.out.len, show n - k = 0 by omega]; simp] at this)
      have HD2 := Lib.hid (show DivOk l sd sd.length ps by have := HD.out; rwa [show k = sd.length by rw [← hn.out]; exact hkn] at this)
      clear hkn
      go_wp2_with fail
      go_ret
      exact ⟨_, ps, rfl, ⟨HF.out.1, HF.out.2.imp id (fun ⟨g, cap, cur, e1, e2, e3⟩ => ⟨g, cap, cur, e1, Nat.le_trans (Nat.le_of_lt g1) e2, e3⟩)⟩, fun x hx => (HR.out x hx).1, HD2.out, below_next bw hbl⟩
end Go.Proofs.Ytihpojllalnmcaa
