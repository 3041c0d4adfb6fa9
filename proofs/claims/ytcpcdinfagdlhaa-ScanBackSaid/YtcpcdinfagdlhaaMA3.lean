/-
  MutF, MutG, Awake4, Law4A: one text.
-/
import Derived.Test.YtcpcdinfagdlhaaMA2
import Derived.Test.YtcpcdinfagdlhaaVA
import Derived.Shelf.Strings.Builder1
import Derived.IntWalk
/-
  CONTRACTS of strings.Builder as the program writes it: a builder that the call itself has made.
-/
namespace Go.Proofs.Ytcpcdinfagdlhaa
open Go.RowKit Go.Shelf

set_option maxRecDepth 100000 in
theorem bld_cc_used (b : Nat) (w : World) (h0 : w.cell? ⟨b, 0, none⟩ = some (.pointer (some ⟨b, 0, none⟩))) :
    Calls Try.prog 116 #[.pointer (some ⟨b, 0, none⟩)] w fun e w' => e = .returned (.tuple #[]) ∧ w = w' := by
  obtain ⟨j, hj, _⟩ := Option.map_eq_some_iff.1 (show (Try.prog.info? 139).map (·.size) = some 2 by kernel_rfl)
  go_enter Try.func116, Try.ntmps116
  go_wp2
  rw [Lib.run_neq_ptr_same w _ Try.underlying136 hj]
  go_wp2
  go_end0
  exact ⟨rfl, rfl⟩
set_option maxRecDepth 100000 in
theorem bld_cc_new (b : Nat) (w : World) (h0 : w.cell? ⟨b, 0, none⟩ = some (.pointer none)) (hsh : w.shape? b = some (139, 2)) (hfz : w.frozen? ⟨b, 0, none⟩ = false) :
    Calls Try.prog 116 #[.pointer (some ⟨b, 0, none⟩)] w fun e w' => e = .returned (.tuple #[]) ∧ w' = w.setCell ⟨b, 0, none⟩ (.pointer (some ⟨b, 0, none⟩)) := by
  obtain ⟨j, hj, hjs⟩ := Option.map_eq_some_iff.1 (show (Try.prog.info? 139).map (·.size) = some 2 by kernel_rfl)
  have lies : liesAt Try.prog Try.prog.depth 139 (2 / Try.prog.cellsOf 139) 0 139 1 = true := by kernel_rfl
  go_enter Try.func116, Try.ntmps116
  go_wp2
  rw [Lib.run_to_unsafe w ⟨b, 0, none⟩ Try.underlying136 Try.underlying195 hj (by rw [hjs]; decide) hsh (Nat.zero_lt_succ 1)]
  simp only [Result.andThen]
  rw [Oper.upon_value]
  go_wp2
  rw [run_callFunc_extern Try.func132 (by kernel_rfl) (by kernel_rfl) (by kernel_rfl) (e := Extern.AbiNoEscape.same) (by kernel_rfl)]
  rw [Lib.run_noEscape]
  simp only [Result.andThen]
  rw [Oper.upon_value]
  go_wp2
  rw [Lib.run_from_unsafe w ⟨b, 0, none⟩ Try.underlying195 Try.underlying136 hj hsh lies]
  simp only [Result.andThen]
  rw [Oper.upon_value]
  go_wp2
  go_end0
  exact ⟨rfl, rfl⟩
/-- What a builder's writers leave alone: each block of other things than bytes and builders. -/
def KeptO (w w' : World) : Prop := ∀ (g : Nat) (cs : Array Value) (t : TypeId) (fz : Nat × Nat), w.heap[g]? = some (.cells cs t fz) → t ≠ 5 → t ≠ 139 → w'.heap[g]? = some (.cells cs t fz)
theorem KeptO.refl (w : World) : KeptO w w := fun _ _ _ _ h _ _ => h
theorem KeptO.trans {a b c : World} (h : KeptO a b) (k : KeptO b c) : KeptO a c := fun g cs t fz e h1 h2 => k g cs t fz (h g cs t fz e h1 h2) h1 h2
theorem KeptO.below {w w' : World} (hb : Below w.heap.size w w') : KeptO w w' := fun g _ _ _ e _ _ => (hb.block g (Array.getElem?_eq_some_iff.1 e).1).trans e
theorem KeptO.set {w : World} {b i : Nat} {cs0 : Array Value} {f0 : Nat × Nat} (h : w.heap[b]? = some (.cells cs0 139 f0)) (u : Value) : KeptO w (w.setCell ⟨b, i, none⟩ u) := fun g cs t fz e _ h2 => by
  rw [Below.heap_setCell w ⟨b, i, none⟩ u g (fun he => ?_)]
  · exact e
  · rw [he] at e
    have : w.heap[b]? = some (.cells cs t fz) := e
    rw [h] at this
    cases this
    exact h2 rfl
theorem row_bytes {B n : Nat} {w : World} {v : Value} {xs : List Value} (h : w.ownsRow B 5 1 v n xs) {g : Nat} {cs : Array Value} {t : TypeId} {fz : Nat × Nat} (e : w.heap[g]? = some (.cells cs t fz)) (ht : t ≠ 5) : some g ≠ v.ownBlock := by
  rcases h.2 with ⟨rfl, _⟩ | ⟨g', cap', cur', rfl, _, hg, _⟩
  · simp [Value.ownBlock]
  · intro he
    have : g = g' := by simpa [Value.ownBlock] using he
    subst this
    rw [hg] at e
    cases e
    exact ht rfl
/-- A builder of the call's own, with the bytes l. -/
def Bld (B b : Nat) (l : List UInt8) (w : World) : Prop := Lib.IsBuilder 139 5 B b (Lib.byteCells l) w
theorem bld_cc (B b : Nat) (bs : List Value) (w : World) (h : Lib.IsBuilder 139 5 B b bs w) :
    Calls Try.prog 116 #[.pointer (some ⟨b, 0, none⟩)] w fun e w' => e = .returned (.tuple #[]) ∧ (Lib.BuilderAt 139 5 B b (.pointer (some ⟨b, 0, none⟩)) bs w' ∧ Below B w w' ∧ KeptO w w') := by
  rcases h with h | h
  · refine (bld_cc_new b w h.cell0 h.shape h.frozen0).mono ?_
    rintro e w' ⟨rfl, rfl⟩
    exact ⟨rfl, h.used _, (Below.refl B w).setCell (p := ⟨b, 0, none⟩) h.1 _, by obtain ⟨_, v, hbk, _⟩ := h; exact KeptO.set hbk _⟩
  · refine (bld_cc_used b w h.cell0).mono ?_
    rintro e w' ⟨rfl, rfl⟩
    exact ⟨rfl, h, Below.refl B _, KeptO.refl _⟩
theorem strCells_bytes (l : List UInt8) (s : ByteArray) : Lib.byteCells l ++ Lib.strCells s = Lib.byteCells (l ++ s.data.toList) := by simp [Lib.byteCells, Lib.strCells]

set_option maxRecDepth 100000 in
set_option maxHeartbeats 1000000 in
theorem bld_write (B b : Nat) (l : List UInt8) (s : ByteArray) (w : World) (h : Bld B b l w) (hlen : l.length + s.size ≤ 140737488355328) (hBw : B ≤ w.heap.size) :
    Calls Try.prog 79 #[.pointer (some ⟨b, 0, none⟩), .string s] w fun e w' => e = .returned (.tuple #[.int .i64 s.size, .nilIface]) ∧ Bld B b (l ++ s.data.toList) w' ∧ Below B w w' ∧ KeptO w w' := by
  obtain ⟨i0, hi, hz0, hz1, hz2⟩ := info_parts (show (Try.prog.info? 5).map (fun i => (i.zero, i.size, i.bytes)) = some (some (.int .u8 0), 1, 1) by kernel_rfl)
  have CC := Lib.hid (bld_cc B b (Lib.byteCells l) w h)
  have hl : (Lib.byteCells l).length = l.length := Lib.byteCells_length l
  replace hl := Lib.hid hl
  clear h
  go_enter Try.func79, Try.ntmps79
  go_wp2_with (go_at_call 116; refine CC.out.mono ?_)
  rintro e w1 ⟨rfl, h1, hb1, hk1⟩
  obtain ⟨hB, v, hbk, hown, hne⟩ := h1
  have c0 : w1.cell? ⟨b, 0, none⟩ = some (.pointer (some ⟨b, 0, none⟩)) := by rw [Lib.cell_of_heap hbk]; rfl
  have c1 : w1.cell? ⟨b, 1, none⟩ = some v := by rw [Lib.cell_of_heap hbk]; rfl
  go_wp2_with (at_builtin; refine Lib.wpList_append_own_string _ rfl _ _ 137 9 rfl B 5 i0 Try.underlying137 Try.underlying9 hi hz0 hz1 hz2 _ _ _ rfl hown s rfl ?c3 ?c4 ?c5 ?_)
  case c3 => rw [hl.out]; unfold maxLen; omega
  case c4 => rw [hl.out]; omega
  case c5 => have := hb1.size; omega
  intro v' w2 hown' hgrow _
  have hlt : b < w1.heap.size := by
    rcases Nat.lt_or_ge b w1.heap.size with h' | h'
    · exact h'
    · simp [Array.getElem?_eq_none h'] at hbk
  have hb2 : w2.heap[b]? = some (.cells #[.pointer (some ⟨b, 0, none⟩), v] 139 (0, 0)) := by
    rw [hgrow.block b hlt (fun e => hne e.symm)]
    exact hbk
  have d0 : w2.cell? ⟨b, 0, none⟩ = some (.pointer (some ⟨b, 0, none⟩)) := by rw [Lib.cell_of_heap hb2]; rfl
  have d1 : w2.cell? ⟨b, 1, none⟩ = some v := by rw [Lib.cell_of_heap hb2]; rfl
  have f1 : w2.frozen? ⟨b, 1, none⟩ = false := Lib.frozen_of_heap hb2 1
  obtain ⟨ao, n', cap, rfl⟩ : ∃ ao n' cap, v' = .slice ao n' cap := by
    rcases hown'.2 with ⟨hv, _⟩ | ⟨g, cap, cur, hv, _⟩
    · exact ⟨_, _, _, hv⟩
    · exact ⟨_, _, _, hv⟩
  go_wp2
  go_ret2
  refine ⟨rfl, ?_, ?_, ?_⟩
  · unfold Bld
    rw [← strCells_bytes]
    exact .inr (Lib.BuilderAt.put hB hb2 (by simpa [Lib.strCells_length] using hown') (by decide))
  · exact (hb1.grown hgrow (by have := hb1.size; omega) (fun k hk => (hown.lt k hk).1)).setCell (p := ⟨b, 1, none⟩) hB _
  · refine (hk1.trans fun g cs t fz e h1 _ => ?_).trans (KeptO.set hb2 _)
    exact (hgrow.block g (Array.getElem?_eq_some_iff.1 e).1 (row_bytes hown e h1)).trans e
theorem bld_string (B b : Nat) (l : List UInt8) (w : World) (h : Bld B b l w) (hBw : B ≤ w.heap.size) :
    Calls Try.prog 81 #[.pointer (some ⟨b, 0, none⟩)] w fun e w' => e = .returned (.string ⟨l.toArray⟩) ∧ Below B w w' := Try.Builder_String_any B b l w h hBw
theorem bld_below {B b : Nat} {l : List UInt8} {w w' : World} (h : Bld B b l w) (hb : Below w.heap.size w w') : Bld B b l w' := by
  rcases h with ⟨h1, v, h2, h3, h4⟩ | ⟨h1, v, h2, h3, h4⟩
  · exact .inl ⟨h1, v, (hb.block b (Array.getElem?_eq_some_iff.1 h2).1).trans h2, row_below h3 hb, h4⟩
  · exact .inr ⟨h1, v, (hb.block b (Array.getElem?_eq_some_iff.1 h2).1).trans h2, row_below h3 hb, h4⟩
theorem bld_new (w : World) : Bld w.heap.size w.heap.size [] (w.alloc (.cells #[.pointer none, .slice none 0 0] 139)) :=
  .inl ⟨Nat.le_refl _, .slice none 0 0, heap_alloc_new w _, ⟨rfl, .inl ⟨rfl, rfl⟩⟩, by simp [Value.ownBlock]⟩
end Go.Proofs.Ytcpcdinfagdlhaa


/-
  CONTRACT of Text (of a mutation).
-/
namespace Go.Proofs.Ytcpcdinfagdlhaa
open Go.RowKit Go.Shelf

def bl (s : ByteArray) : List UInt8 := s.data.toList
def numsT (ns : List Int) : List UInt8 := ns.flatMap fun n => bl (numS n)
def pairsT (l : List Sp) : List UInt8 := l.flatMap fun p => bl (numS p.1) ++ bl (wholeS p.2)
def tailT (k lo hi old : Int) : List UInt8 := if k = 2 then bl (numS lo) ++ bl (numS hi) else if k = 4 then bl (wholeS old) else []
def bodyT (c s k : Int) (l : List Sp) (lo hi old : Int) : List UInt8 := numsT [c, s, k, (l.length : Int)] ++ pairsT l ++ tailT k lo hi old
def textT (c s k : Int) (l : List Sp) (lo hi old : Int) : List UInt8 := if chkM c s k l lo hi old = true then bodyT c s k l lo hi old else []
theorem numsT_snoc (l : List Int) (x : Int) : numsT (l ++ [x]) = numsT l ++ bl (numS x) := by simp [numsT]
theorem pairsT_snoc (l : List Sp) (p : Sp) : pairsT (l ++ [p]) = pairsT l ++ bl (numS p.1) ++ bl (wholeS p.2) := by simp [pairsT]
theorem numS_size {n : Int} (h : n ≤ 9223372036854775807) : (numS n).size ≤ 9 := by
  unfold numS
  split
  · show (0 : Nat) ≤ 9; omega
  · have := numL_len9 (n := n.toNat) (by omega)
    show (numL n.toNat).toArray.size ≤ 9
    simpa using this
theorem wholeS_size (z : Int) : (wholeS z).size ≤ 9 := by
  cases h : mayZ z
  · rw [wholeS_no h]; show (0 : Nat) ≤ 9; omega
  · rw [wholeS_yes h]
    have h1 := foldZ_le h
    have h2 := foldZ_nonneg z
    have := numL_len9 (n := (foldZ z).toNat) (by omega)
    show (numL (foldZ z).toNat).toArray.size ≤ 9
    simpa using this

/-- Where a text is being built: the builder in block B, its bytes, and what else lies as in w0. -/
structure TS (w0 : World) (B : Nat) (L : List UInt8) (m : Nat) (W : World) : Prop where
  bld : Bld B B L W
  len : L.length ≤ m
  low : Below B w0 W
  kept : KeptO w0 W
  sz : B < W.heap.size
theorem TS.below {w0 W W' : World} {B m : Nat} {L : List UInt8} (h : TS w0 B L m W) (hb : Below W.heap.size W W') : TS w0 B L m W' :=
  ⟨bld_below h.bld hb, h.len, h.low.trans (hb.mono (Nat.le_of_lt h.sz)), h.kept.trans (KeptO.below hb), Nat.lt_of_lt_of_le h.sz hb.size⟩
theorem num_ts {w0 W : World} {B m : Nat} {L : List UInt8} (h : TS w0 B L m W) (x : Int) (hx : x ≤ 9223372036854775807) :
    Calls Try.prog 80 #[.int .i64 x] W fun e w' => e = .returned (.string (numS x)) ∧ TS w0 B L m w' := (num_any x W hx).mono fun _ _ ⟨he, hb⟩ => ⟨he, h.below hb⟩
theorem whole_ts {w0 W : World} {B m : Nat} {L : List UInt8} (h : TS w0 B L m W) (x : Int) :
    Calls Try.prog 104 #[.int .i64 x] W fun e w' => e = .returned (.string (wholeS x)) ∧ TS w0 B L m w' := (whole_any x W).mono fun _ _ ⟨he, hb⟩ => ⟨he, h.below hb⟩
theorem write_ts {w0 W : World} {B m : Nat} {L : List UInt8} (h : TS w0 B L m W) (s : ByteArray) (hs : s.size ≤ 9) (hm : m ≤ 100000) :
    Calls Try.prog 79 #[.pointer (some ⟨B, 0, none⟩), .string s] W fun e w' => e = .returned (.tuple #[.int .i64 s.size, .nilIface]) ∧ TS w0 B (L ++ bl s) (m + 9) w' :=
  (bld_write B B L s W h.bld (by have := h.len; omega) (Nat.le_of_lt h.sz)).mono fun _ _ ⟨he, h1, h2, h3⟩ => ⟨he, h1, by
    rw [List.length_append]
    have e : (bl s).length = s.size := Array.length_toList
    have := h.len
    omega, h.low.trans h2, h.kept.trans h3, Nat.lt_of_lt_of_le h.sz h2.size⟩
theorem string_ts {w0 W : World} {B m : Nat} {L : List UInt8} (h : TS w0 B L m W) :
    Calls Try.prog 81 #[.pointer (some ⟨B, 0, none⟩)] W fun e w' => e = .returned (.string ⟨L.toArray⟩) ∧ Below B w0 w' :=
  (bld_string B B L W h.bld (Nat.le_of_lt h.sz)).mono fun _ _ ⟨he, hb⟩ => ⟨he, h.low.trans hb⟩

theorem TS.comp {w0 W W' : World} {B m m' : Nat} {L L' : List UInt8} (h1 : TS w0 B L m W) (h2 : TS W B L' m' W') : TS w0 B L' m' W' := ⟨h2.bld, h2.len, h1.low.trans h2.low, h1.kept.trans h2.kept, h2.sz⟩
theorem TS.base {w0 W : World} {B m : Nat} {L : List UInt8} (h : TS w0 B L m W) : TS W B L m W := ⟨h.bld, h.len, Below.refl _ _, KeptO.refl _, h.sz⟩
theorem TS.cast {w0 W : World} {B m m' : Nat} {L L' : List UInt8} (h : TS w0 B L m W) (e : L = L') (hm : m ≤ m') : TS w0 B L' m' W := ⟨e ▸ h.bld, by rw [← e]; have := h.len; omega, h.low, h.kept, h.sz⟩
theorem cellsLow {W4 W : World} {B g i : Nat} {v : Value} (h : Below B W4 W) (hg : g < B) (e : W4.cell? ⟨g, i, none⟩ = some v) : W.cell? ⟨g, i, none⟩ = some v := (h.cell (p := ⟨g, i, none⟩) hg).trans e
theorem cellsKept {W4 W : World} {g i : Nat} {cs : Array Value} {t : TypeId} (h : KeptO W4 W) (e : W4.heap[g]? = some (.cells cs t (0, 0))) (h1 : t ≠ 5) (h2 : t ≠ 139) : W.cell? ⟨g, i, none⟩ = cs[i]? := cell_of_row W g i cs t (0, 0) (h g cs t (0, 0) e h1 h2)

theorem ret_str {a b : List UInt8} (h : a = b) : Ending.returned (.string ⟨a.toArray⟩) = .returned (.string ⟨b.toArray⟩) := by rw [h]
end Go.Proofs.Ytcpcdinfagdlhaa


/-
  CONTRACT of awake (of the statements on mutations).
-/
namespace Go.Proofs.Ytcpcdinfagdlhaa
open Go.RowKit Go.Shelf

theorem touch_ex : touchL 1 1 5 [(9, 3), (4, 3)] 0 0 0 = [(4, 5), (9, 10)] := by
  have h1 : chkM 1 1 5 [(9, 3), (4, 3)] 0 0 0 = true := by decide +kernel
  unfold touchL
  rw [if_pos h1, if_neg (by decide)]
  refine (setOf_eq (by decide) fun k _ _ => ?_).symm
  rw [Bool.eq_iff_iff]
  simp only [List.map, sing, hasB_cons, hasB_nil, Bool.or_eq_true, inB_iff]
  simp
  omega
theorem text_ex : textT 1 2 1 [(5, 7)] 0 0 0 = [1, 2, 1, 1, 5, 14] := by decide +kernel

end Go.Proofs.Ytcpcdinfagdlhaa


/-
  MUTATIONS AND STAMPS by value that came in; THE WALK of MutOrder.
-/
namespace Go.Proofs.Ytcpcdinfagdlhaa
open Go.RowKit Go.Shelf Go.ChangeShapes Go.WideShapes Go.Deep

theorem argP_of {H : Type} {enc : TypeId × Value → H} {w : World} {base : Nat} {spare : Nat → Bool} {held : Bool} {t e : TypeId} {f0 f1 : Field} {fuel : Nat} {v : Value} {x : DataW H × List MemPlace}
    (ht : Try.prog.underlying t = some (.slice e)) (he : Try.prog.underlying e = some (.struct #[f0, f1])) (ce : Try.prog.cellsOf e = 2) (o0 : f0.offset = 0) (o1 : f1.offset = 1) (t0 : f0.type = 3) (t1 : f1.type = 3) (ci : Try.prog.cellsOf 3 = 1)
    (hf : DataW.trod enc Try.prog w base spare held fuel t [v] = some x) : ∃ a n c ps, v = .slice a n c ∧ Arg w a n c ps := by
  rcases open_slice_pairs ht he ce o0 o1 (by rw [t0]; exact ci) (by rw [t1]; exact ci) hf with ⟨hcs, _⟩ | ⟨x, len, c, m, n, V0, V1, D0, D1, P0, P1, hcs, _, hl, hm, hmm, _, hx⟩
  · exact ⟨none, 0, 0, [], by simpa using hcs, rfl, by simp, Nat.le_refl _, Nat.zero_le _, PIn.nil _ _ _⟩
  · have hlm : len ≤ m := by rw [hmm]; split <;> omega
    have each : ∀ i, i < len → ∃ q : Int × Int, w.cell? (x.add (i * 2)) = some (.int .i64 q.1) ∧ w.cell? (x.add (i * 2 + 1)) = some (.int .i64 q.2) := by
      intro i hi'
      obtain ⟨c1, c2, r1, r2⟩ := hx i (by omega)
      rw [t0] at r1
      rw [t1] at r2
      obtain ⟨y0, e0, _, _⟩ := DataW.trod_int Try.underlying3 r1
      obtain ⟨y1, e1, _, _⟩ := DataW.trod_int Try.underlying3 r2
      simp at e0 e1
      rw [e0] at c1
      rw [e1] at c2
      exact ⟨(y0, y1), c1, c2⟩
    let q : Nat → Int × Int := fun i => if h : i < len then Classical.choose (each i h) else (0, 0)
    have hq : ∀ i (h : i < len), w.cell? (x.add (i * 2)) = some (.int .i64 (q i).1) ∧ w.cell? (x.add (i * 2 + 1)) = some (.int .i64 (q i).2) := by
      intro i h
      have := Classical.choose_spec (each i h)
      simp only [q, dif_pos h]
      exact this
    have hlen : ((List.range len).map q).length = len := by simp
    refine ⟨some x, len, c, (List.range len).map q, by simpa using hcs, hlen.symm, by rw [hlen]; unfold maxLen at hm; omega, by rw [hlen]; exact hl, hm, fun k hk => ?_⟩
    rw [hlen] at hk
    obtain ⟨b, off, spot⟩ := x
    obtain ⟨c1, c2⟩ := hq k hk
    have hspot : spot = none := by simpa [Addr.add] using World.cell?_spot (hq 0 (by omega)).1
    subst hspot
    have h2 : ((List.range len).map q).getD k (0, 0) = q k := by simp [List.getD, hk]
    rw [h2]
    rw [addr_add] at c1 c2
    exact ⟨b, off, rfl, World.block_lt_of_cell? w _ c1, c1, c2⟩
/-! How stamps stand. -/
theorem cmp_cases (t1 c1 s1 t2 c2 s2 : Int) : (cmpS t1 c1 s1 t2 c2 s2 = 0 ∧ t1 = t2 ∧ c1 = c2 ∧ s1 = s2) ∨ (cmpS t1 c1 s1 t2 c2 s2 = -1 ∧ (t1 < t2 ∨ t1 = t2 ∧ (c1 < c2 ∨ c1 = c2 ∧ s1 < s2))) ∨ (cmpS t1 c1 s1 t2 c2 s2 = 1 ∧ (t2 < t1 ∨ t1 = t2 ∧ (c2 < c1 ∨ c1 = c2 ∧ s2 < s1))) := by
  unfold cmpS befB
  by_cases h1 : t1 = t2
  · by_cases h2 : c1 = c2
    · by_cases h3 : s1 = s2
      · left; simp [h1, h2, h3]
      · by_cases h4 : s1 < s2
        · right; left; simp [h1, h2, h3, h4]
        · right; right; simp [h1, h2, h3, h4]; omega
    · by_cases h4 : c1 < c2
      · right; left; simp [h1, h2, h4]
      · right; right; simp [h1, h2, h4]; omega
  · by_cases h4 : t1 < t2
    · right; left; simp [h1, h4]
    · right; right; simp [h1, h4]; omega
theorem cmp_neg (t1 c1 s1 t2 c2 s2 : Int) : cmpS t1 c1 s1 t2 c2 s2 = -cmpS t2 c2 s2 t1 c1 s1 := by
  rcases cmp_cases t1 c1 s1 t2 c2 s2 with ⟨e, h⟩ | ⟨e, h⟩ | ⟨e, h⟩ <;> rcases cmp_cases t2 c2 s2 t1 c1 s1 with ⟨f, g⟩ | ⟨f, g⟩ | ⟨f, g⟩ <;> rw [e, f] <;> omega
theorem cmp_trans {t1 c1 s1 t2 c2 s2 t3 c3 s3 : Int} (h1 : cmpS t1 c1 s1 t2 c2 s2 ≤ 0) (h2 : cmpS t2 c2 s2 t3 c3 s3 ≤ 0) : cmpS t1 c1 s1 t3 c3 s3 ≤ 0 := by
  rcases cmp_cases t1 c1 s1 t2 c2 s2 with ⟨e, h⟩ | ⟨e, h⟩ | ⟨e, h⟩ <;> rcases cmp_cases t2 c2 s2 t3 c3 s3 with ⟨f, g⟩ | ⟨f, g⟩ | ⟨f, g⟩ <;> rcases cmp_cases t1 c1 s1 t3 c3 s3 with ⟨j, i⟩ | ⟨j, i⟩ | ⟨j, i⟩ <;> omega
theorem cmp_bd (t1 c1 s1 t2 c2 s2 : Int) : -1 ≤ cmpS t1 c1 s1 t2 c2 s2 ∧ cmpS t1 c1 s1 t2 c2 s2 ≤ 1 := by
  rcases cmp_cases t1 c1 s1 t2 c2 s2 with ⟨e, h⟩ | ⟨e, h⟩ | ⟨e, h⟩ <;> omega

/-- Three boxes of three cells, behind calls. -/
theorem st9 {w W : World} {ta tb tc : TypeId} {a0 a1 a2 b0 b1 b2 c0 c1 c2 : Value} (h : Below (((w.alloc (.cells #[a0, a1, a2] ta)).alloc (.cells #[b0, b1, b2] tb)).alloc (.cells #[c0, c1, c2] tc)).heap.size (((w.alloc (.cells #[a0, a1, a2] ta)).alloc (.cells #[b0, b1, b2] tb)).alloc (.cells #[c0, c1, c2] tc)) W) :
    W.cell? ⟨w.heap.size, 0, none⟩ = some a0 ∧ W.cell? ⟨w.heap.size, 1, none⟩ = some a1 ∧ W.cell? ⟨w.heap.size, 2, none⟩ = some a2 ∧ W.cell? ⟨w.heap.size + 1, 0, none⟩ = some b0 ∧ W.cell? ⟨w.heap.size + 1, 1, none⟩ = some b1 ∧ W.cell? ⟨w.heap.size + 1, 2, none⟩ = some b2 ∧
    W.cell? ⟨w.heap.size + 2, 0, none⟩ = some c0 ∧ W.cell? ⟨w.heap.size + 2, 1, none⟩ = some c1 ∧ W.cell? ⟨w.heap.size + 2, 2, none⟩ = some c2 := by
  have A := fun i => h.cell (p := ⟨w.heap.size, i, none⟩) (by simp; omega)
  have B := fun i => h.cell (p := ⟨w.heap.size + 1, i, none⟩) (by simp)
  have C := fun i => h.cell (p := ⟨w.heap.size + 2, i, none⟩) (by simp)
  rw [A, A, A, B, B, B, C, C, C]
  have z1 : (w.alloc (.cells #[a0, a1, a2] ta)).heap.size = w.heap.size + 1 := by simp
  have z2 : ((w.alloc (.cells #[a0, a1, a2] ta)).alloc (.cells #[b0, b1, b2] tb)).heap.size = w.heap.size + 2 := by simp
  have n1 : ∀ i, (((w.alloc (.cells #[a0, a1, a2] ta)).alloc (.cells #[b0, b1, b2] tb)).alloc (.cells #[c0, c1, c2] tc)).cell? ⟨w.heap.size, i, none⟩ = (w.alloc (.cells #[a0, a1, a2] ta)).cell? ⟨w.heap.size, i, none⟩ := fun i => by
    rw [World.cell?_alloc_lt _ _ ⟨w.heap.size, i, none⟩ (by rw [z2]; show w.heap.size < _; omega), World.cell?_alloc_lt _ _ ⟨w.heap.size, i, none⟩ (by rw [z1]; show w.heap.size < _; omega)]
  have n2 : ∀ i, (((w.alloc (.cells #[a0, a1, a2] ta)).alloc (.cells #[b0, b1, b2] tb)).alloc (.cells #[c0, c1, c2] tc)).cell? ⟨w.heap.size + 1, i, none⟩ = #[b0, b1, b2][i]? := fun i => by
    rw [World.cell?_alloc_lt _ _ ⟨w.heap.size + 1, i, none⟩ (by rw [z2]; show w.heap.size + 1 < _; omega), ← z1]
    exact cell_of_row _ _ _ _ _ _ (heap_alloc_new _ _)
  have n3 : ∀ i, (((w.alloc (.cells #[a0, a1, a2] ta)).alloc (.cells #[b0, b1, b2] tb)).alloc (.cells #[c0, c1, c2] tc)).cell? ⟨w.heap.size + 2, i, none⟩ = #[c0, c1, c2][i]? := fun i => by
    rw [← z2]
    exact cell_of_row _ _ _ _ _ _ (heap_alloc_new _ _)
  have n0 : ∀ i, (w.alloc (.cells #[a0, a1, a2] ta)).cell? ⟨w.heap.size, i, none⟩ = #[a0, a1, a2][i]? := fun i => cell_of_row _ _ _ _ _ _ (heap_alloc_new _ _)
  rw [n1, n1, n1, n2, n2, n2, n3, n3, n3, n0, n0, n0]
  exact ⟨rfl, rfl, rfl, rfl, rfl, rfl, rfl, rfl, rfl⟩
end Go.Proofs.Ytcpcdinfagdlhaa
