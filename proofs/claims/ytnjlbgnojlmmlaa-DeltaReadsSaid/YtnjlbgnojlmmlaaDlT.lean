/-
  DELTA: a builder that the call itself has made (as templates MutF, MutG, without mutations).
-/
import Derived.Test.YtnjlbgnojlmmlaaDlA
import Derived.Test.YtnjlbgnojlmmlaaShelf
import Derived.Shelf.Strings.Builder1
namespace Go.Proofs.Ytnjlbgnojlmmlaa
open Go.RowKit Go.Shelf

theorem row_below {w w' : World} {base n k : Nat} {t : TypeId} {v : Value} {xs : List Value} (h : w.ownsRow base t k v n xs) (hb : Below w.heap.size w w') : w'.ownsRow base t k v n xs := by
  refine ⟨h.1, ?_⟩
  rcases h.2 with hn | ⟨g, cap, cur, rfl, hbb, hg, rest⟩
  · exact .inl hn
  · exact .inr ⟨g, cap, cur, rfl, hbb, (hb.block g (World.ownsRow.lt h g rfl).2).trans hg, rest⟩
set_option maxRecDepth 100000 in
theorem bld_cc_used (b : Nat) (w : World) (h0 : w.cell? ⟨b, 0, none⟩ = some (.pointer (some ⟨b, 0, none⟩))) :
    Calls Try.prog 41 #[.pointer (some ⟨b, 0, none⟩)] w fun e w' => e = .returned (.tuple #[]) ∧ w = w' := by
  obtain ⟨j, hj, _⟩ := Option.map_eq_some_iff.1 (show (Try.prog.info? 62).map (·.size) = some 2 by kernel_rfl)
  go_enter Try.func41, Try.ntmps41
  go_wp2
  rw [Lib.run_neq_ptr_same w _ Try.underlying59 hj]
  go_wp2
  go_end0
  exact ⟨rfl, rfl⟩
set_option maxRecDepth 100000 in
theorem bld_cc_new (b : Nat) (w : World) (h0 : w.cell? ⟨b, 0, none⟩ = some (.pointer none)) (hsh : w.shape? b = some (62, 2)) (hfz : w.frozen? ⟨b, 0, none⟩ = false) :
    Calls Try.prog 41 #[.pointer (some ⟨b, 0, none⟩)] w fun e w' => e = .returned (.tuple #[]) ∧ w' = w.setCell ⟨b, 0, none⟩ (.pointer (some ⟨b, 0, none⟩)) := by
  obtain ⟨j, hj, hjs⟩ := Option.map_eq_some_iff.1 (show (Try.prog.info? 62).map (·.size) = some 2 by kernel_rfl)
  have lies : liesAt Try.prog Try.prog.depth 62 (2 / Try.prog.cellsOf 62) 0 62 1 = true := by kernel_rfl
  go_enter Try.func41, Try.ntmps41
  go_wp2
  rw [Lib.run_to_unsafe w ⟨b, 0, none⟩ Try.underlying59 Try.underlying92 hj (by rw [hjs]; decide) hsh (Nat.zero_lt_succ 1)]
  simp only [Result.andThen]
  rw [Oper.upon_value]
  go_wp2
  rw [run_callFunc_extern Try.func49 (by kernel_rfl) (by kernel_rfl) (by kernel_rfl) (e := Extern.AbiNoEscape.same) (by kernel_rfl)]
  rw [Lib.run_noEscape]
  simp only [Result.andThen]
  rw [Oper.upon_value]
  go_wp2
  rw [Lib.run_from_unsafe w ⟨b, 0, none⟩ Try.underlying92 Try.underlying59 hj hsh lies]
  simp only [Result.andThen]
  rw [Oper.upon_value]
  go_wp2
  go_end0
  exact ⟨rfl, rfl⟩
/-- What a builder's writers leave alone: each block of other things than bytes and builders. -/
def KeptO (w w' : World) : Prop := ∀ (g : Nat) (cs : Array Value) (t : TypeId) (fz : Nat × Nat), w.heap[g]? = some (.cells cs t fz) → t ≠ 5 → t ≠ 62 → w'.heap[g]? = some (.cells cs t fz)
theorem KeptO.refl (w : World) : KeptO w w := fun _ _ _ _ h _ _ => h
theorem KeptO.trans {a b c : World} (h : KeptO a b) (k : KeptO b c) : KeptO a c := fun g cs t fz e h1 h2 => k g cs t fz (h g cs t fz e h1 h2) h1 h2
theorem KeptO.below {w w' : World} (hb : Below w.heap.size w w') : KeptO w w' := fun g _ _ _ e _ _ => (hb.block g (Array.getElem?_eq_some_iff.1 e).1).trans e
theorem KeptO.set {w : World} {b i : Nat} {cs0 : Array Value} {f0 : Nat × Nat} (h : w.heap[b]? = some (.cells cs0 62 f0)) (u : Value) : KeptO w (w.setCell ⟨b, i, none⟩ u) := fun g cs t fz e _ h2 => by
  rw [Below.heap_setCell w ⟨b, i, none⟩ u g (fun he => ?_)]
  · exact e
  · rw [he] at e
    have : w.heap[b]? = some (.cells cs t fz) := e
    rw [h] at this
    cases this
    exact h2 rfl
theorem row_bytes {B n : Nat} {w : World} {v : Value} {xs : List Value} (h : w.ownsRow B 5 1 v n xs) {g : Nat} {cs : Array Value} {t : TypeId} {fz : Nat × Nat} (e : w.heap[g]? = some (.cells cs t fz)) (ht : t ≠ 5) : some g ≠ v.ownBlock := by
  rcases h.2 with ⟨rfl, _⟩ | ⟨g', cap', cur', rfl, _, hg, _⟩
  · simp [Value.ownBlock]
  · intro he
    have : g = g' := by simpa [Value.ownBlock] using he
    subst this
    rw [hg] at e
    cases e
    exact ht rfl
/-- A builder of the call's own, with the bytes l. -/
def Bld (B b : Nat) (l : List UInt8) (w : World) : Prop := Lib.IsBuilder 62 5 B b (Lib.byteCells l) w
theorem bld_cc (B b : Nat) (bs : List Value) (w : World) (h : Lib.IsBuilder 62 5 B b bs w) :
    Calls Try.prog 41 #[.pointer (some ⟨b, 0, none⟩)] w fun e w' => e = .returned (.tuple #[]) ∧ (Lib.BuilderAt 62 5 B b (.pointer (some ⟨b, 0, none⟩)) bs w' ∧ Below B w w' ∧ KeptO w w') := by
  rcases h with h | h
  · refine (bld_cc_new b w h.cell0 h.shape h.frozen0).mono ?_
    rintro e w' ⟨rfl, rfl⟩
    exact ⟨rfl, h.used _, (Below.refl B w).setCell (p := ⟨b, 0, none⟩) h.1 _, by obtain ⟨_, v, hbk, _⟩ := h; exact KeptO.set hbk _⟩
  · refine (bld_cc_used b w h.cell0).mono ?_
    rintro e w' ⟨rfl, rfl⟩
    exact ⟨rfl, h, Below.refl B _, KeptO.refl _⟩
theorem strCells_bytes (l : List UInt8) (s : ByteArray) : Lib.byteCells l ++ Lib.strCells s = Lib.byteCells (l ++ s.data.toList) := by simp [Lib.byteCells, Lib.strCells]

set_option maxRecDepth 100000 in
set_option maxHeartbeats 1000000 in
theorem bld_write (B b : Nat) (l : List UInt8) (s : ByteArray) (w : World) (h : Bld B b l w) (hlen : l.length + s.size ≤ 140737488355328) (hBw : B ≤ w.heap.size) :
    Calls Try.prog 22 #[.pointer (some ⟨b, 0, none⟩), .string s] w fun e w' => e = .returned (.tuple #[.int .i64 s.size, .nilIface]) ∧ Bld B b (l ++ s.data.toList) w' ∧ Below B w w' ∧ KeptO w w' := by
  obtain ⟨i0, hi, hz0, hz1, hz2⟩ := info_parts (show (Try.prog.info? 5).map (fun i => (i.zero, i.size, i.bytes)) = some (some (.int .u8 0), 1, 1) by kernel_rfl)
  have CC := Lib.hid (bld_cc B b (Lib.byteCells l) w h)
  have hl : (Lib.byteCells l).length = l.length := Lib.byteCells_length l
  replace hl := Lib.hid hl
  clear h
  go_enter Try.func22, Try.ntmps22
  go_wp2_with (go_at_call 41; refine CC.out.mono ?_)
  rintro e w1 ⟨rfl, h1, hb1, hk1⟩
  obtain ⟨hB, v, hbk, hown, hne⟩ := h1
  have c0 : w1.cell? ⟨b, 0, none⟩ = some (.pointer (some ⟨b, 0, none⟩)) := by rw [Lib.cell_of_heap hbk]; rfl
  have c1 : w1.cell? ⟨b, 1, none⟩ = some v := by rw [Lib.cell_of_heap hbk]; rfl
  go_wp2_with (at_builtin; refine Lib.wpList_append_own_string _ rfl _ _ 60 9 rfl B 5 i0 Try.underlying60 Try.underlying9 hi hz0 hz1 hz2 _ _ _ rfl hown s rfl ?c3 ?c4 ?c5 ?_)
  case c3 => rw [hl.out]; unfold maxLen; omega
  case c4 => rw [hl.out]; omega
  case c5 => have := hb1.size; omega
  intro v' w2 hown' hgrow _
  have hlt : b < w1.heap.size := by
    rcases Nat.lt_or_ge b w1.heap.size with h' | h'
    · exact h'
    · simp [Array.getElem?_eq_none h'] at hbk
  have hb2 : w2.heap[b]? = some (.cells #[.pointer (some ⟨b, 0, none⟩), v] 62 (0, 0)) := by
    rw [hgrow.block b hlt (fun e => hne e.symm)]
    exact hbk
  have d0 : w2.cell? ⟨b, 0, none⟩ = some (.pointer (some ⟨b, 0, none⟩)) := by rw [Lib.cell_of_heap hb2]; rfl
  have d1 : w2.cell? ⟨b, 1, none⟩ = some v := by rw [Lib.cell_of_heap hb2]; rfl
  have f1 : w2.frozen? ⟨b, 1, none⟩ = false := Lib.frozen_of_heap hb2 1
  obtain ⟨ao, n', cap, rfl⟩ : ∃ ao n' cap, v' = .slice ao n' cap := by
    rcases hown'.2 with ⟨hv, _⟩ | ⟨g, cap, cur, hv, _⟩
    · exact ⟨_, _, _, hv⟩
    · exact ⟨_, _, _, hv⟩
  go_wp2
  go_ret2
  refine ⟨rfl, ?_, ?_, ?_⟩
  · unfold Bld
    rw [← strCells_bytes]
    exact .inr (Lib.BuilderAt.put hB hb2 (by simpa [Lib.strCells_length] using hown') (by decide))
  · exact (hb1.grown hgrow (by have := hb1.size; omega) (fun k hk => (hown.lt k hk).1)).setCell (p := ⟨b, 1, none⟩) hB _
  · refine (hk1.trans fun g cs t fz e h1 _ => ?_).trans (KeptO.set hb2 _)
    exact (hgrow.block g (Array.getElem?_eq_some_iff.1 e).1 (row_bytes hown e h1)).trans e
theorem bld_string (B b : Nat) (l : List UInt8) (w : World) (h : Bld B b l w) (hBw : B ≤ w.heap.size) :
    Calls Try.prog 26 #[.pointer (some ⟨b, 0, none⟩)] w fun e w' => e = .returned (.string ⟨l.toArray⟩) ∧ Below B w w' := Try.Builder_String_any B b l w h hBw
theorem bld_below {B b : Nat} {l : List UInt8} {w w' : World} (h : Bld B b l w) (hb : Below w.heap.size w w') : Bld B b l w' := by
  rcases h with ⟨h1, v, h2, h3, h4⟩ | ⟨h1, v, h2, h3, h4⟩
  · exact .inl ⟨h1, v, (hb.block b (Array.getElem?_eq_some_iff.1 h2).1).trans h2, row_below h3 hb, h4⟩
  · exact .inr ⟨h1, v, (hb.block b (Array.getElem?_eq_some_iff.1 h2).1).trans h2, row_below h3 hb, h4⟩
theorem bld_new (w : World) : Bld w.heap.size w.heap.size [] (w.alloc (.cells #[.pointer none, .slice none 0 0] 62)) :=
  .inl ⟨Nat.le_refl _, .slice none 0 0, heap_alloc_new w _, ⟨rfl, .inl ⟨rfl, rfl⟩⟩, by simp [Value.ownBlock]⟩
def bl (s : ByteArray) : List UInt8 := s.data.toList
theorem numS_size {n : Int} (h : n ≤ 9223372036854775807) : (numS n).size ≤ 9 := by
  unfold numS
  split
  · show (0 : Nat) ≤ 9; omega
  · have := numL_len9 (n := n.toNat) (by omega)
    show (numL n.toNat).toArray.size ≤ 9
    simpa using this
theorem wholeS_size (z : Int) : (wholeS z).size ≤ 9 := by
  cases h : mayZ z
  · rw [wholeS_no h]; show (0 : Nat) ≤ 9; omega
  · rw [wholeS_yes h]
    have h1 := foldZ_le h
    have h2 := foldZ_nonneg z
    have := numL_len9 (n := (foldZ z).toNat) (by omega)
    show (numL (foldZ z).toNat).toArray.size ≤ 9
    simpa using this

/-- Where a text is being built: the builder in block B, its bytes, and what else lies as in w0. -/
structure TS (w0 : World) (B : Nat) (L : List UInt8) (m : Nat) (W : World) : Prop where
  bld : Bld B B L W
  len : L.length ≤ m
  low : Below B w0 W
  kept : KeptO w0 W
  sz : B < W.heap.size
theorem TS.below {w0 W W' : World} {B m : Nat} {L : List UInt8} (h : TS w0 B L m W) (hb : Below W.heap.size W W') : TS w0 B L m W' :=
  ⟨bld_below h.bld hb, h.len, h.low.trans (hb.mono (Nat.le_of_lt h.sz)), h.kept.trans (KeptO.below hb), Nat.lt_of_lt_of_le h.sz hb.size⟩
theorem num_ts {w0 W : World} {B m : Nat} {L : List UInt8} (h : TS w0 B L m W) (x : Int) (hx : x ≤ 9223372036854775807) :
    Calls Try.prog 23 #[.int .i64 x] W fun e w' => e = .returned (.string (numS x)) ∧ TS w0 B L m w' := (num_any x W hx).mono fun _ _ ⟨he, hb⟩ => ⟨he, h.below hb⟩
theorem whole_ts {w0 W : World} {B m : Nat} {L : List UInt8} (h : TS w0 B L m W) (x : Int) :
    Calls Try.prog 25 #[.int .i64 x] W fun e w' => e = .returned (.string (wholeS x)) ∧ TS w0 B L m w' := (whole_any x W).mono fun _ _ ⟨he, hb⟩ => ⟨he, h.below hb⟩
theorem write_ts {w0 W : World} {B m : Nat} {L : List UInt8} (h : TS w0 B L m W) (s : ByteArray) (hs : s.size ≤ 9) (hm : m ≤ 100000) :
    Calls Try.prog 22 #[.pointer (some ⟨B, 0, none⟩), .string s] W fun e w' => e = .returned (.tuple #[.int .i64 s.size, .nilIface]) ∧ TS w0 B (L ++ bl s) (m + 9) w' :=
  (bld_write B B L s W h.bld (by have := h.len; omega) (Nat.le_of_lt h.sz)).mono fun _ _ ⟨he, h1, h2, h3⟩ => ⟨he, h1, by
    rw [List.length_append]
    have e : (bl s).length = s.size := Array.length_toList
    have := h.len
    omega, h.low.trans h2, h.kept.trans h3, Nat.lt_of_lt_of_le h.sz h2.size⟩
theorem string_ts {w0 W : World} {B m : Nat} {L : List UInt8} (h : TS w0 B L m W) :
    Calls Try.prog 26 #[.pointer (some ⟨B, 0, none⟩)] W fun e w' => e = .returned (.string ⟨L.toArray⟩) ∧ Below B w0 w' :=
  (bld_string B B L W h.bld (Nat.le_of_lt h.sz)).mono fun _ _ ⟨he, hb⟩ => ⟨he, h.low.trans hb⟩

theorem TS.comp {w0 W W' : World} {B m m' : Nat} {L L' : List UInt8} (h1 : TS w0 B L m W) (h2 : TS W B L' m' W') : TS w0 B L' m' W' := ⟨h2.bld, h2.len, h1.low.trans h2.low, h1.kept.trans h2.kept, h2.sz⟩
theorem TS.base {w0 W : World} {B m : Nat} {L : List UInt8} (h : TS w0 B L m W) : TS W B L m W := ⟨h.bld, h.len, Below.refl _ _, KeptO.refl _, h.sz⟩
theorem TS.cast {w0 W : World} {B m m' : Nat} {L L' : List UInt8} (h : TS w0 B L m W) (e : L = L') (hm : m ≤ m') : TS w0 B L' m' W := ⟨e ▸ h.bld, by rw [← e]; have := h.len; omega, h.low, h.kept, h.sz⟩
theorem cellsLow {W4 W : World} {B g i : Nat} {v : Value} (h : Below B W4 W) (hg : g < B) (e : W4.cell? ⟨g, i, none⟩ = some v) : W.cell? ⟨g, i, none⟩ = some v := (h.cell (p := ⟨g, i, none⟩) hg).trans e
theorem cellsKept {W4 W : World} {g i : Nat} {cs : Array Value} {t : TypeId} (h : KeptO W4 W) (e : W4.heap[g]? = some (.cells cs t (0, 0))) (h1 : t ≠ 5) (h2 : t ≠ 62) : W.cell? ⟨g, i, none⟩ = cs[i]? := cell_of_row W g i cs t (0, 0) (h g cs t (0, 0) e h1 h2)

theorem ret_str {a b : List UInt8} (h : a = b) : Ending.returned (.string ⟨a.toArray⟩) = .returned (.string ⟨b.toArray⟩) := by rw [h]
end Go.Proofs.Ytnjlbgnojlmmlaa
