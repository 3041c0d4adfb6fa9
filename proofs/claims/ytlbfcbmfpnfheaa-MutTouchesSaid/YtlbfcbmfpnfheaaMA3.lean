/-
  MutF, MutG, Awake4, Law4A: one text.
-/
import Derived.Test.YtlbfcbmfpnfheaaMA2
import Derived.Test.YtlbfcbmfpnfheaaVA
import Derived.Shelf.Strings.Builder1
import Derived.IntWalk
/-
  CONTRACTS of strings.Builder as the program writes it: a builder that the call itself has made.
-/
namespace Go.Proofs.Ytlbfcbmfpnfheaa
open Go.RowKit Go.Shelf

set_option maxRecDepth 100000 in
theorem bld_cc_used (b : Nat) (w : World) (h0 : w.cell? ⟨b, 0, none⟩ = some (.pointer (some ⟨b, 0, none⟩))) :
    Calls Try.prog 98 #[.pointer (some ⟨b, 0, none⟩)] w fun e w' => e = .returned (.tuple #[]) ∧ w = w' := by
  obtain ⟨j, hj, _⟩ := Option.map_eq_some_iff.1 (show (Try.prog.info? 108).map (·.size) = some 2 by kernel_rfl)
  go_enter Try.func98, Try.ntmps98
  go_wp2
  rw [Lib.run_neq_ptr_same w _ Try.underlying105 hj]
  go_wp2
  go_end0
  exact ⟨rfl, rfl⟩
set_option maxRecDepth 100000 in
theorem bld_cc_new (b : Nat) (w : World) (h0 : w.cell? ⟨b, 0, none⟩ = some (.pointer none)) (hsh : w.shape? b = some (108, 2)) (hfz : w.frozen? ⟨b, 0, none⟩ = false) :
    Calls Try.prog 98 #[.pointer (some ⟨b, 0, none⟩)] w fun e w' => e = .returned (.tuple #[]) ∧ w' = w.setCell ⟨b, 0, none⟩ (.pointer (some ⟨b, 0, none⟩)) := by
  obtain ⟨j, hj, hjs⟩ := Option.map_eq_some_iff.1 (show (Try.prog.info? 108).map (·.size) = some 2 by kernel_rfl)
  have lies : liesAt Try.prog Try.prog.depth 108 (2 / Try.prog.cellsOf 108) 0 108 1 = true := by kernel_rfl
  go_enter Try.func98, Try.ntmps98
  go_wp2
  rw [Lib.run_to_unsafe w ⟨b, 0, none⟩ Try.underlying105 Try.underlying158 hj (by rw [hjs]; decide) hsh (Nat.zero_lt_succ 1)]
  simp only [Result.andThen]
  rw [Oper.upon_value]
  go_wp2
  rw [run_callFunc_extern Try.func122 (by kernel_rfl) (by kernel_rfl) (by kernel_rfl) (e := Extern.AbiNoEscape.same) (by kernel_rfl)]
  rw [Lib.run_noEscape]
  simp only [Result.andThen]
  rw [Oper.upon_value]
  go_wp2
  rw [Lib.run_from_unsafe w ⟨b, 0, none⟩ Try.underlying158 Try.underlying105 hj hsh lies]
  simp only [Result.andThen]
  rw [Oper.upon_value]
  go_wp2
  go_end0
  exact ⟨rfl, rfl⟩
/-- What a builder's writers leave alone: each block of other things than bytes and builders. -/
def KeptO (w w' : World) : Prop := ∀ (g : Nat) (cs : Array Value) (t : TypeId) (fz : Nat × Nat), w.heap[g]? = some (.cells cs t fz) → t ≠ 5 → t ≠ 108 → w'.heap[g]? = some (.cells cs t fz)
theorem KeptO.refl (w : World) : KeptO w w := fun _ _ _ _ h _ _ => h
theorem KeptO.trans {a b c : World} (h : KeptO a b) (k : KeptO b c) : KeptO a c := fun g cs t fz e h1 h2 => k g cs t fz (h g cs t fz e h1 h2) h1 h2
theorem KeptO.below {w w' : World} (hb : Below w.heap.size w w') : KeptO w w' := fun g _ _ _ e _ _ => (hb.block g (Array.getElem?_eq_some_iff.1 e).1).trans e
theorem KeptO.set {w : World} {b i : Nat} {cs0 : Array Value} {f0 : Nat × Nat} (h : w.heap[b]? = some (.cells cs0 108 f0)) (u : Value) : KeptO w (w.setCell ⟨b, i, none⟩ u) := fun g cs t fz e _ h2 => by
  rw [Below.heap_setCell w ⟨b, i, none⟩ u g (fun he => ?_)]
  · exact e
  · rw [he] at e
    have : w.heap[b]? = some (.cells cs t fz) := e
    rw [h] at this
    cases this
    exact h2 rfl
theorem row_bytes {B n : Nat} {w : World} {v : Value} {xs : List Value} (h : w.ownsRow B 5 1 v n xs) {g : Nat} {cs : Array Value} {t : TypeId} {fz : Nat × Nat} (e : w.heap[g]? = some (.cells cs t fz)) (ht : t ≠ 5) : some g ≠ v.ownBlock := by
  rcases h.2 with ⟨rfl, _⟩ | ⟨g', cap', cur', rfl, _, hg, _⟩
  · simp [Value.ownBlock]
  · intro he
    have : g = g' := by simpa [Value.ownBlock] using he
    subst this
    rw [hg] at e
    cases e
    exact ht rfl
/-- A builder of the call's own, with the bytes l. -/
def Bld (B b : Nat) (l : List UInt8) (w : World) : Prop := Lib.IsBuilder 108 5 B b (Lib.byteCells l) w
theorem bld_cc (B b : Nat) (bs : List Value) (w : World) (h : Lib.IsBuilder 108 5 B b bs w) :
    Calls Try.prog 98 #[.pointer (some ⟨b, 0, none⟩)] w fun e w' => e = .returned (.tuple #[]) ∧ (Lib.BuilderAt 108 5 B b (.pointer (some ⟨b, 0, none⟩)) bs w' ∧ Below B w w' ∧ KeptO w w') := by
  rcases h with h | h
  · refine (bld_cc_new b w h.cell0 h.shape h.frozen0).mono ?_
    rintro e w' ⟨rfl, rfl⟩
    exact ⟨rfl, h.used _, (Below.refl B w).setCell (p := ⟨b, 0, none⟩) h.1 _, by obtain ⟨_, v, hbk, _⟩ := h; exact KeptO.set hbk _⟩
  · refine (bld_cc_used b w h.cell0).mono ?_
    rintro e w' ⟨rfl, rfl⟩
    exact ⟨rfl, h, Below.refl B _, KeptO.refl _⟩
theorem strCells_bytes (l : List UInt8) (s : ByteArray) : Lib.byteCells l ++ Lib.strCells s = Lib.byteCells (l ++ s.data.toList) := by simp [Lib.byteCells, Lib.strCells]

set_option maxRecDepth 100000 in
set_option maxHeartbeats 1000000 in
theorem bld_write (B b : Nat) (l : List UInt8) (s : ByteArray) (w : World) (h : Bld B b l w) (hlen : l.length + s.size ≤ 140737488355328) (hBw : B ≤ w.heap.size) :
    Calls Try.prog 66 #[.pointer (some ⟨b, 0, none⟩), .string s] w fun e w' => e = .returned (.tuple #[.int .i64 s.size, .nilIface]) ∧ Bld B b (l ++ s.data.toList) w' ∧ Below B w w' ∧ KeptO w w' := by
  obtain ⟨i0, hi, hz0, hz1, hz2⟩ := info_parts (show (Try.prog.info? 5).map (fun i => (i.zero, i.size, i.bytes)) = some (some (.int .u8 0), 1, 1) by kernel_rfl)
  have CC := Lib.hid (bld_cc B b (Lib.byteCells l) w h)
  have hl : (Lib.byteCells l).length = l.length := Lib.byteCells_length l
  replace hl := Lib.hid hl
  clear h
  go_enter Try.func66, Try.ntmps66
  go_wp2_with (go_at_call 98; refine CC.out.mono ?_)
  rintro e w1 ⟨rfl, h1, hb1, hk1⟩
  obtain ⟨hB, v, hbk, hown, hne⟩ := h1
  have c0 : w1.cell? ⟨b, 0, none⟩ = some (.pointer (some ⟨b, 0, none⟩)) := by rw [Lib.cell_of_heap hbk]; rfl
  have c1 : w1.cell? ⟨b, 1, none⟩ = some v := by rw [Lib.cell_of_heap hbk]; rfl
  go_wp2_with (at_builtin; refine Lib.wpList_append_own_string _ rfl _ _ 106 9 rfl B 5 i0 Try.underlying106 Try.underlying9 hi hz0 hz1 hz2 _ _ _ rfl hown s rfl ?c3 ?c4 ?c5 ?_)
  case c3 => rw [hl.out]; unfold maxLen; omega
  case c4 => rw [hl.out]; omega
  case c5 => have := hb1.size; omega
  intro v' w2 hown' hgrow _
  have hlt : b < w1.heap.size := by
    rcases Nat.lt_or_ge b w1.heap.size with h' | h'
    · exact h'
    · simp [Array.getElem?_eq_none h'] at hbk
  have hb2 : w2.heap[b]? = some (.cells #[.pointer (some ⟨b, 0, none⟩), v] 108 (0, 0)) := by
    rw [hgrow.block b hlt (fun e => hne e.symm)]
    exact hbk
  have d0 : w2.cell? ⟨b, 0, none⟩ = some (.pointer (some ⟨b, 0, none⟩)) := by rw [Lib.cell_of_heap hb2]; rfl
  have d1 : w2.cell? ⟨b, 1, none⟩ = some v := by rw [Lib.cell_of_heap hb2]; rfl
  have f1 : w2.frozen? ⟨b, 1, none⟩ = false := Lib.frozen_of_heap hb2 1
  obtain ⟨ao, n', cap, rfl⟩ : ∃ ao n' cap, v' = .slice ao n' cap := by
    rcases hown'.2 with ⟨hv, _⟩ | ⟨g, cap, cur, hv, _⟩
    · exact ⟨_, _, _, hv⟩
    · exact ⟨_, _, _, hv⟩
  go_wp2
  go_ret2
  refine ⟨rfl, ?_, ?_, ?_⟩
  · unfold Bld
    rw [← strCells_bytes]
    exact .inr (Lib.BuilderAt.put hB hb2 (by simpa [Lib.strCells_length] using hown') (by decide))
  · exact (hb1.grown hgrow (by have := hb1.size; omega) (fun k hk => (hown.lt k hk).1)).setCell (p := ⟨b, 1, none⟩) hB _
  · refine (hk1.trans fun g cs t fz e h1 _ => ?_).trans (KeptO.set hb2 _)
    exact (hgrow.block g (Array.getElem?_eq_some_iff.1 e).1 (row_bytes hown e h1)).trans e
theorem bld_string (B b : Nat) (l : List UInt8) (w : World) (h : Bld B b l w) (hBw : B ≤ w.heap.size) :
    Calls Try.prog 69 #[.pointer (some ⟨b, 0, none⟩)] w fun e w' => e = .returned (.string ⟨l.toArray⟩) ∧ Below B w w' := Try.Builder_String_any B b l w h hBw
theorem bld_below {B b : Nat} {l : List UInt8} {w w' : World} (h : Bld B b l w) (hb : Below w.heap.size w w') : Bld B b l w' := by
  rcases h with ⟨h1, v, h2, h3, h4⟩ | ⟨h1, v, h2, h3, h4⟩
  · exact .inl ⟨h1, v, (hb.block b (Array.getElem?_eq_some_iff.1 h2).1).trans h2, row_below h3 hb, h4⟩
  · exact .inr ⟨h1, v, (hb.block b (Array.getElem?_eq_some_iff.1 h2).1).trans h2, row_below h3 hb, h4⟩
theorem bld_new (w : World) : Bld w.heap.size w.heap.size [] (w.alloc (.cells #[.pointer none, .slice none 0 0] 108)) :=
  .inl ⟨Nat.le_refl _, .slice none 0 0, heap_alloc_new w _, ⟨rfl, .inl ⟨rfl, rfl⟩⟩, by simp [Value.ownBlock]⟩
end Go.Proofs.Ytlbfcbmfpnfheaa


/-
  CONTRACT of Text (of a mutation).
-/
namespace Go.Proofs.Ytlbfcbmfpnfheaa
open Go.RowKit Go.Shelf

def bl (s : ByteArray) : List UInt8 := s.data.toList
def numsT (ns : List Int) : List UInt8 := ns.flatMap fun n => bl (numS n)
def pairsT (l : List Sp) : List UInt8 := l.flatMap fun p => bl (numS p.1) ++ bl (wholeS p.2)
def tailT (k lo hi old : Int) : List UInt8 := if k = 2 then bl (numS lo) ++ bl (numS hi) else if k = 4 then bl (wholeS old) else []
def bodyT (c s k : Int) (l : List Sp) (lo hi old : Int) : List UInt8 := numsT [c, s, k, (l.length : Int)] ++ pairsT l ++ tailT k lo hi old
def textT (c s k : Int) (l : List Sp) (lo hi old : Int) : List UInt8 := if chkM c s k l lo hi old = true then bodyT c s k l lo hi old else []
theorem numsT_snoc (l : List Int) (x : Int) : numsT (l ++ [x]) = numsT l ++ bl (numS x) := by simp [numsT]
theorem pairsT_snoc (l : List Sp) (p : Sp) : pairsT (l ++ [p]) = pairsT l ++ bl (numS p.1) ++ bl (wholeS p.2) := by simp [pairsT]
theorem numS_size {n : Int} (h : n ≤ 9223372036854775807) : (numS n).size ≤ 9 := by
  unfold numS
  split
  · show (0 : Nat) ≤ 9; omega
  · have := numL_len9 (n := n.toNat) (by omega)
    show (numL n.toNat).toArray.size ≤ 9
    simpa using this
theorem wholeS_size (z : Int) : (wholeS z).size ≤ 9 := by
  cases h : mayZ z
  · rw [wholeS_no h]; show (0 : Nat) ≤ 9; omega
  · rw [wholeS_yes h]
    have h1 := foldZ_le h
    have h2 := foldZ_nonneg z
    have := numL_len9 (n := (foldZ z).toNat) (by omega)
    show (numL (foldZ z).toNat).toArray.size ≤ 9
    simpa using this

/-- Where a text is being built: the builder in block B, its bytes, and what else lies as in w0. -/
structure TS (w0 : World) (B : Nat) (L : List UInt8) (m : Nat) (W : World) : Prop where
  bld : Bld B B L W
  len : L.length ≤ m
  low : Below B w0 W
  kept : KeptO w0 W
  sz : B < W.heap.size
theorem TS.below {w0 W W' : World} {B m : Nat} {L : List UInt8} (h : TS w0 B L m W) (hb : Below W.heap.size W W') : TS w0 B L m W' :=
  ⟨bld_below h.bld hb, h.len, h.low.trans (hb.mono (Nat.le_of_lt h.sz)), h.kept.trans (KeptO.below hb), Nat.lt_of_lt_of_le h.sz hb.size⟩
theorem num_ts {w0 W : World} {B m : Nat} {L : List UInt8} (h : TS w0 B L m W) (x : Int) (hx : x ≤ 9223372036854775807) :
    Calls Try.prog 67 #[.int .i64 x] W fun e w' => e = .returned (.string (numS x)) ∧ TS w0 B L m w' := (num_any x W hx).mono fun _ _ ⟨he, hb⟩ => ⟨he, h.below hb⟩
theorem whole_ts {w0 W : World} {B m : Nat} {L : List UInt8} (h : TS w0 B L m W) (x : Int) :
    Calls Try.prog 68 #[.int .i64 x] W fun e w' => e = .returned (.string (wholeS x)) ∧ TS w0 B L m w' := (whole_any x W).mono fun _ _ ⟨he, hb⟩ => ⟨he, h.below hb⟩
theorem write_ts {w0 W : World} {B m : Nat} {L : List UInt8} (h : TS w0 B L m W) (s : ByteArray) (hs : s.size ≤ 9) (hm : m ≤ 100000) :
    Calls Try.prog 66 #[.pointer (some ⟨B, 0, none⟩), .string s] W fun e w' => e = .returned (.tuple #[.int .i64 s.size, .nilIface]) ∧ TS w0 B (L ++ bl s) (m + 9) w' :=
  (bld_write B B L s W h.bld (by have := h.len; omega) (Nat.le_of_lt h.sz)).mono fun _ _ ⟨he, h1, h2, h3⟩ => ⟨he, h1, by
    rw [List.length_append]
    have e : (bl s).length = s.size := Array.length_toList
    have := h.len
    omega, h.low.trans h2, h.kept.trans h3, Nat.lt_of_lt_of_le h.sz h2.size⟩
theorem string_ts {w0 W : World} {B m : Nat} {L : List UInt8} (h : TS w0 B L m W) :
    Calls Try.prog 69 #[.pointer (some ⟨B, 0, none⟩)] W fun e w' => e = .returned (.string ⟨L.toArray⟩) ∧ Below B w0 w' :=
  (bld_string B B L W h.bld (Nat.le_of_lt h.sz)).mono fun _ _ ⟨he, hb⟩ => ⟨he, h.low.trans hb⟩

theorem TS.comp {w0 W W' : World} {B m m' : Nat} {L L' : List UInt8} (h1 : TS w0 B L m W) (h2 : TS W B L' m' W') : TS w0 B L' m' W' := ⟨h2.bld, h2.len, h1.low.trans h2.low, h1.kept.trans h2.kept, h2.sz⟩
theorem TS.base {w0 W : World} {B m : Nat} {L : List UInt8} (h : TS w0 B L m W) : TS W B L m W := ⟨h.bld, h.len, Below.refl _ _, KeptO.refl _, h.sz⟩
theorem TS.cast {w0 W : World} {B m m' : Nat} {L L' : List UInt8} (h : TS w0 B L m W) (e : L = L') (hm : m ≤ m') : TS w0 B L' m' W := ⟨e ▸ h.bld, by rw [← e]; have := h.len; omega, h.low, h.kept, h.sz⟩
theorem cellsLow {W4 W : World} {B g i : Nat} {v : Value} (h : Below B W4 W) (hg : g < B) (e : W4.cell? ⟨g, i, none⟩ = some v) : W.cell? ⟨g, i, none⟩ = some v := (h.cell (p := ⟨g, i, none⟩) hg).trans e
theorem cellsKept {W4 W : World} {g i : Nat} {cs : Array Value} {t : TypeId} (h : KeptO W4 W) (e : W4.heap[g]? = some (.cells cs t (0, 0))) (h1 : t ≠ 5) (h2 : t ≠ 108) : W.cell? ⟨g, i, none⟩ = cs[i]? := cell_of_row W g i cs t (0, 0) (h g cs t (0, 0) e h1 h2)

theorem ret_str {a b : List UInt8} (h : a = b) : Ending.returned (.string ⟨a.toArray⟩) = .returned (.string ⟨b.toArray⟩) := by rw [h]
set_option maxRecDepth 100000 in
theorem mtext_bad (c s k : Int) (a : Option Addr) (n cp : Nat) (l : List Sp) (lo hi old : Int) (w : World) (hA : Arg w a n cp l) (hc : chkM c s k l lo hi old = false) :
    Calls Try.prog 36 #[.agg #[.int .i64 c, .int .i64 s, .int .i64 k, .slice a n cp, .int .i64 lo, .int .i64 hi, .int .i64 old]] w (Gives w (.string ⟨#[]⟩)) := by
  have hb0 : Below w.heap.size w (w.alloc (.cells #[.int .i64 c, .int .i64 s, .int .i64 k, .slice a n cp, .int .i64 lo, .int .i64 hi, .int .i64 old] 26)) := (Below.refl _ _).alloc (Nat.le_refl _) _
  have HA := Lib.hid hA
  have h1 := Lib.hid hc
  clear hA hc
  go_enter Try.func36, Try.ntmps36
  go_wp2_with (first | (go_at_call 35; (with_reducible refine (mcheck_any c s k a n cp l lo hi old _ (HA.out.below hb0)).mono ?_); rw [h1.out]; rintro e w2 ⟨rfl, b2⟩; have b02 := below_next hb0 b2; have bx := box7 b2))
  go_ret
  exact ⟨rfl, b02⟩

set_option maxRecDepth 100000 in
set_option maxHeartbeats 4000000 in
theorem mtext_ok2 (c s : Int) (a : Option Addr) (n cp : Nat) (l : List Sp) (lo hi old : Int) (w : World) (hA : Arg w a n cp l) (hc : chkM c s 2 l lo hi old = true) :
    Calls Try.prog 36 #[.agg #[.int .i64 c, .int .i64 s, .int .i64 2, .slice a n cp, .int .i64 lo, .int .i64 hi, .int .i64 old]] w (Gives w (.string ⟨(bodyT c s 2 l lo hi old).toArray⟩)) := by
  have hb0 : Below w.heap.size w (w.alloc (.cells #[.int .i64 c, .int .i64 s, .int .i64 2, .slice a n cp, .int .i64 lo, .int .i64 hi, .int .i64 old] 26)) := (Below.refl _ _).alloc (Nat.le_refl _) _
  have hcs := chkM_and hc
  have hC := of_decide_eq_true hcs.1
  have hS := of_decide_eq_true hcs.2.1
  have hv := fits_kind hcs.2.2.2
  have hn := hA.1
  have hl8 : l.length ≤ 8 ∧ okPs l = true := by
    rcases hv with h | h
    · rw [h.2.1]; exact ⟨by simp, rfl⟩
    · exact ⟨h.2.2.2, h.2.1⟩
  have hK : (2 : Int) ≤ 5 ∧ ((2 : Int) = 2 → lo ≤ 4096 ∧ hi ≤ 4096) := by
    rcases hv with ⟨e, _, h⟩ | ⟨e, _⟩
    · have := (oneB_iff (lo, hi)).1 h
      dsimp only at this
      exact ⟨by omega, fun _ => by omega⟩
    · exact ⟨by omega, fun h => by omega⟩
  obtain ⟨hK5, hKo⟩ := hK
  obtain ⟨hlo, hhi⟩ := hKo rfl
  have hlo' : lo ≤ 9223372036854775807 := by omega
  have hhi' : hi ≤ 9223372036854775807 := by omega
  clear hKo
  have hn8 : n ≤ 8 := by omega
  have HV := Lib.hid hl8.2
  have HA := Lib.hid hA
  have h1 := Lib.hid hc
  have HT := Lib.hid (show bodyT c s 2 l lo hi old = numsT [c, s, 2, (n : Int)] ++ pairsT l ++ (bl (numS lo) ++ bl (numS hi)) by rw [hn]; rfl)
  replace hn := Lib.hid hn
  obtain ⟨R, hR⟩ : ∃ R, bodyT c s 2 l lo hi old = R := ⟨_, rfl⟩
  rw [hR] at HT ⊢
  replace hR := Lib.hid hR
  obtain ⟨c0, c1⟩ := hC
  obtain ⟨s0, s1⟩ := hS
  clear hA hc hcs hv hl8
  go_enter Try.func36, Try.ntmps36
  go_wp2_with (first | (go_at_call 35; (with_reducible refine (mcheck_any c s 2 a n cp l lo hi old _ (HA.out.below hb0)).mono ?_); rw [h1.out]; rintro e w2 ⟨rfl, b2⟩; have b02 := below_next hb0 b2; have bx := box7 b2; obtain ⟨W3, hW3⟩ : ∃ W3, w2.alloc (.cells #[.pointer none, .slice none 0 0] 108) = W3 := ⟨_, rfl⟩; have b23 : Below w2.heap.size w2 W3 := (by rw [← hW3]; exact (Below.refl _ _).alloc (Nat.le_refl _) _); obtain ⟨x0, x1, x2, x3, x4, x5, x6⟩ := box7 (below_next b2 b23); obtain ⟨W4, hW4⟩ : ∃ W4, W3.alloc (.cells #[.int .i64 c, .int .i64 s, .int .i64 2, .int .i64 (n : Int)] 3) = W4 := ⟨_, rfl⟩))
  have hB3 : w2.heap.size < W3.heap.size := by rw [← hW3]; simp
  have hgi : W4.heap[W3.heap.size]? = some (.cells #[.int .i64 c, .int .i64 s, .int .i64 2, .int .i64 (n : Int)] 3 (0, 0)) := by rw [← hW4]; exact heap_alloc_new W3 _
  have b34 : Below W3.heap.size W3 W4 := by rw [← hW4]; exact (Below.refl _ _).alloc (Nat.le_refl _) _
  have bB0 : Bld w2.heap.size w2.heap.size [] W3 := by rw [← hW3]; exact bld_new w2
  have b04 : Below w.heap.size w W4 := below_next (below_next b02 b23) b34
  have hgB : w.heap.size < w2.heap.size := Nat.lt_of_lt_of_le (by simp) b2.size
  have HB := Lib.hid (TS.mk (w0 := W4) (B := w2.heap.size) (L := []) (m := 0) (W := W4) (bld_below bB0 b34) (Nat.le_refl _) (Below.refl _ _) (KeptO.refl _) (Nat.lt_of_lt_of_le hB3 b34.size))
  have y2 := cellsLow (b34.mono (Nat.le_of_lt hB3)) hgB x2
  have y3 := cellsLow (b34.mono (Nat.le_of_lt hB3)) hgB x3
  have y4 := cellsLow (b34.mono (Nat.le_of_lt hB3)) hgB x4
  have y5 := cellsLow (b34.mono (Nat.le_of_lt hB3)) hgB x5
  have y6 := cellsLow (b34.mono (Nat.le_of_lt hB3)) hgB x6
  replace hgi := Lib.hid hgi
  replace y2 := Lib.hid y2
  replace y3 := Lib.hid y3
  replace y4 := Lib.hid y4
  replace y5 := Lib.hid y5
  replace y6 := Lib.hid y6
  replace hW3 := Lib.hid hW3
  replace hW4 := Lib.hid hW4
  clear x0 x1 x2 x3 x4 x5 x6 bx bB0
  generalize w2.heap.size = B at *
  generalize W3.heap.size = gi at *
  go_wp2_with fail
  go_loopw [5, 22] (fun _ i wr => ∃ (j : Nat), i = .int .i64 (j : Int) ∧ j ≤ 4 ∧ Hid (TS W4 B (numsT ([c, s, 2, (n : Int)].take j)) (9 * j) wr))
    (fun _ i _ => 4 - (intOf i).toNat)
  case atStart => exact ⟨0, rfl, by omega, HB⟩
  case round =>
    obtain ⟨j, rfl, hj, HB⟩ := hrel
    by_cases hlt : j < 4
    · have hjz : (j : Int) < 4 := by omega
      have hcell := cellsKept (i := j) HB.out.kept hgi.out (by decide) (by decide)
      obtain ⟨x, hx, hxb, hxn⟩ : ∃ x : Int, wr.cell? ⟨gi, j, none⟩ = some (.int .i64 x) ∧ x ≤ 9223372036854775807 ∧ numsT ([c, s, 2, (n : Int)].take (j + 1)) = numsT ([c, s, 2, (n : Int)].take j) ++ bl (numS x) := by
        match j, hlt with
        | 0, _ => exact ⟨c, hcell, by omega, numsT_snoc [] c⟩
        | 1, _ => exact ⟨s, hcell, by omega, (numsT_snoc [c] s)⟩
        | 2, _ => exact ⟨2, hcell, by omega, (numsT_snoc [c, s] 2)⟩
        | 3, _ => exact ⟨n, hcell, by omega, (numsT_snoc [c, s, 2] n)⟩
      clear hcell
      replace hxn := Lib.hid hxn
      go_wp2_with (first | (go_at_call 67; (with_reducible refine (num_ts HB.out x hxb).mono ?_); rintro e w' ⟨rfl, hh⟩; replace HB := Lib.hid hh) | (go_at_call 66; (with_reducible refine (write_ts HB.out (numS x) (numS_size hxb) (by omega)).mono ?_); rintro e w' ⟨rfl, hh⟩; replace HB := Lib.hid hh))
      go_roundw
      case rel => exact ⟨j + 1, by go_num, by omega, Lib.hid (HB.out.cast hxn.out.symm (by omega))⟩
      case measure => simp [intOf]; omega
    · have hj4 : j = 4 := by omega
      have hB4 : TS W4 B (numsT [c, s, 2, (n : Int)]) 36 wr := by have := HB.out; rw [hj4] at this; exact this
      replace HB := Lib.hid hB4
      have hjz : ¬ (j : Int) < 4 := by omega
      have q3 := cellsLow HB.out.low hgB y3.out
      clear hB4
      rw [hj4]
      rw [show ((4 : Nat) : Int) = 4 from rfl]
      replace hj4 := Lib.hid hj4
      go_wp2_with fail
      go_loopw [7, 33] (fun _ i wr => ∃ (j : Nat), i = .int .i64 (j : Int) ∧ j ≤ n ∧ Hid (TS W4 B (numsT [c, s, 2, (n : Int)] ++ pairsT (l.take j)) (36 + 18 * j) wr))
        (fun _ i _ => n - (intOf i).toNat)
      case atStart => exact ⟨0, rfl, by omega, Lib.hid (HB.out.cast (by simp [pairsT]) (by omega))⟩
      case round =>
        obtain ⟨j, rfl, hj, HC⟩ := hrel
        have bw : Below w.heap.size w wr := b04.trans (HC.out.low.mono (Nat.le_of_lt hgB))
        by_cases hlt : j < n
        · have hjl : j < l.length := by rw [← hn.out]; exact hlt
          obtain ⟨b, off, e, hb, d0, d1⟩ := (HA.out.2.2.2.2.below bw) j hjl
          subst e
          obtain ⟨p, hp⟩ : ∃ t, l.getD j (0, 0) = t := ⟨_, rfl⟩
          rw [hp] at d0 d1
          have hbd := (okP_bd (okPs_get HV.out hjl)).1
          rw [hp] at hbd
          have hnext : pairsT (l.take (j + 1)) = pairsT (l.take j) ++ bl (numS p.1) ++ bl (wholeS p.2) := by rw [take_more hjl, pairsT_snoc, hp]
          replace hnext := Lib.hid hnext
          replace hp := Lib.hid hp
          obtain ⟨x, y⟩ := p
          dsimp only at d0 d1 hbd
          obtain ⟨X0, X1⟩ := hbd
          obtain ⟨Wp, hWp⟩ : ∃ Wp, wr.alloc (.cells #[.int .i64 x, .int .i64 y] 70) = Wp := ⟨_, rfl⟩
          have hgp : Wp.heap[wr.heap.size]? = some (.cells #[.int .i64 x, .int .i64 y] 70 (0, 0)) := by rw [← hWp]; exact heap_alloc_new wr _
          have e0 : Wp.cell? ⟨wr.heap.size, 0, none⟩ = some (.int .i64 x) := by rw [← hWp]; simp
          have HP := Lib.hid (HC.out.below (W' := Wp) (by rw [← hWp]; exact (Below.refl _ _).alloc (Nat.le_refl _) _))
          have HB := Lib.hid HP.out.base
          replace hgp := Lib.hid hgp
          have hxb : x ≤ 9223372036854775807 := by omega
          clear d0
          have d0 : wr.cell? ⟨b, off + j * 2, none⟩ = some (.int .i64 x) := by
            obtain ⟨b', off', e, _, c0', _⟩ := (HA.out.2.2.2.2.below bw) j hjl
            cases e
            rw [hp.out] at c0'
            exact c0'
          go_wp2_with (first | (go_at_call 67; (with_reducible refine (num_ts HB.out x hxb).mono ?_); rintro e w' ⟨rfl, hh⟩; replace HB := Lib.hid hh) | (go_at_call 66; (with_reducible refine (write_ts HB.out (numS x) (numS_size hxb) (by omega)).mono ?_); rintro e w' ⟨rfl, hh⟩; replace HB := Lib.hid hh; have e1 : World.cell? w' ⟨wr.heap.size, 1, none⟩ = some (.int .i64 y) := cellsKept (i := 1) HB.out.kept hgp.out (by decide) (by decide)) | (go_at_call 68; (with_reducible refine (whole_ts HB.out y).mono ?_); rintro e w' ⟨rfl, hh⟩; replace HB := Lib.hid hh) | (go_at_call 66; (with_reducible refine (write_ts HB.out (wholeS y) (wholeS_size y) (by omega)).mono ?_); rintro e w' ⟨rfl, hh⟩; replace HB := Lib.hid hh))
          go_roundw
          case rel => exact ⟨j + 1, by go_num, by omega, Lib.hid ((HP.out.comp HB.out).cast (by rw [hnext.out]; simp [List.append_assoc]) (by omega))⟩
          case measure => simp [intOf]; omega
        · have hjn : j = n := by omega
          have hB5 : TS W4 B (numsT [c, s, 2, (n : Int)] ++ pairsT l) (36 + 18 * n) wr := by have := HC.out; rw [hjn, show l.take n = l from List.take_of_length_le (by rw [hn.out]; omega)] at this; exact this
          replace HB := Lib.hid hB5
          have hjz : ¬ (j : Int) < (n : Int) := by omega
          have q2 := cellsLow HB.out.low hgB y2.out
          have q4 := cellsLow HB.out.low hgB y4.out
          have q5 := cellsLow HB.out.low hgB y5.out
          have q6 := cellsLow HB.out.low hgB y6.out
          clear hB5 q3
          replace hjn := Lib.hid hjn
          go_wp2_with (first | (go_at_call 67; (with_reducible refine (num_ts HB.out lo hlo').mono ?_); rintro e w' ⟨rfl, hh⟩; replace HB := Lib.hid hh) | (go_at_call 66; (with_reducible refine (write_ts HB.out (numS lo) (numS_size hlo') (by omega)).mono ?_); rintro e w' ⟨rfl, hh⟩; replace HB := Lib.hid hh; have q4 := cellsLow HB.out.low hgB y4.out; have q5 := cellsLow HB.out.low hgB y5.out; have q6 := cellsLow HB.out.low hgB y6.out) | (go_at_call 67; (with_reducible refine (num_ts HB.out hi hhi').mono ?_); rintro e w' ⟨rfl, hh⟩; replace HB := Lib.hid hh) | (go_at_call 66; (with_reducible refine (write_ts HB.out (numS hi) (numS_size hhi') (by omega)).mono ?_); rintro e w' ⟨rfl, hh⟩; replace HB := Lib.hid hh; have q4 := cellsLow HB.out.low hgB y4.out; have q5 := cellsLow HB.out.low hgB y5.out; have q6 := cellsLow HB.out.low hgB y6.out) | (go_at_call 69; (with_reducible refine (string_ts HB.out).mono ?_); rintro e w9 ⟨rfl, b9⟩))
          go_ret
          exact ⟨ret_str (by rw [HT.out]; simp [List.append_assoc]), b04.trans (b9.mono (Nat.le_of_lt hgB))⟩

set_option maxRecDepth 100000 in
set_option maxHeartbeats 4000000 in
theorem mtext_ok4 (c s : Int) (a : Option Addr) (n cp : Nat) (l : List Sp) (lo hi old : Int) (w : World) (hA : Arg w a n cp l) (hc : chkM c s 4 l lo hi old = true) :
    Calls Try.prog 36 #[.agg #[.int .i64 c, .int .i64 s, .int .i64 4, .slice a n cp, .int .i64 lo, .int .i64 hi, .int .i64 old]] w (Gives w (.string ⟨(bodyT c s 4 l lo hi old).toArray⟩)) := by
  have hb0 : Below w.heap.size w (w.alloc (.cells #[.int .i64 c, .int .i64 s, .int .i64 4, .slice a n cp, .int .i64 lo, .int .i64 hi, .int .i64 old] 26)) := (Below.refl _ _).alloc (Nat.le_refl _) _
  have hcs := chkM_and hc
  have hC := of_decide_eq_true hcs.1
  have hS := of_decide_eq_true hcs.2.1
  have hv := fits_kind hcs.2.2.2
  have hn := hA.1
  have hl8 : l.length ≤ 8 ∧ okPs l = true := by
    rcases hv with h | h
    · rw [h.2.1]; exact ⟨by simp, rfl⟩
    · exact ⟨h.2.2.2, h.2.1⟩
  have hK : (4 : Int) ≤ 5 ∧ ((2 : Int) = 4 → lo ≤ 4096 ∧ hi ≤ 4096) := by
    rcases hv with ⟨e, _, h⟩ | ⟨e, _⟩
    · have := (oneB_iff (lo, hi)).1 h
      dsimp only at this
      exact ⟨by omega, fun _ => by omega⟩
    · exact ⟨by omega, fun h => by omega⟩
  obtain ⟨hK5, hKo⟩ := hK
  clear hKo
  have hn8 : n ≤ 8 := by omega
  have HV := Lib.hid hl8.2
  have HA := Lib.hid hA
  have h1 := Lib.hid hc
  have HT := Lib.hid (show bodyT c s 4 l lo hi old = numsT [c, s, 4, (n : Int)] ++ pairsT l ++ bl (wholeS old) by rw [hn]; rfl)
  replace hn := Lib.hid hn
  obtain ⟨R, hR⟩ : ∃ R, bodyT c s 4 l lo hi old = R := ⟨_, rfl⟩
  rw [hR] at HT ⊢
  replace hR := Lib.hid hR
  obtain ⟨c0, c1⟩ := hC
  obtain ⟨s0, s1⟩ := hS
  clear hA hc hcs hv hl8
  go_enter Try.func36, Try.ntmps36
  go_wp2_with (first | (go_at_call 35; (with_reducible refine (mcheck_any c s 4 a n cp l lo hi old _ (HA.out.below hb0)).mono ?_); rw [h1.out]; rintro e w2 ⟨rfl, b2⟩; have b02 := below_next hb0 b2; have bx := box7 b2; obtain ⟨W3, hW3⟩ : ∃ W3, w2.alloc (.cells #[.pointer none, .slice none 0 0] 108) = W3 := ⟨_, rfl⟩; have b23 : Below w2.heap.size w2 W3 := (by rw [← hW3]; exact (Below.refl _ _).alloc (Nat.le_refl _) _); obtain ⟨x0, x1, x2, x3, x4, x5, x6⟩ := box7 (below_next b2 b23); obtain ⟨W4, hW4⟩ : ∃ W4, W3.alloc (.cells #[.int .i64 c, .int .i64 s, .int .i64 4, .int .i64 (n : Int)] 3) = W4 := ⟨_, rfl⟩))
  have hB3 : w2.heap.size < W3.heap.size := by rw [← hW3]; simp
  have hgi : W4.heap[W3.heap.size]? = some (.cells #[.int .i64 c, .int .i64 s, .int .i64 4, .int .i64 (n : Int)] 3 (0, 0)) := by rw [← hW4]; exact heap_alloc_new W3 _
  have b34 : Below W3.heap.size W3 W4 := by rw [← hW4]; exact (Below.refl _ _).alloc (Nat.le_refl _) _
  have bB0 : Bld w2.heap.size w2.heap.size [] W3 := by rw [← hW3]; exact bld_new w2
  have b04 : Below w.heap.size w W4 := below_next (below_next b02 b23) b34
  have hgB : w.heap.size < w2.heap.size := Nat.lt_of_lt_of_le (by simp) b2.size
  have HB := Lib.hid (TS.mk (w0 := W4) (B := w2.heap.size) (L := []) (m := 0) (W := W4) (bld_below bB0 b34) (Nat.le_refl _) (Below.refl _ _) (KeptO.refl _) (Nat.lt_of_lt_of_le hB3 b34.size))
  have y2 := cellsLow (b34.mono (Nat.le_of_lt hB3)) hgB x2
  have y3 := cellsLow (b34.mono (Nat.le_of_lt hB3)) hgB x3
  have y4 := cellsLow (b34.mono (Nat.le_of_lt hB3)) hgB x4
  have y5 := cellsLow (b34.mono (Nat.le_of_lt hB3)) hgB x5
  have y6 := cellsLow (b34.mono (Nat.le_of_lt hB3)) hgB x6
  replace hgi := Lib.hid hgi
  replace y2 := Lib.hid y2
  replace y3 := Lib.hid y3
  replace y4 := Lib.hid y4
  replace y5 := Lib.hid y5
  replace y6 := Lib.hid y6
  replace hW3 := Lib.hid hW3
  replace hW4 := Lib.hid hW4
  clear x0 x1 x2 x3 x4 x5 x6 bx bB0
  generalize w2.heap.size = B at *
  generalize W3.heap.size = gi at *
  go_wp2_with fail
  go_loopw [5, 22] (fun _ i wr => ∃ (j : Nat), i = .int .i64 (j : Int) ∧ j ≤ 4 ∧ Hid (TS W4 B (numsT ([c, s, 4, (n : Int)].take j)) (9 * j) wr))
    (fun _ i _ => 4 - (intOf i).toNat)
  case atStart => exact ⟨0, rfl, by omega, HB⟩
  case round =>
    obtain ⟨j, rfl, hj, HB⟩ := hrel
    by_cases hlt : j < 4
    · have hjz : (j : Int) < 4 := by omega
      have hcell := cellsKept (i := j) HB.out.kept hgi.out (by decide) (by decide)
      obtain ⟨x, hx, hxb, hxn⟩ : ∃ x : Int, wr.cell? ⟨gi, j, none⟩ = some (.int .i64 x) ∧ x ≤ 9223372036854775807 ∧ numsT ([c, s, 4, (n : Int)].take (j + 1)) = numsT ([c, s, 4, (n : Int)].take j) ++ bl (numS x) := by
        match j, hlt with
        | 0, _ => exact ⟨c, hcell, by omega, numsT_snoc [] c⟩
        | 1, _ => exact ⟨s, hcell, by omega, (numsT_snoc [c] s)⟩
        | 2, _ => exact ⟨4, hcell, by omega, (numsT_snoc [c, s] 4)⟩
        | 3, _ => exact ⟨n, hcell, by omega, (numsT_snoc [c, s, 4] n)⟩
      clear hcell
      replace hxn := Lib.hid hxn
      go_wp2_with (first | (go_at_call 67; (with_reducible refine (num_ts HB.out x hxb).mono ?_); rintro e w' ⟨rfl, hh⟩; replace HB := Lib.hid hh) | (go_at_call 66; (with_reducible refine (write_ts HB.out (numS x) (numS_size hxb) (by omega)).mono ?_); rintro e w' ⟨rfl, hh⟩; replace HB := Lib.hid hh))
      go_roundw
      case rel => exact ⟨j + 1, by go_num, by omega, Lib.hid (HB.out.cast hxn.out.symm (by omega))⟩
      case measure => simp [intOf]; omega
    · have hj4 : j = 4 := by omega
      have hB4 : TS W4 B (numsT [c, s, 4, (n : Int)]) 36 wr := by have := HB.out; rw [hj4] at this; exact this
      replace HB := Lib.hid hB4
      have hjz : ¬ (j : Int) < 4 := by omega
      have q3 := cellsLow HB.out.low hgB y3.out
      clear hB4
      rw [hj4]
      rw [show ((4 : Nat) : Int) = 4 from rfl]
      replace hj4 := Lib.hid hj4
      go_wp2_with fail
      go_loopw [7, 33] (fun _ i wr => ∃ (j : Nat), i = .int .i64 (j : Int) ∧ j ≤ n ∧ Hid (TS W4 B (numsT [c, s, 4, (n : Int)] ++ pairsT (l.take j)) (36 + 18 * j) wr))
        (fun _ i _ => n - (intOf i).toNat)
      case atStart => exact ⟨0, rfl, by omega, Lib.hid (HB.out.cast (by simp [pairsT]) (by omega))⟩
      case round =>
        obtain ⟨j, rfl, hj, HC⟩ := hrel
        have bw : Below w.heap.size w wr := b04.trans (HC.out.low.mono (Nat.le_of_lt hgB))
        by_cases hlt : j < n
        · have hjl : j < l.length := by rw [← hn.out]; exact hlt
          obtain ⟨b, off, e, hb, d0, d1⟩ := (HA.out.2.2.2.2.below bw) j hjl
          subst e
          obtain ⟨p, hp⟩ : ∃ t, l.getD j (0, 0) = t := ⟨_, rfl⟩
          rw [hp] at d0 d1
          have hbd := (okP_bd (okPs_get HV.out hjl)).1
          rw [hp] at hbd
          have hnext : pairsT (l.take (j + 1)) = pairsT (l.take j) ++ bl (numS p.1) ++ bl (wholeS p.2) := by rw [take_more hjl, pairsT_snoc, hp]
          replace hnext := Lib.hid hnext
          replace hp := Lib.hid hp
          obtain ⟨x, y⟩ := p
          dsimp only at d0 d1 hbd
          obtain ⟨X0, X1⟩ := hbd
          obtain ⟨Wp, hWp⟩ : ∃ Wp, wr.alloc (.cells #[.int .i64 x, .int .i64 y] 70) = Wp := ⟨_, rfl⟩
          have hgp : Wp.heap[wr.heap.size]? = some (.cells #[.int .i64 x, .int .i64 y] 70 (0, 0)) := by rw [← hWp]; exact heap_alloc_new wr _
          have e0 : Wp.cell? ⟨wr.heap.size, 0, none⟩ = some (.int .i64 x) := by rw [← hWp]; simp
          have HP := Lib.hid (HC.out.below (W' := Wp) (by rw [← hWp]; exact (Below.refl _ _).alloc (Nat.le_refl _) _))
          have HB := Lib.hid HP.out.base
          replace hgp := Lib.hid hgp
          have hxb : x ≤ 9223372036854775807 := by omega
          clear d0
          have d0 : wr.cell? ⟨b, off + j * 2, none⟩ = some (.int .i64 x) := by
            obtain ⟨b', off', e, _, c0', _⟩ := (HA.out.2.2.2.2.below bw) j hjl
            cases e
            rw [hp.out] at c0'
            exact c0'
          go_wp2_with (first | (go_at_call 67; (with_reducible refine (num_ts HB.out x hxb).mono ?_); rintro e w' ⟨rfl, hh⟩; replace HB := Lib.hid hh) | (go_at_call 66; (with_reducible refine (write_ts HB.out (numS x) (numS_size hxb) (by omega)).mono ?_); rintro e w' ⟨rfl, hh⟩; replace HB := Lib.hid hh; have e1 : World.cell? w' ⟨wr.heap.size, 1, none⟩ = some (.int .i64 y) := cellsKept (i := 1) HB.out.kept hgp.out (by decide) (by decide)) | (go_at_call 68; (with_reducible refine (whole_ts HB.out y).mono ?_); rintro e w' ⟨rfl, hh⟩; replace HB := Lib.hid hh) | (go_at_call 66; (with_reducible refine (write_ts HB.out (wholeS y) (wholeS_size y) (by omega)).mono ?_); rintro e w' ⟨rfl, hh⟩; replace HB := Lib.hid hh))
          go_roundw
          case rel => exact ⟨j + 1, by go_num, by omega, Lib.hid ((HP.out.comp HB.out).cast (by rw [hnext.out]; simp [List.append_assoc]) (by omega))⟩
          case measure => simp [intOf]; omega
        · have hjn : j = n := by omega
          have hB5 : TS W4 B (numsT [c, s, 4, (n : Int)] ++ pairsT l) (36 + 18 * n) wr := by have := HC.out; rw [hjn, show l.take n = l from List.take_of_length_le (by rw [hn.out]; omega)] at this; exact this
          replace HB := Lib.hid hB5
          have hjz : ¬ (j : Int) < (n : Int) := by omega
          have q2 := cellsLow HB.out.low hgB y2.out
          have q4 := cellsLow HB.out.low hgB y4.out
          have q5 := cellsLow HB.out.low hgB y5.out
          have q6 := cellsLow HB.out.low hgB y6.out
          clear hB5 q3
          replace hjn := Lib.hid hjn
          go_wp2_with (first | (go_at_call 68; (with_reducible refine (whole_ts HB.out old).mono ?_); rintro e w' ⟨rfl, hh⟩; replace HB := Lib.hid hh) | (go_at_call 66; (with_reducible refine (write_ts HB.out (wholeS old) (wholeS_size old) (by omega)).mono ?_); rintro e w' ⟨rfl, hh⟩; replace HB := Lib.hid hh; have q4 := cellsLow HB.out.low hgB y4.out; have q5 := cellsLow HB.out.low hgB y5.out; have q6 := cellsLow HB.out.low hgB y6.out) | (go_at_call 69; (with_reducible refine (string_ts HB.out).mono ?_); rintro e w9 ⟨rfl, b9⟩))
          go_ret
          exact ⟨ret_str (by rw [HT.out]; simp [List.append_assoc]), b04.trans (b9.mono (Nat.le_of_lt hgB))⟩

set_option maxRecDepth 100000 in
set_option maxHeartbeats 4000000 in
theorem mtext_ok0 (c s k : Int) (a : Option Addr) (n cp : Nat) (l : List Sp) (lo hi old : Int) (w : World) (hA : Arg w a n cp l) (hc : chkM c s k l lo hi old = true) (hk : k ≠ 2 ∧ k ≠ 4) :
    Calls Try.prog 36 #[.agg #[.int .i64 c, .int .i64 s, .int .i64 k, .slice a n cp, .int .i64 lo, .int .i64 hi, .int .i64 old]] w (Gives w (.string ⟨(bodyT c s k l lo hi old).toArray⟩)) := by
  have hb0 : Below w.heap.size w (w.alloc (.cells #[.int .i64 c, .int .i64 s, .int .i64 k, .slice a n cp, .int .i64 lo, .int .i64 hi, .int .i64 old] 26)) := (Below.refl _ _).alloc (Nat.le_refl _) _
  have hcs := chkM_and hc
  have hC := of_decide_eq_true hcs.1
  have hS := of_decide_eq_true hcs.2.1
  have hv := fits_kind hcs.2.2.2
  have hn := hA.1
  have hl8 : l.length ≤ 8 ∧ okPs l = true := by
    rcases hv with h | h
    · rw [h.2.1]; exact ⟨by simp, rfl⟩
    · exact ⟨h.2.2.2, h.2.1⟩
  have hK : k ≤ 5 ∧ ((2 : Int) = k → lo ≤ 4096 ∧ hi ≤ 4096) := by
    rcases hv with ⟨e, _, h⟩ | ⟨e, _⟩
    · have := (oneB_iff (lo, hi)).1 h
      dsimp only at this
      exact ⟨by omega, fun _ => by omega⟩
    · exact ⟨by omega, fun h => by omega⟩
  obtain ⟨hK5, hKo⟩ := hK
  clear hKo
  have hn8 : n ≤ 8 := by omega
  have HV := Lib.hid hl8.2
  have HA := Lib.hid hA
  have h1 := Lib.hid hc
  have k2 : (k == 2) = false := by simpa using hk.1
  have k4 : (k == 4) = false := by simpa using hk.2
  have HKK := Lib.hid hk
  have HT := Lib.hid (show bodyT c s k l lo hi old = numsT [c, s, k, (n : Int)] ++ pairsT l ++ [] by rw [hn]; unfold bodyT tailT; rw [if_neg hk.1, if_neg hk.2])
  replace hn := Lib.hid hn
  obtain ⟨R, hR⟩ : ∃ R, bodyT c s k l lo hi old = R := ⟨_, rfl⟩
  rw [hR] at HT ⊢
  replace hR := Lib.hid hR
  obtain ⟨c0, c1⟩ := hC
  obtain ⟨s0, s1⟩ := hS
  clear hA hc hcs hv hl8 hk
  go_enter Try.func36, Try.ntmps36
  go_wp2_with (first | (go_at_call 35; (with_reducible refine (mcheck_any c s k a n cp l lo hi old _ (HA.out.below hb0)).mono ?_); rw [h1.out]; rintro e w2 ⟨rfl, b2⟩; have b02 := below_next hb0 b2; have bx := box7 b2; obtain ⟨W3, hW3⟩ : ∃ W3, w2.alloc (.cells #[.pointer none, .slice none 0 0] 108) = W3 := ⟨_, rfl⟩; have b23 : Below w2.heap.size w2 W3 := (by rw [← hW3]; exact (Below.refl _ _).alloc (Nat.le_refl _) _); obtain ⟨x0, x1, x2, x3, x4, x5, x6⟩ := box7 (below_next b2 b23); obtain ⟨W4, hW4⟩ : ∃ W4, W3.alloc (.cells #[.int .i64 c, .int .i64 s, .int .i64 k, .int .i64 (n : Int)] 3) = W4 := ⟨_, rfl⟩))
  have hB3 : w2.heap.size < W3.heap.size := by rw [← hW3]; simp
  have hgi : W4.heap[W3.heap.size]? = some (.cells #[.int .i64 c, .int .i64 s, .int .i64 k, .int .i64 (n : Int)] 3 (0, 0)) := by rw [← hW4]; exact heap_alloc_new W3 _
  have b34 : Below W3.heap.size W3 W4 := by rw [← hW4]; exact (Below.refl _ _).alloc (Nat.le_refl _) _
  have bB0 : Bld w2.heap.size w2.heap.size [] W3 := by rw [← hW3]; exact bld_new w2
  have b04 : Below w.heap.size w W4 := below_next (below_next b02 b23) b34
  have hgB : w.heap.size < w2.heap.size := Nat.lt_of_lt_of_le (by simp) b2.size
  have HB := Lib.hid (TS.mk (w0 := W4) (B := w2.heap.size) (L := []) (m := 0) (W := W4) (bld_below bB0 b34) (Nat.le_refl _) (Below.refl _ _) (KeptO.refl _) (Nat.lt_of_lt_of_le hB3 b34.size))
  have y2 := cellsLow (b34.mono (Nat.le_of_lt hB3)) hgB x2
  have y3 := cellsLow (b34.mono (Nat.le_of_lt hB3)) hgB x3
  have y4 := cellsLow (b34.mono (Nat.le_of_lt hB3)) hgB x4
  have y5 := cellsLow (b34.mono (Nat.le_of_lt hB3)) hgB x5
  have y6 := cellsLow (b34.mono (Nat.le_of_lt hB3)) hgB x6
  replace hgi := Lib.hid hgi
  replace y2 := Lib.hid y2
  replace y3 := Lib.hid y3
  replace y4 := Lib.hid y4
  replace y5 := Lib.hid y5
  replace y6 := Lib.hid y6
  replace hW3 := Lib.hid hW3
  replace hW4 := Lib.hid hW4
  clear x0 x1 x2 x3 x4 x5 x6 bx bB0
  generalize w2.heap.size = B at *
  generalize W3.heap.size = gi at *
  go_wp2_with fail
  go_loopw [5, 22] (fun _ i wr => ∃ (j : Nat), i = .int .i64 (j : Int) ∧ j ≤ 4 ∧ Hid (TS W4 B (numsT ([c, s, k, (n : Int)].take j)) (9 * j) wr))
    (fun _ i _ => 4 - (intOf i).toNat)
  case atStart => exact ⟨0, rfl, by omega, HB⟩
  case round =>
    obtain ⟨j, rfl, hj, HB⟩ := hrel
    by_cases hlt : j < 4
    · have hjz : (j : Int) < 4 := by omega
      have hcell := cellsKept (i := j) HB.out.kept hgi.out (by decide) (by decide)
      obtain ⟨x, hx, hxb, hxn⟩ : ∃ x : Int, wr.cell? ⟨gi, j, none⟩ = some (.int .i64 x) ∧ x ≤ 9223372036854775807 ∧ numsT ([c, s, k, (n : Int)].take (j + 1)) = numsT ([c, s, k, (n : Int)].take j) ++ bl (numS x) := by
        match j, hlt with
        | 0, _ => exact ⟨c, hcell, by omega, numsT_snoc [] c⟩
        | 1, _ => exact ⟨s, hcell, by omega, (numsT_snoc [c] s)⟩
        | 2, _ => exact ⟨k, hcell, by omega, (numsT_snoc [c, s] k)⟩
        | 3, _ => exact ⟨n, hcell, by omega, (numsT_snoc [c, s, k] n)⟩
      clear hcell
      replace hxn := Lib.hid hxn
      go_wp2_with (first | (go_at_call 67; (with_reducible refine (num_ts HB.out x hxb).mono ?_); rintro e w' ⟨rfl, hh⟩; replace HB := Lib.hid hh) | (go_at_call 66; (with_reducible refine (write_ts HB.out (numS x) (numS_size hxb) (by omega)).mono ?_); rintro e w' ⟨rfl, hh⟩; replace HB := Lib.hid hh))
      go_roundw
      case rel => exact ⟨j + 1, by go_num, by omega, Lib.hid (HB.out.cast hxn.out.symm (by omega))⟩
      case measure => simp [intOf]; omega
    · have hj4 : j = 4 := by omega
      have hB4 : TS W4 B (numsT [c, s, k, (n : Int)]) 36 wr := by have := HB.out; rw [hj4] at this; exact this
      replace HB := Lib.hid hB4
      have hjz : ¬ (j : Int) < 4 := by omega
      have q3 := cellsLow HB.out.low hgB y3.out
      clear hB4
      rw [hj4]
      rw [show ((4 : Nat) : Int) = 4 from rfl]
      replace hj4 := Lib.hid hj4
      go_wp2_with fail
      go_loopw [7, 33] (fun _ i wr => ∃ (j : Nat), i = .int .i64 (j : Int) ∧ j ≤ n ∧ Hid (TS W4 B (numsT [c, s, k, (n : Int)] ++ pairsT (l.take j)) (36 + 18 * j) wr))
        (fun _ i _ => n - (intOf i).toNat)
      case atStart => exact ⟨0, rfl, by omega, Lib.hid (HB.out.cast (by simp [pairsT]) (by omega))⟩
      case round =>
        obtain ⟨j, rfl, hj, HC⟩ := hrel
        have bw : Below w.heap.size w wr := b04.trans (HC.out.low.mono (Nat.le_of_lt hgB))
        by_cases hlt : j < n
        · have hjl : j < l.length := by rw [← hn.out]; exact hlt
          obtain ⟨b, off, e, hb, d0, d1⟩ := (HA.out.2.2.2.2.below bw) j hjl
          subst e
          obtain ⟨p, hp⟩ : ∃ t, l.getD j (0, 0) = t := ⟨_, rfl⟩
          rw [hp] at d0 d1
          have hbd := (okP_bd (okPs_get HV.out hjl)).1
          rw [hp] at hbd
          have hnext : pairsT (l.take (j + 1)) = pairsT (l.take j) ++ bl (numS p.1) ++ bl (wholeS p.2) := by rw [take_more hjl, pairsT_snoc, hp]
          replace hnext := Lib.hid hnext
          replace hp := Lib.hid hp
          obtain ⟨x, y⟩ := p
          dsimp only at d0 d1 hbd
          obtain ⟨X0, X1⟩ := hbd
          obtain ⟨Wp, hWp⟩ : ∃ Wp, wr.alloc (.cells #[.int .i64 x, .int .i64 y] 70) = Wp := ⟨_, rfl⟩
          have hgp : Wp.heap[wr.heap.size]? = some (.cells #[.int .i64 x, .int .i64 y] 70 (0, 0)) := by rw [← hWp]; exact heap_alloc_new wr _
          have e0 : Wp.cell? ⟨wr.heap.size, 0, none⟩ = some (.int .i64 x) := by rw [← hWp]; simp
          have HP := Lib.hid (HC.out.below (W' := Wp) (by rw [← hWp]; exact (Below.refl _ _).alloc (Nat.le_refl _) _))
          have HB := Lib.hid HP.out.base
          replace hgp := Lib.hid hgp
          have hxb : x ≤ 9223372036854775807 := by omega
          clear d0
          have d0 : wr.cell? ⟨b, off + j * 2, none⟩ = some (.int .i64 x) := by
            obtain ⟨b', off', e, _, c0', _⟩ := (HA.out.2.2.2.2.below bw) j hjl
            cases e
            rw [hp.out] at c0'
            exact c0'
          go_wp2_with (first | (go_at_call 67; (with_reducible refine (num_ts HB.out x hxb).mono ?_); rintro e w' ⟨rfl, hh⟩; replace HB := Lib.hid hh) | (go_at_call 66; (with_reducible refine (write_ts HB.out (numS x) (numS_size hxb) (by omega)).mono ?_); rintro e w' ⟨rfl, hh⟩; replace HB := Lib.hid hh; have e1 : World.cell? w' ⟨wr.heap.size, 1, none⟩ = some (.int .i64 y) := cellsKept (i := 1) HB.out.kept hgp.out (by decide) (by decide)) | (go_at_call 68; (with_reducible refine (whole_ts HB.out y).mono ?_); rintro e w' ⟨rfl, hh⟩; replace HB := Lib.hid hh) | (go_at_call 66; (with_reducible refine (write_ts HB.out (wholeS y) (wholeS_size y) (by omega)).mono ?_); rintro e w' ⟨rfl, hh⟩; replace HB := Lib.hid hh))
          go_roundw
          case rel => exact ⟨j + 1, by go_num, by omega, Lib.hid ((HP.out.comp HB.out).cast (by rw [hnext.out]; simp [List.append_assoc]) (by omega))⟩
          case measure => simp [intOf]; omega
        · have hjn : j = n := by omega
          have hB5 : TS W4 B (numsT [c, s, k, (n : Int)] ++ pairsT l) (36 + 18 * n) wr := by have := HC.out; rw [hjn, show l.take n = l from List.take_of_length_le (by rw [hn.out]; omega)] at this; exact this
          replace HB := Lib.hid hB5
          have hjz : ¬ (j : Int) < (n : Int) := by omega
          have q2 := cellsLow HB.out.low hgB y2.out
          have q4 := cellsLow HB.out.low hgB y4.out
          have q5 := cellsLow HB.out.low hgB y5.out
          have q6 := cellsLow HB.out.low hgB y6.out
          clear hB5 q3
          replace hjn := Lib.hid hjn
          go_wp2_with (first | (go_at_call 69; (with_reducible refine (string_ts HB.out).mono ?_); rintro e w9 ⟨rfl, b9⟩))
          go_ret
          exact ⟨ret_str (by rw [HT.out]; simp), b04.trans (b9.mono (Nat.le_of_lt hgB))⟩

theorem mtext_any (c s k : Int) (a : Option Addr) (n cp : Nat) (l : List Sp) (lo hi old : Int) (w : World) (hA : Arg w a n cp l) :
    Calls Try.prog 36 #[.agg #[.int .i64 c, .int .i64 s, .int .i64 k, .slice a n cp, .int .i64 lo, .int .i64 hi, .int .i64 old]] w (Gives w (.string ⟨(textT c s k l lo hi old).toArray⟩)) := by
  cases hc : chkM c s k l lo hi old
  · rw [show textT c s k l lo hi old = [] from if_neg (by rw [hc]; simp)]
    exact mtext_bad c s k a n cp l lo hi old w hA hc
  · rw [show textT c s k l lo hi old = bodyT c s k l lo hi old from if_pos hc]
    by_cases h2 : k = 2
    · subst h2; exact mtext_ok2 c s a n cp l lo hi old w hA hc
    · by_cases h4 : k = 4
      · subst h4; exact mtext_ok4 c s a n cp l lo hi old w hA hc
      · exact mtext_ok0 c s k a n cp l lo hi old w hA hc ⟨h2, h4⟩
end Go.Proofs.Ytlbfcbmfpnfheaa


/-
  CONTRACT of awake (of the statements on mutations).
-/
namespace Go.Proofs.Ytlbfcbmfpnfheaa
open Go.RowKit Go.Shelf

theorem touch_ex : touchL 1 1 5 [(9, 3), (4, 3)] 0 0 0 = [(4, 5), (9, 10)] := by
  have h1 : chkM 1 1 5 [(9, 3), (4, 3)] 0 0 0 = true := by decide +kernel
  unfold touchL
  rw [if_pos h1, if_neg (by decide)]
  refine (setOf_eq (by decide) fun k _ _ => ?_).symm
  rw [Bool.eq_iff_iff]
  simp only [List.map, sing, hasB_cons, hasB_nil, Bool.or_eq_true, inB_iff]
  simp
  omega
theorem text_ex : textT 1 2 1 [(5, 7)] 0 0 0 = [1, 2, 1, 1, 5, 14] := by decide +kernel

set_option maxRecDepth 100000 in
set_option maxHeartbeats 1000000 in
theorem awake4_any (w : World) : Calls Try.prog 9 #[] w (TruePost w) := by
  have A1 := Lib.hid (arg_new w 70 [(9, 3), (4, 3)] #[.int .i64 9, .int .i64 3, .int .i64 4, .int .i64 3] rfl (by simp))
  have A2 := Lib.hid (fun w1 => arg_new w1 70 [(5, 7)] #[.int .i64 5, .int .i64 7] rfl (by simp))
  have E2 := fun w => eqSpan 9 10 9 10 w
  have b0 : Below w.heap.size w (w.alloc (.cells #[.int .i64 9, .int .i64 3, .int .i64 4, .int .i64 3] 70)) := (Below.refl _ _).alloc (Nat.le_refl _) _
  go_enter Try.func9, Try.ntmps9
  go_wp2_with (first | (go_at_call 10; refine (mtouch_any _ _ _ _ _ _ _ _ _ _ _ A1.out).mono ?_; rw [touch_ex]; rintro e w1 ⟨a1, n1, c1, rfl, h1, b1⟩; have b1' := below_next b0 b1; obtain ⟨rfl, g1, o1, rfl, hg1, _, _, x0, x1⟩ := h1.two; clear h1) | (go_at_call 36; refine (mtext_any _ _ _ _ _ _ _ _ _ _ _ (A2.out w1)).mono ?_; rw [text_ex]; rintro e w2 ⟨rfl, b2⟩; have b2' := below_next (below_alloc b1' (.cells #[.int .i64 5, .int .i64 7] 70)) b2; have z0 := (b2.cell (p := ⟨g1, o1 + 2, none⟩) (by simp; omega)).trans ((World.cell?_alloc_lt w1 _ ⟨g1, o1 + 2, none⟩ hg1).trans x0); have z1 := (b2.cell (p := ⟨g1, o1 + 2 + 1, none⟩) (by simp; omega)).trans ((World.cell?_alloc_lt w1 _ ⟨g1, o1 + 2 + 1, none⟩ hg1).trans x1); clear x0 x1))
  go_ret
  exact ⟨rfl, b2'⟩
end Go.Proofs.Ytlbfcbmfpnfheaa


/-
  MUTATIONS AND STAMPS by value that came in; THE WALK of MutOrder.
-/
namespace Go.Proofs.Ytlbfcbmfpnfheaa
open Go.RowKit Go.Shelf Go.ChangeShapes Go.WideShapes Go.Deep

theorem argP_of {H : Type} {enc : TypeId × Value → H} {w : World} {base : Nat} {spare : Nat → Bool} {held : Bool} {t e : TypeId} {f0 f1 : Field} {fuel : Nat} {v : Value} {x : DataW H × List MemPlace}
    (ht : Try.prog.underlying t = some (.slice e)) (he : Try.prog.underlying e = some (.struct #[f0, f1])) (ce : Try.prog.cellsOf e = 2) (o0 : f0.offset = 0) (o1 : f1.offset = 1) (t0 : f0.type = 3) (t1 : f1.type = 3) (ci : Try.prog.cellsOf 3 = 1)
    (hf : DataW.trod enc Try.prog w base spare held fuel t [v] = some x) : ∃ a n c ps, v = .slice a n c ∧ Arg w a n c ps := by
  rcases open_slice_pairs ht he ce o0 o1 (by rw [t0]; exact ci) (by rw [t1]; exact ci) hf with ⟨hcs, _⟩ | ⟨x, len, c, m, n, V0, V1, D0, D1, P0, P1, hcs, _, hl, hm, hmm, _, hx⟩
  · exact ⟨none, 0, 0, [], by simpa using hcs, rfl, by simp, Nat.le_refl _, Nat.zero_le _, PIn.nil _ _ _⟩
  · have hlm : len ≤ m := by rw [hmm]; split <;> omega
    have each : ∀ i, i < len → ∃ q : Int × Int, w.cell? (x.add (i * 2)) = some (.int .i64 q.1) ∧ w.cell? (x.add (i * 2 + 1)) = some (.int .i64 q.2) := by
      intro i hi'
      obtain ⟨c1, c2, r1, r2⟩ := hx i (by omega)
      rw [t0] at r1
      rw [t1] at r2
      obtain ⟨y0, e0, _, _⟩ := DataW.trod_int Try.underlying3 r1
      obtain ⟨y1, e1, _, _⟩ := DataW.trod_int Try.underlying3 r2
      simp at e0 e1
      rw [e0] at c1
      rw [e1] at c2
      exact ⟨(y0, y1), c1, c2⟩
    let q : Nat → Int × Int := fun i => if h : i < len then Classical.choose (each i h) else (0, 0)
    have hq : ∀ i (h : i < len), w.cell? (x.add (i * 2)) = some (.int .i64 (q i).1) ∧ w.cell? (x.add (i * 2 + 1)) = some (.int .i64 (q i).2) := by
      intro i h
      have := Classical.choose_spec (each i h)
      simp only [q, dif_pos h]
      exact this
    have hlen : ((List.range len).map q).length = len := by simp
    refine ⟨some x, len, c, (List.range len).map q, by simpa using hcs, hlen.symm, by rw [hlen]; unfold maxLen at hm; omega, by rw [hlen]; exact hl, hm, fun k hk => ?_⟩
    rw [hlen] at hk
    obtain ⟨b, off, spot⟩ := x
    obtain ⟨c1, c2⟩ := hq k hk
    have hspot : spot = none := by simpa [Addr.add] using World.cell?_spot (hq 0 (by omega)).1
    subst hspot
    have h2 : ((List.range len).map q).getD k (0, 0) = q k := by simp [List.getD, hk]
    rw [h2]
    rw [addr_add] at c1 c2
    exact ⟨b, off, rfl, World.block_lt_of_cell? w _ c1, c1, c2⟩
set_option maxRecDepth 100000 in
theorem mutVal_of {H : Type} {enc : TypeId × Value → H} {w : World} {r : Reach} {b0 base : Nat} {spare : Nat → Bool} {held : Bool} {v : Value} {d : DataW H} {p : List MemPlace}
    (hv : Value.okWide Try.prog w r b0 26 v) (h : DataW.Trod enc Try.prog w base spare held 26 v d p) :
    ∃ (c s k : Int) (a : Option Addr) (n cp : Nat) (l : List Sp) (lo hi old : Int), Arg w a n cp l ∧ v = .agg #[.int .i64 c, .int .i64 s, .int .i64 k, .slice a n cp, .int .i64 lo, .int .i64 hi, .int .i64 old] := by
  have kI : Try.prog.cellsOf 3 = 1 := by kernel_rfl
  have kS : Try.prog.cellsOf 22 = 1 := by kernel_rfl
  have kP : Try.prog.cellsOf 24 = 2 := by kernel_rfl
  have kM : Try.prog.cellsOf 26 = 7 := by kernel_rfl
  obtain ⟨cs, rfl, hsz⟩ := okWide_struct Try.underlying26 hv
  obtain ⟨cl⟩ := cs
  match cl, hsz.trans kM with
  | [v0, v1, v2, v3, v4, v5, v6], _ =>
    obtain ⟨fuel, hf⟩ := h
    obtain ⟨xs, n, _, _, _, hlen, hg⟩ := DataW.trod_struct Try.underlying26 hf
    match xs, hlen with
    | [y0, y1, y2, y3, y4, y5], _ =>
      have g0 : DataW.trod enc Try.prog w base spare held n 3 [v0] = some y0 := by simpa [Value.cells, kI] using hg 0 _ rfl
      have g1 : DataW.trod enc Try.prog w base spare held n 3 [v1] = some y1 := by simpa [Value.cells, kI] using hg 1 _ rfl
      have g2 : DataW.trod enc Try.prog w base spare held n 3 [v2] = some y2 := by simpa [Value.cells, kI] using hg 2 _ rfl
      have g3 : DataW.trod enc Try.prog w base spare held n 22 [v3] = some y3 := by simpa [Value.cells, kS] using hg 3 _ rfl
      have g4 : DataW.trod enc Try.prog w base spare held n 24 [v4, v5] = some y4 := by simpa [Value.cells, kP] using hg 4 _ rfl
      have g5 : DataW.trod enc Try.prog w base spare held n 3 [v6] = some y5 := by simpa [Value.cells, kI] using hg 5 _ rfl
      obtain ⟨c, e0, _, _⟩ := DataW.trod_int Try.underlying3 g0
      obtain ⟨s, e1, _, _⟩ := DataW.trod_int Try.underlying3 g1
      obtain ⟨k, e2, _, _⟩ := DataW.trod_int Try.underlying3 g2
      obtain ⟨a, nn, cp, l, e3, hA⟩ := argP_of Try.underlying22 Try.underlying70 (by kernel_rfl) rfl rfl rfl rfl kI g3
      obtain ⟨xs4, n4, _, _, _, hlen4, hg4⟩ := DataW.trod_struct Try.underlying24 g4
      match xs4, hlen4 with
      | [z0, z1], _ =>
        have m0 : DataW.trod enc Try.prog w base spare held n4 3 [v4] = some z0 := by simpa [kI] using hg4 0 _ rfl
        have m1 : DataW.trod enc Try.prog w base spare held n4 3 [v5] = some z1 := by simpa [kI] using hg4 1 _ rfl
        obtain ⟨lo, e4, _, _⟩ := DataW.trod_int Try.underlying3 m0
        obtain ⟨hi, e5, _, _⟩ := DataW.trod_int Try.underlying3 m1
        obtain ⟨old, e6, _, _⟩ := DataW.trod_int Try.underlying3 g5
        simp at e0 e1 e2 e4 e5 e6
        refine ⟨c, s, k, a, nn, cp, l, lo, hi, old, hA, ?_⟩
        rw [e0, e1, e2, e3, e4, e5, e6]
set_option maxRecDepth 100000 in
theorem stampVal_of {H : Type} {enc : TypeId × Value → H} {w : World} {r : Reach} {b0 base : Nat} {spare : Nat → Bool} {held : Bool} {v : Value} {d : DataW H} {p : List MemPlace}
    (hv : Value.okWide Try.prog w r b0 47 v) (h : DataW.Trod enc Try.prog w base spare held 47 v d p) : ∃ t c s : Int, v = .agg #[.int .i64 t, .int .i64 c, .int .i64 s] := by
  obtain ⟨v0, v1, v2, y0, y1, y2, n, rfl, _, _, r1, r2, r3⟩ := Go.Joins.open_agg3 Try.underlying47 (by kernel_rfl) (by kernel_rfl) hv h
  obtain ⟨x, e0, _, _⟩ := DataW.trod_int Try.underlying3 r1
  obtain ⟨y, e1, _, _⟩ := DataW.trod_int Try.underlying3 r2
  obtain ⟨z, e2, _, _⟩ := DataW.trod_int Try.underlying3 r3
  simp at e0 e1 e2
  rw [e0, e1, e2]
  exact ⟨x, y, z, rfl⟩

/-! How stamps stand. -/
theorem cmp_cases (t1 c1 s1 t2 c2 s2 : Int) : (cmpS t1 c1 s1 t2 c2 s2 = 0 ∧ t1 = t2 ∧ c1 = c2 ∧ s1 = s2) ∨ (cmpS t1 c1 s1 t2 c2 s2 = -1 ∧ (t1 < t2 ∨ t1 = t2 ∧ (c1 < c2 ∨ c1 = c2 ∧ s1 < s2))) ∨ (cmpS t1 c1 s1 t2 c2 s2 = 1 ∧ (t2 < t1 ∨ t1 = t2 ∧ (c2 < c1 ∨ c1 = c2 ∧ s2 < s1))) := by
  unfold cmpS befB
  by_cases h1 : t1 = t2
  · by_cases h2 : c1 = c2
    · by_cases h3 : s1 = s2
      · left; simp [h1, h2, h3]
      · by_cases h4 : s1 < s2
        · right; left; simp [h1, h2, h3, h4]
        · right; right; simp [h1, h2, h3, h4]; omega
    · by_cases h4 : c1 < c2
      · right; left; simp [h1, h2, h4]
      · right; right; simp [h1, h2, h4]; omega
  · by_cases h4 : t1 < t2
    · right; left; simp [h1, h4]
    · right; right; simp [h1, h4]; omega
theorem cmp_neg (t1 c1 s1 t2 c2 s2 : Int) : cmpS t1 c1 s1 t2 c2 s2 = -cmpS t2 c2 s2 t1 c1 s1 := by
  rcases cmp_cases t1 c1 s1 t2 c2 s2 with ⟨e, h⟩ | ⟨e, h⟩ | ⟨e, h⟩ <;> rcases cmp_cases t2 c2 s2 t1 c1 s1 with ⟨f, g⟩ | ⟨f, g⟩ | ⟨f, g⟩ <;> rw [e, f] <;> omega
theorem cmp_trans {t1 c1 s1 t2 c2 s2 t3 c3 s3 : Int} (h1 : cmpS t1 c1 s1 t2 c2 s2 ≤ 0) (h2 : cmpS t2 c2 s2 t3 c3 s3 ≤ 0) : cmpS t1 c1 s1 t3 c3 s3 ≤ 0 := by
  rcases cmp_cases t1 c1 s1 t2 c2 s2 with ⟨e, h⟩ | ⟨e, h⟩ | ⟨e, h⟩ <;> rcases cmp_cases t2 c2 s2 t3 c3 s3 with ⟨f, g⟩ | ⟨f, g⟩ | ⟨f, g⟩ <;> rcases cmp_cases t1 c1 s1 t3 c3 s3 with ⟨j, i⟩ | ⟨j, i⟩ | ⟨j, i⟩ <;> omega
theorem cmp_bd (t1 c1 s1 t2 c2 s2 : Int) : -1 ≤ cmpS t1 c1 s1 t2 c2 s2 ∧ cmpS t1 c1 s1 t2 c2 s2 ≤ 1 := by
  rcases cmp_cases t1 c1 s1 t2 c2 s2 with ⟨e, h⟩ | ⟨e, h⟩ | ⟨e, h⟩ <;> omega

/-- Three boxes of three cells, behind calls. -/
theorem st9 {w W : World} {ta tb tc : TypeId} {a0 a1 a2 b0 b1 b2 c0 c1 c2 : Value} (h : Below (((w.alloc (.cells #[a0, a1, a2] ta)).alloc (.cells #[b0, b1, b2] tb)).alloc (.cells #[c0, c1, c2] tc)).heap.size (((w.alloc (.cells #[a0, a1, a2] ta)).alloc (.cells #[b0, b1, b2] tb)).alloc (.cells #[c0, c1, c2] tc)) W) :
    W.cell? ⟨w.heap.size, 0, none⟩ = some a0 ∧ W.cell? ⟨w.heap.size, 1, none⟩ = some a1 ∧ W.cell? ⟨w.heap.size, 2, none⟩ = some a2 ∧ W.cell? ⟨w.heap.size + 1, 0, none⟩ = some b0 ∧ W.cell? ⟨w.heap.size + 1, 1, none⟩ = some b1 ∧ W.cell? ⟨w.heap.size + 1, 2, none⟩ = some b2 ∧
    W.cell? ⟨w.heap.size + 2, 0, none⟩ = some c0 ∧ W.cell? ⟨w.heap.size + 2, 1, none⟩ = some c1 ∧ W.cell? ⟨w.heap.size + 2, 2, none⟩ = some c2 := by
  have A := fun i => h.cell (p := ⟨w.heap.size, i, none⟩) (by simp; omega)
  have B := fun i => h.cell (p := ⟨w.heap.size + 1, i, none⟩) (by simp)
  have C := fun i => h.cell (p := ⟨w.heap.size + 2, i, none⟩) (by simp)
  rw [A, A, A, B, B, B, C, C, C]
  have z1 : (w.alloc (.cells #[a0, a1, a2] ta)).heap.size = w.heap.size + 1 := by simp
  have z2 : ((w.alloc (.cells #[a0, a1, a2] ta)).alloc (.cells #[b0, b1, b2] tb)).heap.size = w.heap.size + 2 := by simp
  have n1 : ∀ i, (((w.alloc (.cells #[a0, a1, a2] ta)).alloc (.cells #[b0, b1, b2] tb)).alloc (.cells #[c0, c1, c2] tc)).cell? ⟨w.heap.size, i, none⟩ = (w.alloc (.cells #[a0, a1, a2] ta)).cell? ⟨w.heap.size, i, none⟩ := fun i => by
    rw [World.cell?_alloc_lt _ _ ⟨w.heap.size, i, none⟩ (by rw [z2]; show w.heap.size < _; omega), World.cell?_alloc_lt _ _ ⟨w.heap.size, i, none⟩ (by rw [z1]; show w.heap.size < _; omega)]
  have n2 : ∀ i, (((w.alloc (.cells #[a0, a1, a2] ta)).alloc (.cells #[b0, b1, b2] tb)).alloc (.cells #[c0, c1, c2] tc)).cell? ⟨w.heap.size + 1, i, none⟩ = #[b0, b1, b2][i]? := fun i => by
    rw [World.cell?_alloc_lt _ _ ⟨w.heap.size + 1, i, none⟩ (by rw [z2]; show w.heap.size + 1 < _; omega), ← z1]
    exact cell_of_row _ _ _ _ _ _ (heap_alloc_new _ _)
  have n3 : ∀ i, (((w.alloc (.cells #[a0, a1, a2] ta)).alloc (.cells #[b0, b1, b2] tb)).alloc (.cells #[c0, c1, c2] tc)).cell? ⟨w.heap.size + 2, i, none⟩ = #[c0, c1, c2][i]? := fun i => by
    rw [← z2]
    exact cell_of_row _ _ _ _ _ _ (heap_alloc_new _ _)
  have n0 : ∀ i, (w.alloc (.cells #[a0, a1, a2] ta)).cell? ⟨w.heap.size, i, none⟩ = #[a0, a1, a2][i]? := fun i => cell_of_row _ _ _ _ _ _ (heap_alloc_new _ _)
  rw [n1, n1, n1, n2, n2, n2, n3, n3, n3, n0, n0, n0]
  exact ⟨rfl, rfl, rfl, rfl, rfl, rfl, rfl, rfl, rfl⟩
end Go.Proofs.Ytlbfcbmfpnfheaa
