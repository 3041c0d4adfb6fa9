/-
  CONTRACT of Text (of a mutation).
-/
import Derived.Test.YtfnjadiibiedgaaMutF
namespace Go.Proofs.Ytfnjadiibiedgaa
open Go.RowKit Go.Shelf

def bl (s : ByteArray) : List UInt8 := s.data.toList
def numsT (ns : List Int) : List UInt8 := ns.flatMap fun n => bl (numS n)
def pairsT (l : List Sp) : List UInt8 := l.flatMap fun p => bl (numS p.1) ++ bl (wholeS p.2)
def tailT (k lo hi old : Int) : List UInt8 := if k = 2 then bl (numS lo) ++ bl (numS hi) else if k = 4 then bl (wholeS old) else []
def bodyT (c s k : Int) (l : List Sp) (lo hi old : Int) : List UInt8 := numsT [c, s, k, (l.length : Int)] ++ pairsT l ++ tailT k lo hi old
def textT (c s k : Int) (l : List Sp) (lo hi old : Int) : List UInt8 := if chkM c s k l lo hi old = true then bodyT c s k l lo hi old else []
theorem numsT_snoc (l : List Int) (x : Int) : numsT (l ++ [x]) = numsT l ++ bl (numS x) := by simp [numsT]
theorem pairsT_snoc (l : List Sp) (p : Sp) : pairsT (l ++ [p]) = pairsT l ++ bl (numS p.1) ++ bl (wholeS p.2) := by simp [pairsT]
theorem numS_size {n : Int} (h : n ≤ 9223372036854775807) : (numS n).size ≤ 9 := by
  unfold numS
  split
  · show (0 : Nat) ≤ 9; omega
  · have := numL_len9 (n := n.toNat) (by omega)
    show (numL n.toNat).toArray.size ≤ 9
    simpa using this
theorem wholeS_size (z : Int) : (wholeS z).size ≤ 9 := by
  cases h : mayZ z
  · rw [wholeS_no h]; show (0 : Nat) ≤ 9; omega
  · rw [wholeS_yes h]
    have h1 := foldZ_le h
    have h2 := foldZ_nonneg z
    have := numL_len9 (n := (foldZ z).toNat) (by omega)
    show (numL (foldZ z).toNat).toArray.size ≤ 9
    simpa using this

/-- Where a text is being built: the builder in block B, its bytes, and what else lies as in w0. -/
structure TS (w0 : World) (B : Nat) (L : List UInt8) (m : Nat) (W : World) : Prop where
  bld : Bld B B L W
  len : L.length ≤ m
  low : Below B w0 W
  kept : KeptO w0 W
  sz : B < W.heap.size
theorem TS.below {w0 W W' : World} {B m : Nat} {L : List UInt8} (h : TS w0 B L m W) (hb : Below W.heap.size W W') : TS w0 B L m W' :=
  ⟨bld_below h.bld hb, h.len, h.low.trans (hb.mono (Nat.le_of_lt h.sz)), h.kept.trans (KeptO.below hb), Nat.lt_of_lt_of_le h.sz hb.size⟩
theorem num_ts {w0 W : World} {B m : Nat} {L : List UInt8} (h : TS w0 B L m W) (x : Int) (hx : x ≤ 9223372036854775807) :
    Calls Try.prog 63 #[.int .i64 x] W fun e w' => e = .returned (.string (numS x)) ∧ TS w0 B L m w' := (num_any x W hx).mono fun _ _ ⟨he, hb⟩ => ⟨he, h.below hb⟩
theorem whole_ts {w0 W : World} {B m : Nat} {L : List UInt8} (h : TS w0 B L m W) (x : Int) :
    Calls Try.prog 64 #[.int .i64 x] W fun e w' => e = .returned (.string (wholeS x)) ∧ TS w0 B L m w' := (whole_any x W).mono fun _ _ ⟨he, hb⟩ => ⟨he, h.below hb⟩
theorem write_ts {w0 W : World} {B m : Nat} {L : List UInt8} (h : TS w0 B L m W) (s : ByteArray) (hs : s.size ≤ 9) (hm : m ≤ 100000) :
    Calls Try.prog 62 #[.pointer (some ⟨B, 0, none⟩), .string s] W fun e w' => e = .returned (.tuple #[.int .i64 s.size, .nilIface]) ∧ TS w0 B (L ++ bl s) (m + 9) w' :=
  (bld_write B B L s W h.bld (by have := h.len; omega) (Nat.le_of_lt h.sz)).mono fun _ _ ⟨he, h1, h2, h3⟩ => ⟨he, h1, by
    rw [List.length_append]
    have e : (bl s).length = s.size := Array.length_toList
    have := h.len
    omega, h.low.trans h2, h.kept.trans h3, Nat.lt_of_lt_of_le h.sz h2.size⟩
theorem string_ts {w0 W : World} {B m : Nat} {L : List UInt8} (h : TS w0 B L m W) :
    Calls Try.prog 65 #[.pointer (some ⟨B, 0, none⟩)] W fun e w' => e = .returned (.string ⟨L.toArray⟩) ∧ Below B w0 w' :=
  (bld_string B B L W h.bld (Nat.le_of_lt h.sz)).mono fun _ _ ⟨he, hb⟩ => ⟨he, h.low.trans hb⟩

theorem TS.comp {w0 W W' : World} {B m m' : Nat} {L L' : List UInt8} (h1 : TS w0 B L m W) (h2 : TS W B L' m' W') : TS w0 B L' m' W' := ⟨h2.bld, h2.len, h1.low.trans h2.low, h1.kept.trans h2.kept, h2.sz⟩
theorem TS.base {w0 W : World} {B m : Nat} {L : List UInt8} (h : TS w0 B L m W) : TS W B L m W := ⟨h.bld, h.len, Below.refl _ _, KeptO.refl _, h.sz⟩
theorem TS.cast {w0 W : World} {B m m' : Nat} {L L' : List UInt8} (h : TS w0 B L m W) (e : L = L') (hm : m ≤ m') : TS w0 B L' m' W := ⟨e ▸ h.bld, by rw [← e]; have := h.len; omega, h.low, h.kept, h.sz⟩
theorem cellsLow {W4 W : World} {B g i : Nat} {v : Value} (h : Below B W4 W) (hg : g < B) (e : W4.cell? ⟨g, i, none⟩ = some v) : W.cell? ⟨g, i, none⟩ = some v := (h.cell (p := ⟨g, i, none⟩) hg).trans e
theorem cellsKept {W4 W : World} {g i : Nat} {cs : Array Value} {t : TypeId} (h : KeptO W4 W) (e : W4.heap[g]? = some (.cells cs t (0, 0))) (h1 : t ≠ 5) (h2 : t ≠ 104) : W.cell? ⟨g, i, none⟩ = cs[i]? := cell_of_row W g i cs t (0, 0) (h g cs t (0, 0) e h1 h2)

theorem ret_str {a b : List UInt8} (h : a = b) : Ending.returned (.string ⟨a.toArray⟩) = .returned (.string ⟨b.toArray⟩) := by rw [h]
set_option maxRecDepth 100000 in
theorem mtext_bad (c s k : Int) (a : Option Addr) (n cp : Nat) (l : List Sp) (lo hi old : Int) (w : World) (hA : Arg w a n cp l) (hc : chkM c s k l lo hi old = false) :
    Calls Try.prog 27 #[.agg #[.int .i64 c, .int .i64 s, .int .i64 k, .slice a n cp, .int .i64 lo, .int .i64 hi, .int .i64 old]] w (Gives w (.string ⟨#[]⟩)) := by
  have hb0 : Below w.heap.size w (w.alloc (.cells #[.int .i64 c, .int .i64 s, .int .i64 k, .slice a n cp, .int .i64 lo, .int .i64 hi, .int .i64 old] 26)) := (Below.refl _ _).alloc (Nat.le_refl _) _
  have HA := Lib.hid hA
  have h1 := Lib.hid hc
  clear hA hc
  go_enter Try.func27, Try.ntmps27
  go_wp2_with (first | (go_at_call 32; (with_reducible refine (mcheck_any c s k a n cp l lo hi old _ (HA.out.below hb0)).mono ?_); rw [h1.out]; rintro e w2 ⟨rfl, b2⟩; have b02 := below_next hb0 b2; have bx := box7 b2))
  go_ret
  exact ⟨rfl, b02⟩

set_option maxRecDepth 100000 in
set_option maxHeartbeats 4000000 in
theorem mtext_ok2 (c s : Int) (a : Option Addr) (n cp : Nat) (l : List Sp) (lo hi old : Int) (w : World) (hA : Arg w a n cp l) (hc : chkM c s 2 l lo hi old = true) :
    Calls Try.prog 27 #[.agg #[.int .i64 c, .int .i64 s, .int .i64 2, .slice a n cp, .int .i64 lo, .int .i64 hi, .int .i64 old]] w (Gives w (.string ⟨(bodyT c s 2 l lo hi old).toArray⟩)) := by
  have hb0 : Below w.heap.size w (w.alloc (.cells #[.int .i64 c, .int .i64 s, .int .i64 2, .slice a n cp, .int .i64 lo, .int .i64 hi, .int .i64 old] 26)) := (Below.refl _ _).alloc (Nat.le_refl _) _
  have hcs := chkM_and hc
  have hC := of_decide_eq_true hcs.1
  have hS := of_decide_eq_true hcs.2.1
  have hv := fits_kind hcs.2.2.2
  have hn := hA.1
  have hl8 : l.length ≤ 8 ∧ okPs l = true := by
    rcases hv with h | h
    · rw [h.2.1]; exact ⟨by simp, rfl⟩
    · exact ⟨h.2.2.2, h.2.1⟩
  have hK : (2 : Int) ≤ 5 ∧ ((2 : Int) = 2 → lo ≤ 4096 ∧ hi ≤ 4096) := by
    rcases hv with ⟨e, _, h⟩ | ⟨e, _⟩
    · have := (oneB_iff (lo, hi)).1 h
      dsimp only at this
      exact ⟨by omega, fun _ => by omega⟩
    · exact ⟨by omega, fun h => by omega⟩
  obtain ⟨hK5, hKo⟩ := hK
  obtain ⟨hlo, hhi⟩ := hKo rfl
  have hlo' : lo ≤ 9223372036854775807 := by omega
  have hhi' : hi ≤ 9223372036854775807 := by omega
  clear hKo
  have hn8 : n ≤ 8 := by omega
  have HV := Lib.hid hl8.2
  have HA := Lib.hid hA
  have h1 := Lib.hid hc
  have HT := Lib.hid (show bodyT c s 2 l lo hi old = numsT [c, s, 2, (n : Int)] ++ pairsT l ++ (bl (numS lo) ++ bl (numS hi)) by rw [hn]; rfl)
  replace hn := Lib.hid hn
  obtain ⟨R, hR⟩ : ∃ R, bodyT c s 2 l lo hi old = R := ⟨_, rfl⟩
  rw [hR] at HT ⊢
  replace hR := Lib.hid hR
  obtain ⟨c0, c1⟩ := hC
  obtain ⟨s0, s1⟩ := hS
  clear hA hc hcs hv hl8
  go_enter Try.func27, Try.ntmps27
  go_wp2_with (first | (go_at_call 32; (with_reducible refine (mcheck_any c s 2 a n cp l lo hi old _ (HA.out.below hb0)).mono ?_); rw [h1.out]; rintro e w2 ⟨rfl, b2⟩; have b02 := below_next hb0 b2; have bx := box7 b2; obtain ⟨W3, hW3⟩ : ∃ W3, w2.alloc (.cells #[.pointer none, .slice none 0 0] 104) = W3 := ⟨_, rfl⟩; have b23 : Below w2.heap.size w2 W3 := (by rw [← hW3]; exact (Below.refl _ _).alloc (Nat.le_refl _) _); obtain ⟨x0, x1, x2, x3, x4, x5, x6⟩ := box7 (below_next b2 b23); obtain ⟨W4, hW4⟩ : ∃ W4, W3.alloc (.cells #[.int .i64 c, .int .i64 s, .int .i64 2, .int .i64 (n : Int)] 3) = W4 := ⟨_, rfl⟩))
  have hB3 : w2.heap.size < W3.heap.size := by rw [← hW3]; simp
  have hgi : W4.heap[W3.heap.size]? = some (.cells #[.int .i64 c, .int .i64 s, .int .i64 2, .int .i64 (n : Int)] 3 (0, 0)) := by rw [← hW4]; exact heap_alloc_new W3 _
  have b34 : Below W3.heap.size W3 W4 := by rw [← hW4]; exact (Below.refl _ _).alloc (Nat.le_refl _) _
  have bB0 : Bld w2.heap.size w2.heap.size [] W3 := by rw [← hW3]; exact bld_new w2
  have b04 : Below w.heap.size w W4 := below_next (below_next b02 b23) b34
  have hgB : w.heap.size < w2.heap.size := Nat.lt_of_lt_of_le (by simp) b2.size
  have HB := Lib.hid (TS.mk (w0 := W4) (B := w2.heap.size) (L := []) (m := 0) (W := W4) (bld_below bB0 b34) (Nat.le_refl _) (Below.refl _ _) (KeptO.refl _) (Nat.lt_of_lt_of_le hB3 b34.size))
  have y2 := cellsLow (b34.mono (Nat.le_of_lt hB3)) hgB x2
  have y3 := cellsLow (b34.mono (Nat.le_of_lt hB3)) hgB x3
  have y4 := cellsLow (b34.mono (Nat.le_of_lt hB3)) hgB x4
  have y5 := cellsLow (b34.mono (Nat.le_of_lt hB3)) hgB x5
  have y6 := cellsLow (b34.mono (Nat.le_of_lt hB3)) hgB x6
  replace hgi := Lib.hid hgi
  replace y2 := Lib.hid y2
  replace y3 := Lib.hid y3
  replace y4 := Lib.hid y4
  replace y5 := Lib.hid y5
  replace y6 := Lib.hid y6
  replace hW3 := Lib.hid hW3
  replace hW4 := Lib.hid hW4
  clear x0 x1 x2 x3 x4 x5 x6 bx bB0
  generalize w2.heap.size = B at *
  generalize W3.heap.size = gi at *
  go_wp2_with fail
  go_loopw [5, 22] (fun _ i wr => ∃ (j : Nat), i = .int .i64 (j : Int) ∧ j ≤ 4 ∧ Hid (TS W4 B (numsT ([c, s, 2, (n : Int)].take j)) (9 * j) wr))
    (fun _ i _ => 4 - (intOf i).toNat)
  case atStart => exact ⟨0, rfl, by omega, HB⟩
  case round =>
    obtain ⟨j, rfl, hj, HB⟩ := hrel
    by_cases hlt : j < 4
    · have hjz : (j : Int) < 4 := by omega
      have hcell := cellsKept (i := j) HB.out.kept hgi.out (by decide) (by decide)
      obtain ⟨x, hx, hxb, hxn⟩ : ∃ x : Int, wr.cell? ⟨gi, j, none⟩ = some (.int .i64 x) ∧ x ≤ 9223372036854775807 ∧ numsT ([c, s, 2, (n : Int)].take (j + 1)) = numsT ([c, s, 2, (n : Int)].take j) ++ bl (numS x) := by
        match j, hlt with
        | 0, _ => exact ⟨c, hcell, by omega, numsT_snoc [] c⟩
        | 1, _ => exact ⟨s, hcell, by omega, (numsT_snoc [c] s)⟩
        | 2, _ => exact ⟨2, hcell, by omega, (numsT_snoc [c, s] 2)⟩
        | 3, _ => exact ⟨n, hcell, by omega, (numsT_snoc [c, s, 2] n)⟩
      clear hcell
      replace hxn := Lib.hid hxn
      go_wp2_with (first | (go_at_call 63; (with_reducible refine (num_ts HB.out x hxb).mono ?_); rintro e w' ⟨rfl, hh⟩; replace HB := Lib.hid hh) | (go_at_call 62; (with_reducible refine (write_ts HB.out (numS x) (numS_size hxb) (by omega)).mono ?_); rintro e w' ⟨rfl, hh⟩; replace HB := Lib.hid hh))
      go_roundw
      case rel => exact ⟨j + 1, by go_num, by omega, Lib.hid (HB.out.cast hxn.out.symm (by omega))⟩
      case measure => simp [intOf]; omega
    · have hj4 : j = 4 := by omega
      have hB4 : TS W4 B (numsT [c, s, 2, (n : Int)]) 36 wr := by have := HB.out; rw [hj4] at this; exact this
      replace HB := Lib.hid hB4
      have hjz : ¬ (j : Int) < 4 := by omega
      have q3 := cellsLow HB.out.low hgB y3.out
      clear hB4
      rw [hj4]
      rw [show ((4 : Nat) : Int) = 4 from rfl]
      replace hj4 := Lib.hid hj4
      go_wp2_with fail
      go_loopw [7, 33] (fun _ i wr => ∃ (j : Nat), i = .int .i64 (j : Int) ∧ j ≤ n ∧ Hid (TS W4 B (numsT [c, s, 2, (n : Int)] ++ pairsT (l.take j)) (36 + 18 * j) wr))
        (fun _ i _ => n - (intOf i).toNat)
      case atStart => exact ⟨0, rfl, by omega, Lib.hid (HB.out.cast (by simp [pairsT]) (by omega))⟩
      case round =>
        obtain ⟨j, rfl, hj, HC⟩ := hrel
        have bw : Below w.heap.size w wr := b04.trans (HC.out.low.mono (Nat.le_of_lt hgB))
        by_cases hlt : j < n
        · have hjl : j < l.length := by rw [← hn.out]; exact hlt
          obtain ⟨b, off, e, hb, d0, d1⟩ := (HA.out.2.2.2.2.below bw) j hjl
          subst e
          obtain ⟨p, hp⟩ : ∃ t, l.getD j (0, 0) = t := ⟨_, rfl⟩
          rw [hp] at d0 d1
          have hbd := (okP_bd (okPs_get HV.out hjl)).1
          rw [hp] at hbd
          have hnext : pairsT (l.take (j + 1)) = pairsT (l.take j) ++ bl (numS p.1) ++ bl (wholeS p.2) := by rw [take_more hjl, pairsT_snoc, hp]
          replace hnext := Lib.hid hnext
          replace hp := Lib.hid hp
          obtain ⟨x, y⟩ := p
          dsimp only at d0 d1 hbd
          obtain ⟨X0, X1⟩ := hbd
          obtain ⟨Wp, hWp⟩ : ∃ Wp, wr.alloc (.cells #[.int .i64 x, .int .i64 y] 90) = Wp := ⟨_, rfl⟩
          have hgp : Wp.heap[wr.heap.size]? = some (.cells #[.int .i64 x, .int .i64 y] 90 (0, 0)) := by rw [← hWp]; exact heap_alloc_new wr _
          have e0 : Wp.cell? ⟨wr.heap.size, 0, none⟩ = some (.int .i64 x) := by rw [← hWp]; simp
          have HP := Lib.hid (HC.out.below (W' := Wp) (by rw [← hWp]; exact (Below.refl _ _).alloc (Nat.le_refl _) _))
          have HB := Lib.hid HP.out.base
          replace hgp := Lib.hid hgp
          have hxb : x ≤ 9223372036854775807 := by omega
          clear d0
          have d0 : wr.cell? ⟨b, off + j * 2, none⟩ = some (.int .i64 x) := by
            obtain ⟨b', off', e, _, c0', _⟩ := (HA.out.2.2.2.2.below bw) j hjl
            cases e
            rw [hp.out] at c0'
            exact c0'
          go_wp2_with (first | (go_at_call 63; (with_reducible refine (num_ts HB.out x hxb).mono ?_); rintro e w' ⟨rfl, hh⟩; replace HB := Lib.hid hh) | (go_at_call 62; (with_reducible refine (write_ts HB.out (numS x) (numS_size hxb) (by omega)).mono ?_); rintro e w' ⟨rfl, hh⟩; replace HB := Lib.hid hh; have e1 : World.cell? w' ⟨wr.heap.size, 1, none⟩ = some (.int .i64 y) := cellsKept (i := 1) HB.out.kept hgp.out (by decide) (by decide)) | (go_at_call 64; (with_reducible refine (whole_ts HB.out y).mono ?_); rintro e w' ⟨rfl, hh⟩; replace HB := Lib.hid hh) | (go_at_call 62; (with_reducible refine (write_ts HB.out (wholeS y) (wholeS_size y) (by omega)).mono ?_); rintro e w' ⟨rfl, hh⟩; replace HB := Lib.hid hh))
          go_roundw
          case rel => exact ⟨j + 1, by go_num, by omega, Lib.hid ((HP.out.comp HB.out).cast (by rw [hnext.out]; simp [List.append_assoc]) (by omega))⟩
          case measure => simp [intOf]; omega
        · have hjn : j = n := by omega
          have hB5 : TS W4 B (numsT [c, s, 2, (n : Int)] ++ pairsT l) (36 + 18 * n) wr := by have := HC.out; rw [hjn, show l.take n = l from List.take_of_length_le (by rw [hn.out]; omega)] at this; exact this
          replace HB := Lib.hid hB5
          have hjz : ¬ (j : Int) < (n : Int) := by omega
          have q2 := cellsLow HB.out.low hgB y2.out
          have q4 := cellsLow HB.out.low hgB y4.out
          have q5 := cellsLow HB.out.low hgB y5.out
          have q6 := cellsLow HB.out.low hgB y6.out
          clear hB5 q3
          replace hjn := Lib.hid hjn
          go_wp2_with (first | (go_at_call 63; (with_reducible refine (num_ts HB.out lo hlo').mono ?_); rintro e w' ⟨rfl, hh⟩; replace HB := Lib.hid hh) | (go_at_call 62; (with_reducible refine (write_ts HB.out (numS lo) (numS_size hlo') (by omega)).mono ?_); rintro e w' ⟨rfl, hh⟩; replace HB := Lib.hid hh; have q4 := cellsLow HB.out.low hgB y4.out; have q5 := cellsLow HB.out.low hgB y5.out; have q6 := cellsLow HB.out.low hgB y6.out) | (go_at_call 63; (with_reducible refine (num_ts HB.out hi hhi').mono ?_); rintro e w' ⟨rfl, hh⟩; replace HB := Lib.hid hh) | (go_at_call 62; (with_reducible refine (write_ts HB.out (numS hi) (numS_size hhi') (by omega)).mono ?_); rintro e w' ⟨rfl, hh⟩; replace HB := Lib.hid hh; have q4 := cellsLow HB.out.low hgB y4.out; have q5 := cellsLow HB.out.low hgB y5.out; have q6 := cellsLow HB.out.low hgB y6.out) | (go_at_call 65; (with_reducible refine (string_ts HB.out).mono ?_); rintro e w9 ⟨rfl, b9⟩))
          go_ret
          exact ⟨ret_str (by rw [HT.out]; simp [List.append_assoc]), b04.trans (b9.mono (Nat.le_of_lt hgB))⟩

set_option maxRecDepth 100000 in
set_option maxHeartbeats 4000000 in
theorem mtext_ok4 (c s : Int) (a : Option Addr) (n cp : Nat) (l : List Sp) (lo hi old : Int) (w : World) (hA : Arg w a n cp l) (hc : chkM c s 4 l lo hi old = true) :
    Calls Try.prog 27 #[.agg #[.int .i64 c, .int .i64 s, .int .i64 4, .slice a n cp, .int .i64 lo, .int .i64 hi, .int .i64 old]] w (Gives w (.string ⟨(bodyT c s 4 l lo hi old).toArray⟩)) := by
  have hb0 : Below w.heap.size w (w.alloc (.cells #[.int .i64 c, .int .i64 s, .int .i64 4, .slice a n cp, .int .i64 lo, .int .i64 hi, .int .i64 old] 26)) := (Below.refl _ _).alloc (Nat.le_refl _) _
  have hcs := chkM_and hc
  have hC := of_decide_eq_true hcs.1
  have hS := of_decide_eq_true hcs.2.1
  have hv := fits_kind hcs.2.2.2
  have hn := hA.1
  have hl8 : l.length ≤ 8 ∧ okPs l = true := by
    rcases hv with h | h
    · rw [h.2.1]; exact ⟨by simp, rfl⟩
    · exact ⟨h.2.2.2, h.2.1⟩
  have hK : (4 : Int) ≤ 5 ∧ ((2 : Int) = 4 → lo ≤ 4096 ∧ hi ≤ 4096) := by
    rcases hv with ⟨e, _, h⟩ | ⟨e, _⟩
    · have := (oneB_iff (lo, hi)).1 h
      dsimp only at this
      exact ⟨by omega, fun _ => by omega⟩
    · exact ⟨by omega, fun h => by omega⟩
  obtain ⟨hK5, hKo⟩ := hK
  clear hKo
  have hn8 : n ≤ 8 := by omega
  have HV := Lib.hid hl8.2
  have HA := Lib.hid hA
  have h1 := Lib.hid hc
  have HT := Lib.hid (show bodyT c s 4 l lo hi old = numsT [c, s, 4, (n : Int)] ++ pairsT l ++ bl (wholeS old) by rw [hn]; rfl)
  replace hn := Lib.hid hn
  obtain ⟨R, hR⟩ : ∃ R, bodyT c s 4 l lo hi old = R := ⟨_, rfl⟩
  rw [hR] at HT ⊢
  replace hR := Lib.hid hR
  obtain ⟨c0, c1⟩ := hC
  obtain ⟨s0, s1⟩ := hS
  clear hA hc hcs hv hl8
  go_enter Try.func27, Try.ntmps27
  go_wp2_with (first | (go_at_call 32; (with_reducible refine (mcheck_any c s 4 a n cp l lo hi old _ (HA.out.below hb0)).mono ?_); rw [h1.out]; rintro e w2 ⟨rfl, b2⟩; have b02 := below_next hb0 b2; have bx := box7 b2; obtain ⟨W3, hW3⟩ : ∃ W3, w2.alloc (.cells #[.pointer none, .slice none 0 0] 104) = W3 := ⟨_, rfl⟩; have b23 : Below w2.heap.size w2 W3 := (by rw [← hW3]; exact (Below.refl _ _).alloc (Nat.le_refl _) _); obtain ⟨x0, x1, x2, x3, x4, x5, x6⟩ := box7 (below_next b2 b23); obtain ⟨W4, hW4⟩ : ∃ W4, W3.alloc (.cells #[.int .i64 c, .int .i64 s, .int .i64 4, .int .i64 (n : Int)] 3) = W4 := ⟨_, rfl⟩))
  have hB3 : w2.heap.size < W3.heap.size := by rw [← hW3]; simp
  have hgi : W4.heap[W3.heap.size]? = some (.cells #[.int .i64 c, .int .i64 s, .int .i64 4, .int .i64 (n : Int)] 3 (0, 0)) := by rw [← hW4]; exact heap_alloc_new W3 _
  have b34 : Below W3.heap.size W3 W4 := by rw [← hW4]; exact (Below.refl _ _).alloc (Nat.le_refl _) _
  have bB0 : Bld w2.heap.size w2.heap.size [] W3 := by rw [← hW3]; exact bld_new w2
  have b04 : Below w.heap.size w W4 := below_next (below_next b02 b23) b34
  have hgB : w.heap.size < w2.heap.size := Nat.lt_of_lt_of_le (by simp) b2.size
  have HB := Lib.hid (TS.mk (w0 := W4) (B := w2.heap.size) (L := []) (m := 0) (W := W4) (bld_below bB0 b34) (Nat.le_refl _) (Below.refl _ _) (KeptO.refl _) (Nat.lt_of_lt_of_le hB3 b34.size))
  have y2 := cellsLow (b34.mono (Nat.le_of_lt hB3)) hgB x2
  have y3 := cellsLow (b34.mono (Nat.le_of_lt hB3)) hgB x3
  have y4 := cellsLow (b34.mono (Nat.le_of_lt hB3)) hgB x4
  have y5 := cellsLow (b34.mono (Nat.le_of_lt hB3)) hgB x5
  have y6 := cellsLow (b34.mono (Nat.le_of_lt hB3)) hgB x6
  replace hgi := Lib.hid hgi
  replace y2 := Lib.hid y2
  replace y3 := Lib.hid y3
  replace y4 := Lib.hid y4
  replace y5 := Lib.hid y5
  replace y6 := Lib.hid y6
  replace hW3 := Lib.hid hW3
  replace hW4 := Lib.hid hW4
  clear x0 x1 x2 x3 x4 x5 x6 bx bB0
  generalize w2.heap.size = B at *
  generalize W3.heap.size = gi at *
  go_wp2_with fail
  go_loopw [5, 22] (fun _ i wr => ∃ (j : Nat), i = .int .i64 (j : Int) ∧ j ≤ 4 ∧ Hid (TS W4 B (numsT ([c, s, 4, (n : Int)].take j)) (9 * j) wr))
    (fun _ i _ => 4 - (intOf i).toNat)
  case atStart => exact ⟨0, rfl, by omega, HB⟩
  case round =>
    obtain ⟨j, rfl, hj, HB⟩ := hrel
    by_cases hlt : j < 4
    · have hjz : (j : Int) < 4 := by omega
      have hcell := cellsKept (i := j) HB.out.kept hgi.out (by decide) (by decide)
      obtain ⟨x, hx, hxb, hxn⟩ : ∃ x : Int, wr.cell? ⟨gi, j, none⟩ = some (.int .i64 x) ∧ x ≤ 9223372036854775807 ∧ numsT ([c, s, 4, (n : Int)].take (j + 1)) = numsT ([c, s, 4, (n : Int)].take j) ++ bl (numS x) := by
        match j, hlt with
        | 0, _ => exact ⟨c, hcell, by omega, numsT_snoc [] c⟩
        | 1, _ => exact ⟨s, hcell, by omega, (numsT_snoc [c] s)⟩
        | 2, _ => exact ⟨4, hcell, by omega, (numsT_snoc [c, s] 4)⟩
        | 3, _ => exact ⟨n, hcell, by omega, (numsT_snoc [c, s, 4] n)⟩
      clear hcell
      replace hxn := Lib.hid hxn
      go_wp2_with (first | (go_at_call 63; (with_reducible refine (num_ts HB.out x hxb).mono ?_); rintro e w' ⟨rfl, hh⟩; replace HB := Lib.hid hh) | (go_at_call 62; (with_reducible refine (write_ts HB.out (numS x) (numS_size hxb) (by omega)).mono ?_); rintro e w' ⟨rfl, hh⟩; replace HB := Lib.hid hh))
      go_roundw
      case rel => exact ⟨j + 1, by go_num, by omega, Lib.hid (HB.out.cast hxn.out.symm (by omega))⟩
      case measure => simp [intOf]; omega
    · have hj4 : j = 4 := by omega
      have hB4 : TS W4 B (numsT [c, s, 4, (n : Int)]) 36 wr := by have := HB.out; rw [hj4] at this; exact this
      replace HB := Lib.hid hB4
      have hjz : ¬ (j : Int) < 4 := by omega
      have q3 := cellsLow HB.out.low hgB y3.out
      clear hB4
      rw [hj4]
      rw [show ((4 : Nat) : Int) = 4 from rfl]
      replace hj4 := Lib.hid hj4
      go_wp2_with fail
      go_loopw [7, 33] (fun _ i wr => ∃ (j : Nat), i = .int .i64 (j : Int) ∧ j ≤ n ∧ Hid (TS W4 B (numsT [c, s, 4, (n : Int)] ++ pairsT (l.take j)) (36 + 18 * j) wr))
        (fun _ i _ => n - (intOf i).toNat)
      case atStart => exact ⟨0, rfl, by omega, Lib.hid (HB.out.cast (by simp [pairsT]) (by omega))⟩
      case round =>
        obtain ⟨j, rfl, hj, HC⟩ := hrel
        have bw : Below w.heap.size w wr := b04.trans (HC.out.low.mono (Nat.le_of_lt hgB))
        by_cases hlt : j < n
        · have hjl : j < l.length := by rw [← hn.out]; exact hlt
          obtain ⟨b, off, e, hb, d0, d1⟩ := (HA.out.2.2.2.2.below bw) j hjl
          subst e
          obtain ⟨p, hp⟩ : ∃ t, l.getD j (0, 0) = t := ⟨_, rfl⟩
          rw [hp] at d0 d1
          have hbd := (okP_bd (okPs_get HV.out hjl)).1
          rw [hp] at hbd
          have hnext : pairsT (l.take (j + 1)) = pairsT (l.take j) ++ bl (numS p.1) ++ bl (wholeS p.2) := by rw [take_more hjl, pairsT_snoc, hp]
          replace hnext := Lib.hid hnext
          replace hp := Lib.hid hp
          obtain ⟨x, y⟩ := p
          dsimp only at d0 d1 hbd
          obtain ⟨X0, X1⟩ := hbd
          obtain ⟨Wp, hWp⟩ : ∃ Wp, wr.alloc (.cells #[.int .i64 x, .int .i64 y] 90) = Wp := ⟨_, rfl⟩
          have hgp : Wp.heap[wr.heap.size]? = some (.cells #[.int .i64 x, .int .i64 y] 90 (0, 0)) := by rw [← hWp]; exact heap_alloc_new wr _
          have e0 : Wp.cell? ⟨wr.heap.size, 0, none⟩ = some (.int .i64 x) := by rw [← hWp]; simp
          have HP := Lib.hid (HC.out.below (W' := Wp) (by rw [← hWp]; exact (Below.refl _ _).alloc (Nat.le_refl _) _))
          have HB := Lib.hid HP.out.base
          replace hgp := Lib.hid hgp
          have hxb : x ≤ 9223372036854775807 := by omega
          clear d0
          have d0 : wr.cell? ⟨b, off + j * 2, none⟩ = some (.int .i64 x) := by
            obtain ⟨b', off', e, _, c0', _⟩ := (HA.out.2.2.2.2.below bw) j hjl
            cases e
            rw [hp.out] at c0'
            exact c0'
          go_wp2_with (first | (go_at_call 63; (with_reducible refine (num_ts HB.out x hxb).mono ?_); rintro e w' ⟨rfl, hh⟩; replace HB := Lib.hid hh) | (go_at_call 62; (with_reducible refine (write_ts HB.out (numS x) (numS_size hxb) (by omega)).mono ?_); rintro e w' ⟨rfl, hh⟩; replace HB := Lib.hid hh; have e1 : World.cell? w' ⟨wr.heap.size, 1, none⟩ = some (.int .i64 y) := cellsKept (i := 1) HB.out.kept hgp.out (by decide) (by decide)) | (go_at_call 64; (with_reducible refine (whole_ts HB.out y).mono ?_); rintro e w' ⟨rfl, hh⟩; replace HB := Lib.hid hh) | (go_at_call 62; (with_reducible refine (write_ts HB.out (wholeS y) (wholeS_size y) (by omega)).mono ?_); rintro e w' ⟨rfl, hh⟩; replace HB := Lib.hid hh))
          go_roundw
          case rel => exact ⟨j + 1, by go_num, by omega, Lib.hid ((HP.out.comp HB.out).cast (by rw [hnext.out]; simp [List.append_assoc]) (by omega))⟩
          case measure => simp [intOf]; omega
        · have hjn : j = n := by omega
          have hB5 : TS W4 B (numsT [c, s, 4, (n : Int)] ++ pairsT l) (36 + 18 * n) wr := by have := HC.out; rw [hjn, show l.take n = l from List.take_of_length_le (by rw [hn.out]; omega)] at this; exact this
          replace HB := Lib.hid hB5
          have hjz : ¬ (j : Int) < (n : Int) := by omega
          have q2 := cellsLow HB.out.low hgB y2.out
          have q4 := cellsLow HB.out.low hgB y4.out
          have q5 := cellsLow HB.out.low hgB y5.out
          have q6 := cellsLow HB.out.low hgB y6.out
          clear hB5 q3
          replace hjn := Lib.hid hjn
          go_wp2_with (first | (go_at_call 64; (with_reducible refine (whole_ts HB.out old).mono ?_); rintro e w' ⟨rfl, hh⟩; replace HB := Lib.hid hh) | (go_at_call 62; (with_reducible refine (write_ts HB.out (wholeS old) (wholeS_size old) (by omega)).mono ?_); rintro e w' ⟨rfl, hh⟩; replace HB := Lib.hid hh; have q4 := cellsLow HB.out.low hgB y4.out; have q5 := cellsLow HB.out.low hgB y5.out; have q6 := cellsLow HB.out.low hgB y6.out) | (go_at_call 65; (with_reducible refine (string_ts HB.out).mono ?_); rintro e w9 ⟨rfl, b9⟩))
          go_ret
          exact ⟨ret_str (by rw [HT.out]; simp [List.append_assoc]), b04.trans (b9.mono (Nat.le_of_lt hgB))⟩

set_option maxRecDepth 100000 in
set_option maxHeartbeats 4000000 in
theorem mtext_ok0 (c s k : Int) (a : Option Addr) (n cp : Nat) (l : List Sp) (lo hi old : Int) (w : World) (hA : Arg w a n cp l) (hc : chkM c s k l lo hi old = true) (hk : k ≠ 2 ∧ k ≠ 4) :
    Calls Try.prog 27 #[.agg #[.int .i64 c, .int .i64 s, .int .i64 k, .slice a n cp, .int .i64 lo, .int .i64 hi, .int .i64 old]] w (Gives w (.string ⟨(bodyT c s k l lo hi old).toArray⟩)) := by
  have hb0 : Below w.heap.size w (w.alloc (.cells #[.int .i64 c, .int .i64 s, .int .i64 k, .slice a n cp, .int .i64 lo, .int .i64 hi, .int .i64 old] 26)) := (Below.refl _ _).alloc (Nat.le_refl _) _
  have hcs := chkM_and hc
  have hC := of_decide_eq_true hcs.1
  have hS := of_decide_eq_true hcs.2.1
  have hv := fits_kind hcs.2.2.2
  have hn := hA.1
  have hl8 : l.length ≤ 8 ∧ okPs l = true := by
    rcases hv with h | h
    · rw [h.2.1]; exact ⟨by simp, rfl⟩
    · exact ⟨h.2.2.2, h.2.1⟩
  have hK : k ≤ 5 ∧ ((2 : Int) = k → lo ≤ 4096 ∧ hi ≤ 4096) := by
    rcases hv with ⟨e, _, h⟩ | ⟨e, _⟩
    · have := (oneB_iff (lo, hi)).1 h
      dsimp only at this
      exact ⟨by omega, fun _ => by omega⟩
    · exact ⟨by omega, fun h => by omega⟩
  obtain ⟨hK5, hKo⟩ := hK
  clear hKo
  have hn8 : n ≤ 8 := by omega
  have HV := Lib.hid hl8.2
  have HA := Lib.hid hA
  have h1 := Lib.hid hc
  have k2 : (k == 2) = false := by simpa using hk.1
  have k4 : (k == 4) = false := by simpa using hk.2
  have HKK := Lib.hid hk
  have HT := Lib.hid (show bodyT c s k l lo hi old = numsT [c, s, k, (n : Int)] ++ pairsT l ++ [] by rw [hn]; unfold bodyT tailT; rw [if_neg hk.1, if_neg hk.2])
  replace hn := Lib.hid hn
  obtain ⟨R, hR⟩ : ∃ R, bodyT c s k l lo hi old = R := ⟨_, rfl⟩
  rw [hR] at HT ⊢
  replace hR := Lib.hid hR
  obtain ⟨c0, c1⟩ := hC
  obtain ⟨s0, s1⟩ := hS
  clear hA hc hcs hv hl8 hk
  go_enter Try.func27, Try.ntmps27
  go_wp2_with (first | (go_at_call 32; (with_reducible refine (mcheck_any c s k a n cp l lo hi old _ (HA.out.below hb0)).mono ?_); rw [h1.out]; rintro e w2 ⟨rfl, b2⟩; have b02 := below_next hb0 b2; have bx := box7 b2; obtain ⟨W3, hW3⟩ : ∃ W3, w2.alloc (.cells #[.pointer none, .slice none 0 0] 104) = W3 := ⟨_, rfl⟩; have b23 : Below w2.heap.size w2 W3 := (by rw [← hW3]; exact (Below.refl _ _).alloc (Nat.le_refl _) _); obtain ⟨x0, x1, x2, x3, x4, x5, x6⟩ := box7 (below_next b2 b23); obtain ⟨W4, hW4⟩ : ∃ W4, W3.alloc (.cells #[.int .i64 c, .int .i64 s, .int .i64 k, .int .i64 (n : Int)] 3) = W4 := ⟨_, rfl⟩))
  have hB3 : w2.heap.size < W3.heap.size := by rw [← hW3]; simp
  have hgi : W4.heap[W3.heap.size]? = some (.cells #[.int .i64 c, .int .i64 s, .int .i64 k, .int .i64 (n : Int)] 3 (0, 0)) := by rw [← hW4]; exact heap_alloc_new W3 _
  have b34 : Below W3.heap.size W3 W4 := by rw [← hW4]; exact (Below.refl _ _).alloc (Nat.le_refl _) _
  have bB0 : Bld w2.heap.size w2.heap.size [] W3 := by rw [← hW3]; exact bld_new w2
  have b04 : Below w.heap.size w W4 := below_next (below_next b02 b23) b34
  have hgB : w.heap.size < w2.heap.size := Nat.lt_of_lt_of_le (by simp) b2.size
  have HB := Lib.hid (TS.mk (w0 := W4) (B := w2.heap.size) (L := []) (m := 0) (W := W4) (bld_below bB0 b34) (Nat.le_refl _) (Below.refl _ _) (KeptO.refl _) (Nat.lt_of_lt_of_le hB3 b34.size))
  have y2 := cellsLow (b34.mono (Nat.le_of_lt hB3)) hgB x2
  have y3 := cellsLow (b34.mono (Nat.le_of_lt hB3)) hgB x3
  have y4 := cellsLow (b34.mono (Nat.le_of_lt hB3)) hgB x4
  have y5 := cellsLow (b34.mono (Nat.le_of_lt hB3)) hgB x5
  have y6 := cellsLow (b34.mono (Nat.le_of_lt hB3)) hgB x6
  replace hgi := Lib.hid hgi
  replace y2 := Lib.hid y2
  replace y3 := Lib.hid y3
  replace y4 := Lib.hid y4
  replace y5 := Lib.hid y5
  replace y6 := Lib.hid y6
  replace hW3 := Lib.hid hW3
  replace hW4 := Lib.hid hW4
  clear x0 x1 x2 x3 x4 x5 x6 bx bB0
  generalize w2.heap.size = B at *
  generalize W3.heap.size = gi at *
  go_wp2_with fail
  go_loopw [5, 22] (fun _ i wr => ∃ (j : Nat), i = .int .i64 (j : Int) ∧ j ≤ 4 ∧ Hid (TS W4 B (numsT ([c, s, k, (n : Int)].take j)) (9 * j) wr))
    (fun _ i _ => 4 - (intOf i).toNat)
  case atStart => exact ⟨0, rfl, by omega, HB⟩
  case round =>
    obtain ⟨j, rfl, hj, HB⟩ := hrel
    by_cases hlt : j < 4
    · have hjz : (j : Int) < 4 := by omega
      have hcell := cellsKept (i := j) HB.out.kept hgi.out (by decide) (by decide)
      obtain ⟨x, hx, hxb, hxn⟩ : ∃ x : Int, wr.cell? ⟨gi, j, none⟩ = some (.int .i64 x) ∧ x ≤ 9223372036854775807 ∧ numsT ([c, s, k, (n : Int)].take (j + 1)) = numsT ([c, s, k, (n : Int)].take j) ++ bl (numS x) := by
        match j, hlt with
        | 0, _ => exact ⟨c, hcell, by omega, numsT_snoc [] c⟩
        | 1, _ => exact ⟨s, hcell, by omega, (numsT_snoc [c] s)⟩
        | 2, _ => exact ⟨k, hcell, by omega, (numsT_snoc [c, s] k)⟩
        | 3, _ => exact ⟨n, hcell, by omega, (numsT_snoc [c, s, k] n)⟩
      clear hcell
      replace hxn := Lib.hid hxn
      go_wp2_with (first | (go_at_call 63; (with_reducible refine (num_ts HB.out x hxb).mono ?_); rintro e w' ⟨rfl, hh⟩; replace HB := Lib.hid hh) | (go_at_call 62; (with_reducible refine (write_ts HB.out (numS x) (numS_size hxb) (by omega)).mono ?_); rintro e w' ⟨rfl, hh⟩; replace HB := Lib.hid hh))
      go_roundw
      case rel => exact ⟨j + 1, by go_num, by omega, Lib.hid (HB.out.cast hxn.out.symm (by omega))⟩
      case measure => simp [intOf]; omega
    · have hj4 : j = 4 := by omega
      have hB4 : TS W4 B (numsT [c, s, k, (n : Int)]) 36 wr := by have := HB.out; rw [hj4] at this; exact this
      replace HB := Lib.hid hB4
      have hjz : ¬ (j : Int) < 4 := by omega
      have q3 := cellsLow HB.out.low hgB y3.out
      clear hB4
      rw [hj4]
      rw [show ((4 : Nat) : Int) = 4 from rfl]
      replace hj4 := Lib.hid hj4
      go_wp2_with fail
      go_loopw [7, 33] (fun _ i wr => ∃ (j : Nat), i = .int .i64 (j : Int) ∧ j ≤ n ∧ Hid (TS W4 B (numsT [c, s, k, (n : Int)] ++ pairsT (l.take j)) (36 + 18 * j) wr))
        (fun _ i _ => n - (intOf i).toNat)
      case atStart => exact ⟨0, rfl, by omega, Lib.hid (HB.out.cast (by simp [pairsT]) (by omega))⟩
      case round =>
        obtain ⟨j, rfl, hj, HC⟩ := hrel
        have bw : Below w.heap.size w wr := b04.trans (HC.out.low.mono (Nat.le_of_lt hgB))
        by_cases hlt : j < n
        · have hjl : j < l.length := by rw [← hn.out]; exact hlt
          obtain ⟨b, off, e, hb, d0, d1⟩ := (HA.out.2.2.2.2.below bw) j hjl
          subst e
          obtain ⟨p, hp⟩ : ∃ t, l.getD j (0, 0) = t := ⟨_, rfl⟩
          rw [hp] at d0 d1
          have hbd := (okP_bd (okPs_get HV.out hjl)).1
          rw [hp] at hbd
          have hnext : pairsT (l.take (j + 1)) = pairsT (l.take j) ++ bl (numS p.1) ++ bl (wholeS p.2) := by rw [take_more hjl, pairsT_snoc, hp]
          replace hnext := Lib.hid hnext
          replace hp := Lib.hid hp
          obtain ⟨x, y⟩ := p
          dsimp only at d0 d1 hbd
          obtain ⟨X0, X1⟩ := hbd
          obtain ⟨Wp, hWp⟩ : ∃ Wp, wr.alloc (.cells #[.int .i64 x, .int .i64 y] 90) = Wp := ⟨_, rfl⟩
          have hgp : Wp.heap[wr.heap.size]? = some (.cells #[.int .i64 x, .int .i64 y] 90 (0, 0)) := by rw [← hWp]; exact heap_alloc_new wr _
          have e0 : Wp.cell? ⟨wr.heap.size, 0, none⟩ = some (.int .i64 x) := by rw [← hWp]; simp
          have HP := Lib.hid (HC.out.below (W' := Wp) (by rw [← hWp]; exact (Below.refl _ _).alloc (Nat.le_refl _) _))
          have HB := Lib.hid HP.out.base
          replace hgp := Lib.hid hgp
          have hxb : x ≤ 9223372036854775807 := by omega
          clear d0
          have d0 : wr.cell? ⟨b, off + j * 2, none⟩ = some (.int .i64 x) := by
            obtain ⟨b', off', e, _, c0', _⟩ := (HA.out.2.2.2.2.below bw) j hjl
            cases e
            rw [hp.out] at c0'
            exact c0'
          go_wp2_with (first | (go_at_call 63; (with_reducible refine (num_ts HB.out x hxb).mono ?_); rintro e w' ⟨rfl, hh⟩; replace HB := Lib.hid hh) | (go_at_call 62; (with_reducible refine (write_ts HB.out (numS x) (numS_size hxb) (by omega)).mono ?_); rintro e w' ⟨rfl, hh⟩; replace HB := Lib.hid hh; have e1 : World.cell? w' ⟨wr.heap.size, 1, none⟩ = some (.int .i64 y) := cellsKept (i := 1) HB.out.kept hgp.out (by decide) (by decide)) | (go_at_call 64; (with_reducible refine (whole_ts HB.out y).mono ?_); rintro e w' ⟨rfl, hh⟩; replace HB := Lib.hid hh) | (go_at_call 62; (with_reducible refine (write_ts HB.out (wholeS y) (wholeS_size y) (by omega)).mono ?_); rintro e w' ⟨rfl, hh⟩; replace HB := Lib.hid hh))
          go_roundw
          case rel => exact ⟨j + 1, by go_num, by omega, Lib.hid ((HP.out.comp HB.out).cast (by rw [hnext.out]; simp [List.append_assoc]) (by omega))⟩
          case measure => simp [intOf]; omega
        · have hjn : j = n := by omega
          have hB5 : TS W4 B (numsT [c, s, k, (n : Int)] ++ pairsT l) (36 + 18 * n) wr := by have := HC.out; rw [hjn, show l.take n = l from List.take_of_length_le (by rw [hn.out]; omega)] at this; exact this
          replace HB := Lib.hid hB5
          have hjz : ¬ (j : Int) < (n : Int) := by omega
          have q2 := cellsLow HB.out.low hgB y2.out
          have q4 := cellsLow HB.out.low hgB y4.out
          have q5 := cellsLow HB.out.low hgB y5.out
          have q6 := cellsLow HB.out.low hgB y6.out
          clear hB5 q3
          replace hjn := Lib.hid hjn
          go_wp2_with (first | (go_at_call 65; (with_reducible refine (string_ts HB.out).mono ?_); rintro e w9 ⟨rfl, b9⟩))
          go_ret
          exact ⟨ret_str (by rw [HT.out]; simp), b04.trans (b9.mono (Nat.le_of_lt hgB))⟩

theorem mtext_any (c s k : Int) (a : Option Addr) (n cp : Nat) (l : List Sp) (lo hi old : Int) (w : World) (hA : Arg w a n cp l) :
    Calls Try.prog 27 #[.agg #[.int .i64 c, .int .i64 s, .int .i64 k, .slice a n cp, .int .i64 lo, .int .i64 hi, .int .i64 old]] w (Gives w (.string ⟨(textT c s k l lo hi old).toArray⟩)) := by
  cases hc : chkM c s k l lo hi old
  · rw [show textT c s k l lo hi old = [] from if_neg (by rw [hc]; simp)]
    exact mtext_bad c s k a n cp l lo hi old w hA hc
  · rw [show textT c s k l lo hi old = bodyT c s k l lo hi old from if_pos hc]
    by_cases h2 : k = 2
    · subst h2; exact mtext_ok2 c s a n cp l lo hi old w hA hc
    · by_cases h4 : k = 4
      · subst h4; exact mtext_ok4 c s a n cp l lo hi old w hA hc
      · exact mtext_ok0 c s k a n cp l lo hi old w hA hc ⟨h2, h4⟩
end Go.Proofs.Ytfnjadiibiedgaa
