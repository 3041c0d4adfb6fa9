/-
  BAGS: BagOrder, its first loop and what the second one wants.
-/
import Derived.Test.YtbonokhldonciaaBgO
import Derived.StillTailTactics
import Derived.BigQuiet
namespace Go.Proofs.Ytbonokhldonciaa
open Go.RowKit Go.Maps Go.ChangeMaps Go.ChangeShapes Go.WideShapes Go.Deep

def StrsIn (w : World) (a : Option Addr) (ss : List ByteArray) : Prop :=
  ss = [] ∨ ∃ b off, a = some ⟨b, off, none⟩ ∧ b < w.heap.size ∧ ∀ k, k < ss.length → w.cell? ⟨b, off + k, none⟩ = some (.string (ss.getD k ByteArray.empty))
def StrsArg (w : World) (a : Option Addr) (len : Nat) (ss : List ByteArray) : Prop :=
  ss.length = len ∧ StrsIn w a ss ∧ (∀ s ∈ ss, s.size ≤ maxLen) ∧ (ss.length : Int) ≤ 9223372036854775807
theorem StrsArg.nil (w : World) (a : Option Addr) : StrsArg w a 0 [] := ⟨rfl, .inl rfl, by simp, by simp⟩
theorem StrsArg.of_row {w : World} {x : Addr} {len cap : Nat} {ss : List ByteArray} (hl : len ≤ cap) (hm : cap ≤ maxLen) (hz : ss.length = cap)
    (hcell : ∀ i, i < ss.length → w.cell? (x.add i) = some (.string (ss.getD i ByteArray.empty))) (hws : ∀ s ∈ ss, s.size ≤ maxLen) : StrsArg w (some x) len (ss.take len) := by
  refine ⟨by rw [List.length_take]; omega, ?_, fun z h => hws z (List.mem_of_mem_take h), by rw [List.length_take]; unfold maxLen at hm; omega⟩
  by_cases h0 : len = 0
  · subst h0; exact .inl (by simp)
  · refine .inr ?_
    obtain ⟨b, off, spot⟩ := x
    have hc := hcell 0 (by omega)
    have hspot : spot = none := by simpa [Addr.add] using World.cell?_spot hc
    subst hspot
    refine ⟨b, off, rfl, World.block_lt_of_cell? w _ (by simpa [Addr.add] using hc), fun k hk => ?_⟩
    rw [List.length_take] at hk
    have h1 := hcell k (by omega)
    have h2 : (ss.take len).getD k ByteArray.empty = ss.getD k ByteArray.empty := by
      simp only [List.getD, List.getElem?_take]
      rw [if_pos (by omega)]
    rw [h2, ← h1]
    by_cases hk0 : k = 0
    · subst hk0; simp [Addr.add]
    · simp [Addr.add, hk0]
theorem StrsIn.below {w w' : World} {a : Option Addr} {ss : List ByteArray} (h : StrsIn w a ss) (hb : Below w.heap.size w w') : StrsIn w' a ss := by
  rcases h with h | ⟨b, off, ha, hlt, hc⟩
  · exact .inl h
  · exact .inr ⟨b, off, ha, Nat.lt_of_lt_of_le hlt hb.size, fun k hk => (hb.cell (by exact hlt)).trans (hc k hk)⟩
theorem Try.infoStr : (Try.prog.info? 9).map (fun i => (i.zero, i.size, i.bytes)) = some (some (.string ByteArray.empty), 1, 16) := by kernel_rfl
theorem OwnsS.arg {w : World} {base : Nat} {v : Value} {l : List ByteArray} (h : OwnsS w base v l) (hl : l ≠ []) : ∃ g cap, v = .slice (some ⟨g, 0, none⟩) l.length cap ∧ l.length ≤ cap ∧ cap ≤ maxLen ∧ base ≤ g ∧ g < w.heap.size ∧ ∀ k, k < l.length → w.cell? ⟨g, k, none⟩ = some (.string (l.getD k ByteArray.empty)) := by
  rcases h.2 with ⟨rfl, hn⟩ | ⟨g, cap, cur, rfl, hbg, hg, hn, hcm, _, _⟩
  · exact absurd (List.eq_nil_of_length_eq_zero hn) hl
  · refine ⟨g, cap, rfl, hn, hcm, hbg, (Array.getElem?_eq_some_iff.1 hg).1, fun k hk => ?_⟩
    have := World.ownsRow.cells (g := g) h rfl k (.string (l.getD k ByteArray.empty)) (by simp [List.getElem?_eq_getElem hk])
    rw [← this]
    by_cases hk0 : k = 0
    · subst hk0; simp [Addr.add]
    · simp [Addr.add, hk0]
theorem But.cellO {p mb ab : Nat} {w w' : World} (h : But p mb ab w w') {p' : Addr} (hb : p'.block < w.heap.size) (h1 : p'.block ≠ p) (h2 : p'.block ≠ mb) (h3 : p'.block ≠ ab) : w'.cell? p' = w.cell? p' := World.cell?_of_block (w := w) (h.block _ hb h1 h2 h3)
theorem index0_any (a : Option Addr) (c : Nat) (v : Value) (w : World) : Calls Try.prog 46 #[.slice a 0 c, v] w fun e w' => e = .returned (.int .i64 (-1)) ∧ w' = w := by
  go_enter Try.func46, Try.ntmps46
  go_wp2
  refine wp_loop_once ?_
  go_wp2
  go_ret
  exact ⟨rfl, rfl⟩
theorem delete0_any (a : Option Addr) (c : Nat) (v : Value) (w : World) : Calls Try.prog 36 #[.slice a 0 c, v] w fun e w' => e = .returned (.slice a 0 c) ∧ w' = w := by
  go_enter Try.func36, Try.ntmps36
  go_wp2_with (go_at_call 46; (with_reducible refine (index0_any _ _ _ _).mono ?_); rintro e w2 ⟨rfl, hw2⟩; subst w2)
  go_ret
  exact ⟨rfl, rfl⟩
def R0Post (w : World) (e : Ending) (w' : World) : Prop := ∃ a c, e = .returned (.slice a 0 c) ∧ Below w.heap.size w w'
theorem ready0_any {w : World} {p mb ab : Nat} {s : Bs} (h : Bg w p mb ab s) (hn : s.n = 0) : Calls Try.prog 20 #[.pointer (some ⟨p, 0, none⟩)] w (R0Post w) := by
  obtain ⟨W1, hW1⟩ : ∃ W1, w.alloc (.cells #[.pointer (some ⟨p, 0, none⟩)] 23) = W1 := ⟨_, rfl⟩
  have B1 : Below w.heap.size w W1 := by rw [← hW1]; exact (Below.refl _ _).alloc (Nat.le_refl _) _
  have hx : W1.heap[w.heap.size]? = some (.cells #[.pointer (some ⟨p, 0, none⟩)] 23) := by rw [← hW1]; exact heap_alloc_new _ _
  have z0 := cell_of_row _ _ 0 _ _ _ hx
  have h1 := h.same B1
  obtain ⟨hI, hI2⟩ := ids_any h1
  have hl0 := Lib.hid (hI2.trans hn)
  clear hI2 hn
  go_enter Try.func20, Try.ntmps20
  go_wp2_with (first
    | (go_at_call 17; (with_reducible refine hI.mono ?_); rintro e w2 ⟨a, c, rfl, _, b2⟩; rw [hl0.out])
    | (go_at_call 36; (with_reducible refine (delete0_any _ _ _ _).mono ?_); rintro e w3 ⟨rfl, hw3⟩; subst w3))
  go_ret
  exact ⟨_, _, rfl, B1.trans (b2.mono B1.size)⟩
/-- The first loop's worlds. -/
structure Ord1 (w : World) (base p mb ab : Nat) (q : List ByteArray) (v : Value) (wr : World) : Prop where
  own : OwnsS wr base v (ByteArray.empty :: q)
  bag : Bg wr p mb ab (leftB q 0 q.length)
  low : Below w.heap.size w wr
  size : base ≤ wr.heap.size
set_option maxRecDepth 100000 in
set_option maxHeartbeats 4000000 in
theorem bagOrder_walk (a : Option Addr) (len cap : Nat) (ss : List ByteArray) (last : Bool) (w : World) (hss : StrsArg w a len ss) :
    Calls Try.prog 8 #[.slice a len cap, .bool last] w (TruePost w) := by
  obtain ⟨rfl, hin, hsz, hlen⟩ := hss
  obtain ⟨i0, hi0, hz0, hz1, hz2⟩ := info_parts Try.infoStr
  replace hin := Lib.hid hin
  replace hsz := Lib.hid hsz
  go_enter Try.func8, Try.ntmps8
  go_wp2_with (first
    | (go_at_call 9; (with_reducible refine (new_any _).mono ?_); rintro e w1 ⟨p, mb, ab, rfl, h1, p1, p2, p3, b1⟩)
    | (go_at_call 10; (with_reducible refine (awake10_any _).mono ?_); rintro e w2 ⟨rfl, b2⟩; (have h2 := h1.same b2); (have c2 := b1.trans (b2.mono b1.size))))
  rw [left_zero] at h2
  obtain ⟨l1, l2, l3⟩ := h2.lt
  have hO : Ord1 w w2.heap.size p mb ab [] (.slice (some ⟨w2.heap.size, 0, none⟩) 1 1) (w2.alloc (.cells #[.string ⟨#[]⟩] 9)) :=
    ⟨⟨by simp, .inr ⟨w2.heap.size, 1, #[.string ⟨#[]⟩], rfl, Nat.le_refl _, heap_alloc_new _ _, Nat.le_refl _, by decide, rfl, rfl⟩⟩, h2.same ((Below.refl _ _).alloc (Nat.le_refl _) _), c2.trans (((Below.refl _ _).alloc (Nat.le_refl _) _).mono c2.size), by simp⟩
  go_loopw [6, 7, 8] (fun nv v i wr => ∃ (k : Nat) (q : List ByteArray), i = .int .i64 (k : Int) ∧ nv = .int .i64 (q.length : Int) ∧ k ≤ ss.length ∧ q.length ≤ 50 ∧ Hid (Ord1 w w2.heap.size p mb ab q v wr)) (fun _ _ i _ => ss.length - (intOf i).toNat)
  case atStart => exact ⟨0, [], rfl, rfl, Nat.zero_le _, by decide, Lib.hid hO⟩
  case round =>
    clear hO h2 h1
    obtain ⟨k, q, rfl, rfl, hk, h50, HO⟩ := hrel
    by_cases hgo : k < ss.length ∧ q.length < 50
    · obtain ⟨hlt, h49⟩ := hgo
      have z1 : (k : Int) < (ss.length : Int) := by omega
      have z2 : (q.length : Int) < 50 := by omega
      rcases hin.out with h | ⟨b, off, rfl, hb, hc⟩
      · rw [h] at hlt; exact absurd hlt (by simp)
      have hcell := (HO.out.low.cell (p := ⟨b, off + k, none⟩) (by exact hb)).trans (hc k hlt)
      have hsk : ss.getD k ByteArray.empty ∈ ss := by rw [List.getD_eq_getElem?_getD, List.getElem?_eq_getElem hlt]; exact List.getElem_mem hlt
      have htm := hsz.out _ hsk
      generalize ss.getD k ByteArray.empty = t at hcell htm hc
      unfold maxLen at htm
      clear hc hsk
      by_cases h3 : t.size ≤ 300
      · have z3 : (t.size : Int) ≤ 300 := by omega
        obtain ⟨e1, e2⟩ := left_send (q := q) (t := t) (by omega) h3
        have hl9 : (leftB q 0 q.length).last < 100000 := by show (q.length : Int) < 100000; omega
        have hB := HO.out.bag
        have hlow := HO.out.low
        have hown := HO.out.own
        have hws := HO.out.size
        have hlq : (q ++ [t]).length = q.length + 1 := by simp
        replace e1 := Lib.hid e1
        replace e2 := Lib.hid e2
        replace hlow := Lib.hid hlow
        go_wp2_with (first
          | (go_at_call 13; (with_reducible refine (sendE hB hl9 e1.out e2.out (by unfold maxLen; omega)).mono ?_); rintro e w4 ⟨rfl, hB4, b4⟩; (have hcell4 := (b4.cellO (p' := ⟨b, off + k, none⟩) (by have := hlow.out.size; show b < _; omega) (by show b ≠ p; omega) (by show b ≠ mb; omega) (by show b ≠ ab; omega)).trans hcell); (have hown4 := hown.but b4 l1 l2 l3); (have hlow4 := hlow.out.trans (b4.below hlow.out.size (by omega) (by omega) (by omega))); replace hlow4 := Lib.hid hlow4)
          | (at_builtin; refine wpList_append_own _ rfl _ _ 36 rfl w2.heap.size 9 i0 (.string ByteArray.empty) 1 16 Try.underlying36 hi0 hz0 hz1 hz2 rfl (by decide) _ _ _ rfl (World.ownsRow.alloc hown4 _) ⟨w4.heap.size, 0, none⟩ 1 1 [.string t] rfl rfl ?c1 ?c2 ?c3 ?c4 ?c5 ?_))
        case c1 => exact cell_one_new _ _ _
        case c2 => intro x hx; simp at hx; subst hx; rfl
        case c3 => unfold maxLen; simp; omega
        case c4 => simp; omega
        case c5 => have := b4.size; simp; omega
        intro v' w5 hown5 hgrow5 _
        have hO5 : OwnsS w5 w2.heap.size v' (ByteArray.empty :: (q ++ [t])) := by
          have := OwnsS.push (l := ByteArray.empty :: q) hown5
          exact this
        have hblk : ∀ i, i < w4.heap.size → i < w2.heap.size → w5.heap[i]? = w4.heap[i]? := fun i hi hi2 => by
          rw [hgrow5.block i (by simp; omega) (fun q => by have := (World.ownsRow.lt hown4 i q.symm).1; omega)]
          exact Below.heap_alloc _ _ _ hi
        have hB5 : Bg w5 p mb ab (leftB (q ++ [t]) 0 (q ++ [t]).length) := hB4.keep (fun k hk => hblk k (by have := hB4.lt; omega) (by omega))
        have hlow5 : Below w.heap.size w w5 := (hlow4.out.alloc hlow4.out.size _).grown hgrow5 (by have := hlow4.out.size; first | omega | (simp; omega)) (fun i hi => by have := (World.ownsRow.lt hown4 i hi).1; have := c2.size; omega)
        have hsz5 : w2.heap.size ≤ w5.heap.size := by have t1 := hgrow5.size; have t2 := b4.size; have t3 := HO.out.size; (try simp at t1); omega
        have HO5 : Hid (Ord1 w w2.heap.size p mb ab (q ++ [t]) v' w5) := Lib.hid ⟨hO5, hB5, hlow5, hsz5⟩
        clear hown5 hgrow5 hO5 hblk hB5 hlow5 hsz5 hB hB4 hown hown4 hcell hcell4 HO
        go_wp2
        go_roundw
        case rel => exact ⟨k + 1, q ++ [t], by go_num, by rw [hlq]; go_num, by omega, by rw [hlq]; omega, HO5⟩
        case measure => simp [intOf]; omega
      · have z3 : ¬ (t.size : Int) ≤ 300 := by omega
        go_wp2_with fail
        go_roundw
        case rel => exact ⟨k + 1, q, by go_num, rfl, by omega, h50, HO⟩
        case measure => simp [intOf]; omega
    · have hends : ¬ ((k : Int) < (ss.length : Int)) ∨ ((k : Int) < (ss.length : Int) ∧ ¬ (q.length : Int) < 50) := by omega
      obtain ⟨g, cp, rfl, hcp1, hcp2, hgb, hgl, hcells⟩ := HO.out.own.arg (by simp)
      have hB := HO.out.bag
      have hlow := HO.out.low
      have hX := HO.out.size
      have hlen' : (ByteArray.empty :: q).length = q.length + 1 := by simp
      rw [hlen'] at *
      replace hcells := Lib.hid hcells
      replace hB := Lib.hid hB
      replace hlow := Lib.hid hlow
      clear HO hsz hin hlen' hgo hk
      rcases hends with z1 | ⟨z1, z2⟩
      all_goals
        cases last with
        | false =>
          go_wp2_with fail
          go_loopw [11] (fun i wy => ∃ (j : Nat), i = .int .i64 ((j : Int) + 1) ∧ j ≤ q.length ∧ Hid (Bg wy p mb ab (leftB q j q.length)) ∧ Hid (But p mb ab wr wy)) (fun i _ => q.length + 1 - (intOf i).toNat)
          case atStart => exact ⟨0, rfl, Nat.zero_le _, hB, Lib.hid (But.refl _ _ _ _)⟩
          case round =>
            obtain ⟨j, rfl, hj, hBj, hD⟩ := hrel
            by_cases hlt : j < q.length
            · have z5 : (j : Int) + 1 ≤ (q.length : Int) := by omega
              have hcell := (hD.out.cellO (p' := ⟨g, j + 1, none⟩) hgl (by show g ≠ p; omega) (by show g ≠ mb; omega) (by show g ≠ ab; omega)).trans (hcells.out (j + 1) (by rw [List.length_cons]; omega))
              obtain ⟨t1, t2⟩ := left_take (q := q) (a := j) (b := q.length) (i := (j : Int) + 1) (by omega) (by omega)
              rw [left_first hlt] at t1
              have et : ((j : Int) + 1).toNat - 1 = (j + 1) - 1 := by omega
              rw [et] at t2
              have ec : (ByteArray.empty :: q).getD (j + 1) ByteArray.empty = q.getD ((j + 1) - 1) ⟨#[]⟩ := rfl
              rw [ec] at hcell
              generalize q.getD ((j + 1) - 1) ⟨#[]⟩ = t at t2 hcell
              have hwf := wf_i64 (k := (j : Int) + 1) (by omega) (by omega)
              have hix : (j : Int) + 1 < (q.length : Int) + 1 := by omega
              have hix0 : 0 ≤ (j : Int) + 1 := by omega
              have hwr : IntKind.i64.wrap ((q.length : Int) - ((j : Int) + 1)) = ((q.length - (j + 1) : Nat) : Int) := by rw [IntWalk.i64_in _ (by omega)]; omega
              skip
              replace t1 := Lib.hid t1
              replace t2 := Lib.hid t2
              clear ec et
              go_wp2_with (go_at_call 14; (with_reducible refine (takeE hBj.out hwf t1.out t2.out).mono ?_); rintro e w5 ⟨rfl, h5, b5⟩; (have B5 := belowM w5 ⟨(j : Int) + 1, 1, 2, t⟩); (have g5 := h5.same B5); (have x5 := heap_alloc_new w5 (boxM ⟨(j : Int) + 1, 1, 2, t⟩)); (have hD5 := (hD.out.trans b5).trans (But.of_below B5)); (have hgl4 := Nat.lt_of_lt_of_le hgl hD.out.size); (have hcell5 := (B5.cell (p := ⟨g, j + 1, none⟩) (Nat.lt_of_lt_of_le hgl4 b5.size)).trans ((b5.cellO (p' := ⟨g, j + 1, none⟩) hgl4 (by show g ≠ p; omega) (by show g ≠ mb; omega) (by show g ≠ ab; omega)).trans hcell)); obtain ⟨W5, hW5⟩ : ∃ W, w5.alloc (.cells #[.int .i64 ((j : Int) + 1), .int .i64 1, .int .i64 2, .string t] 42) = W := ⟨_, rfl⟩; simp only [boxM] at B5 g5 x5 hD5 hcell5; rw [hW5] at B5 g5 x5 hD5 hcell5)
              replace hW5 := Lib.hid hW5
              have hg5 := hD5.size
              have x5l := (Array.getElem?_eq_some_iff.1 x5).1
              have KS : Hid (∀ W', Below W5.heap.size W5 W' → W'.cell? ⟨w5.heap.size, 1, none⟩ = some (.int .i64 1) ∧ W'.cell? ⟨w5.heap.size, 2, none⟩ = some (.int .i64 2) ∧ W'.cell? ⟨w5.heap.size, 3, none⟩ = some (.string t) ∧ W'.cell? ⟨g, j + 1, none⟩ = some (.string t)) := Lib.hid fun W' hB' => by
                obtain ⟨_, y1, y2, y3⟩ := cellsM ((hB'.block _ x5l).trans x5)
                exact ⟨y1, y2, y3, (hB'.cell (p := ⟨g, j + 1, none⟩) (Nat.lt_of_lt_of_le hgl hg5)).trans hcell5⟩
              have HB : Hid (Below W5.heap.size W5 W5) := Lib.hid (Below.refl _ _)
              have hnn : (idsL (leftB q (j + 1) q.length).G (leftB q (j + 1) q.length).last).length = q.length - (j + 1) := (ids_any g5).2.trans rfl
              replace hnn := Lib.hid hnn
              replace hD5 := Lib.hid hD5
              have hgg := g5
              replace hgg := Lib.hid hgg
              clear hcell hcell5 x5 x5l h5 b5 B5 g5 hBj hD hlt
              go_region_held3 (fun W => W.cell? ⟨w5.heap.size, 1, none⟩ = some (.int .i64 1) ∧ W.cell? ⟨w5.heap.size, 2, none⟩ = some (.int .i64 2) ∧ W.cell? ⟨w5.heap.size, 3, none⟩ = some (.string t) ∧ W.cell? ⟨g, j + 1, none⟩ = some (.string t)) (exact KS.out _ (by repeat (first | with_reducible exact HB.out | with_reducible refine toDr ?_))) ((go_at_call 17; (with_reducible refine (ids_any hgg.out.drew).1.mono ?_); rintro e w7 ⟨a7, c7, rfl, _, b7⟩; rw [hnn.out]; (have bb : Below W5.heap.size W5 w7 := (show Below W5.heap.size W5 W5.drew from toDr HB.out).trans (b7.mono (Nat.le_refl _))); clear HB; have HB := Lib.hid bb; clear bb))
              all_goals
                go_wp2
                go_roundw
                case rel => exact ⟨j + 1, by go_num, by omega, Lib.hid (hgg.out.same HB.out), Lib.hid (hD5.out.trans (But.of_below HB.out))⟩
                case measure => simp [intOf]; omega
            · have hjq : j = q.length := by omega
              subst hjq
              have z5 : ¬ (q.length : Int) + 1 ≤ (q.length : Int) := by omega
              have hB0 := hBj.out
              go_wp2_with (go_at_call 20; (with_reducible refine (ready0_any hB0 (by simp [leftB])).mono ?_); rintro e w8 ⟨a8, c8, rfl, b8⟩)
              go_ret
              exact ⟨rfl, (hlow.out.trans (hD.out.below hlow.out.size (by omega) (by omega) (by omega))).trans (b8.mono (by have := hlow.out.size; have := hD.out.size; omega))⟩
        | true =>
          go_wp2_with fail
          go_loopw [11] (fun i wy => ∃ (j : Nat), i = .int .i64 ((j : Int) + 1) ∧ j ≤ q.length ∧ Hid (Bg wy p mb ab (leftB q 0 (q.length - j))) ∧ Hid (But p mb ab wr wy)) (fun i _ => q.length + 1 - (intOf i).toNat)
          case atStart => exact ⟨0, rfl, Nat.zero_le _, hB, Lib.hid (But.refl _ _ _ _)⟩
          case round =>
            obtain ⟨j, rfl, hj, hBj, hD⟩ := hrel
            by_cases hlt : j < q.length
            · have z5 : (j : Int) + 1 ≤ (q.length : Int) := by omega
              have hcell := (hD.out.cellO (p' := ⟨g, q.length - j, none⟩) hgl (by show g ≠ p; omega) (by show g ≠ mb; omega) (by show g ≠ ab; omega)).trans (hcells.out (q.length - j) (by rw [List.length_cons]; omega))
              obtain ⟨t1, t2⟩ := left_take (q := q) (a := 0) (b := (q.length - j)) (i := ((q.length - j : Nat) : Int)) (by omega) (by omega)
              rw [left_last (show 0 < q.length - j by omega), show q.length - j - 1 = q.length - (j + 1) by omega] at t1
              have et : (((q.length - j : Nat) : Int)).toNat - 1 = (q.length - j) - 1 := by omega
              rw [et] at t2
              have ec : (ByteArray.empty :: q).getD (q.length - j) ByteArray.empty = q.getD ((q.length - j) - 1) ⟨#[]⟩ := by (obtain ⟨m, hm⟩ : ∃ m, q.length - j = m + 1 := ⟨q.length - j - 1, by omega⟩); rw [hm]; rfl
              rw [ec] at hcell
              generalize q.getD ((q.length - j) - 1) ⟨#[]⟩ = t at t2 hcell
              have hwf := wf_i64 (k := ((q.length - j : Nat) : Int)) (by omega) (by omega)
              have hix : ((q.length - j : Nat) : Int) < (q.length : Int) + 1 := by omega
              have hix0 : 0 ≤ ((q.length - j : Nat) : Int) := by omega
              have hwr : IntKind.i64.wrap ((q.length : Int) - ((j : Int) + 1)) = ((q.length - (j + 1) : Nat) : Int) := by rw [IntWalk.i64_in _ (by omega)]; omega
              have hid2 : IntKind.i64.wrap (IntKind.i64.wrap ((q.length : Int) + 1) - ((j : Int) + 1)) = ((q.length - j : Nat) : Int) := by rw [IntWalk.i64_in ((q.length : Int) + 1) (by omega), IntWalk.i64_in _ (by omega)]; omega
              have hid3 : (q.length : Int) + 1 - ((j : Int) + 1) = ((q.length - j : Nat) : Int) := by omega
              replace t1 := Lib.hid t1
              replace t2 := Lib.hid t2
              clear ec et
              go_wp2_with (go_at_call 14; (with_reducible refine (takeE hBj.out hwf t1.out t2.out).mono ?_); rintro e w5 ⟨rfl, h5, b5⟩; (have B5 := belowM w5 ⟨((q.length - j : Nat) : Int), 1, 2, t⟩); (have g5 := h5.same B5); (have x5 := heap_alloc_new w5 (boxM ⟨((q.length - j : Nat) : Int), 1, 2, t⟩)); (have hD5 := (hD.out.trans b5).trans (But.of_below B5)); (have hgl4 := Nat.lt_of_lt_of_le hgl hD.out.size); (have hcell5 := (B5.cell (p := ⟨g, q.length - j, none⟩) (Nat.lt_of_lt_of_le hgl4 b5.size)).trans ((b5.cellO (p' := ⟨g, q.length - j, none⟩) hgl4 (by show g ≠ p; omega) (by show g ≠ mb; omega) (by show g ≠ ab; omega)).trans hcell)); obtain ⟨W5, hW5⟩ : ∃ W, w5.alloc (.cells #[.int .i64 (((q.length - j : Nat) : Int)), .int .i64 1, .int .i64 2, .string t] 42) = W := ⟨_, rfl⟩; simp only [boxM] at B5 g5 x5 hD5 hcell5; rw [hW5] at B5 g5 x5 hD5 hcell5)
              replace hW5 := Lib.hid hW5
              have hg5 := hD5.size
              have x5l := (Array.getElem?_eq_some_iff.1 x5).1
              have KS : Hid (∀ W', Below W5.heap.size W5 W' → W'.cell? ⟨w5.heap.size, 1, none⟩ = some (.int .i64 1) ∧ W'.cell? ⟨w5.heap.size, 2, none⟩ = some (.int .i64 2) ∧ W'.cell? ⟨w5.heap.size, 3, none⟩ = some (.string t) ∧ W'.cell? ⟨g, q.length - j, none⟩ = some (.string t)) := Lib.hid fun W' hB' => by
                obtain ⟨_, y1, y2, y3⟩ := cellsM ((hB'.block _ x5l).trans x5)
                exact ⟨y1, y2, y3, (hB'.cell (p := ⟨g, q.length - j, none⟩) (Nat.lt_of_lt_of_le hgl hg5)).trans hcell5⟩
              have HB : Hid (Below W5.heap.size W5 W5) := Lib.hid (Below.refl _ _)
              have hnn : (idsL (leftB q 0 (q.length - (j + 1))).G (leftB q 0 (q.length - (j + 1))).last).length = q.length - (j + 1) := (ids_any g5).2.trans (by simp [leftB])
              replace hnn := Lib.hid hnn
              replace hD5 := Lib.hid hD5
              have hgg := g5
              replace hgg := Lib.hid hgg
              clear hcell hcell5 x5 x5l h5 b5 B5 g5 hBj hD hlt
              go_region_held3 (fun W => W.cell? ⟨w5.heap.size, 1, none⟩ = some (.int .i64 1) ∧ W.cell? ⟨w5.heap.size, 2, none⟩ = some (.int .i64 2) ∧ W.cell? ⟨w5.heap.size, 3, none⟩ = some (.string t) ∧ W.cell? ⟨g, q.length - j, none⟩ = some (.string t)) (exact KS.out _ (by repeat (first | with_reducible exact HB.out | with_reducible refine toDr ?_))) ((go_at_call 17; (with_reducible refine (ids_any hgg.out.drew).1.mono ?_); rintro e w7 ⟨a7, c7, rfl, _, b7⟩; rw [hnn.out]; (have bb : Below W5.heap.size W5 w7 := (show Below W5.heap.size W5 W5.drew from toDr HB.out).trans (b7.mono (Nat.le_refl _))); clear HB; have HB := Lib.hid bb; clear bb))
              all_goals
                go_wp2
                go_roundw
                case rel => exact ⟨j + 1, by go_num, by omega, Lib.hid (hgg.out.same HB.out), Lib.hid (hD5.out.trans (But.of_below HB.out))⟩
                case measure => simp [intOf]; omega
            · have hjq : j = q.length := by omega
              subst hjq
              have z5 : ¬ (q.length : Int) + 1 ≤ (q.length : Int) := by omega
              have hB0 := hBj.out
              go_wp2_with (go_at_call 20; (with_reducible refine (ready0_any hB0 (by simp [leftB])).mono ?_); rintro e w8 ⟨a8, c8, rfl, b8⟩)
              go_ret
              exact ⟨rfl, (hlow.out.trans (hD.out.below hlow.out.size (by omega) (by omega) (by omega))).trans (b8.mono (by have := hlow.out.size; have := hD.out.size; omega))⟩
end Go.Proofs.Ytbonokhldonciaa
