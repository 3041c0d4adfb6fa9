/-
  MutH, MutI, MutJ, MutK, Law4D, MutL, MutM: one text.
-/
import Derived.Test.YthofoidafdbgcaaMB1
import Derived.Deep.RegionLaw
import Derived.Deep.DrawnRows
import Derived.Deep.AppendLies
import Derived.Test.YthofoidafdbgcaaMA2
/-
  CONTRACT: the statements' own Ref on mutations.
-/
namespace Go.Proofs.Ythofoidafdbgcaa
open Go.RowKit Go.Shelf

theorem Try.infoRefP : (Try.prog.info? 66).map (fun i => (i.zero, i.size, i.bytes)) = some (some (.agg #[.int .i64 0, .int .i64 0]), 2, 16) := by kernel_rfl
/-- A mutation of the document's, given. -/
def MutArg (w : World) (c s k : Int) (l : List Sp) (lo hi old : Int) (e : Ending) (w' : World) : Prop := ∃ a n cp, e = .returned (.agg #[.int .i64 c, .int .i64 s, .int .i64 k, .slice a n cp, .int .i64 lo, .int .i64 hi, .int .i64 old]) ∧ Arg w' a n cp l ∧ Below w.heap.size w w'
theorem cellD2 (w : World) (x y : Value) (t : TypeId) : ∀ j u, [x, y][j]? = some u → ((w.alloc (.cells #[x, y] t)).drew).cell? ((⟨w.heap.size, 0, none⟩ : Addr).add j) = some u := by
  intro j u hj
  have hA : ∀ i, ((w.alloc (.cells #[x, y] t)).drew).cell? ⟨w.heap.size, i, none⟩ = #[x, y][i]? := fun i => cell_of_row _ _ _ _ _ _ (heap_alloc_new w _)
  match j, hj with
  | 0, hj => simp at hj; subst hj; simp [Addr.add]
  | 1, hj => simp at hj; subst hj; simp [Addr.add]
theorem two_i64 (x y : Int) : ∀ u ∈ [Value.int .i64 x, Value.int .i64 y], u.oneCell' = true := by
  intro u hu
  simp at hu
  rcases hu with rfl | rfl <;> rfl

set_option maxRecDepth 100000 in
set_option maxHeartbeats 2000000 in
set_option linter.unusedSimpArgs false in
theorem ref4_any (c s k : Int) (a : Option Addr) (n cp : Nat) (l : List Sp) (lo hi old : Int) (w : World) (hz : l.length ≤ 100000) (h : Arg w a n cp l) :
    Calls Try.prog 16 #[.agg #[.int .i64 c, .int .i64 s, .int .i64 k, .slice a n cp, .int .i64 lo, .int .i64 hi, .int .i64 old]] w (MutArg w c s k l lo hi old) := by
  obtain ⟨i0, hi0, hz0, hz1, hz2⟩ := info_parts Try.infoRefP
  obtain ⟨hn, _, hc1, hc2, hp⟩ := h
  have hn1 : n ≤ 100000 := by omega
  replace hn := Lib.hid hn
  replace hp := Lib.hid hp
  have bw : Below w.heap.size w (((w.alloc (.cells #[.int .i64 c, .int .i64 s, .int .i64 k, .slice a n cp, .int .i64 lo, .int .i64 hi, .int .i64 old] 42)).alloc (.cells #[.int .i64 0, .int .i64 0, .int .i64 0, .slice none 0 0, .int .i64 0, .int .i64 0, .int .i64 0] 45)).alloc (.cells #[.int .i64 c, .int .i64 s, .int .i64 k, .slice none 0 0, .int .i64 lo, .int .i64 hi, .int .i64 old] 45)) := (((Below.refl _ _).alloc (Nat.le_refl _) _).alloc (by simp) _).alloc (by simp; omega) _
  have sw : (((w.alloc (.cells #[.int .i64 c, .int .i64 s, .int .i64 k, .slice a n cp, .int .i64 lo, .int .i64 hi, .int .i64 old] 42)).alloc (.cells #[.int .i64 0, .int .i64 0, .int .i64 0, .slice none 0 0, .int .i64 0, .int .i64 0, .int .i64 0] 45)).alloc (.cells #[.int .i64 c, .int .i64 s, .int .i64 k, .slice none 0 0, .int .i64 lo, .int .i64 hi, .int .i64 old] 45)).heap.size = w.heap.size + 3 := by simp
  have h2 : (((w.alloc (.cells #[.int .i64 c, .int .i64 s, .int .i64 k, .slice a n cp, .int .i64 lo, .int .i64 hi, .int .i64 old] 42)).alloc (.cells #[.int .i64 0, .int .i64 0, .int .i64 0, .slice none 0 0, .int .i64 0, .int .i64 0, .int .i64 0] 45)).alloc (.cells #[.int .i64 c, .int .i64 s, .int .i64 k, .slice none 0 0, .int .i64 lo, .int .i64 hi, .int .i64 old] 45)).heap[w.heap.size + 2]? = some (.cells #[.int .i64 c, .int .i64 s, .int .i64 k, .slice none 0 0, .int .i64 lo, .int .i64 hi, .int .i64 old] 45 (0, 0)) := by
    have := heap_alloc_new ((w.alloc (.cells #[.int .i64 c, .int .i64 s, .int .i64 k, .slice a n cp, .int .i64 lo, .int .i64 hi, .int .i64 old] 42)).alloc (.cells #[.int .i64 0, .int .i64 0, .int .i64 0, .slice none 0 0, .int .i64 0, .int .i64 0, .int .i64 0] 45)) (.cells #[.int .i64 c, .int .i64 s, .int .i64 k, .slice none 0 0, .int .i64 lo, .int .i64 hi, .int .i64 old] 45)
    simpa using this
  have h1 : (((w.alloc (.cells #[.int .i64 c, .int .i64 s, .int .i64 k, .slice a n cp, .int .i64 lo, .int .i64 hi, .int .i64 old] 42)).alloc (.cells #[.int .i64 0, .int .i64 0, .int .i64 0, .slice none 0 0, .int .i64 0, .int .i64 0, .int .i64 0] 45)).alloc (.cells #[.int .i64 c, .int .i64 s, .int .i64 k, .slice none 0 0, .int .i64 lo, .int .i64 hi, .int .i64 old] 45)).heap[w.heap.size + 1]? = some (.cells #[.int .i64 0, .int .i64 0, .int .i64 0, .slice none 0 0, .int .i64 0, .int .i64 0, .int .i64 0] 45 (0, 0)) := by
    have := heap_alloc_new (w.alloc (.cells #[.int .i64 c, .int .i64 s, .int .i64 k, .slice a n cp, .int .i64 lo, .int .i64 hi, .int .i64 old] 42)) (.cells #[.int .i64 0, .int .i64 0, .int .i64 0, .slice none 0 0, .int .i64 0, .int .i64 0, .int .i64 0] 45)
    rw [heap_alloc_old _ _ (by simp)]
    simpa using this
  have h0 : (((w.alloc (.cells #[.int .i64 c, .int .i64 s, .int .i64 k, .slice a n cp, .int .i64 lo, .int .i64 hi, .int .i64 old] 42)).alloc (.cells #[.int .i64 0, .int .i64 0, .int .i64 0, .slice none 0 0, .int .i64 0, .int .i64 0, .int .i64 0] 45)).alloc (.cells #[.int .i64 c, .int .i64 s, .int .i64 k, .slice none 0 0, .int .i64 lo, .int .i64 hi, .int .i64 old] 45)).heap[w.heap.size]? = some (.cells #[.int .i64 c, .int .i64 s, .int .i64 k, .slice a n cp, .int .i64 lo, .int .i64 hi, .int .i64 old] 42 (0, 0)) := by
    have := heap_alloc_new w (.cells #[.int .i64 c, .int .i64 s, .int .i64 k, .slice a n cp, .int .i64 lo, .int .i64 hi, .int .i64 old] 42)
    rw [heap_alloc_old _ _ (by simp; omega), heap_alloc_old _ _ (by simp)]
    exact this
  obtain ⟨W0, hW0⟩ : ∃ W0, (((w.alloc (.cells #[.int .i64 c, .int .i64 s, .int .i64 k, .slice a n cp, .int .i64 lo, .int .i64 hi, .int .i64 old] 42)).alloc (.cells #[.int .i64 0, .int .i64 0, .int .i64 0, .slice none 0 0, .int .i64 0, .int .i64 0, .int .i64 0] 45)).alloc (.cells #[.int .i64 c, .int .i64 s, .int .i64 k, .slice none 0 0, .int .i64 lo, .int .i64 hi, .int .i64 old] 45)) = W0 := ⟨_, rfl⟩
  rw [hW0] at bw sw h0 h1 h2
  replace bw := Lib.hid bw
  replace sw := Lib.hid sw
  replace h0 := Lib.hid h0
  replace h1 := Lib.hid h1
  replace h2 := Lib.hid h2
  have q1 := fun i => cell_of_row _ _ i _ _ _ h0.out
  have q3 : W0.cell? ⟨w.heap.size, 3, none⟩ = some (.slice a n cp) := q1 3
  clear q1
  go_enter Try.func16, Try.ntmps16
  go_wp2_with fail
  replace hW0 := Lib.hid hW0
  clear q3
  go_loopw [4] (fun i wr => ∃ (j : Nat), i = .int .i64 (j : Int) ∧ j ≤ n ∧ Hid (∃ v, wr.ownsRow (w.heap.size + 3) 66 2 v j (flatP (l.take j)) ∧ wr.heap[w.heap.size + 2]? = some (.cells #[.int .i64 c, .int .i64 s, .int .i64 k, v, .int .i64 lo, .int .i64 hi, .int .i64 old] 45 (0, 0)) ∧ Below (w.heap.size + 2) W0 wr ∧ w.heap.size + 3 ≤ wr.heap.size))
    (fun i _ => n - (intOf i).toNat)
  case atStart => exact ⟨0, rfl, by omega, Lib.hid ⟨_, ⟨rfl, .inl ⟨rfl, rfl⟩⟩, h2.out, Below.refl _ _, by rw [sw.out]; exact Nat.le_refl _⟩⟩
  case round =>
    obtain ⟨j, rfl, hj, HI⟩ := hrel
    obtain ⟨v, ho, hb2, hbl, hsz⟩ := HI.out
    clear HI
    have k0 := (hbl.block w.heap.size (by omega)).trans h0.out
    have k1 := (hbl.block (w.heap.size + 1) (by omega)).trans h1.out
    have hlow : Below w.heap.size w wr := bw.out.trans (hbl.mono (by omega))
    have c3 : wr.cell? ⟨w.heap.size, 3, none⟩ = some (.slice a n cp) := cell_of_row _ _ 3 _ _ _ k0
    by_cases hlt : j < n
    · obtain ⟨b, off, e, hb, d0, d1⟩ := (hp.out.below hlow) j (by rw [← hn.out]; exact hlt)
      subst e
      obtain ⟨p, hs⟩ : ∃ p, l.getD j (0, 0) = p := ⟨_, rfl⟩
      rw [hs] at d0 d1
      replace hs := Lib.hid hs
      obtain ⟨x, y⟩ := p
      dsimp only at d0 d1
      have v3 : wr.cell? ⟨w.heap.size + 2, 3, none⟩ = some v := cell_of_row _ _ 3 _ _ _ hb2
      have A0 : ∀ o, (wr.alloc o).cell? ⟨b, off + j * 2, none⟩ = some (.int .i64 x) := fun o => (World.cell?_alloc_lt _ _ ⟨b, off + j * 2, none⟩ (show b < _ by omega)).trans d0
      have A1 : ∀ o, (wr.alloc o).cell? ⟨b, off + j * 2 + 1, none⟩ = some (.int .i64 y) := fun o => (World.cell?_alloc_lt _ _ ⟨b, off + j * 2 + 1, none⟩ (show b < _ by omega)).trans d1
      have A2 : ∀ o, (wr.alloc o).cell? ⟨w.heap.size, 3, none⟩ = some (.slice (some ⟨b, off, none⟩) n cp) := fun o => (World.cell?_alloc_lt _ _ ⟨w.heap.size, 3, none⟩ (show w.heap.size < _ by omega)).trans c3
      have A3 : ∀ o, (wr.alloc o).cell? ⟨w.heap.size + 2, 3, none⟩ = some v := fun o => (World.cell?_alloc_lt _ _ ⟨w.heap.size + 2, 3, none⟩ (show w.heap.size + 2 < _ by omega)).trans v3
      have HD := Lib.hid (fun o => (ho.alloc o).drew)
      have HG := Lib.hid (fun o w1 (hg : ((wr.alloc o).drew).grownBy w1 v.ownBlock) => (show w1.heap[w.heap.size + 2]? = some (.cells #[.int .i64 c, .int .i64 s, .int .i64 k, v, .int .i64 lo, .int .i64 hi, .int .i64 old] 45 (0, 0)) ∧ Below (w.heap.size + 2) W0 w1 ∧ w.heap.size + 3 ≤ w1.heap.size from by
        have hlt2 := ho.lt
        have z : ((wr.alloc o).drew).heap.size = wr.heap.size + 1 := by simp
        refine ⟨(hg.block (w.heap.size + 2) (by rw [z]; omega) (fun e => by have := (hlt2 _ e.symm).1; omega)).trans ((heap_alloc_old wr o (by omega)).trans hb2), ?_, Nat.le_trans (by rw [z]; omega) hg.size⟩
        exact ((hbl.alloc (by omega) o).drew).grown hg (by rw [z]; omega) (fun g e => by have := (hlt2 g e).1; omega)))
      have B63 := Lib.hid (show j + 1 ≤ maxLen by unfold maxLen; omega)
      have BBY := Lib.hid (show (j + 1) * 16 ≤ 140737488355328 by omega)
      have HBS := Lib.hid (fun o => (show w.heap.size + 3 ≤ ((wr.alloc o).drew).heap.size from by simp; omega))
      have HH := Lib.hid (fun o => (show ((wr.alloc o).drew).heap.size = wr.heap.size + 1 from by simp))
      have hjn : (j : Int) < (n : Int) := by omega
      clear ho hbl hlow k0 k1
      replace hb2 := Lib.hid hb2
      go_wp2_with fail
      go_region_law (first | (refine step_append_lies _ rfl (.tmp 24) (.tmp 30) 27 rfl (w.heap.size + 3) 66 i0 (.agg #[.int .i64 0, .int .i64 0]) 2 16 Try.underlying27 hi0 hz0 hz1 hz2 rfl (by decide) _ _ _ rfl (HD.out _) ⟨wr.heap.size, 0, none⟩ 1 1 [.int .i64 x, .int .i64 y] rfl rfl (cellD2 wr _ _ _) (two_i64 _ _) (by decide) B63.out BBY.out (HBS.out _) (wr.heap.size + 1) (HH.out _) ?_; intro g cap w1 hown1 hgrow1 _ _; obtain ⟨g1, g2, g3⟩ := HG.out _ _ hgrow1; have g4 : w1.cell? ⟨w.heap.size + 2, 3, none⟩ = some v := cell_of_row _ _ 3 _ _ _ g1; have g5 : w1.frozen? ⟨w.heap.size + 2, 3, none⟩ = false := frozen_of_row _ _ 3 _ _ g1; replace g1 := Lib.hid g1; replace hown1 := Lib.hid hown1; clear hgrow1))
      all_goals
        go_wp2
        go_roundw
        case rel =>
          refine ⟨j + 1, by go_num, by omega, Lib.hid ⟨.slice (some ⟨g, 0, none⟩) (j + 1) cap, ownsRow_setCell_below (a := ⟨w.heap.size + 2, 3, none⟩) ?_ (by show w.heap.size + 2 < _; omega) _, ?_, ?_, ?_⟩⟩
          · rw [take_more (by rw [← hn.out]; exact hlt), flatP_append, hs.out]
            exact hown1.out
          · have := heap_setCell_same _ _ 3 _ _ (.slice (some ⟨g, 0, none⟩) (j + 1) cap) g1.out
            exact this
          · exact g2.setCell (by show w.heap.size + 2 ≤ w.heap.size + 2; omega) _
          · simpa using g3
        case measure => simp [intOf]; omega
    · have hk' : l.take j = l := List.take_of_length_le (by rw [← hn.out]; omega)
      have hkn : j = n := by omega
      subst hkn
      rw [hk'] at ho
      obtain ⟨a6, c6, rfl, _⟩ := (ownsP_of_row ho hn.out).arg
      have HO := Lib.hid ho
      have v0 : wr.cell? ⟨w.heap.size + 2, 0, none⟩ = some (.int .i64 c) := cell_of_row _ _ 0 _ _ _ hb2
      have v1 : wr.cell? ⟨w.heap.size + 2, 1, none⟩ = some (.int .i64 s) := cell_of_row _ _ 1 _ _ _ hb2
      have v2 : wr.cell? ⟨w.heap.size + 2, 2, none⟩ = some (.int .i64 k) := cell_of_row _ _ 2 _ _ _ hb2
      have v3 := cell_of_row _ _ 3 _ _ _ hb2
      have v4 : wr.cell? ⟨w.heap.size + 2, 4, none⟩ = some (.int .i64 lo) := cell_of_row _ _ 4 _ _ _ hb2
      have v5 : wr.cell? ⟨w.heap.size + 2, 5, none⟩ = some (.int .i64 hi) := cell_of_row _ _ 5 _ _ _ hb2
      have v6 : wr.cell? ⟨w.heap.size + 2, 6, none⟩ = some (.int .i64 old) := cell_of_row _ _ 6 _ _ _ hb2
      simp at v3
      have r0 : wr.cell? ⟨w.heap.size + 1, 0, none⟩ = some (.int .i64 0) := cell_of_row _ _ 0 _ _ _ k1
      have r1 : wr.cell? ⟨w.heap.size + 1, 1, none⟩ = some (.int .i64 0) := cell_of_row _ _ 1 _ _ _ k1
      have r2 : wr.cell? ⟨w.heap.size + 1, 2, none⟩ = some (.int .i64 0) := cell_of_row _ _ 2 _ _ _ k1
      have r3 : wr.cell? ⟨w.heap.size + 1, 3, none⟩ = some (.slice none 0 0) := cell_of_row _ _ 3 _ _ _ k1
      have r4 : wr.cell? ⟨w.heap.size + 1, 4, none⟩ = some (.int .i64 0) := cell_of_row _ _ 4 _ _ _ k1
      have r5 : wr.cell? ⟨w.heap.size + 1, 5, none⟩ = some (.int .i64 0) := cell_of_row _ _ 5 _ _ _ k1
      have r6 : wr.cell? ⟨w.heap.size + 1, 6, none⟩ = some (.int .i64 0) := cell_of_row _ _ 6 _ _ _ k1
      have rf : ∀ i, wr.frozen? ⟨w.heap.size + 1, i, none⟩ = false := fun i => frozen_of_row _ _ i _ _ k1
      replace hk' := Lib.hid hk'
      replace hb2 := Lib.hid hb2
      replace k0 := Lib.hid k0
      replace k1 := Lib.hid k1
      clear ho
      go_wp2
      refine bodyPost_ret (v := .agg #[.int .i64 c, .int .i64 s, .int .i64 k, .slice a6 l.length c6, .int .i64 lo, .int .i64 hi, .int .i64 old]) (by simp [results, Try.results16, go_sem, v0, v1, v2, v3, v4, v5, v6, r0, r1, r2, r3, r4, r5, r6, rf]) rfl ⟨_, _, _, rfl, Arg.of_own (t := 66) (base := w.heap.size + 3) (ownsP_of_row ?_ hn.out) rfl, ?_⟩
      · repeat (refine ownsRow_setCell_below ?_ (by show w.heap.size + 1 < _; omega) _)
        exact HO.out
      · repeat (refine Below.setCell ?_ (by show w.heap.size ≤ w.heap.size + 1; omega) _)
        exact hlow
end Go.Proofs.Ythofoidafdbgcaa


/-
  CONTRACTS: the document's value, pairs (of mutations).
-/
namespace Go.Proofs.Ythofoidafdbgcaa
open Go.RowKit Go.Shelf

theorem value4_any (x : Int) (w : World) : Calls Try.prog 39 #[.int .i64 x] w fun e w' => e = .returned (.bool (isVal x)) ∧ w = w' := by
  have H := Lib.hid (show isVal x = (decide (-1099511627776 ≤ x) && decide (x ≤ 1099511627776)) by unfold isVal btw; rw [Bool.decide_and])
  generalize isVal x = r at H
  by_cases h1 : -1099511627776 ≤ x
  · by_cases h2 : x ≤ 1099511627776
    all_goals
      go_enter Try.func39, Try.ntmps39
      go_wp2
      go_ret
      exact ⟨ret_bool (by rw [H.out]; simp [h1, h2]), rfl⟩
  · go_enter Try.func39, Try.ntmps39
    go_wp2
    go_ret
    exact ⟨ret_bool (by rw [H.out]; simp; omega), rfl⟩
theorem okPs_pre (l m : List Sp) (h : okPs (l ++ m) = true) : okPs l = true := by
  unfold okPs at h ⊢
  rw [List.all_append, Bool.and_eq_true] at h
  exact h.1
theorem okPs_snoc (l : List Sp) (p : Sp) : okPs (l ++ [p]) = (okPs l && okP p) := by
  unfold okPs
  rw [List.all_append]
  simp

set_option maxRecDepth 100000 in
set_option maxHeartbeats 1000000 in
theorem pairs4_any (least most : Int) (a : Option Addr) (n c : Nat) (l : List Sp) (w : World) (h : Arg w a n c l) :
    Calls Try.prog 38 #[.slice a n c, .int .i64 least, .int .i64 most] w (Gives w (.bool (btw least n most && okPs l))) := by
  obtain ⟨hn, hz, _, _, hp⟩ := h
  have hnz : (n : Int) ≤ 9223372036854775807 := by omega
  by_cases h1 : (n : Int) < least
  · have H := Lib.hid (show (btw least n most && okPs l) = false by rw [show btw least n most = false from by unfold btw; exact decide_eq_false (by omega)]; rfl)
    clear hp hn
    go_enter Try.func38, Try.ntmps38
    go_wp2
    go_ret
    exact ⟨ret_bool H.out.symm, Below.refl _ _⟩
  · by_cases h2 : most < (n : Int)
    · have H := Lib.hid (show (btw least n most && okPs l) = false by rw [show btw least n most = false from by unfold btw; exact decide_eq_false (by omega)]; rfl)
      clear hp hn
      go_enter Try.func38, Try.ntmps38
      go_wp2
      go_ret
      exact ⟨ret_bool H.out.symm, Below.refl _ _⟩
    · obtain ⟨r, hr⟩ : ∃ r, okPs l = r := ⟨_, rfl⟩
      have H := Lib.hid (show (btw least n most && okPs l) = r by rw [show btw least n most = true from by unfold btw; exact decide_eq_true (by omega), hr]; rfl)
      generalize (btw least n most && okPs l) = r' at H
      replace hr := Lib.hid hr
      replace hn := Lib.hid hn
      replace hp := Lib.hid hp
      go_enter Try.func38, Try.ntmps38
      go_wp2_with fail
      clear h1 h2
      go_loopw [7] (fun i wr => ∃ (k : Nat), i = .int .i64 (k : Int) ∧ k ≤ n ∧ Hid (okPs (l.take k) = true) ∧ Below w.heap.size w wr)
        (fun i _ => n - (intOf i).toNat)
      case atStart => exact ⟨0, rfl, Nat.zero_le _, Lib.hid rfl, Below.refl _ _⟩
      case round =>
        obtain ⟨k, rfl, hk, HK, hbl⟩ := hrel
        by_cases hlt : k < n
        · have hkz : (k : Int) < (n : Int) := by omega
          obtain ⟨b, off, e, hb, d0, d1⟩ := (hp.out.below hbl) k (by rw [← hn.out]; omega)
          subst e
          obtain ⟨p, hpk⟩ : ∃ s, l.getD k (0, 0) = s := ⟨_, rfl⟩
          rw [hpk] at d0 d1
          have hnext : okPs (l.take (k + 1)) = okP p := by
            rw [take_more (k := k) (by rw [← hn.out]; omega), okPs_snoc, HK.out, hpk, Bool.true_and]
          have hbad : okP p = false → r = false := fun hq => by
            rw [← hr.out]
            cases hq' : okPs l
            · rfl
            · have := okPs_pre (l.take (k + 1)) (l.drop (k + 1)) (by rw [List.take_append_drop]; exact hq')
              rw [hnext, hq] at this; cases this
          replace hpk := Lib.hid hpk
          obtain ⟨x, y⟩ := p
          dsimp only at d0 d1
          have hok : okP (x, y) = ((decide (0 ≤ x) && decide (x ≤ 4095)) && isVal y) := by unfold okP btw; rw [Bool.decide_and]
          by_cases x0 : x < 0
          · have hr0 := Lib.hid (hbad (by rw [hok, decide_eq_false (by omega)]; rfl))
            clear hbad hok hnext
            go_wp2_with fail
            go_ret
            exact ⟨ret_bool (by rw [H.out, hr0.out]), hbl⟩
          · by_cases x1 : 4095 < x
            · have hr0 := Lib.hid (hbad (by rw [hok, decide_eq_false (show ¬ x ≤ 4095 by omega), Bool.and_false]; rfl))
              clear hbad hok hnext
              go_wp2_with fail
              go_ret
              exact ⟨ret_bool (by rw [H.out, hr0.out]), hbl⟩
            · rw [decide_eq_true (show 0 ≤ x by omega), decide_eq_true (show x ≤ 4095 by omega)] at hok
              cases hv' : isVal y
              · have hr0 := Lib.hid (hbad (by rw [hok, hv']; rfl))
                have hv := Lib.hid hv'
                clear hbad hok hnext hv'
                go_wp2_with ((go_at_call 39; refine (value4_any y _).mono ?_; rw [hv.out]; rintro e w9 ⟨rfl, rfl⟩))
                go_ret
                exact ⟨ret_bool (by rw [H.out, hr0.out]), hbl⟩
              · have hN := Lib.hid (hnext.trans (hok.trans (by rw [hv']; first | done | rfl)))
                have hv := Lib.hid hv'
                clear hbad hok hnext hv'
                go_wp2_with ((go_at_call 39; refine (value4_any y _).mono ?_; rw [hv.out]; rintro e w9 ⟨rfl, rfl⟩))
                go_roundw
                case rel => exact ⟨k + 1, by go_num, by omega, hN, hbl⟩
                case measure => simp [intOf]; omega
        · have hk' : l.take k = l := List.take_of_length_le (by rw [← hn.out]; omega)
          have hfin := HK.out
          have hkn : ¬ (k : Int) < (n : Int) := by omega
          rw [hk', hr.out] at hfin
          subst hfin
          replace hk' := Lib.hid hk'
          go_wp2
          go_ret
          exact ⟨ret_bool H.out.symm, hbl⟩
end Go.Proofs.Ythofoidafdbgcaa


/-
  CONTRACT: the document's Check (of a mutation).
-/
namespace Go.Proofs.Ythofoidafdbgcaa
open Go.RowKit Go.Shelf

theorem chk_good {c s k : Int} {l : List Sp} {lo hi old : Int} (hcs : 1 ≤ c ∧ c ≤ 1048576 ∧ 1 ≤ s ∧ s ≤ 1073741824) : chkM c s k l lo hi old = (bareB k lo hi old && fitsB k l lo hi old) := by
  obtain ⟨u1, u2, u3, u4⟩ := hcs
  unfold chkM
  rw [show btw 1 c 1048576 = true from decide_eq_true ⟨u1, u2⟩, show btw 1 s 1073741824 = true from decide_eq_true ⟨u3, u4⟩]
  simp
theorem btw_one (m n : Nat) : btw m n m = (n == m) := by
  unfold btw
  by_cases h : n = m
  · simp [h]
  · rw [show (n == m) = false from by simpa using h]
    exact decide_eq_false (by omega)

set_option maxRecDepth 100000 in
set_option maxHeartbeats 2000000 in
theorem rchk_out (c s k : Int) (a : Option Addr) (n cp : Nat) (l : List Sp) (lo hi old : Int) (w : World) (hA : Arg w a n cp l) (h : ¬ (1 ≤ c ∧ c ≤ 1048576 ∧ 1 ≤ s ∧ s ≤ 1073741824)) :
    Calls Try.prog 21 #[.agg #[.int .i64 c, .int .i64 s, .int .i64 k, .slice a n cp, .int .i64 lo, .int .i64 hi, .int .i64 old]] w (Gives w (.bool (chkM c s k l lo hi old))) := by
  have hn := hA.1
  have hnz : (n : Int) ≤ 9223372036854775807 := by have := hA.2.1; omega
  have hb0 : Below w.heap.size w (w.alloc (.cells #[.int .i64 c, .int .i64 s, .int .i64 k, .slice a n cp, .int .i64 lo, .int .i64 hi, .int .i64 old] 45)) := (Below.refl _ _).alloc (Nat.le_refl _) _
  have H := Lib.hid (show chkM c s k l lo hi old = false by
    unfold chkM
    by_cases h1 : 1 ≤ c ∧ c ≤ 1048576
    · rw [show btw 1 s 1073741824 = false from decide_eq_false (fun q => h ⟨h1.1, h1.2, q.1, q.2⟩)]; simp
    · rw [show btw 1 c 1048576 = false from decide_eq_false h1]; simp)
  generalize chkM c s k l lo hi old = r at H
  clear hA hn
  by_cases h1 : c < 1
  · go_enter Try.func21, Try.ntmps21
    go_wp2
    go_ret
    exact ⟨ret_bool H.out.symm, hb0⟩
  · by_cases h2 : 1048576 < c
    · go_enter Try.func21, Try.ntmps21
      go_wp2
      go_ret
      exact ⟨ret_bool H.out.symm, hb0⟩
    · by_cases h3 : s < 1
      · go_enter Try.func21, Try.ntmps21
        go_wp2
        go_ret
        exact ⟨ret_bool H.out.symm, hb0⟩
      · have h4 : 1073741824 < s := by omega
        clear h
        go_enter Try.func21, Try.ntmps21
        go_wp2
        go_ret
        exact ⟨ret_bool H.out.symm, hb0⟩

set_option maxRecDepth 100000 in
set_option maxHeartbeats 2000000 in
theorem rchk2 (c s : Int) (a : Option Addr) (n cp : Nat) (l : List Sp) (lo hi old : Int) (w : World) (hA : Arg w a n cp l) (hcs : 1 ≤ c ∧ c ≤ 1048576 ∧ 1 ≤ s ∧ s ≤ 1073741824) :
    Calls Try.prog 21 #[.agg #[.int .i64 c, .int .i64 s, .int .i64 2, .slice a n cp, .int .i64 lo, .int .i64 hi, .int .i64 old]] w (Gives w (.bool (chkM c s 2 l lo hi old))) := by
  have hn := hA.1
  have hnz : (n : Int) ≤ 9223372036854775807 := by have := hA.2.1; omega
  have hb0 : Below w.heap.size w (w.alloc (.cells #[.int .i64 c, .int .i64 s, .int .i64 2, .slice a n cp, .int .i64 lo, .int .i64 hi, .int .i64 old] 45)) := (Below.refl _ _).alloc (Nat.le_refl _) _
  have hF : chkM c s 2 l lo hi old = ((n == 0) && ((old == 0) && oneB (lo, hi))) := by
    rw [chk_good hcs, hn]
    show (((2 : Int) == 2 || (lo == 0 && hi == 0)) && ((2 : Int) == 4 || old == 0) && ((l.length == 0) && oneB (lo, hi))) = _
    cases (old == 0) <;> cases (l.length == 0) <;> simp
  obtain ⟨u1, u2, u3, u4⟩ := hcs
  have x1 : ¬ c < 1 := by omega
  have x2 : ¬ 1048576 < c := by omega
  have x3 : ¬ s < 1 := by omega
  have x4 : ¬ 1073741824 < s := by omega
  clear hA
  replace hn := Lib.hid hn
  by_cases n0 : n = 0
  · subst n0
    by_cases o0 : old = 0
    · subst o0
      cases h2 : oneB (lo, hi)
      all_goals
        have H := Lib.hid (hF.trans (by rw [h2]))
        replace h2' := Lib.hid h2
        clear hF h2
        go_enter Try.func21, Try.ntmps21
        go_wp2_with (go_at_call 37; (with_reducible refine (rone_any (lo, hi) _).mono ?_); rw [h2'.out]; rintro e w2 ⟨rfl, b2⟩; have b02 := below_next hb0 b2)
        go_ret
        exact ⟨ret_bool H.out.symm, b02⟩
    · have H := Lib.hid (hF.trans (show _ = false by rw [show (old == 0) = false from by simpa using o0]; simp))
      clear hF
      go_enter Try.func21, Try.ntmps21
      go_wp2
      go_ret
      exact ⟨ret_bool H.out.symm, hb0⟩
  · have nb : ((n : Int) == 0) = false := by simp; omega
    have H := Lib.hid (hF.trans (show _ = false by rw [show (n == 0) = false from by simpa using n0]; rfl))
    clear hF
    go_enter Try.func21, Try.ntmps21
    go_wp2
    go_ret
    exact ⟨ret_bool H.out.symm, hb0⟩

set_option maxRecDepth 100000 in
set_option maxHeartbeats 2000000 in
theorem rchkOver (c s k : Int) (a : Option Addr) (n cp : Nat) (l : List Sp) (lo hi old : Int) (w : World) (hA : Arg w a n cp l) (hcs : 1 ≤ c ∧ c ≤ 1048576 ∧ 1 ≤ s ∧ s ≤ 1073741824) (k2 : (k == 2) = false) (h : ¬ (lo = 0 ∧ hi = 0)) :
    Calls Try.prog 21 #[.agg #[.int .i64 c, .int .i64 s, .int .i64 k, .slice a n cp, .int .i64 lo, .int .i64 hi, .int .i64 old]] w (Gives w (.bool (chkM c s k l lo hi old))) := by
  have hn := hA.1
  have hnz : (n : Int) ≤ 9223372036854775807 := by have := hA.2.1; omega
  have hb0 : Below w.heap.size w (w.alloc (.cells #[.int .i64 c, .int .i64 s, .int .i64 k, .slice a n cp, .int .i64 lo, .int .i64 hi, .int .i64 old] 45)) := (Below.refl _ _).alloc (Nat.le_refl _) _
  have H := Lib.hid (show chkM c s k l lo hi old = false by
    rw [chk_good hcs]
    unfold bareB
    rw [k2]
    by_cases h1 : lo = 0
    · have h2 : hi ≠ 0 := fun e => h ⟨h1, e⟩
      simp [h1, h2]
    · simp [h1])
  generalize chkM c s k l lo hi old = r at H
  obtain ⟨u1, u2, u3, u4⟩ := hcs
  have x1 : ¬ c < 1 := by omega
  have x2 : ¬ 1048576 < c := by omega
  have x3 : ¬ s < 1 := by omega
  have x4 : ¬ 1073741824 < s := by omega
  clear hA hn
  by_cases h1 : lo = 0
  · have h2 : hi ≠ 0 := fun e => h ⟨h1, e⟩
    subst h1
    have h3 : (hi != 0) = true := by simpa using h2
    clear h
    go_enter Try.func21, Try.ntmps21
    go_wp2
    go_ret
    exact ⟨ret_bool H.out.symm, hb0⟩
  · have h3 : (lo != 0) = true := by simpa using h1
    clear h
    go_enter Try.func21, Try.ntmps21
    go_wp2
    go_ret
    exact ⟨ret_bool H.out.symm, hb0⟩

set_option maxRecDepth 100000 in
set_option maxHeartbeats 2000000 in
theorem rchkOld (c s k : Int) (a : Option Addr) (n cp : Nat) (l : List Sp) (old : Int) (w : World) (hA : Arg w a n cp l) (hcs : 1 ≤ c ∧ c ≤ 1048576 ∧ 1 ≤ s ∧ s ≤ 1073741824) (k2 : (k == 2) = false) (k4 : (k == 4) = false) (h : old ≠ 0) :
    Calls Try.prog 21 #[.agg #[.int .i64 c, .int .i64 s, .int .i64 k, .slice a n cp, .int .i64 0, .int .i64 0, .int .i64 old]] w (Gives w (.bool (chkM c s k l 0 0 old))) := by
  have hn := hA.1
  have hnz : (n : Int) ≤ 9223372036854775807 := by have := hA.2.1; omega
  have hb0 : Below w.heap.size w (w.alloc (.cells #[.int .i64 c, .int .i64 s, .int .i64 k, .slice a n cp, .int .i64 0, .int .i64 0, .int .i64 old] 45)) := (Below.refl _ _).alloc (Nat.le_refl _) _
  have H := Lib.hid (show chkM c s k l 0 0 old = false by
    rw [chk_good hcs]
    unfold bareB
    rw [k2, k4]
    simp [h])
  generalize chkM c s k l 0 0 old = r at H
  have h3 : (old != 0) = true := by simpa using h
  obtain ⟨u1, u2, u3, u4⟩ := hcs
  have x1 : ¬ c < 1 := by omega
  have x2 : ¬ 1048576 < c := by omega
  have x3 : ¬ s < 1 := by omega
  have x4 : ¬ 1073741824 < s := by omega
  clear hA hn
  go_enter Try.func21, Try.ntmps21
  go_wp2
  go_ret
  exact ⟨ret_bool H.out.symm, hb0⟩

set_option maxRecDepth 100000 in
set_option maxHeartbeats 2000000 in
theorem rchk4 (c s : Int) (a : Option Addr) (n cp : Nat) (l : List Sp) (old : Int) (w : World) (hA : Arg w a n cp l) (hcs : 1 ≤ c ∧ c ≤ 1048576 ∧ 1 ≤ s ∧ s ≤ 1073741824) :
    Calls Try.prog 21 #[.agg #[.int .i64 c, .int .i64 s, .int .i64 4, .slice a n cp, .int .i64 0, .int .i64 0, .int .i64 old]] w (Gives w (.bool (chkM c s 4 l 0 0 old))) := by
  have hn := hA.1
  have hnz : (n : Int) ≤ 9223372036854775807 := by have := hA.2.1; omega
  have hb0 : Below w.heap.size w (w.alloc (.cells #[.int .i64 c, .int .i64 s, .int .i64 4, .slice a n cp, .int .i64 0, .int .i64 0, .int .i64 old] 45)) := (Below.refl _ _).alloc (Nat.le_refl _) _
  have hF : chkM c s 4 l 0 0 old = ((btw 1 n 1 && okPs l) && (isVal old || old == 1099511627777)) := by
    rw [chk_good hcs, show btw 1 n 1 = (n == 1) from btw_one 1 n, hn]
    show ((l.length == 1) && okPs l && (isVal old || old == 1099511627777)) = _
    rfl
  obtain ⟨u1, u2, u3, u4⟩ := hcs
  have x1 : ¬ c < 1 := by omega
  have x2 : ¬ 1048576 < c := by omega
  have x3 : ¬ s < 1 := by omega
  have x4 : ¬ 1073741824 < s := by omega
  have HB := Lib.hid (hA.below hb0)
  clear hA hn
  obtain ⟨r, hr⟩ : ∃ r, (btw 1 n 1 && okPs l) = r := ⟨_, rfl⟩
  obtain ⟨q, hq⟩ : ∃ r, isVal old = r := ⟨_, rfl⟩
  obtain ⟨z, hz⟩ : ∃ r, (old == 1099511627777) = r := ⟨_, rfl⟩
  rw [hr, hq, hz] at hF
  replace hF := Lib.hid hF
  replace hr := Lib.hid hr
  replace hq := Lib.hid hq
  cases r
  · go_enter Try.func21, Try.ntmps21
    go_wp2_with (go_at_call 38; (with_reducible refine (pairs4_any 1 1 a n cp l _ HB.out).mono ?_); rw [hr.out]; rintro e w2 ⟨rfl, b2⟩; obtain ⟨g0, g1, g2, g3, g4, g5, g6⟩ := box7 b2; have b02 := below_next hb0 b2)
    go_ret
    exact ⟨ret_bool (by rw [hF.out]; rfl), b02⟩
  · cases q <;> cases z
    all_goals
      go_enter Try.func21, Try.ntmps21
      go_wp2_with (first | (go_at_call 38; (with_reducible refine (pairs4_any 1 1 a n cp l _ HB.out).mono ?_); rw [hr.out]; rintro e w2 ⟨rfl, b2⟩; obtain ⟨g0, g1, g2, g3, g4, g5, g6⟩ := box7 b2; have b02 := below_next hb0 b2) | (go_at_call 39; (with_reducible refine (value4_any old _).mono ?_); rw [hq.out]; rintro e w3 ⟨rfl, rfl⟩))
      go_ret
      exact ⟨ret_bool (by rw [hF.out]; rfl), b02⟩

set_option maxRecDepth 100000 in
set_option maxHeartbeats 2000000 in
theorem rchk3 (c s : Int) (a : Option Addr) (n cp : Nat) (l : List Sp) (w : World) (hA : Arg w a n cp l) (hcs : 1 ≤ c ∧ c ≤ 1048576 ∧ 1 ≤ s ∧ s ≤ 1073741824) :
    Calls Try.prog 21 #[.agg #[.int .i64 c, .int .i64 s, .int .i64 3, .slice a n cp, .int .i64 0, .int .i64 0, .int .i64 0]] w (Gives w (.bool (chkM c s 3 l 0 0 0))) := by
  have hn := hA.1
  have hnz : (n : Int) ≤ 9223372036854775807 := by have := hA.2.1; omega
  have hb0 : Below w.heap.size w (w.alloc (.cells #[.int .i64 c, .int .i64 s, .int .i64 3, .slice a n cp, .int .i64 0, .int .i64 0, .int .i64 0] 45)) := (Below.refl _ _).alloc (Nat.le_refl _) _
  have hF : chkM c s 3 l 0 0 0 = (btw 1 n 1 && okPs l) := by
    rw [chk_good hcs, show btw 1 n 1 = (n == 1) from btw_one 1 n, hn]
    show ((l.length == 1) && okPs l) = _
    rfl
  obtain ⟨u1, u2, u3, u4⟩ := hcs
  have x1 : ¬ c < 1 := by omega
  have x2 : ¬ 1048576 < c := by omega
  have x3 : ¬ s < 1 := by omega
  have x4 : ¬ 1073741824 < s := by omega
  have HB := Lib.hid (hA.below hb0)
  clear hA hn
  obtain ⟨r, hr⟩ : ∃ r, (btw 1 n 1 && okPs l) = r := ⟨_, rfl⟩
  rw [hr] at hF
  replace hF := Lib.hid hF
  replace hr := Lib.hid hr
  go_enter Try.func21, Try.ntmps21
  go_wp2_with (go_at_call 38; (with_reducible refine (pairs4_any 1 1 a n cp l _ HB.out).mono ?_); rw [hr.out]; rintro e w2 ⟨rfl, b2⟩; obtain ⟨g0, g1, g2, g3, g4, g5, g6⟩ := box7 b2; have b02 := below_next hb0 b2)
  go_ret
  exact ⟨ret_bool hF.out.symm, b02⟩
end Go.Proofs.Ythofoidafdbgcaa


/-
  CONTRACT: the document's Check (of a mutation): additions, moves; all kinds.
-/
namespace Go.Proofs.Ythofoidafdbgcaa
open Go.RowKit Go.Shelf

set_option maxRecDepth 100000 in
set_option maxHeartbeats 2000000 in
theorem rchk1 (c s : Int) (a : Option Addr) (n cp : Nat) (l : List Sp) (w : World) (hA : Arg w a n cp l) (hcs : 1 ≤ c ∧ c ≤ 1048576 ∧ 1 ≤ s ∧ s ≤ 1073741824) :
    Calls Try.prog 21 #[.agg #[.int .i64 c, .int .i64 s, .int .i64 1, .slice a n cp, .int .i64 0, .int .i64 0, .int .i64 0]] w (Gives w (.bool (chkM c s 1 l 0 0 0))) := by
  have hn := hA.1
  have hnz : (n : Int) ≤ 9223372036854775807 := by have := hA.2.1; omega
  have hb0 : Below w.heap.size w (w.alloc (.cells #[.int .i64 c, .int .i64 s, .int .i64 1, .slice a n cp, .int .i64 0, .int .i64 0, .int .i64 0] 45)) := (Below.refl _ _).alloc (Nat.le_refl _) _
  have hF : chkM c s 1 l 0 0 0 = ((btw 1 n 8 && okPs l) && riseB l) := by
    rw [chk_good hcs, hn]
    show (btw 1 l.length 8 && okPs l && riseB l) = _
    rfl
  obtain ⟨u1, u2, u3, u4⟩ := hcs
  have x1 : ¬ c < 1 := by omega
  have x2 : ¬ 1048576 < c := by omega
  have x3 : ¬ s < 1 := by omega
  have x4 : ¬ 1073741824 < s := by omega
  have hp := hA.2.2.2.2
  replace hA := Lib.hid hA
  obtain ⟨r, hr⟩ : ∃ r, (btw 1 n 8 && okPs l) = r := ⟨_, rfl⟩
  obtain ⟨q, hq⟩ : ∃ r, riseB l = r := ⟨_, rfl⟩
  rw [hr, hq] at hF
  replace hF := Lib.hid hF
  replace hr := Lib.hid hr
  replace hq := Lib.hid hq
  replace hn := Lib.hid hn
  replace hp := Lib.hid hp
  obtain ⟨W1, hW1⟩ : ∃ W1, (w.alloc (.cells #[.int .i64 c, .int .i64 s, .int .i64 1, .slice a n cp, .int .i64 0, .int .i64 0, .int .i64 0] 45)) = W1 := ⟨_, rfl⟩
  have K7 := Lib.hid (fun W (h : Below W1.heap.size W1 W) => box7 (w := w) (t := 45) (v0 := .int .i64 c) (v1 := .int .i64 s) (v2 := .int .i64 1) (v3 := .slice a n cp) (v4 := .int .i64 0) (v5 := .int .i64 0) (v6 := .int .i64 0) (w' := W) (by rw [hW1]; exact h))
  have s1 : w.heap.size ≤ W1.heap.size := by rw [← hW1]; simp
  rw [hW1] at hb0
  obtain ⟨z0, z1, z2, z3, z4, z5, z6⟩ := K7.out _ (Below.refl _ _)
  go_enter Try.func21, Try.ntmps21
  go_wp2_with fail
  clear z0 z1 z2 z3 z4 z5 z6
  replace hW1 := Lib.hid hW1
  clear x1 x2 x3 x4 u1 u2 u3 u4
  go_loopw [3] (fun i wr => ∃ (k : Nat), i = .int .i64 ((k : Int) + 1) ∧ (k < n ∨ k = 0) ∧ Hid (riseB (l.take (k + 1)) = true) ∧ Hid (Below W1.heap.size W1 wr))
    (fun i _ => n - (intOf i).toNat)
  case atStart =>
    refine ⟨0, rfl, .inr rfl, Lib.hid ?_, Lib.hid (Below.refl _ _)⟩
    cases l with
    | nil => rfl
    | cons x t => rfl
  case round =>
    obtain ⟨k, rfl, hk, HK, HL⟩ := hrel
    obtain ⟨_, _, _, c3, _, _, _⟩ := K7.out _ HL.out
    have hlow : Below w.heap.size w wr := hb0.trans (HL.out.mono s1)
    by_cases hlt : k + 1 < n
    · have hltz : (k : Int) + 1 < (n : Int) := by omega
      have hkz : (k : Int) < (n : Int) := by omega
      obtain ⟨b, off, e, hb, d0, _⟩ := (hp.out.below hlow) k (by rw [← hn.out]; omega)
      subst e
      obtain ⟨b', off', e, _, e0, _⟩ := (hp.out.below hlow) (k + 1) (by rw [← hn.out]; exact hlt)
      cases e
      obtain ⟨p, hpk⟩ : ∃ s, l.getD k (0, 0) = s := ⟨_, rfl⟩
      obtain ⟨q', hq'⟩ : ∃ s, l.getD (k + 1) (0, 0) = s := ⟨_, rfl⟩
      rw [hpk] at d0
      rw [hq'] at e0
      have hnext : riseB (l.take (k + 1 + 1)) = decide (p.1 < q'.1) := by
        have h1 := HK.out
        rw [take_more (k := k) (by rw [← hn.out]; omega)] at h1
        rw [take_more (k := k + 1) (by rw [← hn.out]; exact hlt), take_more (k := k) (by rw [← hn.out]; omega), riseB_snoc, h1, hpk, hq', Bool.true_and]
      replace hpk := Lib.hid hpk
      replace hq' := Lib.hid hq'
      obtain ⟨x, y⟩ := p
      obtain ⟨u, v⟩ := q'
      dsimp only at d0 e0 hnext
      rw [show off + (k + 1) * 2 = off + k * 2 + 2 from by omega] at e0
      have hks : (k : Int) + 1 - 1 = k := by omega
      have hkw : IntKind.i64.wrap ((k : Int) + 1 - 1) = k := by rw [hks]; exact IntWalk.i64_in _ (by omega)
      have ht : ((k : Int) + 1).toNat = k + 1 := by omega
      have hoff : off + (k + 1) * 2 = off + k * 2 + 2 := by omega
      replace hks := Lib.hid hks
      by_cases hxu : x < u
      · have hN := Lib.hid (hnext.trans (decide_eq_true hxu))
        have hd : decide (u ≤ x) = false := decide_eq_false (by omega)
        clear hnext hlow
        go_wp2_with fail
        go_quiet (fail)
        go_wp2
        go_roundw
        case rel => exact ⟨k + 1, by go_num, .inl hlt, hN, Lib.hid (below_drewN HL.out _)⟩
        case measure => simp [intOf]; omega
      · have hbad : q = false := by
          rw [← hq.out]
          cases hq'' : riseB l
          · rfl
          · have := riseB_pre (l.take (k + 1 + 1)) (l.drop (k + 1 + 1)) (by rw [List.take_append_drop]; exact hq'')
            rw [hnext, decide_eq_false hxu] at this; cases this
        subst hbad
        have hd : u ≤ x := by omega
        clear hnext
        go_wp2_with fail
        go_quiet (fail)
        go_wp2
        go_ret
        exact ⟨ret_bool (by rw [hF.out, Bool.and_false]), below_drewN hlow _⟩
    · have hnlt : ¬ (k : Int) + 1 < (n : Int) := by omega
      have hk' : l.take (k + 1) = l := List.take_of_length_le (by rw [← hn.out]; omega)
      have hfin := HK.out
      rw [hk', hq.out] at hfin
      subst hfin
      replace hk' := Lib.hid hk'
      have HB := Lib.hid (hA.out.below hlow)
      go_wp2_with (go_at_call 38; (with_reducible refine (pairs4_any 1 8 a n cp l _ HB.out).mono ?_); rw [hr.out]; rintro e w2 ⟨rfl, b2⟩; have b02 := below_next hlow b2)
      go_ret
      exact ⟨ret_bool (by rw [hF.out, Bool.and_true]), b02⟩

set_option maxRecDepth 100000 in
set_option maxHeartbeats 2000000 in
theorem rchk0 (c s k : Int) (a : Option Addr) (n cp : Nat) (l : List Sp) (w : World) (hA : Arg w a n cp l) (hcs : 1 ≤ c ∧ c ≤ 1048576 ∧ 1 ≤ s ∧ s ≤ 1073741824) (hk : k ≠ 1 ∧ k ≠ 2 ∧ k ≠ 3 ∧ k ≠ 4 ∧ k ≠ 5) :
    Calls Try.prog 21 #[.agg #[.int .i64 c, .int .i64 s, .int .i64 k, .slice a n cp, .int .i64 0, .int .i64 0, .int .i64 0]] w (Gives w (.bool (chkM c s k l 0 0 0))) := by
  have hn := hA.1
  have hnz : (n : Int) ≤ 9223372036854775807 := by have := hA.2.1; omega
  have hb0 : Below w.heap.size w (w.alloc (.cells #[.int .i64 c, .int .i64 s, .int .i64 k, .slice a n cp, .int .i64 0, .int .i64 0, .int .i64 0] 45)) := (Below.refl _ _).alloc (Nat.le_refl _) _
  have mixed : Try.prog.follows .mixedOrders = true := by kernel_rfl
  obtain ⟨q1, q2, q3, q4, q5⟩ := hk
  have hF := Lib.hid (show chkM c s k l 0 0 0 = false by rw [chk_good hcs]; unfold fitsB; rw [if_neg q1, if_neg q2, if_neg q3, if_neg q4, if_neg q5, Bool.and_false])
  generalize chkM c s k l 0 0 0 = r at hF
  have r1 : (k == 1) = false := by simpa using q1
  have r2 : (k == 2) = false := by simpa using q2
  have r3 : (k == 3) = false := by simpa using q3
  have r4 : (k == 4) = false := by simpa using q4
  have r5 : (k == 5) = false := by simpa using q5
  clear q1 q2 q3 q4 q5
  obtain ⟨u1, u2, u3, u4⟩ := hcs
  have x1 : ¬ c < 1 := by omega
  have x2 : ¬ 1048576 < c := by omega
  have x3 : ¬ s < 1 := by omega
  have x4 : ¬ 1073741824 < s := by omega
  clear hA hn
  obtain ⟨W1, hW1⟩ : ∃ W1, (w.alloc (.cells #[.int .i64 c, .int .i64 s, .int .i64 k, .slice a n cp, .int .i64 0, .int .i64 0, .int .i64 0] 45)) = W1 := ⟨_, rfl⟩
  have s0 : w.heap.size < W1.heap.size := by rw [← hW1]; simp
  have z0 : W1.cell? ⟨w.heap.size, 0, none⟩ = some (.int .i64 c) := by rw [← hW1]; simp
  have z1 : W1.cell? ⟨w.heap.size, 1, none⟩ = some (.int .i64 s) := by rw [← hW1]; simp
  have z2 : W1.cell? ⟨w.heap.size, 2, none⟩ = some (.int .i64 k) := by rw [← hW1]; simp
  have z3 : W1.cell? ⟨w.heap.size, 3, none⟩ = some (.slice a n cp) := by rw [← hW1]; simp
  have z4 : W1.cell? ⟨w.heap.size, 4, none⟩ = some (.int .i64 0) := by rw [← hW1]; simp
  have z5 : W1.cell? ⟨w.heap.size, 5, none⟩ = some (.int .i64 0) := by rw [← hW1]; simp
  have z6 : W1.cell? ⟨w.heap.size, 6, none⟩ = some (.int .i64 0) := by rw [← hW1]; simp
  have F2 : ∀ x : EnvW W1 [], x.W.cell? ⟨w.heap.size, 2, none⟩ = some (.int .i64 k) := fun x => (x.h.low.cell (p := ⟨w.heap.size, 2, none⟩) s0).trans z2
  have F3 : ∀ x : EnvW W1 [], x.W.cell? ⟨w.heap.size, 3, none⟩ = some (.slice a n cp) := fun x => (x.h.low.cell (p := ⟨w.heap.size, 3, none⟩) s0).trans z3
  have hE : Env W1 W1 [] := Env.mk (L := []) (Below.refl W1.heap.size W1) (by simp)
  have hne : Nonempty (EnvW W1 []) := ⟨⟨_, hE⟩⟩
  rw [hW1] at hb0
  go_enter Try.func21, Try.ntmps21
  go_wp2
  replace hW1 := Lib.hid hW1
  refine wp_region_quiet_env hE mixed (by kernel_rfl) ?_
  repeat (first | go_big_quiet_step (fail) | quiet_step (fail))
  refine wpQuiet_nil ?_
  intro _ hw'
  obtain ⟨⟨W9, hE9⟩, hw''⟩ := hw'
  subst hw''
  go_wp2
  go_ret
  exact ⟨ret_bool (by rw [hF.out]), hb0.trans (hE9.low.mono (Nat.le_of_lt s0))⟩

set_option maxRecDepth 100000 in
set_option maxHeartbeats 2000000 in
theorem rchk5 (c s : Int) (a : Option Addr) (n cp : Nat) (l : List Sp) (w : World) (hA : Arg w a n cp l) (hcs : 1 ≤ c ∧ c ≤ 1048576 ∧ 1 ≤ s ∧ s ≤ 1073741824) :
    Calls Try.prog 21 #[.agg #[.int .i64 c, .int .i64 s, .int .i64 5, .slice a n cp, .int .i64 0, .int .i64 0, .int .i64 0]] w (Gives w (.bool (chkM c s 5 l 0 0 0))) := by
  have hn := hA.1
  have hnz : (n : Int) ≤ 9223372036854775807 := by have := hA.2.1; omega
  have hb0 : Below w.heap.size w (w.alloc (.cells #[.int .i64 c, .int .i64 s, .int .i64 5, .slice a n cp, .int .i64 0, .int .i64 0, .int .i64 0] 45)) := (Below.refl _ _).alloc (Nat.le_refl _) _
  have mixed : Try.prog.follows .mixedOrders = true := by kernel_rfl
  have hF : chkM c s 5 l 0 0 0 = ((btw 2 n 2 && okPs l) && moveB (l.getD 0 (0, 0)) (l.getD 1 (0, 0))) := by
    rw [chk_good hcs, show btw 2 n 2 = (n == 2) from btw_one 2 n, hn]
    show ((l.length == 2) && okPs l && moveB (l.getD 0 (0, 0)) (l.getD 1 (0, 0))) = _
    rfl
  generalize chkM c s 5 l 0 0 0 = res at hF
  obtain ⟨u1, u2, u3, u4⟩ := hcs
  have x1 : ¬ c < 1 := by omega
  have x2 : ¬ 1048576 < c := by omega
  have x3 : ¬ s < 1 := by omega
  have x4 : ¬ 1073741824 < s := by omega
  cases hr : (btw 2 n 2 && okPs l)
  · rw [hr, Bool.false_and] at hF
    replace hF := Lib.hid hF
    have hA9 := Lib.hid (hA.below hb0)
    clear hA hn
    obtain ⟨W1, hW1⟩ : ∃ W1, (w.alloc (.cells #[.int .i64 c, .int .i64 s, .int .i64 5, .slice a n cp, .int .i64 0, .int .i64 0, .int .i64 0] 45)) = W1 := ⟨_, rfl⟩
    rw [hW1] at hA9 hb0
    have s0 : w.heap.size < W1.heap.size := by rw [← hW1]; simp
    have z0 : W1.cell? ⟨w.heap.size, 0, none⟩ = some (.int .i64 c) := by rw [← hW1]; simp
    have z1 : W1.cell? ⟨w.heap.size, 1, none⟩ = some (.int .i64 s) := by rw [← hW1]; simp
    have z2 : W1.cell? ⟨w.heap.size, 2, none⟩ = some (.int .i64 5) := by rw [← hW1]; simp
    have z3 : W1.cell? ⟨w.heap.size, 3, none⟩ = some (.slice a n cp) := by rw [← hW1]; simp
    have z4 : W1.cell? ⟨w.heap.size, 4, none⟩ = some (.int .i64 0) := by rw [← hW1]; simp
    have z5 : W1.cell? ⟨w.heap.size, 5, none⟩ = some (.int .i64 0) := by rw [← hW1]; simp
    have z6 : W1.cell? ⟨w.heap.size, 6, none⟩ = some (.int .i64 0) := by rw [← hW1]; simp
    have F2 : ∀ x : EnvW W1 [(a, n, cp, l)], x.W.cell? ⟨w.heap.size, 2, none⟩ = some (.int .i64 5) := fun x => (x.h.low.cell (p := ⟨w.heap.size, 2, none⟩) s0).trans z2
    have F3 : ∀ x : EnvW W1 [(a, n, cp, l)], x.W.cell? ⟨w.heap.size, 3, none⟩ = some (.slice a n cp) := fun x => (x.h.low.cell (p := ⟨w.heap.size, 3, none⟩) s0).trans z3
    have hE : Env W1 W1 [(a, n, cp, l)] := (Env.mk (L := []) (Below.refl W1.heap.size W1) (by simp)).add hA9.out
    have hne : Nonempty (EnvW W1 [(a, n, cp, l)]) := ⟨⟨_, hE⟩⟩
    have C2 := Lib.hid (fun (z : EnvW W1 [(a, n, cp, l)]) => hr ▸ env_of z (pairs4_any 2 2 a n cp l z.W (z.h.get List.mem_cons_self)))
    replace hr := Lib.hid hr
    go_enter Try.func21, Try.ntmps21
    go_wp2
    replace hW1 := Lib.hid hW1
    refine wp_region_quiet_env hE mixed (by kernel_rfl) ?_
    repeat (first | go_big_quiet_step ((first | (go_at_call 38; with_reducible exact C2.out _))) | quiet_step ((first | (go_at_call 38; with_reducible exact C2.out _))))
    refine wpQuiet_nil ?_
    intro _ hw'
    obtain ⟨⟨W9, hE9⟩, hw''⟩ := hw'
    subst hw''
    go_wp2
    go_ret
    exact ⟨ret_bool (by rw [hF.out]), hb0.trans (hE9.low.mono (Nat.le_of_lt s0))⟩

  · have h2 : n = 2 := by
      rw [Bool.and_eq_true, show btw 2 n 2 = (n == 2) from btw_one 2 n] at hr
      simpa using hr.1
    subst h2
    obtain ⟨p, q, rfl⟩ : ∃ p q, l = [p, q] := by
      match l, hn with
      | [p, q], _ => exact ⟨p, q, rfl⟩
    obtain ⟨_, b, off, rfl, hb, _⟩ := hA.two
    have hA9 := Lib.hid (hA.below hb0)
    clear hA hn
    rw [hr, Bool.true_and] at hF
    obtain ⟨x, y⟩ := p
    obtain ⟨u, v⟩ := q
    have hG : res = ((x != u) && (y == v) && decide (0 ≤ y)) := hF
    clear hF
    obtain ⟨W1, hW1⟩ : ∃ W1, (w.alloc (.cells #[.int .i64 c, .int .i64 s, .int .i64 5, .slice (some ⟨b, off, none⟩) 2 cp, .int .i64 0, .int .i64 0, .int .i64 0] 45)) = W1 := ⟨_, rfl⟩
    rw [hW1] at hA9 hb0
    have s0 : w.heap.size < W1.heap.size := by rw [← hW1]; simp
    have z0 : W1.cell? ⟨w.heap.size, 0, none⟩ = some (.int .i64 c) := by rw [← hW1]; simp
    have z1 : W1.cell? ⟨w.heap.size, 1, none⟩ = some (.int .i64 s) := by rw [← hW1]; simp
    have z2 : W1.cell? ⟨w.heap.size, 2, none⟩ = some (.int .i64 5) := by rw [← hW1]; simp
    have z3 : W1.cell? ⟨w.heap.size, 3, none⟩ = some (.slice (some ⟨b, off, none⟩) 2 cp) := by rw [← hW1]; simp
    have z4 : W1.cell? ⟨w.heap.size, 4, none⟩ = some (.int .i64 0) := by rw [← hW1]; simp
    have z5 : W1.cell? ⟨w.heap.size, 5, none⟩ = some (.int .i64 0) := by rw [← hW1]; simp
    have z6 : W1.cell? ⟨w.heap.size, 6, none⟩ = some (.int .i64 0) := by rw [← hW1]; simp
    have F2 : ∀ x : EnvW W1 [(some (⟨b, off, none⟩ : Addr), 2, cp, [(x, y), (u, v)])], x.W.cell? ⟨w.heap.size, 2, none⟩ = some (.int .i64 5) := fun x => (x.h.low.cell (p := ⟨w.heap.size, 2, none⟩) s0).trans z2
    have F3 : ∀ x : EnvW W1 [(some (⟨b, off, none⟩ : Addr), 2, cp, [(x, y), (u, v)])], x.W.cell? ⟨w.heap.size, 3, none⟩ = some (.slice (some ⟨b, off, none⟩) 2 cp) := fun x => (x.h.low.cell (p := ⟨w.heap.size, 3, none⟩) s0).trans z3
    have hE : Env W1 W1 [(some (⟨b, off, none⟩ : Addr), 2, cp, [(x, y), (u, v)])] := (Env.mk (L := []) (Below.refl W1.heap.size W1) (by simp)).add hA9.out
    have hne : Nonempty (EnvW W1 [(some (⟨b, off, none⟩ : Addr), 2, cp, [(x, y), (u, v)])]) := ⟨⟨_, hE⟩⟩
    have P : ∀ e : EnvW W1 [(some (⟨b, off, none⟩ : Addr), 2, cp, [(x, y), (u, v)])], e.W.cell? ⟨b, off, none⟩ = some (.int .i64 x) ∧ e.W.cell? ⟨b, off + 1, none⟩ = some (.int .i64 y) ∧ e.W.cell? ⟨b, off + 2, none⟩ = some (.int .i64 u) ∧ e.W.cell? ⟨b, off + 2 + 1, none⟩ = some (.int .i64 v) := fun e => by
      obtain ⟨_, b', off', e, _, h1, h2, h3, h4⟩ := (e.h.get List.mem_cons_self).two
      cases e
      exact ⟨h1, h2, h3, h4⟩
    have P0 := fun e => (P e).1
    have P1 := fun e => (P e).2.1
    have P2 := fun e => (P e).2.2.1
    have P3 := fun e => (P e).2.2.2
    have P4 : ∀ e : EnvW W1 [(some (⟨b, off, none⟩ : Addr), 2, cp, [(x, y), (u, v)])], e.W.cell? ⟨b, off + 3, none⟩ = some (.int .i64 v) := P3
    clear P
    have C2 := Lib.hid (fun (z : EnvW W1 [(some (⟨b, off, none⟩ : Addr), 2, cp, [(x, y), (u, v)])]) => hr ▸ env_of z (pairs4_any 2 2 (some ⟨b, off, none⟩) 2 cp [(x, y), (u, v)] z.W (z.h.get List.mem_cons_self)))
    replace hr := Lib.hid hr
    by_cases e1 : x = u
    · subst e1
      have hF := Lib.hid (show res = false by rw [hG]; simp)
      clear hG
      go_enter Try.func21, Try.ntmps21
      go_wp2
      replace hW1 := Lib.hid hW1
      refine wp_region_quiet_env hE mixed (by kernel_rfl) ?_
      repeat (first | go_big_quiet_step ((first | (go_at_call 38; with_reducible exact C2.out _))) | quiet_step ((first | (go_at_call 38; with_reducible exact C2.out _))))
      refine wpQuiet_nil ?_
      intro _ hw'
      obtain ⟨⟨W9, hE9⟩, hw''⟩ := hw'
      subst hw''
      go_wp2
      go_ret
      exact ⟨ret_bool (by rw [hF.out]), hb0.trans (hE9.low.mono (Nat.le_of_lt s0))⟩

    · have e1' : (x != u) = true := by simpa using e1
      by_cases e2 : y = v
      · subst e2
        by_cases e3 : 0 ≤ y
        · have hF := Lib.hid (show res = true by rw [hG]; simp [e1, e3])
          clear hG e1
          go_enter Try.func21, Try.ntmps21
          go_wp2
          replace hW1 := Lib.hid hW1
          refine wp_region_quiet_env hE mixed (by kernel_rfl) ?_
          repeat (first | go_big_quiet_step ((first | (go_at_call 38; with_reducible exact C2.out _))) | quiet_step ((first | (go_at_call 38; with_reducible exact C2.out _))))
          refine wpQuiet_nil ?_
          intro _ hw'
          obtain ⟨⟨W9, hE9⟩, hw''⟩ := hw'
          subst hw''
          go_wp2
          go_ret
          exact ⟨ret_bool (by rw [hF.out]), hb0.trans (hE9.low.mono (Nat.le_of_lt s0))⟩

        · have hF := Lib.hid (show res = false by rw [hG]; simp [e3])
          have e3' : decide (0 ≤ y) = false := decide_eq_false e3
          clear hG e1
          go_enter Try.func21, Try.ntmps21
          go_wp2
          replace hW1 := Lib.hid hW1
          refine wp_region_quiet_env hE mixed (by kernel_rfl) ?_
          repeat (first | go_big_quiet_step ((first | (go_at_call 38; with_reducible exact C2.out _))) | quiet_step ((first | (go_at_call 38; with_reducible exact C2.out _))))
          refine wpQuiet_nil ?_
          intro _ hw'
          obtain ⟨⟨W9, hE9⟩, hw''⟩ := hw'
          subst hw''
          go_wp2
          go_ret
          exact ⟨ret_bool (by rw [hF.out]), hb0.trans (hE9.low.mono (Nat.le_of_lt s0))⟩

      · have e2' : (y == v) = false := by simpa using e2
        have hF := Lib.hid (show res = false by rw [hG, e2']; simp)
        clear hG e1 e2
        go_enter Try.func21, Try.ntmps21
        go_wp2
        replace hW1 := Lib.hid hW1
        refine wp_region_quiet_env hE mixed (by kernel_rfl) ?_
        repeat (first | go_big_quiet_step ((first | (go_at_call 38; with_reducible exact C2.out _))) | quiet_step ((first | (go_at_call 38; with_reducible exact C2.out _))))
        refine wpQuiet_nil ?_
        intro _ hw'
        obtain ⟨⟨W9, hE9⟩, hw''⟩ := hw'
        subst hw''
        go_wp2
        go_ret
        exact ⟨ret_bool (by rw [hF.out]), hb0.trans (hE9.low.mono (Nat.le_of_lt s0))⟩

set_option maxRecDepth 100000 in
theorem rcheck4_any (c s k : Int) (a : Option Addr) (n cp : Nat) (l : List Sp) (lo hi old : Int) (w : World) (hA : Arg w a n cp l) :
    Calls Try.prog 21 #[.agg #[.int .i64 c, .int .i64 s, .int .i64 k, .slice a n cp, .int .i64 lo, .int .i64 hi, .int .i64 old]] w (Gives w (.bool (chkM c s k l lo hi old))) := by
  by_cases hcs : 1 ≤ c ∧ c ≤ 1048576 ∧ 1 ≤ s ∧ s ≤ 1073741824
  · by_cases k2 : k = 2
    · subst k2; exact rchk2 c s a n cp l lo hi old w hA hcs
    · by_cases ho : lo = 0 ∧ hi = 0
      · obtain ⟨rfl, rfl⟩ := ho
        by_cases k4 : k = 4
        · subst k4; exact rchk4 c s a n cp l old w hA hcs
        · by_cases o0 : old = 0
          · subst o0
            by_cases k1 : k = 1
            · subst k1; exact rchk1 c s a n cp l w hA hcs
            · by_cases k3 : k = 3
              · subst k3; exact rchk3 c s a n cp l w hA hcs
              · by_cases k5 : k = 5
                · subst k5; exact rchk5 c s a n cp l w hA hcs
                · exact rchk0 c s k a n cp l w hA hcs ⟨k1, k2, k3, k4, k5⟩
          · exact rchkOld c s k a n cp l old w hA hcs (by simpa using k2) (by simpa using k4) o0
      · exact rchkOver c s k a n cp l lo hi old w hA hcs (by simpa using k2) ho
  · exact rchk_out c s k a n cp l lo hi old w hA hcs
end Go.Proofs.Ythofoidafdbgcaa


/-
  MutChecks walked.
-/
namespace Go.Proofs.Ythofoidafdbgcaa
open Go.RowKit Go.Shelf Go.ChangeShapes Go.WideShapes Go.Deep

end Go.Proofs.Ythofoidafdbgcaa


/-
  CONTRACTS: the document's Touch (of a mutation).
-/
namespace Go.Proofs.Ythofoidafdbgcaa
open Go.RowKit Go.Shelf

end Go.Proofs.Ythofoidafdbgcaa


/-
  WHICH KEYS A MUTATION TOUCHES: plain mathematics.
-/
namespace Go.Proofs.Ythofoidafdbgcaa
open Go.RowKit Go.Shelf

theorem any_sing : ∀ (l : List Sp) (_ : okPs l = true) (key : Int), hasB (l.map sing) key = l.any fun p => p.1 == key
  | [], _, _ => rfl
  | p :: t, h, key => by
    have h' : (okP p && okPs t) = true := h
    rw [Bool.and_eq_true] at h'
    have hb := (okP_bd h'.1).1
    rw [List.map_cons, hasB_cons, List.any_cons, any_sing t h'.2 key]
    congr 1
    rw [Bool.eq_iff_iff, inB_iff]
    simp only [beq_iff_eq]
    show (0 ≤ p.1 ∧ p.1 < p.1 + 1 ∧ p.1 + 1 ≤ 4096 ∧ p.1 ≤ key ∧ key < p.1 + 1) ↔ p.1 = key
    constructor
    · intro q; omega
    · intro q; omega
theorem canB_one {s : Sp} (h : oneB s = true) : canB (-1) [s] = true := by
  have := (oneB_iff s).1 h
  exact (canB_cons (-1) s []).2 ⟨this, by omega, rfl⟩
theorem touch_math {c s k : Int} {l : List Sp} {lo hi old : Int} (hc : chkM c s k l lo hi old = true) (key : Int) :
    chkB (touchL c s k l lo hi old) = true ∧ hasB (touchL c s k l lo hi old) key = touchesB k l lo hi key ∧ (touchL c s k l lo hi old).length ≤ 8 := by
  have hL : touchL c s k l lo hi old = if k = 2 then [(lo, hi)] else setOf (hasB (l.map sing)) := if_pos hc
  rcases fits_kind (chkM_and hc).2.2.2 with ⟨hk, _, ho⟩ | ⟨hk, hok, _, h8⟩
  · rw [hL, if_pos hk]
    have ho' := (oneB_iff _).1 ho
    refine ⟨?_, ?_, by simp⟩
    · unfold chkB
      rw [canB_one ho]
      rfl
    · unfold touchesB
      rw [if_pos hk, hasB_cons, hasB_nil, Bool.or_false, Bool.eq_iff_iff, inB_iff, Bool.and_eq_true, decide_eq_true_iff, decide_eq_true_iff]
      dsimp only at ho' ⊢
      constructor
      · intro q; omega
      · intro q; omega
  · have hk2 : k ≠ 2 := by omega
    rw [hL, if_neg hk2]
    have hlen := merge_len (l.map sing) (sing_all hok)
    rw [List.length_map] at hlen
    refine ⟨?_, ?_, by omega⟩
    · unfold chkB
      rw [setOf_can, Bool.true_and]
      exact decide_eq_true (by omega)
    · unfold touchesB
      rw [if_neg hk2, setOf_has, ← any_sing l hok key]
      cases hh : hasB (l.map sing) key
      · simp
      · have := hasB_range hh
        simp [this]
theorem touch_one {c s k : Int} {l : List Sp} {lo hi old : Int} (h : aloneB c s k l lo hi old = true) : cntB (touchL c s k l lo hi old) = 1 := by
  unfold aloneB at h
  rw [Bool.and_eq_true, Bool.or_eq_true, beq_iff_eq, beq_iff_eq] at h
  obtain ⟨hk, hc⟩ := h
  have hL : touchL c s k l lo hi old = if k = 2 then [(lo, hi)] else setOf (hasB (l.map sing)) := if_pos hc
  have hf := (chkM_and hc).2.2.2
  have hl : l.length = 1 ∧ okPs l = true := by
    unfold fitsB at hf
    rcases hk with rfl | rfl
    · simpa using hf
    · rw [if_neg (by omega), if_neg (by omega), if_neg (by omega), if_pos rfl] at hf
      rw [Bool.and_eq_true, Bool.and_eq_true] at hf
      exact ⟨by simpa using hf.1.1, hf.1.2⟩
  obtain ⟨p, rfl⟩ : ∃ p, l = [p] := by
    match l, hl.1 with
    | [p], _ => exact ⟨p, rfl⟩
  have hb := (okP_bd (by have := hl.2; unfold okPs at this; simpa using this)).1
  have ho : oneB (sing p) = true := (oneB_iff _).2 (by show 0 ≤ p.1 ∧ p.1 < p.1 + 1 ∧ p.1 + 1 ≤ 4096; omega)
  have hcan := canB_one ho
  rw [hL, if_neg (by omega), List.map_cons, List.map_nil, setOf_of_can hcan]
  unfold cntB chkB
  rw [hcan]
  show (if (true && decide (1 ≤ 64)) = true then lenSum [sing p] else 0) = 1
  simp [lenSum, sing]
  omega
end Go.Proofs.Ythofoidafdbgcaa
