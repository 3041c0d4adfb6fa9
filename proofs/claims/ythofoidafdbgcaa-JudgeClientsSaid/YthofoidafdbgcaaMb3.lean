/-
  CONTRACT: the statements' own Ref on mutations: the pairs are a row of the call's own.
-/
import Derived.Test.YthofoidafdbgcaaMB2
import Derived.Test.YthofoidafdbgcaaMv
namespace Go.Proofs.Ythofoidafdbgcaa
open Go.RowKit Go.Shelf

def MutOwn (w : World) (c s k : Int) (l : List Sp) (lo hi old : Int) (e : Ending) (w' : World) : Prop := ∃ a n cp, e = .returned (.agg #[.int .i64 c, .int .i64 s, .int .i64 k, .slice a n cp, .int .i64 lo, .int .i64 hi, .int .i64 old]) ∧ n = l.length ∧ OwnsP 66 w' w.heap.size (.slice a n cp) l ∧ Below w.heap.size w w'
set_option maxRecDepth 100000 in
set_option maxHeartbeats 2000000 in
set_option linter.unusedSimpArgs false in
theorem ref4O_any (c s k : Int) (a : Option Addr) (n cp : Nat) (l : List Sp) (lo hi old : Int) (w : World) (hz : l.length ≤ 100000) (h : Arg w a n cp l) :
    Calls Try.prog 16 #[.agg #[.int .i64 c, .int .i64 s, .int .i64 k, .slice a n cp, .int .i64 lo, .int .i64 hi, .int .i64 old]] w (MutOwn w c s k l lo hi old) := by
  obtain ⟨i0, hi0, hz0, hz1, hz2⟩ := info_parts Try.infoRefP
  obtain ⟨hn, _, hc1, hc2, hp⟩ := h
  have hn1 : n ≤ 100000 := by omega
  replace hn := Lib.hid hn
  replace hp := Lib.hid hp
  have bw : Below w.heap.size w (((w.alloc (.cells #[.int .i64 c, .int .i64 s, .int .i64 k, .slice a n cp, .int .i64 lo, .int .i64 hi, .int .i64 old] 42)).alloc (.cells #[.int .i64 0, .int .i64 0, .int .i64 0, .slice none 0 0, .int .i64 0, .int .i64 0, .int .i64 0] 45)).alloc (.cells #[.int .i64 c, .int .i64 s, .int .i64 k, .slice none 0 0, .int .i64 lo, .int .i64 hi, .int .i64 old] 45)) := (((Below.refl _ _).alloc (Nat.le_refl _) _).alloc (by simp) _).alloc (by simp; omega) _
  have sw : (((w.alloc (.cells #[.int .i64 c, .int .i64 s, .int .i64 k, .slice a n cp, .int .i64 lo, .int .i64 hi, .int .i64 old] 42)).alloc (.cells #[.int .i64 0, .int .i64 0, .int .i64 0, .slice none 0 0, .int .i64 0, .int .i64 0, .int .i64 0] 45)).alloc (.cells #[.int .i64 c, .int .i64 s, .int .i64 k, .slice none 0 0, .int .i64 lo, .int .i64 hi, .int .i64 old] 45)).heap.size = w.heap.size + 3 := by simp
  have h2 : (((w.alloc (.cells #[.int .i64 c, .int .i64 s, .int .i64 k, .slice a n cp, .int .i64 lo, .int .i64 hi, .int .i64 old] 42)).alloc (.cells #[.int .i64 0, .int .i64 0, .int .i64 0, .slice none 0 0, .int .i64 0, .int .i64 0, .int .i64 0] 45)).alloc (.cells #[.int .i64 c, .int .i64 s, .int .i64 k, .slice none 0 0, .int .i64 lo, .int .i64 hi, .int .i64 old] 45)).heap[w.heap.size + 2]? = some (.cells #[.int .i64 c, .int .i64 s, .int .i64 k, .slice none 0 0, .int .i64 lo, .int .i64 hi, .int .i64 old] 45 (0, 0)) := by
    have := heap_alloc_new ((w.alloc (.cells #[.int .i64 c, .int .i64 s, .int .i64 k, .slice a n cp, .int .i64 lo, .int .i64 hi, .int .i64 old] 42)).alloc (.cells #[.int .i64 0, .int .i64 0, .int .i64 0, .slice none 0 0, .int .i64 0, .int .i64 0, .int .i64 0] 45)) (.cells #[.int .i64 c, .int .i64 s, .int .i64 k, .slice none 0 0, .int .i64 lo, .int .i64 hi, .int .i64 old] 45)
    simpa using this
  have h1 : (((w.alloc (.cells #[.int .i64 c, .int .i64 s, .int .i64 k, .slice a n cp, .int .i64 lo, .int .i64 hi, .int .i64 old] 42)).alloc (.cells #[.int .i64 0, .int .i64 0, .int .i64 0, .slice none 0 0, .int .i64 0, .int .i64 0, .int .i64 0] 45)).alloc (.cells #[.int .i64 c, .int .i64 s, .int .i64 k, .slice none 0 0, .int .i64 lo, .int .i64 hi, .int .i64 old] 45)).heap[w.heap.size + 1]? = some (.cells #[.int .i64 0, .int .i64 0, .int .i64 0, .slice none 0 0, .int .i64 0, .int .i64 0, .int .i64 0] 45 (0, 0)) := by
    have := heap_alloc_new (w.alloc (.cells #[.int .i64 c, .int .i64 s, .int .i64 k, .slice a n cp, .int .i64 lo, .int .i64 hi, .int .i64 old] 42)) (.cells #[.int .i64 0, .int .i64 0, .int .i64 0, .slice none 0 0, .int .i64 0, .int .i64 0, .int .i64 0] 45)
    rw [heap_alloc_old _ _ (by simp)]
    simpa using this
  have h0 : (((w.alloc (.cells #[.int .i64 c, .int .i64 s, .int .i64 k, .slice a n cp, .int .i64 lo, .int .i64 hi, .int .i64 old] 42)).alloc (.cells #[.int .i64 0, .int .i64 0, .int .i64 0, .slice none 0 0, .int .i64 0, .int .i64 0, .int .i64 0] 45)).alloc (.cells #[.int .i64 c, .int .i64 s, .int .i64 k, .slice none 0 0, .int .i64 lo, .int .i64 hi, .int .i64 old] 45)).heap[w.heap.size]? = some (.cells #[.int .i64 c, .int .i64 s, .int .i64 k, .slice a n cp, .int .i64 lo, .int .i64 hi, .int .i64 old] 42 (0, 0)) := by
    have := heap_alloc_new w (.cells #[.int .i64 c, .int .i64 s, .int .i64 k, .slice a n cp, .int .i64 lo, .int .i64 hi, .int .i64 old] 42)
    rw [heap_alloc_old _ _ (by simp; omega), heap_alloc_old _ _ (by simp)]
    exact this
  obtain ⟨W0, hW0⟩ : ∃ W0, (((w.alloc (.cells #[.int .i64 c, .int .i64 s, .int .i64 k, .slice a n cp, .int .i64 lo, .int .i64 hi, .int .i64 old] 42)).alloc (.cells #[.int .i64 0, .int .i64 0, .int .i64 0, .slice none 0 0, .int .i64 0, .int .i64 0, .int .i64 0] 45)).alloc (.cells #[.int .i64 c, .int .i64 s, .int .i64 k, .slice none 0 0, .int .i64 lo, .int .i64 hi, .int .i64 old] 45)) = W0 := ⟨_, rfl⟩
  rw [hW0] at bw sw h0 h1 h2
  replace bw := Lib.hid bw
  replace sw := Lib.hid sw
  replace h0 := Lib.hid h0
  replace h1 := Lib.hid h1
  replace h2 := Lib.hid h2
  have q1 := fun i => cell_of_row _ _ i _ _ _ h0.out
  have q3 : W0.cell? ⟨w.heap.size, 3, none⟩ = some (.slice a n cp) := q1 3
  clear q1
  go_enter Try.func16, Try.ntmps16
  go_wp2_with fail
  replace hW0 := Lib.hid hW0
  clear q3
  go_loopw [4] (fun i wr => ∃ (j : Nat), i = .int .i64 (j : Int) ∧ j ≤ n ∧ Hid (∃ v, wr.ownsRow (w.heap.size + 3) 66 2 v j (flatP (l.take j)) ∧ wr.heap[w.heap.size + 2]? = some (.cells #[.int .i64 c, .int .i64 s, .int .i64 k, v, .int .i64 lo, .int .i64 hi, .int .i64 old] 45 (0, 0)) ∧ Below (w.heap.size + 2) W0 wr ∧ w.heap.size + 3 ≤ wr.heap.size))
    (fun i _ => n - (intOf i).toNat)
  case atStart => exact ⟨0, rfl, by omega, Lib.hid ⟨_, ⟨rfl, .inl ⟨rfl, rfl⟩⟩, h2.out, Below.refl _ _, by rw [sw.out]; exact Nat.le_refl _⟩⟩
  case round =>
    obtain ⟨j, rfl, hj, HI⟩ := hrel
    obtain ⟨v, ho, hb2, hbl, hsz⟩ := HI.out
    clear HI
    have k0 := (hbl.block w.heap.size (by omega)).trans h0.out
    have k1 := (hbl.block (w.heap.size + 1) (by omega)).trans h1.out
    have hlow : Below w.heap.size w wr := bw.out.trans (hbl.mono (by omega))
    have c3 : wr.cell? ⟨w.heap.size, 3, none⟩ = some (.slice a n cp) := cell_of_row _ _ 3 _ _ _ k0
    by_cases hlt : j < n
    · obtain ⟨b, off, e, hb, d0, d1⟩ := (hp.out.below hlow) j (by rw [← hn.out]; exact hlt)
      subst e
      obtain ⟨p, hs⟩ : ∃ p, l.getD j (0, 0) = p := ⟨_, rfl⟩
      rw [hs] at d0 d1
      replace hs := Lib.hid hs
      obtain ⟨x, y⟩ := p
      dsimp only at d0 d1
      have v3 : wr.cell? ⟨w.heap.size + 2, 3, none⟩ = some v := cell_of_row _ _ 3 _ _ _ hb2
      have A0 : ∀ o, (wr.alloc o).cell? ⟨b, off + j * 2, none⟩ = some (.int .i64 x) := fun o => (World.cell?_alloc_lt _ _ ⟨b, off + j * 2, none⟩ (show b < _ by omega)).trans d0
      have A1 : ∀ o, (wr.alloc o).cell? ⟨b, off + j * 2 + 1, none⟩ = some (.int .i64 y) := fun o => (World.cell?_alloc_lt _ _ ⟨b, off + j * 2 + 1, none⟩ (show b < _ by omega)).trans d1
      have A2 : ∀ o, (wr.alloc o).cell? ⟨w.heap.size, 3, none⟩ = some (.slice (some ⟨b, off, none⟩) n cp) := fun o => (World.cell?_alloc_lt _ _ ⟨w.heap.size, 3, none⟩ (show w.heap.size < _ by omega)).trans c3
      have A3 : ∀ o, (wr.alloc o).cell? ⟨w.heap.size + 2, 3, none⟩ = some v := fun o => (World.cell?_alloc_lt _ _ ⟨w.heap.size + 2, 3, none⟩ (show w.heap.size + 2 < _ by omega)).trans v3
      have HD := Lib.hid (fun o => (ho.alloc o).drew)
      have HG := Lib.hid (fun o w1 (hg : ((wr.alloc o).drew).grownBy w1 v.ownBlock) => (show w1.heap[w.heap.size + 2]? = some (.cells #[.int .i64 c, .int .i64 s, .int .i64 k, v, .int .i64 lo, .int .i64 hi, .int .i64 old] 45 (0, 0)) ∧ Below (w.heap.size + 2) W0 w1 ∧ w.heap.size + 3 ≤ w1.heap.size from by
        have hlt2 := ho.lt
        have z : ((wr.alloc o).drew).heap.size = wr.heap.size + 1 := by simp
        refine ⟨(hg.block (w.heap.size + 2) (by rw [z]; omega) (fun e => by have := (hlt2 _ e.symm).1; omega)).trans ((heap_alloc_old wr o (by omega)).trans hb2), ?_, Nat.le_trans (by rw [z]; omega) hg.size⟩
        exact ((hbl.alloc (by omega) o).drew).grown hg (by rw [z]; omega) (fun g e => by have := (hlt2 g e).1; omega)))
      have B63 := Lib.hid (show j + 1 ≤ maxLen by unfold maxLen; omega)
      have BBY := Lib.hid (show (j + 1) * 16 ≤ 140737488355328 by omega)
      have HBS := Lib.hid (fun o => (show w.heap.size + 3 ≤ ((wr.alloc o).drew).heap.size from by simp; omega))
      have HH := Lib.hid (fun o => (show ((wr.alloc o).drew).heap.size = wr.heap.size + 1 from by simp))
      have hjn : (j : Int) < (n : Int) := by omega
      clear ho hbl hlow k0 k1
      replace hb2 := Lib.hid hb2
      go_wp2_with fail
      go_region_law (first | (refine step_append_lies _ rfl (.tmp 24) (.tmp 30) 27 rfl (w.heap.size + 3) 66 i0 (.agg #[.int .i64 0, .int .i64 0]) 2 16 Try.underlying27 hi0 hz0 hz1 hz2 rfl (by decide) _ _ _ rfl (HD.out _) ⟨wr.heap.size, 0, none⟩ 1 1 [.int .i64 x, .int .i64 y] rfl rfl (cellD2 wr _ _ _) (two_i64 _ _) (by decide) B63.out BBY.out (HBS.out _) (wr.heap.size + 1) (HH.out _) ?_; intro g cap w1 hown1 hgrow1 _ _; obtain ⟨g1, g2, g3⟩ := HG.out _ _ hgrow1; have g4 : w1.cell? ⟨w.heap.size + 2, 3, none⟩ = some v := cell_of_row _ _ 3 _ _ _ g1; have g5 : w1.frozen? ⟨w.heap.size + 2, 3, none⟩ = false := frozen_of_row _ _ 3 _ _ g1; replace g1 := Lib.hid g1; replace hown1 := Lib.hid hown1; clear hgrow1))
      all_goals
        go_wp2
        go_roundw
        case rel =>
          refine ⟨j + 1, by go_num, by omega, Lib.hid ⟨.slice (some ⟨g, 0, none⟩) (j + 1) cap, ownsRow_setCell_below (a := ⟨w.heap.size + 2, 3, none⟩) ?_ (by show w.heap.size + 2 < _; omega) _, ?_, ?_, ?_⟩⟩
          · rw [take_more (by rw [← hn.out]; exact hlt), flatP_append, hs.out]
            exact hown1.out
          · have := heap_setCell_same _ _ 3 _ _ (.slice (some ⟨g, 0, none⟩) (j + 1) cap) g1.out
            exact this
          · exact g2.setCell (by show w.heap.size + 2 ≤ w.heap.size + 2; omega) _
          · simpa using g3
        case measure => simp [intOf]; omega
    · have hk' : l.take j = l := List.take_of_length_le (by rw [← hn.out]; omega)
      have hkn : j = n := by omega
      subst hkn
      rw [hk'] at ho
      obtain ⟨a6, c6, rfl, _⟩ := (ownsP_of_row ho hn.out).arg
      have HO := Lib.hid ho
      have v0 : wr.cell? ⟨w.heap.size + 2, 0, none⟩ = some (.int .i64 c) := cell_of_row _ _ 0 _ _ _ hb2
      have v1 : wr.cell? ⟨w.heap.size + 2, 1, none⟩ = some (.int .i64 s) := cell_of_row _ _ 1 _ _ _ hb2
      have v2 : wr.cell? ⟨w.heap.size + 2, 2, none⟩ = some (.int .i64 k) := cell_of_row _ _ 2 _ _ _ hb2
      have v3 := cell_of_row _ _ 3 _ _ _ hb2
      have v4 : wr.cell? ⟨w.heap.size + 2, 4, none⟩ = some (.int .i64 lo) := cell_of_row _ _ 4 _ _ _ hb2
      have v5 : wr.cell? ⟨w.heap.size + 2, 5, none⟩ = some (.int .i64 hi) := cell_of_row _ _ 5 _ _ _ hb2
      have v6 : wr.cell? ⟨w.heap.size + 2, 6, none⟩ = some (.int .i64 old) := cell_of_row _ _ 6 _ _ _ hb2
      simp at v3
      have r0 : wr.cell? ⟨w.heap.size + 1, 0, none⟩ = some (.int .i64 0) := cell_of_row _ _ 0 _ _ _ k1
      have r1 : wr.cell? ⟨w.heap.size + 1, 1, none⟩ = some (.int .i64 0) := cell_of_row _ _ 1 _ _ _ k1
      have r2 : wr.cell? ⟨w.heap.size + 1, 2, none⟩ = some (.int .i64 0) := cell_of_row _ _ 2 _ _ _ k1
      have r3 : wr.cell? ⟨w.heap.size + 1, 3, none⟩ = some (.slice none 0 0) := cell_of_row _ _ 3 _ _ _ k1
      have r4 : wr.cell? ⟨w.heap.size + 1, 4, none⟩ = some (.int .i64 0) := cell_of_row _ _ 4 _ _ _ k1
      have r5 : wr.cell? ⟨w.heap.size + 1, 5, none⟩ = some (.int .i64 0) := cell_of_row _ _ 5 _ _ _ k1
      have r6 : wr.cell? ⟨w.heap.size + 1, 6, none⟩ = some (.int .i64 0) := cell_of_row _ _ 6 _ _ _ k1
      have rf : ∀ i, wr.frozen? ⟨w.heap.size + 1, i, none⟩ = false := fun i => frozen_of_row _ _ i _ _ k1
      replace hk' := Lib.hid hk'
      replace hb2 := Lib.hid hb2
      replace k0 := Lib.hid k0
      replace k1 := Lib.hid k1
      clear ho
      go_wp2
      refine bodyPost_ret (v := .agg #[.int .i64 c, .int .i64 s, .int .i64 k, .slice a6 l.length c6, .int .i64 lo, .int .i64 hi, .int .i64 old]) (by simp [results, Try.results16, go_sem, v0, v1, v2, v3, v4, v5, v6, r0, r1, r2, r3, r4, r5, r6, rf]) rfl ⟨_, _, _, rfl, rfl, OwnsP.base_le (base := w.heap.size + 3) (ownsP_of_row ?_ hn.out) (by omega), ?_⟩
      · repeat (refine ownsRow_setCell_below ?_ (by show w.heap.size + 1 < _; omega) _)
        exact HO.out
      · repeat (refine Below.setCell ?_ (by show w.heap.size ≤ w.heap.size + 1; omega) _)
        exact hlow
/-- A mutation of the document's whose pairs are a row of one's own. -/
structure OwnM (w : World) (base : Nat) (m : Mv) : Prop where
  len : m.n = m.ps.length
  ps : OwnsP 66 w base (.slice m.a m.n m.cp) m.ps
  c : (Lit.int .i64 m.c).wf = true
  s : (Lit.int .i64 m.s).wf = true
theorem OwnM.ok {w : World} {base : Nat} {m : Mv} (h : OwnM w base m) : OkM w m := ⟨Arg.of_own h.ps h.len, h.c, h.s⟩
theorem OwnM.below {w w' : World} {base : Nat} {m : Mv} (h : OwnM w base m) (hb : Below w.heap.size w w') : OwnM w' base m := { h with ps := h.ps.below hb }
/-- Rows of one's own of two types lie apart. -/
theorem own_apartM {w : World} {b1 b2 k1 k2 n1 n2 : Nat} {t1 t2 : TypeId} {v u : Value} {l m : List Value} (ht : t1 ≠ t2) (h : w.ownsRow b1 t1 k1 v n1 l) (h2 : w.ownsRow b2 t2 k2 u n2 m) : v.ownBlock = none ∨ v.ownBlock ≠ u.ownBlock := by
  rcases h.2 with ⟨rfl, _⟩ | ⟨g, cap, cur, rfl, _, hg, _⟩
  · exact .inl rfl
  · rcases h2.2 with ⟨rfl, _⟩ | ⟨g2, cap2, cur2, rfl, _, hg2, _⟩
    · exact .inr (by simp [Value.ownBlock])
    · have hne : g ≠ g2 := by
        intro e
        rw [e, hg2] at hg
        cases hg
        exact ht rfl
      exact .inr (by simpa [Value.ownBlock] using hne)
theorem OwnM.grown {w w' : World} {base b2 k n : Nat} {t : TypeId} {m : Mv} {v : Value} {xs : List Value} (h : OwnM w base m) (ht : 66 ≠ t) (ho : w.ownsRow b2 t k v n xs) (hg : w.grownBy w' v.ownBlock) : OwnM w' base m :=
  { h with ps := World.ownsRow.kept h.ps hg (own_apartM ht h.ps ho) }
end Go.Proofs.Ythofoidafdbgcaa
