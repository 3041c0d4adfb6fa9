/-
  SLABS: settling a block, failing, a trip.
-/
import Derived.Test.YthcebcpippbhfaaSlB
namespace Go.Proofs.Ythcebcpippbhfaa
open Go.RowKit Go.Maps Go.ChangeMaps

theorem boxW (w : World) (t : ByteArray) : (w.alloc (.cells #[.string t] 75)).cell? ⟨w.heap.size, 0, none⟩ = some (.string t) := cell_of_row _ _ 0 _ _ _ (heap_alloc_new _ _)
theorem SlK.row {w : World} {p db mb : Nat} {ka : Option Addr} {kn kc : Nat} {s : St} (h : SlK w p db mb ka kn kc s) {i : Nat} (hi : i < s.bs.length) : w.cell? ⟨db, i, none⟩ = some (.string s.bs[i].1) ∧ w.frozen? ⟨db, i, none⟩ = false :=
  ⟨(cell_of_row _ _ i _ _ _ h.hd).trans (rowS_get hi), frozen_of_row _ _ i _ _ h.hd⟩
set_option maxRecDepth 100000 in
theorem settle_any {w : World} {p db mb : Nat} {ka : Option Addr} {kn kc : Nat} {s : St} (h : SlK w p db mb ka kn kc s) (k most : Int) (hk : (Lit.int .i64 k).wf = true) (hu : s.down = false) :
    Calls Try.prog 37 #[.pointer (some ⟨p, 0, none⟩), .int .i64 k, .int .i64 most] w (SPost p db mb (.tuple #[]) { s with bs := settleP s.bs k most } w) := by
  have hl := h.hm.look hk
  obtain ⟨c0, c1, _⟩ := h.cells
  obtain ⟨l1, l2, l3⟩ := h.lt
  cases e : looseAt s.bs k with
  | none =>
    rw [e] at hl
    simp only [Option.getD_none, Option.isSome_none] at hl
    go_enter Try.func37, Try.ntmps37
    go_wp2
    go_end0
    rw [settleP_none e]
    have B : Below w.heap.size w (w.alloc (.cells #[.string ⟨#[]⟩] 75)) := (Below.refl _ _).alloc (Nat.le_refl _) _
    exact ⟨rfl, ⟨ka, kn, kc, h.same B⟩, But.of_below B⟩
  | some t =>
    rw [e] at hl
    simp only [Option.getD_some, Option.isSome_some] at hl
    obtain ⟨i, rfl, hi, e2⟩ := looseAt_some e
    obtain ⟨r1, r2⟩ := h.row hi
    have b1 : 0 ≤ min (max most 0) (t.size : Int) := by omega
    have b2 : min (max most 0) (t.size : Int) ≤ (t.size : Int) := by omega
    obtain ⟨W1, hW1⟩ : ∃ W1, w.alloc (.cells #[.string t] 75) = W1 := ⟨_, rfl⟩
    have B : Below w.heap.size w W1 := by rw [← hW1]; exact (Below.refl _ _).alloc (Nat.le_refl _) _
    have z1 : W1.heap.size = w.heap.size + 1 := by rw [← hW1]; simp
    have hb := boxW w t
    rw [hW1] at hb
    have h1 := h.same B
    obtain ⟨d0, d1, _⟩ := h1.cells
    obtain ⟨q1, q2⟩ := h1.row hi
    obtain ⟨v, hv⟩ : ∃ v, t.extract 0 (min (max most 0) (t.size : Int)).toNat = v := ⟨_, rfl⟩
    have hvs : v.size ≤ 256 := by rw [← hv]; exact Nat.le_trans (size_cut _ _) (h.fit.loose e)
    have h2 := (h1.setD hi hvs).drew
    have hi2 : i < (s.bs.set i (v, s.bs[i].2)).length := by simpa using hi
    have hle2 : (s.bs.set i (v, s.bs[i].2)).length ≤ 4096 := by simpa using h.len.2
    obtain ⟨W3, hrun, hm3, ht3⟩ := h2.hm.drop hi2 hle2 0
    obtain ⟨x0, x1, _⟩ := h2.cells
    have h3 := h2.turn ht3 (bs' := s.bs.set i (v, none)) (by have := hm3 v; rwa [List.set_set] at this) (by simp [List.map_set]) (h.fit.set i hvs (fun t ht => by cases ht)) (fun q => by rw [hu] at q; cases q)
    have hB3 : But p db mb w W3 := (((But.of_below B).set (.inr (.inl rfl)) _).drew).grown ht3.grown (.inr (.inr (.inl rfl)))
    have hS := settleP_some e (most := most)
    have hcut : cutN most t.size = (min (max most 0) (t.size : Int)).toNat := by unfold cutN; omega
    rw [hcut, hv] at hS
    have hS' : settleP s.bs (i : Int) most = s.bs.set i (v, none) := hS
    rw [hS']
    clear hS hS' hcut
    replace z1 := Lib.hid z1
    replace e := Lib.hid e
    replace e2 := Lib.hid e2
    replace h := Lib.hid h
    go_enter Try.func37, Try.ntmps37
    go_wp2
    replace hW1 := Lib.hid hW1
    go_region
    go_wp2
    go_end0
    exact ⟨rfl, ⟨ka, kn, kc, h3⟩, hB3⟩
def failS (s : St) (zs : List Int) (torn at_ : Int) : St := if s.down then s else { s with bs := failP s.bs zs torn at_, down := true }
theorem three_of {W : World} {b : Nat} {x y z : Value} {t : TypeId} (h : W.heap[b]? = some (.cells #[x, y, z] t)) : W.cell? ⟨b, 0, none⟩ = some x ∧ W.cell? ⟨b, 1, none⟩ = some y ∧ W.cell? ⟨b, 2, none⟩ = some z :=
  ⟨cell_of_row _ _ 0 _ _ _ h, cell_of_row _ _ 1 _ _ _ h, cell_of_row _ _ 2 _ _ _ h⟩
theorem map_fst_drop (bs : List Bk) : (dropP bs).map (·.1) = bs.map (·.1) := by simp [dropP]
set_option maxRecDepth 100000 in
set_option maxHeartbeats 1000000 in
theorem fail_any {w : World} {p db mb : Nat} {ka : Option Addr} {kn kc : Nat} {s : St} (h : SlK w p db mb ka kn kc s) {a : Option Addr} {n c : Nat} {zs : List Int} (hz : KRow w p db mb a n c zs) (torn at_ : Int)
    (ht : (Lit.int .i64 torn).wf = true) :
    Calls Try.prog 20 #[.pointer (some ⟨p, 0, none⟩), .agg #[.slice a n c, .int .i64 torn, .int .i64 at_]] w (SPost p db mb (.tuple #[]) (failS s zs torn at_) w) := by
  obtain ⟨W1, hW1⟩ : ∃ W1, w.alloc (.cells #[.slice a n c, .int .i64 torn, .int .i64 at_] 35) = W1 := ⟨_, rfl⟩
  have B : Below w.heap.size w W1 := by rw [← hW1]; exact (Below.refl _ _).alloc (Nat.le_refl _) _
  have hbx : W1.heap[w.heap.size]? = some (.cells #[.slice a n c, .int .i64 torn, .int .i64 at_] 35) := by rw [← hW1]; exact heap_alloc_new _ _
  have z1 : w.heap.size < W1.heap.size := by rw [← hW1]; simp
  obtain ⟨l1, l2, l3⟩ := h.lt
  have h1 := h.same B
  have hz1 := hz.but (But.of_below (p := p) (db := db) (mb := mb) B)
  have hn := Lib.hid hz.len
  have hcap := hz.cap
  have bt : But p db mb w W1 := But.of_below B
  have bx : ∀ W, But p db mb W1 W → W.heap[w.heap.size]? = some (.cells #[.slice a n c, .int .i64 torn, .int .i64 at_] 35) := fun W hB => (hB.block _ z1 (by omega) (by omega) (by omega)).trans hbx
  replace bx := Lib.hid bx
  obtain ⟨y0, y1, y2⟩ := three_of hbx
  cases hd : s.down with
  | true =>
    unfold failS
    rw [if_pos hd]
    go_enter Try.func20, Try.ntmps20
    go_wp2_with (go_at_call 23; refine (down_any h1).mono ?_; rintro e w2 ⟨rfl, hw2⟩; subst w2)
    go_end0
    exact ⟨rfl, ⟨ka, kn, kc, h1⟩, But.of_below B⟩
  | false =>
    unfold failS
    rw [if_neg (by rw [hd]; decide)]
    go_enter Try.func20, Try.ntmps20
    go_wp2_with (go_at_call 23; refine (down_any h1).mono ?_; rintro e w2 ⟨rfl, hw2⟩; subst w2)
    replace hW1 := Lib.hid hW1
    go_loopw [5, 11] (fun _ i wr => ∃ (j : Nat), i = .int .i64 (j : Int) ∧ j ≤ n ∧ Sl wr p db mb { s with bs := keepP s.bs (zs.take j) } ∧ But p db mb W1 wr)
      (fun _ i _ => n - (intOf i).toNat)
    case atStart => exact ⟨0, rfl, by omega, ⟨ka, kn, kc, h1⟩, But.refl _ _ _ _⟩
    case round =>
      obtain ⟨j, rfl, hj, ⟨ka', kn', kc', hs⟩, hb⟩ := hrel
      have bxw := bx.out _ hb
      obtain ⟨x0, x1, x2⟩ := three_of bxw
      by_cases hlt : j < n
      · obtain ⟨b, off, e, hblt, n1, n2, n3, hc⟩ := (hz1.but hb).row j (by rw [← hn.out]; exact hlt)
        subst e
        generalize hzj : zs.getD j 0 = zj at hc
        have hzw : (Lit.int .i64 zj).wf = true := by
          rw [← hzj]
          have hjl : j < zs.length := by rw [← hn.out]; exact hlt
          have : zs.getD j 0 = zs[j] := by simp [List.getD, hjl]
          rw [this]
          exact hz.val _ (List.getElem_mem hjl)
        have hltz : (j : Int) < (n : Int) := by omega
        replace hzj := Lib.hid hzj
        go_wp2_with (go_at_call 37; refine (settle_any hs zj 256 hzw hd).mono ?_; rintro e w2 ⟨rfl, hs2, hb2⟩)
        go_roundw
        case rel =>
          refine ⟨j + 1, by go_num, by omega, ?_, hb.trans hb2⟩
          have hjl : j < zs.length := by rw [← hn.out]; exact hlt
          have e3 : zs.take (j + 1) = zs.take j ++ [zj] := by
            rw [List.take_succ_eq_append_getElem hjl, ← hzj.out]
            simp [List.getD, hjl]
          rw [e3, keepP_snoc]
          exact hs2
        case measure => simp [intOf]; omega
      · have hje : j = n := by omega
        have hall : zs.take j = zs := by rw [hje, hn.out]; exact List.take_length
        rw [hall] at hs
        have hltz : ¬ ((j : Int) < (n : Int)) := by omega
        replace hn := hn
        have hTP := fun (w2 : World) (h2 : Sl w2 p db mb { s with bs := settleP (keepP s.bs zs) torn at_ }) => (show ∃ W3, (Builtin.clear_ #[60] 0 #[.map (some mb)]).run Try.prog w2 = .ok (.tuple #[]) W3 ∧ Sl W3 p db mb { s with bs := failP s.bs zs torn at_ } ∧ w2.mapTurned W3 mb by
          obtain ⟨ka2, kn2, kc2, h2⟩ := h2
          obtain ⟨W3, hrun, hm3, ht3⟩ := h2.hm.clear (Calm.drop (settleP (keepP s.bs zs) torn at_)) 0
          exact ⟨W3, hrun, ⟨ka2, kn2, kc2, h2.turn ht3 hm3 (map_fst_drop _) h2.fit.drop (fun _ => Calm.drop _)⟩, ht3⟩)
        replace hTP := Lib.hid hTP
        go_wp2_with (go_at_call 37; refine (settle_any hs torn at_ ht hd).mono ?_; rintro e w2 ⟨rfl, hs2, hb2⟩; obtain ⟨W3, hrun, ⟨ka3, kn3, kc3, hs3⟩, ht3⟩ := hTP.out w2 hs2; obtain ⟨ka2, kn2, kc2, hs2⟩ := hs2; obtain ⟨g0, g1, _⟩ := hs2.cells; obtain ⟨_, _, g2, _⟩ := hs3.cells; have g3 := hs3.free 2)
        go_end0
        refine ⟨rfl, ⟨ka3, kn3, kc3, hs3.putP 2 (.bool true) _ rfl rfl hs3.keep hs3.left hs3.torn hs3.at_ (fun _ => Calm.drop _)⟩, ?_⟩
        exact ((bt.trans (hb.trans hb2)).grown ht3.grown (.inr (.inr (.inl rfl)))).set (.inl rfl) _
def tripsS (s : St) : St × Bool :=
  if s.left = 0 then (s, false) else if s.left = 1 then (failS { s with left := 0 } s.zs s.torn s.at_, true) else ({ s with left := s.left - 1 }, false)
set_option maxRecDepth 100000 in
set_option maxHeartbeats 1000000 in
theorem trips_any {w : World} {p db mb : Nat} {ka : Option Addr} {kn kc : Nat} {s : St} (h : SlK w p db mb ka kn kc s) :
    Calls Try.prog 34 #[.pointer (some ⟨p, 0, none⟩)] w (SPost p db mb (.bool (tripsS s).2) (tripsS s).1 w) := by
  obtain ⟨_, _, _, c3, _⟩ := h.cells
  have f3 := h.free 3
  obtain ⟨hl0, hl1⟩ := h.left
  unfold tripsS
  by_cases h0 : s.left = 0
  · rw [if_pos h0]
    rw [h0] at c3
    replace h0 := Lib.hid h0
    go_enter Try.func34, Try.ntmps34
    go_wp2
    go_ret
    exact ⟨rfl, ⟨ka, kn, kc, h⟩, But.refl _ _ _ _⟩
  · rw [if_neg h0]
    by_cases h1 : s.left = 1
    · rw [if_pos h1]
      have hs1 := h.putP 3 (.int .i64 0) { s with left := 0 } rfl rfl h.keep ⟨Int.le_refl 0, by show (0 : Int) ≤ _; omega⟩ h.torn h.at_ h.calm
      obtain ⟨W1, hW1⟩ : ∃ W1, w.setCell ⟨p, 3, none⟩ (.int .i64 0) = W1 := ⟨_, rfl⟩
      rw [hW1] at hs1
      have hb1 : But p db mb w W1 := by rw [← hW1]; exact (But.refl _ _ _ _).set (.inl rfl) _
      obtain ⟨_, _, _, d3, d4, d5, d6⟩ := hs1.cells
      rw [h1] at c3
      replace h1 := Lib.hid h1
      go_enter Try.func34, Try.ntmps34
      go_wp2_with (go_at_call 20; refine (fail_any hs1 hs1.keep s.torn s.at_ h.torn).mono ?_; rintro e w2 ⟨rfl, hs2, hb2⟩)
      go_ret
      exact ⟨rfl, hs2, hb1.trans hb2⟩
    · rw [if_neg h1]
      have hs1 := h.putP 3 (.int .i64 (s.left - 1)) { s with left := s.left - 1 } rfl rfl h.keep ⟨by dsimp only; omega, by dsimp only; omega⟩ h.torn h.at_ h.calm
      obtain ⟨W1, hW1⟩ : ∃ W1, w.setCell ⟨p, 3, none⟩ (.int .i64 (s.left - 1)) = W1 := ⟨_, rfl⟩
      rw [hW1] at hs1
      have hb1 : But p db mb w W1 := by rw [← hW1]; exact (But.refl _ _ _ _).set (.inl rfl) _
      obtain ⟨_, _, _, d3, d4, d5, d6⟩ := hs1.cells
      have hgt : 0 < s.left - 1 := by omega
      go_enter Try.func34, Try.ntmps34
      go_wp2
      go_ret
      exact ⟨rfl, ⟨ka, kn, kc, hs1⟩, hb1⟩
end Go.Proofs.Ythcebcpippbhfaa
