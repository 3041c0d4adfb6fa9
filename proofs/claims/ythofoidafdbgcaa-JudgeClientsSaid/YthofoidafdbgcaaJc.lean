/-
  CONTRACTS: the document's Cells: what a mutation makes of one key's cell.
-/
import Derived.Test.YthofoidafdbgcaaJb
import Derived.BigQuiet
import Derived.Deep.RegionWith
import Derived.BigQuiet
import Derived.Deep.RegionWith
namespace Go.Proofs.Ythofoidafdbgcaa
open Go.RowKit Go.Shelf

def CellOut (r : Option Int × Bool) (w : World) (e : Ending) (w' : World) : Prop := e = .returned (.tuple #[cellA r.1, .bool r.2]) ∧ Below w.heap.size w w'
theorem cell_ret {r : Option Int × Bool} {v : Int} {b d : Bool} (h : r.1.getD 0 = v ∧ r.1.isSome = b ∧ r.2 = d) : Ending.returned (.tuple #[.agg #[.int .i64 v, .bool b], .bool d]) = .returned (.tuple #[cellA r.1, .bool r.2]) := by
  unfold cellA
  rw [h.1, h.2.1, h.2.2]
theorem box3C {w W : World} {ta tb tc : TypeId} {v0 v1 u0 u1 u2 u3 u4 u5 u6 t0 t1 : Value} (h : ((w.alloc (.cells #[v0, v1] ta)).alloc (.cells #[u0, u1, u2, u3, u4, u5, u6] tb)).alloc (.cells #[t0, t1] tc) = W) :
    W.cell? ⟨w.heap.size, 0, none⟩ = some v0 ∧ W.cell? ⟨w.heap.size, 1, none⟩ = some v1 ∧ W.cell? ⟨w.heap.size + 1, 0, none⟩ = some u0 ∧ W.cell? ⟨w.heap.size + 1, 1, none⟩ = some u1 ∧ W.cell? ⟨w.heap.size + 1, 2, none⟩ = some u2 ∧ W.cell? ⟨w.heap.size + 1, 3, none⟩ = some u3 ∧ W.cell? ⟨w.heap.size + 1, 4, none⟩ = some u4 ∧ W.cell? ⟨w.heap.size + 1, 5, none⟩ = some u5 ∧ W.cell? ⟨w.heap.size + 1, 6, none⟩ = some u6 ∧ W.cell? ⟨w.heap.size + 1 + 1, 0, none⟩ = some t0 ∧ W.cell? ⟨w.heap.size + 1 + 1, 1, none⟩ = some t1 ∧ W.frozen? ⟨w.heap.size + 1 + 1, 0, none⟩ = false ∧ W.frozen? ⟨w.heap.size + 1 + 1, 1, none⟩ = false ∧ w.heap.size + 3 = W.heap.size := by
  subst h
  have s1 : (w.alloc (.cells #[v0, v1] ta)).heap.size = w.heap.size + 1 := by simp
  have s2 : ((w.alloc (.cells #[v0, v1] ta)).alloc (.cells #[u0, u1, u2, u3, u4, u5, u6] tb)).heap.size = w.heap.size + 1 + 1 := by simp
  have h0 := (heap_alloc_old ((w.alloc (.cells #[v0, v1] ta)).alloc (.cells #[u0, u1, u2, u3, u4, u5, u6] tb)) (.cells #[t0, t1] tc) (r := w.heap.size) (by rw [s2]; omega)).trans ((heap_alloc_old (w.alloc (.cells #[v0, v1] ta)) (.cells #[u0, u1, u2, u3, u4, u5, u6] tb) (r := w.heap.size) (by rw [s1]; omega)).trans (heap_alloc_new _ _))
  have h1 := (heap_alloc_old ((w.alloc (.cells #[v0, v1] ta)).alloc (.cells #[u0, u1, u2, u3, u4, u5, u6] tb)) (.cells #[t0, t1] tc) (r := w.heap.size + 1) (by rw [s2]; omega)).trans (s1 ▸ heap_alloc_new (w.alloc (.cells #[v0, v1] ta)) (.cells #[u0, u1, u2, u3, u4, u5, u6] tb))
  have h2 : (((w.alloc (.cells #[v0, v1] ta)).alloc (.cells #[u0, u1, u2, u3, u4, u5, u6] tb)).alloc (.cells #[t0, t1] tc)).heap[w.heap.size + 1 + 1]? = some (.cells #[t0, t1] tc (0, 0)) := s2 ▸ heap_alloc_new ((w.alloc (.cells #[v0, v1] ta)).alloc (.cells #[u0, u1, u2, u3, u4, u5, u6] tb)) (.cells #[t0, t1] tc)
  exact ⟨cell_of_row _ _ 0 _ _ _ h0, cell_of_row _ _ 1 _ _ _ h0, cell_of_row _ _ 0 _ _ _ h1, cell_of_row _ _ 1 _ _ _ h1, cell_of_row _ _ 2 _ _ _ h1, cell_of_row _ _ 3 _ _ _ h1, cell_of_row _ _ 4 _ _ _ h1, cell_of_row _ _ 5 _ _ _ h1, cell_of_row _ _ 6 _ _ _ h1, cell_of_row _ _ 0 _ _ _ h2, cell_of_row _ _ 1 _ _ _ h2, frozen_of_row _ _ 0 _ _ h2, frozen_of_row _ _ 1 _ _ h2, by simp⟩
set_option maxRecDepth 100000 in
set_option maxHeartbeats 2000000 in
theorem rcell2 (g : Option Int) (c s : Int) (a : Option Addr) (n cp : Nat) (ps : List Sp) (lo hi old key : Int) (w : World) (hA : Arg w a n cp ps)  :
    Calls Try.prog 54 #[cellA g, .agg #[.int .i64 c, .int .i64 s, .int .i64 2, .slice a n cp, .int .i64 lo, .int .i64 hi, .int .i64 old], .int .i64 key] w (CellOut (cellD 2 old ps key g) w) := by
  obtain ⟨R, hR⟩ : ∃ R, cellD 2 old ps key g = R := ⟨_, rfl⟩
  rw [hR]
  obtain ⟨W3, hW3⟩ : ∃ W3, ((w.alloc (.cells #[.int .i64 (g.getD 0), .bool g.isSome] 104)).alloc (.cells #[.int .i64 c, .int .i64 s, .int .i64 2, .slice a n cp, .int .i64 lo, .int .i64 hi, .int .i64 old] 45)).alloc (.cells #[.int .i64 0, .bool false] 104) = W3 := ⟨_, rfl⟩
  have bw : Below w.heap.size w W3 := by rw [← hW3]; exact (((Below.refl _ _).alloc (Nat.le_refl _) _).alloc (by simp) _).alloc (by simp; omega) _
  have ⟨x0, x1, m0, m1, m2, m3, m4, m5, m6, r0, r1, f0, f1, sw⟩ := box3C hW3
  have HP := Lib.hid (hA.below bw).2.2.2.2
  have hn := Lib.hid hA.1
  have hnz : n ≤ 9223372036854775807 := by have := hA.2.1; have := hA.1; omega
  obtain ⟨v, hv⟩ : ∃ v, g.getD 0 = v := ⟨_, rfl⟩
  obtain ⟨b, hb⟩ : ∃ b, g.isSome = b := ⟨_, rfl⟩
  have hc : cellA g = .agg #[.int .i64 v, .bool b] := by unfold cellA; rw [hv, hb]
  rw [hc]
  rw [hv, hb] at hW3
  rw [hv] at x0
  rw [hb] at x1
  replace hv := Lib.hid hv
  replace hb := Lib.hid hb
  replace hc := Lib.hid hc
  replace hR := Lib.hid hR
  clear hA
  go_enter Try.func54, Try.ntmps54
  go_wp2
  exact bodyPost_ret (v := .tuple #[.agg #[.int .i64 0, .bool false], .bool true]) (by simp [results, Try.results54, go_sem, r0, r1]) rfl ⟨cell_ret (by rw [← hR.out]; exact ⟨rfl, rfl, rfl⟩), (by repeat (first | exact bw | refine Below.setCell ?_ (by simp; try omega) _ | refine below_drewN ?_ _ | refine Below.drew ?_))⟩
set_option maxRecDepth 100000 in
set_option maxHeartbeats 2000000 in
theorem rcell3 (g : Option Int) (c s : Int) (a : Option Addr) (n cp : Nat) (ps : List Sp) (lo hi old key : Int) (w : World) (hA : Arg w a n cp ps) (hlen : 0 < n) (hgv : -1099511627776 ≤ g.getD 0 ∧ g.getD 0 ≤ 1099511627776) (hpv : -1099511627776 ≤ (ps.getD 0 (0, 0)).2 ∧ (ps.getD 0 (0, 0)).2 ≤ 1099511627776) :
    Calls Try.prog 54 #[cellA g, .agg #[.int .i64 c, .int .i64 s, .int .i64 3, .slice a n cp, .int .i64 lo, .int .i64 hi, .int .i64 old], .int .i64 key] w (CellOut (cellD 3 old ps key g) w) := by
  obtain ⟨R, hR⟩ : ∃ R, cellD 3 old ps key g = R := ⟨_, rfl⟩
  rw [hR]
  obtain ⟨W3, hW3⟩ : ∃ W3, ((w.alloc (.cells #[.int .i64 (g.getD 0), .bool g.isSome] 104)).alloc (.cells #[.int .i64 c, .int .i64 s, .int .i64 3, .slice a n cp, .int .i64 lo, .int .i64 hi, .int .i64 old] 45)).alloc (.cells #[.int .i64 0, .bool false] 104) = W3 := ⟨_, rfl⟩
  have bw : Below w.heap.size w W3 := by rw [← hW3]; exact (((Below.refl _ _).alloc (Nat.le_refl _) _).alloc (by simp) _).alloc (by simp; omega) _
  have ⟨x0, x1, m0, m1, m2, m3, m4, m5, m6, r0, r1, f0, f1, sw⟩ := box3C hW3
  have HP := Lib.hid (hA.below bw).2.2.2.2
  have hn := Lib.hid hA.1
  have hnz : n ≤ 9223372036854775807 := by have := hA.2.1; have := hA.1; omega
  obtain ⟨v, hv⟩ : ∃ v, g.getD 0 = v := ⟨_, rfl⟩
  obtain ⟨b, hb⟩ : ∃ b, g.isSome = b := ⟨_, rfl⟩
  have hc : cellA g = .agg #[.int .i64 v, .bool b] := by unfold cellA; rw [hv, hb]
  rw [hc]
  rw [hv, hb] at hW3
  rw [hv] at x0
  rw [hb] at x1
  rw [hv] at hgv
  obtain ⟨b9, off, e9, _, p0, p1⟩ := HP.out 0 (by rw [← hn.out]; exact hlen)
  subst e9
  rw [show off + 0 * 2 = off from by omega] at p0 p1
  obtain ⟨p, hp⟩ : ∃ p, ps.getD 0 (0, 0) = p := ⟨_, rfl⟩
  rw [hp] at p0 p1 hpv
  obtain ⟨pk, pv⟩ := p
  dsimp only at p0 p1 hpv
  have e3 : R = if v + pv < 0 ∨ 1099511627776 < v + pv then (g, false) else (some (v + pv), true) := by rw [← hR, ← hv]; unfold cellD; rw [hp]; rfl
  replace hp := Lib.hid hp
  replace hv := Lib.hid hv
  replace hb := Lib.hid hb
  replace hc := Lib.hid hc
  replace hR := Lib.hid hR
  clear hA
  have hw : IntKind.i64.wrap (v + pv) = v + pv := IntWalk.i64_in _ (by omega)
  by_cases h1 : v + pv < 0
  · have d1 : decide (v + pv < 0) = true := decide_eq_true h1
    rw [if_pos (.inl h1)] at e3
    replace e3 := Lib.hid e3
    clear hgv hpv h1
    go_enter Try.func54, Try.ntmps54
    go_wp2_with fail
    go_quiet (fail)
    go_wp2
    exact bodyPost_ret (v := .tuple #[.agg #[.int .i64 v, .bool b], .bool false]) (by simp [results, Try.results54, go_sem, r0, r1]) rfl ⟨cell_ret (by rw [e3.out]; exact ⟨hv.out, hb.out, rfl⟩), (by repeat (first | exact bw | refine Below.setCell ?_ (by simp; try omega) _ | refine below_drewN ?_ _ | refine Below.drew ?_))⟩
  · have d1 : decide (v + pv < 0) = false := decide_eq_false h1
    by_cases h2 : 1099511627776 < v + pv
    · have d2 : decide (v + pv > 1099511627776) = true := decide_eq_true h2
      rw [if_pos (.inr h2)] at e3
      replace e3 := Lib.hid e3
      clear hgv hpv h1 h2
      go_enter Try.func54, Try.ntmps54
      go_wp2_with fail
      go_quiet (fail)
      go_wp2
      exact bodyPost_ret (v := .tuple #[.agg #[.int .i64 v, .bool b], .bool false]) (by simp [results, Try.results54, go_sem, r0, r1]) rfl ⟨cell_ret (by rw [e3.out]; exact ⟨hv.out, hb.out, rfl⟩), (by repeat (first | exact bw | refine Below.setCell ?_ (by simp; try omega) _ | refine below_drewN ?_ _ | refine Below.drew ?_))⟩
    · have d2 : decide (v + pv > 1099511627776) = false := decide_eq_false h2
      rw [if_neg (by omega)] at e3
      replace e3 := Lib.hid e3
      clear hgv hpv h1 h2
      go_enter Try.func54, Try.ntmps54
      go_wp2_with fail
      go_quiet (fail)
      go_wp2
      exact bodyPost_ret (v := .tuple #[.agg #[.int .i64 (v + pv), .bool true], .bool true]) (by simp [results, Try.results54, go_sem, r0, r1]) rfl ⟨cell_ret (by rw [e3.out]; exact ⟨rfl, rfl, rfl⟩), (by repeat (first | exact bw | refine Below.setCell ?_ (by simp; try omega) _ | refine below_drewN ?_ _ | refine Below.drew ?_))⟩
set_option maxRecDepth 100000 in
set_option maxHeartbeats 2000000 in
theorem rcell4 (g : Option Int) (c s : Int) (a : Option Addr) (n cp : Nat) (ps : List Sp) (lo hi old key : Int) (w : World) (hA : Arg w a n cp ps) (hlen : 0 < n) :
    Calls Try.prog 54 #[cellA g, .agg #[.int .i64 c, .int .i64 s, .int .i64 4, .slice a n cp, .int .i64 lo, .int .i64 hi, .int .i64 old], .int .i64 key] w (CellOut (cellD 4 old ps key g) w) := by
  obtain ⟨R, hR⟩ : ∃ R, cellD 4 old ps key g = R := ⟨_, rfl⟩
  rw [hR]
  obtain ⟨W3, hW3⟩ : ∃ W3, ((w.alloc (.cells #[.int .i64 (g.getD 0), .bool g.isSome] 104)).alloc (.cells #[.int .i64 c, .int .i64 s, .int .i64 4, .slice a n cp, .int .i64 lo, .int .i64 hi, .int .i64 old] 45)).alloc (.cells #[.int .i64 0, .bool false] 104) = W3 := ⟨_, rfl⟩
  have bw : Below w.heap.size w W3 := by rw [← hW3]; exact (((Below.refl _ _).alloc (Nat.le_refl _) _).alloc (by simp) _).alloc (by simp; omega) _
  have ⟨x0, x1, m0, m1, m2, m3, m4, m5, m6, r0, r1, f0, f1, sw⟩ := box3C hW3
  have HP := Lib.hid (hA.below bw).2.2.2.2
  have hn := Lib.hid hA.1
  have hnz : n ≤ 9223372036854775807 := by have := hA.2.1; have := hA.1; omega
  obtain ⟨v, hv⟩ : ∃ v, g.getD 0 = v := ⟨_, rfl⟩
  obtain ⟨b, hb⟩ : ∃ b, g.isSome = b := ⟨_, rfl⟩
  have hc : cellA g = .agg #[.int .i64 v, .bool b] := by unfold cellA; rw [hv, hb]
  rw [hc]
  rw [hv, hb] at hW3
  rw [hv] at x0
  rw [hb] at x1
  obtain ⟨b9, off, e9, _, p0, p1⟩ := HP.out 0 (by rw [← hn.out]; exact hlen)
  subst e9
  rw [show off + 0 * 2 = off from by omega] at p0 p1
  obtain ⟨p, hp⟩ : ∃ p, ps.getD 0 (0, 0) = p := ⟨_, rfl⟩
  rw [hp] at p0 p1
  obtain ⟨pk, pv⟩ := p
  dsimp only at p0 p1
  cases g with
  | none =>
    obtain rfl : b = false := hb.symm
    by_cases ho : old = 1099511627777
    · have e4 := Lib.hid (show R = (some pv, true) by rw [← hR]; show (if (none : Option Int) = some old ∨ ((none : Option Int) = none ∧ old = 1099511627777) then (some (ps.getD 0 (0, 0)).2, true) else ((none : Option Int), false)) = _; rw [hp, if_pos (.inr ⟨rfl, ho⟩)])
      have d1 : (old != 1099511627777) = false := by simpa using ho
      clear ho hb
      replace hp := Lib.hid hp
      replace hv := Lib.hid hv
      replace hc := Lib.hid hc
      replace hR := Lib.hid hR
      clear hA
      go_enter Try.func54, Try.ntmps54
      go_wp2
      exact bodyPost_ret (v := .tuple #[.agg #[.int .i64 pv, .bool true], .bool true]) (by simp [results, Try.results54, go_sem, r0, r1]) rfl ⟨cell_ret (by rw [e4.out]; exact ⟨rfl, rfl, rfl⟩), (by repeat (first | exact bw | refine Below.setCell ?_ (by simp; try omega) _ | refine below_drewN ?_ _ | refine Below.drew ?_))⟩
    · have e4 := Lib.hid (show R = (none, false) by rw [← hR]; show (if (none : Option Int) = some old ∨ ((none : Option Int) = none ∧ old = 1099511627777) then (some (ps.getD 0 (0, 0)).2, true) else ((none : Option Int), false)) = _; rw [if_neg (by simpa using ho)])
      have d1 : (old != 1099511627777) = true := by simpa using ho
      clear ho hb
      replace hp := Lib.hid hp
      replace hv := Lib.hid hv
      replace hc := Lib.hid hc
      replace hR := Lib.hid hR
      clear hA
      go_enter Try.func54, Try.ntmps54
      go_wp2
      exact bodyPost_ret (v := .tuple #[.agg #[.int .i64 v, .bool false], .bool false]) (by simp [results, Try.results54, go_sem, r0, r1]) rfl ⟨cell_ret (by rw [e4.out]; exact ⟨hv.out, rfl, rfl⟩), (by repeat (first | exact bw | refine Below.setCell ?_ (by simp; try omega) _ | refine below_drewN ?_ _ | refine Below.drew ?_))⟩
  | some x =>
    obtain rfl : b = true := hb.symm
    by_cases ho : v = old
    · have e4 := Lib.hid (show R = (some pv, true) by rw [← hR]; show (if (some x : Option Int) = some old ∨ ((some x : Option Int) = none ∧ old = 1099511627777) then (some (ps.getD 0 (0, 0)).2, true) else ((some x : Option Int), false)) = _; rw [hp, if_pos (.inl (by rw [← ho, ← hv]; rfl))])
      have d1 : (v != old) = false := by simpa using ho
      clear ho hb
      replace hp := Lib.hid hp
      replace hv := Lib.hid hv
      replace hc := Lib.hid hc
      replace hR := Lib.hid hR
      clear hA
      go_enter Try.func54, Try.ntmps54
      go_wp2
      exact bodyPost_ret (v := .tuple #[.agg #[.int .i64 pv, .bool true], .bool true]) (by simp [results, Try.results54, go_sem, r0, r1]) rfl ⟨cell_ret (by rw [e4.out]; exact ⟨rfl, rfl, rfl⟩), (by repeat (first | exact bw | refine Below.setCell ?_ (by simp; try omega) _ | refine below_drewN ?_ _ | refine Below.drew ?_))⟩
    · have e4 := Lib.hid (show R = (some x, false) by rw [← hR]; show (if (some x : Option Int) = some old ∨ ((some x : Option Int) = none ∧ old = 1099511627777) then (some (ps.getD 0 (0, 0)).2, true) else ((some x : Option Int), false)) = _; rw [if_neg (by rintro (h | ⟨h, _⟩); exact ho (by rw [← hv]; exact Option.some.inj h); cases h)])
      have d1 : (v != old) = true := by simpa using ho
      clear ho hb
      replace hp := Lib.hid hp
      replace hv := Lib.hid hv
      replace hc := Lib.hid hc
      replace hR := Lib.hid hR
      clear hA
      go_enter Try.func54, Try.ntmps54
      go_wp2
      exact bodyPost_ret (v := .tuple #[.agg #[.int .i64 v, .bool true], .bool false]) (by simp [results, Try.results54, go_sem, r0, r1]) rfl ⟨cell_ret (by rw [e4.out]; exact ⟨hv.out, rfl, rfl⟩), (by repeat (first | exact bw | refine Below.setCell ?_ (by simp; try omega) _ | refine below_drewN ?_ _ | refine Below.drew ?_))⟩
set_option maxRecDepth 100000 in
set_option maxHeartbeats 2000000 in
theorem rcell5 (g : Option Int) (c s : Int) (a : Option Addr) (n cp : Nat) (ps : List Sp) (lo hi old key : Int) (w : World) (hA : Arg w a n cp ps) (hlen : 0 < n) (hgv : -1099511627776 ≤ g.getD 0 ∧ g.getD 0 ≤ 1099511627776) (hpv : -1099511627776 ≤ (ps.getD 0 (0, 0)).2 ∧ (ps.getD 0 (0, 0)).2 ≤ 1099511627776) :
    Calls Try.prog 54 #[cellA g, .agg #[.int .i64 c, .int .i64 s, .int .i64 5, .slice a n cp, .int .i64 lo, .int .i64 hi, .int .i64 old], .int .i64 key] w (CellOut (cellD 5 old ps key g) w) := by
  obtain ⟨R, hR⟩ : ∃ R, cellD 5 old ps key g = R := ⟨_, rfl⟩
  rw [hR]
  obtain ⟨W3, hW3⟩ : ∃ W3, ((w.alloc (.cells #[.int .i64 (g.getD 0), .bool g.isSome] 104)).alloc (.cells #[.int .i64 c, .int .i64 s, .int .i64 5, .slice a n cp, .int .i64 lo, .int .i64 hi, .int .i64 old] 45)).alloc (.cells #[.int .i64 0, .bool false] 104) = W3 := ⟨_, rfl⟩
  have bw : Below w.heap.size w W3 := by rw [← hW3]; exact (((Below.refl _ _).alloc (Nat.le_refl _) _).alloc (by simp) _).alloc (by simp; omega) _
  have ⟨x0, x1, m0, m1, m2, m3, m4, m5, m6, r0, r1, f0, f1, sw⟩ := box3C hW3
  have HP := Lib.hid (hA.below bw).2.2.2.2
  have hn := Lib.hid hA.1
  have hnz : n ≤ 9223372036854775807 := by have := hA.2.1; have := hA.1; omega
  obtain ⟨v, hv⟩ : ∃ v, g.getD 0 = v := ⟨_, rfl⟩
  obtain ⟨b, hb⟩ : ∃ b, g.isSome = b := ⟨_, rfl⟩
  have hc : cellA g = .agg #[.int .i64 v, .bool b] := by unfold cellA; rw [hv, hb]
  rw [hc]
  rw [hv, hb] at hW3
  rw [hv] at x0
  rw [hb] at x1
  rw [hv] at hgv
  obtain ⟨b9, off, e9, _, p0, p1⟩ := HP.out 0 (by rw [← hn.out]; exact hlen)
  subst e9
  rw [show off + 0 * 2 = off from by omega] at p0 p1
  obtain ⟨p, hp⟩ : ∃ p, ps.getD 0 (0, 0) = p := ⟨_, rfl⟩
  rw [hp] at p0 p1 hpv
  obtain ⟨pk, pv⟩ := p
  dsimp only at p0 p1 hpv
  have e5 : R = (some (within5 (if key = pk then v - pv else v + pv)), true) := by rw [← hR, ← hv]; unfold cellD; rw [hp]; rfl
  replace hp := Lib.hid hp
  replace hv := Lib.hid hv
  replace hb := Lib.hid hb
  replace hc := Lib.hid hc
  replace hR := Lib.hid hR
  clear hA
  by_cases hk : key = pk
  · have d1 : (key == pk) = true := by simpa using hk
    rw [if_pos hk] at e5
    clear hk
    replace e5 := Lib.hid e5
    have hw : IntKind.i64.wrap (v - pv) = v - pv := IntWalk.i64_in _ (by omega)
    clear hgv hpv
    go_enter Try.func54, Try.ntmps54
    go_wp2_with fail
    go_region_with ((go_at_call 76; (with_reducible refine (rwithin_any _ _).mono ?_); rintro e w' ⟨rfl, rfl⟩))
    all_goals
      go_wp2
      exact bodyPost_ret (v := .tuple #[.agg #[.int .i64 (within5 (v - pv)), .bool true], .bool true]) (by simp [results, Try.results54, go_sem, r0, r1]) rfl ⟨cell_ret (by rw [e5.out]; exact ⟨rfl, rfl, rfl⟩), (by repeat (first | exact bw | refine Below.setCell ?_ (by simp; try omega) _ | refine below_drewN ?_ _ | refine Below.drew ?_))⟩
  · have d1 : (key == pk) = false := by simpa using hk
    rw [if_neg hk] at e5
    clear hk
    replace e5 := Lib.hid e5
    have hw : IntKind.i64.wrap (v + pv) = v + pv := IntWalk.i64_in _ (by omega)
    clear hgv hpv
    go_enter Try.func54, Try.ntmps54
    go_wp2_with fail
    go_region_with ((go_at_call 76; (with_reducible refine (rwithin_any _ _).mono ?_); rintro e w' ⟨rfl, rfl⟩))
    all_goals
      go_wp2
      exact bodyPost_ret (v := .tuple #[.agg #[.int .i64 (within5 (v + pv)), .bool true], .bool true]) (by simp [results, Try.results54, go_sem, r0, r1]) rfl ⟨cell_ret (by rw [e5.out]; exact ⟨rfl, rfl, rfl⟩), (by repeat (first | exact bw | refine Below.setCell ?_ (by simp; try omega) _ | refine below_drewN ?_ _ | refine Below.drew ?_))⟩
set_option maxRecDepth 100000 in
set_option maxHeartbeats 2000000 in
theorem rcell1 (g : Option Int) (c s k : Int) (a : Option Addr) (n cp : Nat) (ps : List Sp) (lo hi old key : Int) (w : World) (hA : Arg w a n cp ps) (hk : k ≠ 2 ∧ k ≠ 3 ∧ k ≠ 4 ∧ k ≠ 5) :
    Calls Try.prog 54 #[cellA g, .agg #[.int .i64 c, .int .i64 s, .int .i64 k, .slice a n cp, .int .i64 lo, .int .i64 hi, .int .i64 old], .int .i64 key] w (CellOut (cellD k old ps key g) w) := by
  obtain ⟨R, hR⟩ : ∃ R, cellD k old ps key g = R := ⟨_, rfl⟩
  rw [hR]
  obtain ⟨W3, hW3⟩ : ∃ W3, ((w.alloc (.cells #[.int .i64 (g.getD 0), .bool g.isSome] 104)).alloc (.cells #[.int .i64 c, .int .i64 s, .int .i64 k, .slice a n cp, .int .i64 lo, .int .i64 hi, .int .i64 old] 45)).alloc (.cells #[.int .i64 0, .bool false] 104) = W3 := ⟨_, rfl⟩
  have bw : Below w.heap.size w W3 := by rw [← hW3]; exact (((Below.refl _ _).alloc (Nat.le_refl _) _).alloc (by simp) _).alloc (by simp; omega) _
  have ⟨x0, x1, m0, m1, m2, m3, m4, m5, m6, r0, r1, f0, f1, sw⟩ := box3C hW3
  have HP := Lib.hid (hA.below bw).2.2.2.2
  have hn := Lib.hid hA.1
  have hnz : n ≤ 9223372036854775807 := by have := hA.2.1; have := hA.1; omega
  obtain ⟨v, hv⟩ : ∃ v, g.getD 0 = v := ⟨_, rfl⟩
  obtain ⟨b, hb⟩ : ∃ b, g.isSome = b := ⟨_, rfl⟩
  have hc : cellA g = .agg #[.int .i64 v, .bool b] := by unfold cellA; rw [hv, hb]
  rw [hc]
  rw [hv, hb] at hW3
  rw [hv] at x0
  rw [hb] at x1
  have e1 : R = match getT ps key with | some v => (some v, true) | none => (g, true) := by
    rw [← hR]
    unfold cellD
    rw [if_neg hk.1, if_neg hk.2.1, if_neg hk.2.2.1, if_neg hk.2.2.2]
    rfl
  have k2 : (k == 2) = false := by simpa using hk.1
  have k3 : (k == 3) = false := by simpa using hk.2.1
  have k4 : (k == 4) = false := by simpa using hk.2.2.1
  have k5 : (k == 5) = false := by simpa using hk.2.2.2
  have H0 := Lib.hid (show getT (ps.drop 0) key = getT ps key from rfl)
  replace e1 := Lib.hid e1
  clear hk
  replace hv := Lib.hid hv
  replace hb := Lib.hid hb
  replace hc := Lib.hid hc
  replace hR := Lib.hid hR
  clear hA
  go_enter Try.func54, Try.ntmps54
  go_wp2_with fail
  replace hW3 := Lib.hid hW3
  go_loopw [9] (fun i wr => ∃ (j : Nat), i = .int .i64 (j : Int) ∧ j ≤ n ∧ Hid (getT (ps.drop j) key = getT ps key) ∧ wr = W3)
    (fun i _ => n - (intOf i).toNat)
  case atStart => exact ⟨0, rfl, Nat.zero_le _, H0, rfl⟩
  case round =>
    obtain ⟨j, rfl, hj, HK, rfl⟩ := hrel
    by_cases hlt : j < n
    · have hjl : j < ps.length := by rw [← hn.out]; exact hlt
      have hjz : (j : Int) < (n : Int) := by omega
      obtain ⟨b9, off, e9, _, p0, p1⟩ := HP.out j hjl
      subst e9
      obtain ⟨p, hp⟩ : ∃ p, ps.getD j (0, 0) = p := ⟨_, rfl⟩
      rw [hp] at p0 p1
      have hnext := HK.out
      rw [drop_more hjl, hp] at hnext
      replace hp := Lib.hid hp
      obtain ⟨x, y⟩ := p
      dsimp only at p0 p1
      have hd : getT ((x, y) :: ps.drop (j + 1)) key = if x = key then some y else getT (ps.drop (j + 1)) key := rfl
      rw [hd] at hnext
      clear hd
      by_cases hx : x = key
      · rw [if_pos hx] at hnext
        have hRR := Lib.hid (show R = (some y, true) by rw [e1.out, ← hnext])
        have hxb : (x == key) = true := by simpa using hx
        clear hnext hx
        go_wp2_with fail
        exact bodyPost_ret (v := .tuple #[.agg #[.int .i64 y, .bool true], .bool true]) (by simp [results, Try.results54, go_sem, r0, r1]) rfl ⟨cell_ret (by rw [hRR.out]; exact ⟨rfl, rfl, rfl⟩), (by repeat (first | exact bw | refine Below.setCell ?_ (by simp; try omega) _ | refine below_drewN ?_ _ | refine Below.drew ?_))⟩
      · rw [if_neg hx] at hnext
        have HN := Lib.hid hnext
        have hxb : (x == key) = false := by simpa using hx
        clear hnext hx
        go_wp2_with fail
        go_roundw
        case rel => exact ⟨j + 1, by go_num, by omega, HN, trivial⟩
        case measure => simp [intOf]; omega
    · have hjz : ¬ (j : Int) < (n : Int) := by omega
      have hRR := Lib.hid (show R = (g, true) by
        have := HK.out
        rw [List.drop_eq_nil_of_le (by rw [← hn.out]; omega)] at this
        rw [e1.out, ← this]; rfl)
      go_wp2
      exact bodyPost_ret (v := .tuple #[.agg #[.int .i64 v, .bool b], .bool true]) (by simp [results, Try.results54, go_sem, r0, r1]) rfl ⟨cell_ret (by rw [hRR.out]; exact ⟨hv.out, hb.out, rfl⟩), (by repeat (first | exact bw | refine Below.setCell ?_ (by simp; try omega) _ | refine below_drewN ?_ _ | refine Below.drew ?_))⟩
theorem rcells_any (g : Option Int) (c s k : Int) (a : Option Addr) (n cp : Nat) (ps : List Sp) (lo hi old key : Int) (w : World) (hA : Arg w a n cp ps) (hlen : k = 3 ∨ k = 4 ∨ k = 5 → 0 < n) (hgv : -1099511627776 ≤ g.getD 0 ∧ g.getD 0 ≤ 1099511627776) (hpv : k = 3 ∨ k = 5 → -1099511627776 ≤ (ps.getD 0 (0, 0)).2 ∧ (ps.getD 0 (0, 0)).2 ≤ 1099511627776) :
    Calls Try.prog 54 #[cellA g, .agg #[.int .i64 c, .int .i64 s, .int .i64 k, .slice a n cp, .int .i64 lo, .int .i64 hi, .int .i64 old], .int .i64 key] w (CellOut (cellD k old ps key g) w) := by
  by_cases k2 : k = 2
  · subst k2; exact rcell2 g c s a n cp ps lo hi old key w hA
  by_cases k3 : k = 3
  · subst k3; exact rcell3 g c s a n cp ps lo hi old key w hA (hlen (.inl rfl)) hgv (hpv (.inl rfl))
  by_cases k4 : k = 4
  · subst k4; exact rcell4 g c s a n cp ps lo hi old key w hA (hlen (.inr (.inl rfl)))
  by_cases k5 : k = 5
  · subst k5; exact rcell5 g c s a n cp ps lo hi old key w hA (hlen (.inr (.inr rfl))) hgv (hpv (.inr rfl))
  exact rcell1 g c s k a n cp ps lo hi old key w hA ⟨k2, k3, k4, k5⟩
end Go.Proofs.Ythofoidafdbgcaa
