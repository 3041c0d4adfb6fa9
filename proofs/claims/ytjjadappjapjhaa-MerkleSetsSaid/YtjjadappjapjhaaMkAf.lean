/-
  CONTRACT of Table.
-/
import Derived.Test.YtjjadappjapjhaaMkAe
namespace Go.Proofs.Ytjjadappjapjhaa
open Go.RowKit Go.Deep

theorem run_loadVar_list {P : Program} (w : World) (g : Nat) (ty : TypeId) (L : List Value) (d : TypeDesc) (hl : ∀ j v, L[j]? = some v → w.cell? ⟨g, j, none⟩ = some v)
    (hu : P.underlying ty = some d) (hd : (match d with | .struct _ | .array _ _ => true | _ => false) = true) (hi : (P.info? ty).map (·.size) = some L.length) :
    (loadVar ty ⟨g, 0, none⟩).run P w = .ok (.agg L.toArray) w := by
  have hl : (loadCells ⟨g, 0, none⟩ L.length).run P w = .ok L.toArray w :=
    run_loadCells_list (P := P) w ⟨g, 0, none⟩ L (fun j v hv => by
      have hadd : (⟨g, 0, none⟩ : Addr).add j = ⟨g, j, none⟩ := by unfold Addr.add; split <;> simp_all
      rw [hadd]
      exact hl j v hv)
  cases hq : P.info? ty with
  | none => simp [hq] at hi
  | some i =>
    have hs : i.size = L.length := by simpa [hq] using hi
    have hagg : (isAgg ty).run P w = .ok true w := by
      unfold isAgg
      rw [Sem.run_bind, run_underlying hu w]
      cases d <;> simp_all
    simp [loadVar, Sem.run_bind, hagg, sizeOf, typeInfo, hq, hs, hl]
theorem wpList_load_list {P : Program} {ops : Array Oper} {rest : List Oper} {o : Oper} {a : Act} {w : World} {Q : Exit → Act → World → Prop} (hgd : o.guard = none) (ty : TypeId) (x : Operand) (ho : o.op = .load ty x)
    (g : Nat) (hx : a.eval x = .pointer (some ⟨g, 0, none⟩)) (L : List Value) (d : TypeDesc) (hl : ∀ j v, L[j]? = some v → w.cell? ⟨g, j, none⟩ = some v)
    (hu : P.underlying ty = some d) (hd : (match d with | .struct _ | .array _ _ => true | _ => false) = true) (hi : (P.info? ty).map (·.size) = some L.length)
    (h : wpList P ops Q rest (a.put o.dst (.agg L.toArray)) w) : wpList P ops Q (o :: rest) a w :=
  wpList_plain hgd fun _ hK => by
    unfold Oper.wp execOp
    simp only [ho, hx, Instr.loadAt, Instr.sureAddr, Sem.run_bind, Sem.run_pure, Result.andThen_ok, run_loadVar_list w g ty L d hl hu hd hi]
    exact hK _ _ h
def celL (C : Nat → Option Int) : List Value := (List.range 4096).flatMap fun k => [.int .i64 ((C k).getD 0), .bool (C k).isSome]
theorem pair_get (f : Nat → List Value) (hf : ∀ k, (f k).length = 2) (j : Nat) (hj : j < 2) : ∀ n k, k < n → ((List.range n).flatMap f)[k * 2 + j]? = (f k)[j]? := by
  intro n
  induction n with
  | zero => intro k hk; omega
  | succ n ih =>
    intro k hk
    have hlen : ((List.range n).flatMap f).length = n * 2 := by
      clear ih hk
      induction n with
      | zero => rfl
      | succ n ih => rw [List.range_succ, List.flatMap_append, List.length_append, ih, List.flatMap_singleton, hf]; omega
    rw [List.range_succ, List.flatMap_append, List.flatMap_singleton]
    by_cases h : k < n
    · rw [List.getElem?_append_left (by omega)]
      exact ih k h
    · obtain rfl : k = n := by omega
      rw [List.getElem?_append_right (by omega), hlen]
      congr 1
      omega
theorem celL_len (C : Nat → Option Int) : (celL C).length = 8192 := by
  have h : ∀ n, ((List.range n).flatMap fun k => ([.int .i64 ((C k).getD 0), .bool (C k).isSome] : List Value)).length = n * 2 := by
    intro n
    induction n with
    | zero => rfl
    | succ n ih => rw [List.range_succ, List.flatMap_append, List.length_append, ih, List.flatMap_singleton, List.length_cons, List.length_singleton]; omega
  exact h 4096
theorem celL_get0 (C : Nat → Option Int) {k : Nat} (hk : k < 4096) : (celL C)[k * 2]? = some (.int .i64 ((C k).getD 0)) := pair_get _ (fun _ => rfl) 0 (by decide) 4096 k hk
theorem celL_get1 (C : Nat → Option Int) {k : Nat} (hk : k < 4096) : (celL C)[k * 2 + 1]? = some (.bool (C k).isSome) := pair_get _ (fun _ => rfl) 1 (by decide) 4096 k hk
theorem Try.sizeCA : (Try.prog.info? 84).map (·.size) = some 8192 := by kernel_rfl
theorem Try.underCA : Try.prog.underlying 84 = some (.array 4096 25) := by kernel_rfl
set_option maxRecDepth 100000 in
theorem idxC (A : Array Value) (k : Nat) (x y : Value) (w : World) (hk : k < 4096) (h0 : A[k * 2]? = some x) (h1 : A[k * 2 + 1]? = some y) : (Instr.index 84 (.agg A) (.int .i64 (k : Int))).run Try.prog w = .ok (.agg #[x, y]) w := by
  have hu := Try.underCA
  obtain ⟨d, hu2, hag⟩ : ∃ d, Try.prog.underlying 25 = some d ∧ (match d with | .struct _ | .array _ _ => true | _ => false) = true := ⟨_, Try.underlying25, rfl⟩
  have hs : (Try.prog.info? 25).map (·.size) = some 2 := by kernel_rfl
  obtain ⟨i0, e0, e1⟩ := Option.map_eq_some_iff.1 hs
  have hagg : (isAgg 25).run Try.prog w = .ok true w := by
    unfold isAgg
    rw [Sem.run_bind, run_underlying hu2 w]
    cases d <;> simp_all
  have hx : A.extract (k * 2) (k * 2 + 2) = #[x, y] := by
    have hlt : k * 2 + 1 < A.size := by
      by_cases h : k * 2 + 1 < A.size
      · exact h
      · rw [Array.getElem?_eq_none (by omega)] at h1; cases h1
    apply Array.ext
    · simp; omega
    · intro i hi1 hi2
      have hi : i = 0 ∨ i = 1 := by simp at hi2; omega
      rcases hi with rfl | rfl
      · rw [Array.getElem?_eq_getElem (by omega)] at h0; injection h0 with h0; rw [Array.getElem_extract]; exact h0
      · rw [Array.getElem?_eq_getElem hlt] at h1; injection h1 with h1; rw [Array.getElem_extract]; exact h1
  simp [Instr.index, run_underlying hu, asIntOf, part, sizeOf, typeInfo, e0, e1, hk, hx]
def tabL (C : Nat → Option Int) (n : Nat) : List Pr := (List.range n).filterMap fun j => (C j).map fun v => ((j : Int), v)
theorem tabL_succ (C : Nat → Option Int) (k : Nat) : tabL C (k + 1) = tabL C k ++ (match C k with | none => [] | some v => [((k : Int), v)]) := by
  unfold tabL
  rw [List.range_succ, List.filterMap_append]
  congr 1
  cases h : C k <;> simp [h]
theorem tabL_len (C : Nat → Option Int) (n : Nat) : (tabL C n).length ≤ n := by
  unfold tabL
  exact Nat.le_trans (List.length_filterMap_le _ _) (by simp)
/-- The table that a tree stands for. -/
def TabPost (C : Nat → Option Int) (w : World) (e : Ending) (w' : World) : Prop := ∃ v, e = .returned v ∧ OwnsR encP 2 49 w' w.heap.size v (tabL C 4096) ∧ Below w.heap.size w w'
set_option maxRecDepth 100000 in
set_option maxHeartbeats 2000000 in
theorem table20_any (b : Nat) (C : Nat → Option Int) (w : World) (h : TreeOf w b C) :
    Calls Try.prog 23 #[.pointer (some ⟨b, 0, none⟩)] w (TabPost C w) := by
  obtain ⟨i0, hi, hz0, hz1, hz2⟩ := info_parts Try.infoPair20
  have H := Lib.hid h
  have HLD := Lib.hid (show ∀ j v, (celL C)[j]? = some v → w.cell? ⟨b, j, none⟩ = some v from fun j v hv => by
    have hj : j < 8192 := by
      by_cases hj : j < 8192
      · exact hj
      · rw [List.getElem?_eq_none (by rw [celL_len]; omega)] at hv; cases hv
    have hc := h.cells (k := j / 2) (by omega)
    have hm : j % 2 = 0 ∨ j % 2 = 1 := by omega
    rcases hm with hm | hm
    · rw [show j = j / 2 * 2 by omega, celL_get0 C (by omega)] at hv
      rw [show j = j / 2 * 2 by omega, hc.1]
      exact hv
    · rw [show j = j / 2 * 2 + 1 by omega, celL_get1 C (by omega)] at hv
      rw [show j = j / 2 * 2 + 1 by omega, hc.2]
      exact hv)
  have HSZ := Lib.hid (show (Try.prog.info? 84).map (·.size) = some (celL C).length by rw [celL_len]; exact Try.sizeCA)
  have HIX := Lib.hid (fun k (hk : k < 4096) W => idxC (celL C).toArray k _ _ W hk (by simpa using celL_get0 C hk) (by simpa using celL_get1 C hk))
  clear h
  generalize celL C = L at HLD HSZ HIX
  go_enter Try.func23, Try.ntmps23
  go_wp2_with (first | (refine wpList_load_list rfl 84 _ rfl b rfl L _ HLD.out Try.underCA rfl HSZ.out ?_) | fail)
  go_loopw [3, 12] (fun v i wr => ∃ k : Nat, i = .int .i64 (k : Int) ∧ k ≤ 4096 ∧ Hid (OwnsR encP 2 49 wr w.heap.size v (tabL C k)) ∧ Hid (Below w.heap.size w wr))
    (fun _ i _ => 4096 - (intOf i).toNat)
  case atStart => exact ⟨0, rfl, by omega, Lib.hid (OwnsR.nil _ _ _ _ _), Lib.hid (Below.refl _ _)⟩
  case round =>
    obtain ⟨k, rfl, hk, HO, HB⟩ := hrel
    by_cases hlt : k < 4096
    · have hki : (k : Int) < 4096 := by omega
      have IX := fun W => HIX.out k hlt W
      have hlen := tabL_len C k
      have hsz := HB.out.size
      cases hc : C k with
      | none =>
        have HS := Lib.hid (show tabL C (k + 1) = tabL C k by rw [tabL_succ, hc]; simp)
        simp only [hc, Option.getD_none, Option.isSome_none] at IX
        clear hc
        go_wp2_with fail
        go_roundw
        case rel => exact ⟨k + 1, by go_num, by omega, Lib.hid (by rw [HS.out]; exact World.ownsRow.alloc HO.out _), Lib.hid (HB.out.alloc hsz _)⟩
        case measure => simp [intOf]; omega
      | some x =>
        have HS := Lib.hid (show tabL C (k + 1) = tabL C k ++ [((k : Int), x)] by rw [tabL_succ, hc])
        simp only [hc, Option.getD_some, Option.isSome_some] at IX
        clear hc
        generalize tabL C k = S at HO HS hlen
        obtain ⟨a1, c1, rfl, _⟩ := OwnsR.arg encP_len HO.out
        go_upto_region 8 with fail
        have z0 := cells_newM wr #[.int .i64 x, .bool true] 25 0 (.int .i64 x) rfl
        have HO3 := Lib.hid (show (wr.alloc (.cells #[.int .i64 x, .bool true] 25)).ownsRow w.heap.size 49 2 (.slice a1 S.length c1) S.length (flatR encP S) from World.ownsRow.alloc HO.out _)
        have HB3 := Lib.hid (show Below w.heap.size w (wr.alloc (.cells #[.int .i64 x, .bool true] 25)) from HB.out.alloc hsz _)
        have hsz3 := HB3.out.size
        have z0' : (wr.alloc (.cells #[.int .i64 x, .bool true] 25)).cell? ⟨wr.heap.size, 0, none⟩ = some (.int .i64 x) := z0
        clear z0 IX
        generalize wr.alloc (.cells #[.int .i64 x, .bool true] 25) = W3 at HO3 HB3 hsz3 z0' ⊢
        go_wp2_with (first | (at_builtin; refine wpList_append_own _ rfl _ _ 22 rfl w.heap.size 49 i0 (.agg #[.int .i64 0, .int .i64 0]) 2 16 Try.underlying22 hi hz0 hz1 hz2 rfl (by decide) _ _ _ rfl (World.ownsRow.alloc HO3.out _) ⟨W3.heap.size, 0, none⟩ 1 1 [.int .i64 (k : Int), .int .i64 x] rfl rfl ?c1 ?c2 ?c3 ?c4 ?c5 ?_) | fail)
        case c1 => exact cells_two _ _ _ _
        case c2 => intro u hu; simp at hu; rcases hu with rfl | rfl <;> rfl
        case c3 => unfold maxLen; omega
        case c4 => omega
        case c5 => simp; omega
        intro v1 w1 hown1 hg1 _
        have ho := Lib.hid (OwnsR.snoc (enc := encP) (l := S) (x := ((k : Int), x)) rfl hown1)
        have hb1 := Lib.hid (show Below w.heap.size w w1 from (HB3.out.alloc hsz3 _).grown hg1 (by simp; omega) (fun g hg => (World.ownsRow.lt HO3.out g hg).1))
        clear hown1 hg1
        go_wp2_with fail
        go_roundw
        case rel => exact ⟨k + 1, by go_num, by omega, Lib.hid (by rw [HS.out]; exact ho.out), hb1⟩
        case measure => simp [intOf]; omega
    · obtain rfl : k = 4096 := by omega
      go_wp2_with fail
      go_ret
      exact ⟨_, rfl, HO.out, HB.out⟩
end Go.Proofs.Ytjjadappjapjhaa
