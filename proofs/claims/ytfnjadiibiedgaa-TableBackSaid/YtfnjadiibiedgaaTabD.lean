/-
  CONTRACTS of slices.Insert (of one pair) where there is no room; of with.
-/
import Derived.Test.YtfnjadiibiedgaaTabC
namespace Go.Proofs.Ytfnjadiibiedgaa
open Go.RowKit Go.Shelf Go.Lib

set_option maxRecDepth 100000 in
set_option maxHeartbeats 4000000 in
theorem insert_grow (g cap base n i : Nat) (l : List Sp) (key val : Int) (vb : Nat) (w : World) (hn : l.length = n) (hlen : n ≤ 100000) (hi : i < n) (hroom : cap < n + 1) (hbase : base ≤ w.heap.size)
    (hO : w.ownsRow base 90 2 (.slice (some ⟨g, 0, none⟩) n cap) n (flatP l)) (hv : w.heap[vb]? = some (.cells #[.int .i64 key, .int .i64 val] 90 (0, 0))) :
    Calls Try.prog 122 #[.slice (some ⟨g, 0, none⟩) n cap, .int .i64 (i : Int), .slice (some ⟨vb, 0, none⟩) 1 1] w (InsPost base (l.take i ++ (key, val) :: l.drop i) w) := by
  obtain ⟨i0, hi0, hz0, hzs, hzb⟩ := info_parts Try.infoPair
  have hcur : ∃ cur, base ≤ g ∧ w.heap[g]? = some (.cells cur 90 (0, 0)) ∧ n ≤ cap := by
    rcases hO.2 with ⟨e, _⟩ | ⟨g', cap', cur, e, h1, h2, h3, _⟩
    · cases e
    · cases e; exact ⟨cur, h1, h2, h3⟩
  obtain ⟨cur, hbg, hg, hnc⟩ := hcur
  have hcn : cap = n := by omega
  subst hcn
  have hgw : g < w.heap.size := (Array.getElem?_eq_some_iff.1 hg).1
  have hvw : vb < w.heap.size := (Array.getElem?_eq_some_iff.1 hv).1
  have hz1 : ¬ ((1 : Int) = 0) := by omega
  have hz2 : ¬ ((i : Int) = (cap : Int)) := by omega
  have hz3 : (cap : Int) < (cap : Int) + 1 := by omega
  have hsz : (Try.prog.info? 90).map (·.size) = some 2 := by kernel_rfl
  have hdl : (flatP (l.drop i)).length = (cap - i) * 2 := by rw [flatP_length, List.length_drop, hn]
  have htl : (flatP (l.take i)).length = i * 2 := by rw [flatP_length, List.length_take, Nat.min_eq_left (by omega)]
  have he : flatP l = flatP (l.take i) ++ flatP (l.drop i) := by rw [← flatP_append, List.take_append_drop]
  have hsrc : ∀ j v, (flatP (l.drop i))[j]? = some v → w.cell? ⟨g, i * 2 + j, none⟩ = some v := fun j v hj => by
    have hjl : j < (cap - i) * 2 := by rw [← hdl]; exact (List.getElem?_eq_some_iff.1 hj).1
    have := World.ownsRow.cellAt hO (i * 2 + j) (by omega)
    rw [this, he, List.getElem?_append_right (by omega), htl, Nat.add_sub_cancel_left]
    exact hj
  have hold : (Builtin.firstCells i0.size i (.slice (some ⟨g, 0, none⟩) i cap)).run Try.prog w.drew = .ok (flatP (l.take i)).toArray w.drew := by
    rw [hzs]
    exact run_firstCells_some w.drew 2 i ⟨g, 0, none⟩ i cap (flatP (l.take i)) htl (fun j v hj => by
      have hjl : j < i * 2 := by rw [← htl]; exact (List.getElem?_eq_some_iff.1 hj).1
      rw [addr_add, Nat.zero_add]
      have := World.ownsRow.cellAt hO j (by omega)
      exact this.trans (by rw [he, List.getElem?_append_left (by omega)]; exact hj))
  have hik : i + (cap + 1 - i) = cap + 1 := by omega
  have hrz : ∀ ty, (Builtin.append_ #[22, 3] ty #[.slice (some ⟨g, 0, none⟩) i cap, .int .i64 ((cap : Int) + 1 - (i : Int))]).run Try.prog w =
      .ok (.slice (some ⟨w.heap.size, 0, none⟩) (cap + 1) (grownCap w (cap + 1) cap 90)) (w.drew.alloc (.cells ((flatP (l.take i)).toArray ++ Builtin.zeroCells (Value.agg #[.int .i64 0, .int .i64 0]).cells (cap + 1 - i) ++ Builtin.zeroCells (Value.agg #[.int .i64 0, .int .i64 0]).cells (grownCap w (cap + 1) cap 90 - (cap + 1))) 90)) := fun ty => by
    have h := Lib.run_append_grow_zeros w 22 3 ty 90 i0 _ .i64 .i64 Try.underlying22 Try.underlying3 hi0 hz0 (some ⟨g, 0, none⟩) i cap (flatP (l.take i)) hold (cap + 1 - i) (by omega) (by rw [hzs]; omega) (by omega) (by omega) (by rw [hzb]; omega) (by rw [hzb, hik]; exact growslice_fits hroom (by omega))
    rw [hik] at h
    rw [show (cap : Int) + 1 - (i : Int) = ((cap + 1 - i : Nat) : Int) by omega]
    exact h
  obtain ⟨G, hG⟩ : ∃ G, G = grownCap w (cap + 1) cap 90 := ⟨_, rfl⟩
  have hGn : cap + 1 ≤ G := by rw [hG]; exact grownCap_ge w _ _ _
  have hGm : G ≤ maxLen := by rw [hG]; exact grownCap_le_maxLen w (cap + 1) cap 90 (by unfold maxLen; omega)
  have hG63 : G ≤ 9223372036854775807 := by unfold maxLen at hGm; omega
  obtain ⟨Z, hZ, hZl⟩ : ∃ Z : List Value, (flatP (l.take i)).toArray ++ Builtin.zeroCells (Value.agg #[.int .i64 0, .int .i64 0]).cells (cap + 1 - i) ++ Builtin.zeroCells (Value.agg #[.int .i64 0, .int .i64 0]).cells (G - (cap + 1)) = (flatP (l.take i) ++ Z).toArray ∧ Z.length = (G - i) * 2 := by
    refine ⟨(Builtin.zeroCells (Value.agg #[.int .i64 0, .int .i64 0]).cells (cap + 1 - i)).toList ++ (Builtin.zeroCells (Value.agg #[.int .i64 0, .int .i64 0]).cells (G - (cap + 1))).toList, ?_, ?_⟩
    · simp
    · simp [Builtin.zeroCells, Value.cells]
      omega
  rw [← hG, hZ] at hrz
  obtain ⟨W1, hW1⟩ : ∃ W1, W1 = w.drew.alloc (.cells (flatP (l.take i) ++ Z).toArray 90) := ⟨_, rfl⟩
  have hNs : w.drew.heap.size = w.heap.size := rfl
  have hg1 : W1.heap[w.heap.size]? = some (.cells (flatP (l.take i) ++ Z).toArray 90 (0, 0)) := by rw [hW1]; exact heap_alloc_new w.drew _
  have hRs : (flatP (l.take i) ++ Z).toArray.size = G * 2 := by rw [List.size_toArray, List.length_append, htl, hZl]; omega
  have b1 : Below base w W1 := by rw [hW1]; exact ((Below.refl base w).drew).alloc hbase _
  have hvc : ∀ j v, [Value.int .i64 key, Value.int .i64 val][j]? = some v → W1.cell? ⟨vb, j, none⟩ = some v := fun j v hj => by
    rw [hW1, World.cell?_alloc_lt w.drew _ ⟨vb, j, none⟩ hvw]
    exact (cell_of_row w vb j _ _ (0, 0) hv).trans (by simpa using hj)
  have hcpA : ∀ ty dc, (Builtin.copy_ #[22, 22] ty #[.slice (some ⟨w.heap.size, i * 2, none⟩) (cap + 1 - i) dc, .slice (some ⟨vb, 0, none⟩) 1 1]).run Try.prog W1 = .ok (goInt 1) (W1.setCells w.heap.size (i * 2) [.int .i64 key, .int .i64 val]) := fun ty dc => by
    have := run_copy2 W1 22 22 ty 90 w.heap.size (i * 2) (cap + 1 - i) dc ⟨vb, 0, none⟩ 1 1 [.int .i64 key, .int .i64 val] Try.underlying22 hsz (by rw [show Nat.min 1 (cap + 1 - i) = 1 from Nat.min_eq_left (by omega)]; rfl)
      (fun j v hj => by rw [addr_add, Nat.zero_add]; exact hvc j v hj)
      (fun j hj => by rw [cell_of_row W1 w.heap.size _ _ _ (0, 0) hg1, Array.getElem?_eq_getElem (by rw [hRs]; simp at hj; omega)]; rfl) (fun j hj => frozen_of_row W1 w.heap.size _ _ _ hg1) (by intro v hv; simp at hv; rcases hv with rfl | rfl <;> rfl)
    rwa [show Nat.min 1 (cap + 1 - i) = 1 by simp only [Nat.min_def]; split <;> omega] at this
  obtain ⟨W2, hW2⟩ : ∃ W2, W2 = W1.setCells w.heap.size (i * 2) [.int .i64 key, .int .i64 val] := ⟨_, rfl⟩
  have hg2 : W2.heap[w.heap.size]? = some (.cells (setL (flatP (l.take i) ++ Z) (i * 2) [.int .i64 key, .int .i64 val]).toArray 90 (0, 0)) := by rw [hW2]; exact heap_setL w.heap.size _ _ _ W1 _ hg1
  have hsl : (setL (flatP (l.take i) ++ Z) (i * 2) [Value.int .i64 key, Value.int .i64 val]).toArray.size = G * 2 := by rw [List.size_toArray, setL_len, ← hRs, List.size_toArray]
  have b2 : Below base w W2 := by rw [hW2]; exact below_setL hbase _ _ _ b1
  have hcpB : ∀ ty dc sc, (Builtin.copy_ #[22, 22] ty #[.slice (some ⟨w.heap.size, (i + 1) * 2, none⟩) (cap - i) dc, .slice (some ⟨g, i * 2, none⟩) (cap - i) sc]).run Try.prog W2.drew = .ok (goInt ((cap - i : Nat) : Int)) (W2.drew.setCells w.heap.size ((i + 1) * 2) (flatP (l.drop i))) := fun ty dc sc => by
    have := run_copy2 W2.drew 22 22 ty 90 w.heap.size ((i + 1) * 2) (cap - i) dc ⟨g, i * 2, none⟩ (cap - i) sc (flatP (l.drop i)) Try.underlying22 hsz (by rw [hdl, show Nat.min (cap - i) (cap - i) = cap - i from Nat.min_self _])
      (fun j v hj => by
        rw [addr_add]
        show W2.cell? ⟨g, i * 2 + j, none⟩ = some v
        rw [hW2, World.cell?_setCells_out _ _ _ _ _ (fun h _ => absurd h (by show g ≠ w.heap.size; omega)), hW1, World.cell?_alloc_lt w.drew _ ⟨g, i * 2 + j, none⟩ hgw]
        exact hsrc j v hj)
      (fun j hj => by
        show (W2.cell? ⟨w.heap.size, (i + 1) * 2 + j, none⟩).isSome = true
        rw [cell_of_row W2 w.heap.size _ _ _ (0, 0) hg2, Array.getElem?_eq_getElem (by rw [hsl]; rw [hdl] at hj; omega)]; rfl)
      (fun j hj => frozen_of_row W2 w.heap.size _ _ _ hg2) (flatP_one _)
    rwa [show Nat.min (cap - i) (cap - i) = cap - i from Nat.min_self _] at this
  have HF := Lib.hid (show InsPost base (l.take i ++ (key, val) :: l.drop i) w (.returned (.slice (some ⟨w.heap.size, 0, none⟩) (cap + 1) G)) (W2.drew.setCells w.heap.size ((i + 1) * 2) (flatP (l.drop i))) by
    refine ⟨_, rfl, ?_, below_setL hbase _ _ _ b2.drew⟩
    have hl' : (l.take i ++ (key, val) :: l.drop i).length = cap + 1 := by simp; omega
    unfold OwnsP
    rw [hl', flatP_mid]
    have hh := heap_setL w.heap.size 90 (flatP (l.drop i)) ((i + 1) * 2) W2.drew _ hg2
    refine ⟨?_, .inr ⟨w.heap.size, G, _, rfl, hbase, hh, hGn, hGm, ?_, ?_⟩⟩
    · rw [List.length_append, List.length_append, hdl, htl]; simp; omega
    · rw [List.size_toArray, setL_len, ← hsl, List.size_toArray]
    · rw [List.toList_toArray, List.toList_toArray]
      exact grow_list _ _ Z hn (by omega) (by rw [hZl]; omega))
  have hw1 : IntKind.i64.wrap ((i : Int) + 1) = (i : Int) + 1 := by rw [IntKind.wrap_i64]; omega
  have hw2 : IntKind.i64.wrap ((cap : Int) + 1) = (cap : Int) + 1 := by rw [IntKind.wrap_i64]; omega
  have hw3 : IntKind.i64.wrap ((cap : Int) + 1 - (i : Int)) = (cap : Int) + 1 - (i : Int) := by rw [IntKind.wrap_i64]; omega
  have hb1 : (0 : Int) ≤ (i : Int) + 1 := by omega
  have hin : i ≤ cap := by omega
  have htn : ((i : Int) + 1).toNat = i + 1 := by omega
  have hb2 : ¬ (G = i) := by omega
  have hb5 : ¬ (G = i + 1) := by omega
  have hb3 : (i : Int) ≤ (cap : Int) + 1 := by omega
  have hb4 : ¬ (cap = i) := by omega
  have mixed : Try.prog.follows .mixedOrders = true := by kernel_rfl
  have hE : w.drew.alloc (.cells (flatP (l.take i) ++ Z).toArray 90) = W1 := hW1.symm
  rw [hE] at hrz
  rw [← hW2] at hcpA
  replace hE := Lib.hid hE
  replace hW1 := Lib.hid hW1
  replace hW2 := Lib.hid hW2
  replace hO := Lib.hid hO
  replace hn := Lib.hid hn
  replace hg := Lib.hid hg
  replace hg1 := Lib.hid hg1
  replace hg2 := Lib.hid hg2
  replace hsrc := Lib.hid hsrc
  replace hdl := Lib.hid hdl
  replace htl := Lib.hid htl
  replace he := Lib.hid he
  replace hZ := Lib.hid hZ
  replace hRs := Lib.hid hRs
  replace hsl := Lib.hid hsl
  replace hvc := Lib.hid hvc
  replace hold := Lib.hid hold
  clear hik hG
  go_enter Try.func122, Try.ntmps122
  go_wp2_with (first | (at_builtin; refine Lib.wpList_append_run _ rfl _ _ _ _ rfl _ _ rfl rfl _ _ (hrz _) ?_) | (at_builtin; refine wpList_copy_runI _ rfl _ _ 22 22 rfl _ _ rfl rfl (hcpA _ _) ?_))
  go_region_law_o (refine step_copy_runI rfl _ _ 22 22 rfl _ _ (by simp [Act.eval, Act.put]) (by simp [Act.eval, Act.put]) (hcpB _ _ _) ?_)
  go_wp2
  go_ret
  exact HF.out

/-- A pair is put into a row of the call's own, at whatever place. -/
theorem insert_any (v : Value) (base i : Nat) (l : List Sp) (key val : Int) (vb : Nat) (w : World) (hlen : l.length ≤ 100000) (hi : i ≤ l.length) (hbase : base ≤ w.heap.size) (ho : OwnsP 90 w base v l)
    (hvg : ∀ g, v.ownBlock = some g → vb ≠ g) (hv : w.heap[vb]? = some (.cells #[.int .i64 key, .int .i64 val] 90 (0, 0))) :
    Calls Try.prog 122 #[v, .int .i64 (i : Int), .slice (some ⟨vb, 0, none⟩) 1 1] w (InsPost base (l.take i ++ (key, val) :: l.drop i) w) := by
  by_cases he : i = l.length
  · subst he
    rw [List.take_length, List.drop_length]
    exact insert_end v base l key val vb w hlen hbase ho (cell_of_row w vb 0 _ _ (0, 0) hv) (cell_of_row w vb 1 _ _ (0, 0) hv)
  · obtain ⟨g, cap, rfl, _, _, _, hc⟩ := ho.form (by intro e; subst e; simp at hi; exact he (by simp [hi]))
    unfold OwnsP at ho
    by_cases hr : l.length + 1 ≤ cap
    · exact insert_room g cap base l.length i l key val vb w rfl hlen (by omega) hr ho (hvg g rfl) hv
    · exact insert_grow g cap base l.length i l key val vb w rfl hlen (by omega) (by omega) hbase ho hv
end Go.Proofs.Ytfnjadiibiedgaa
