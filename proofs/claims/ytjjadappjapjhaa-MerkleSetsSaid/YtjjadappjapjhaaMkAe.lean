/-
  CONTRACT of Set.
-/
import Derived.Test.YtjjadappjapjhaaMkAd
namespace Go.Proofs.Ytjjadappjapjhaa
open Go.RowKit Go.Deep

theorem lv_same {C1 C2 : Nat → Option Int} {k : Nat} (h : ∀ j, j ≠ k → C1 j = C2 j) : ∀ m j, j ≠ k / 16 ^ m → lvN C1 m j = lvN C2 m j
  | 0, j, hj => by
    rw [Nat.pow_zero, Nat.div_one] at hj
    show numO (C1 j) = numO (C2 j)
    rw [h j hj]
  | m + 1, j, hj => by
    show overN (kidsF (lvN C1 m) j) = overN (kidsF (lvN C2 m) j)
    congr 1
    unfold kidsF
    apply List.map_congr_left
    intro i hi
    have hi := List.mem_range.1 hi
    refine lv_same h m _ fun e => hj ?_
    rw [Nat.pow_succ, ← Nat.div_div_eq_div_mul, ← e]
    omega
def cO (v : Int) (s : Bool) : Option Int := if s then some v else none
theorem cO_get {v : Int} {s : Bool} (h : cellB (v, s) = true) : (cO v s).getD 0 = v ∧ (cO v s).isSome = s := by
  cases s
  · unfold cellB at h
    simp at h
    simp [cO, h]
  · simp [cO]
set_option maxRecDepth 100000 in
set_option maxHeartbeats 1000000 in
theorem set_bad (b : Nat) (k v : Int) (s : Bool) (w : World) (h : keyB k = false ∨ cellB (v, s) = false) :
    Calls Try.prog 21 #[.pointer (some ⟨b, 0, none⟩), .int .i64 k, .agg #[.int .i64 v, .bool s]] w fun e w' => e = .returned (.int .i64 1) ∧ Below w.heap.size w w' := by
  have BA := Lib.hid (show Below w.heap.size w (w.alloc (.cells #[.int .i64 v, .bool s] 25)) from (Below.refl _ _).alloc (Nat.le_refl _) _)
  have k0 := cells_newM w #[.int .i64 v, .bool s] 25 0 (.int .i64 v) rfl
  have k1 := cells_newM w #[.int .i64 v, .bool s] 25 1 (.bool s) rfl
  cases hk : keyB k
  · have KY := Lib.hid (fun W => isKeyF_any k W hk)
    clear h hk
    go_enter Try.func21, Try.ntmps21
    go_wp2_with (first | (go_at_call 41; (with_reducible refine (KY.out _).mono ?_); rintro e w4 ⟨rfl, rfl⟩) | fail)
    go_ret
    exact ⟨rfl, BA.out⟩
  · have hc : cellB (v, s) = false := by rcases h with h | h; rw [hk] at h; cases h; exact h
    have KY := Lib.hid (fun W => isKeyT_any k W hk)
    have CL := Lib.hid (fun W => hc ▸ isCellM_any v s W)
    clear h hk hc
    go_enter Try.func21, Try.ntmps21
    go_wp2_with (first | (go_at_call 41; (with_reducible refine (KY.out _).mono ?_); rintro e w4 ⟨rfl, rfl⟩) | (go_at_call 43; (with_reducible refine (CL.out _).mono ?_); rintro e w5 ⟨rfl, hb5⟩) | fail)
    go_ret
    exact ⟨rfl, below_next BA.out hb5⟩
def SetPost (b k : Nat) (C : Nat → Option Int) (c : Option Int) (w : World) (e : Ending) (w' : World) : Prop := e = .returned (.int .i64 0) ∧ TreeOf w' b (updF C k c) ∧ w.grownBy w' (some b)
set_option maxRecDepth 100000 in
set_option maxHeartbeats 2000000 in
theorem set_good (b k : Nat) (v : Int) (s : Bool) (C : Nat → Option Int) (w : World) (h : TreeOf w b C) (hk : k < 4096) (hc : cellB (v, s) = true) :
    Calls Try.prog 21 #[.pointer (some ⟨b, 0, none⟩), .int .i64 (k : Int), .agg #[.int .i64 v, .bool s]] w (SetPost b k C (cO v s) w) := by
  have BA := Lib.hid (show Below w.heap.size w (w.alloc (.cells #[.int .i64 v, .bool s] 25)) from (Below.refl _ _).alloc (Nat.le_refl _) _)
  have k0 := cells_newM w #[.int .i64 v, .bool s] 25 0 (.int .i64 v) rfl
  have k1 := cells_newM w #[.int .i64 v, .bool s] 25 1 (.bool s) rfl
  have KY := Lib.hid (fun W => isKeyT_any (k : Int) W (by unfold keyB; simp; omega))
  have CL := Lib.hid (fun W => hc ▸ isCellM_any v s W)
  have HC := Lib.hid hc
  have H := Lib.hid h
  clear h hc
  go_enter Try.func21, Try.ntmps21
  go_wp2_with (first | (go_at_call 41; (with_reducible refine (KY.out _).mono ?_); rintro e w4 ⟨rfl, rfl⟩) | (go_at_call 43; (with_reducible refine (CL.out _).mono ?_); rintro e w5 ⟨rfl, hb5⟩) | fail)
  obtain ⟨N, hT, hN⟩ := H.out
  have hb05 := below_next BA.out hb5
  have r0 := (hb5.block w.heap.size (by simp)).trans (heap_alloc_new w (.cells #[.int .i64 v, .bool s] 25))
  have g0 : w.heap.size < w5.heap.size := Nat.lt_of_lt_of_le (by simp) hb5.size
  have HT5 := Lib.hid (hT.below hb05)
  have HB5 := Lib.hid (show w.grownBy w5 (some b) from below_grown hb05)
  have HN := Lib.hid hN
  have R0 := Lib.hid r0
  have bne : b ≠ w.heap.size := by have := hT.lt; omega
  have hki : (k : Int) < 4096 := by omega
  obtain ⟨z0, z1⟩ := cells2M r0
  obtain ⟨t0, t1⟩ := HT5.out.cells hk
  have f0 := HT5.out.free (k * 2)
  have f1 := HT5.out.free (k * 2 + 1)
  clear k0 k1 hT hN hb05 r0 hb5
  go_still_tail 6, (by kernel_rfl)
  change wpList _ _ _ _ _ w5.drew
  go_wp2_with fail
  obtain ⟨W4, hW4⟩ : ∃ W4, ((w5.setCell ⟨b, k * 2, none⟩ (.int .i64 v)).setCell ⟨b, k * 2 + 1, none⟩ (.bool s)).drew = W4 := ⟨_, rfl⟩
  have hT4 : TreeAt W4 b (updF C k (cO v s)) (lvN C 0) N := by
    have := HT5.out.setC hk (cO v s)
    rw [(cO_get HC.out).1, (cO_get HC.out).2] at this
    exact this.same (by rw [← hW4]; rfl)
  have hG4 : w.grownBy W4 (some b) := by
    rw [← hW4]
    exact grown_trans HB5.out (grown_trans (grown_setCell _ ⟨b, k * 2, none⟩ _) (grown_trans (grown_setCell _ ⟨b, k * 2 + 1, none⟩ _) (below_grown (Below.refl _ _).drew)))
  have hR4 : W4.heap[w.heap.size]? = some (.cells #[.int .i64 v, .bool s] 25 (0, 0)) := by
    rw [← hW4, heap_drew, heap_setCell_other _ _ _ _ (by dsimp only; omega), heap_setCell_other _ _ _ _ (by dsimp only; omega)]
    exact R0.out
  have g4 : w.heap.size < W4.heap.size := by rw [← hW4]; simpa using g0
  rw [hW4]
  have HT4 := Lib.hid hT4
  have HG4 := Lib.hid hG4
  have HTL := Lib.hid (fun W (hb : Below W4.heap.size W4 W) => (hT4.below hb).setL hk (numO (cO v s)))
  have KS := Lib.hid (fun W (hb : Below W4.heap.size W4 W) => (show W.cell? ⟨w.heap.size, 0, none⟩ = some (.int .i64 v) ∧ W.cell? ⟨w.heap.size, 1, none⟩ = some (.bool s) from cells2M ((hb.block _ g4).trans hR4)))
  have KS2 := Lib.hid (fun W (hb : Below W4.heap.size W4 W) => (show (W.setCell ⟨b, 8192 + k, none⟩ (.int .u32 (regI (numO (cO v s))))).cell? ⟨w.heap.size, 0, none⟩ = some (.int .i64 v) ∧ (W.setCell ⟨b, 8192 + k, none⟩ (.int .u32 (regI (numO (cO v s))))).cell? ⟨w.heap.size, 1, none⟩ = some (.bool s) from
    cells2M ((heap_setCell_other W ⟨b, 8192 + k, none⟩ w.heap.size (.int .u32 (regI (numO (cO v s)))) (by dsimp only; omega)).trans ((hb.block _ g4).trans hR4))))
  have NU := Lib.hid (fun W => (show Calls Try.prog 12 #[.agg #[.int .i64 v, .bool s]] W (Gives W (.int .u32 (regI (numO (cO v s))))) from number20_any v s W))
  have HBD := Lib.hid (show Below W4.heap.size W4 W4.drew from (Below.refl _ _).drew)
  clear hT4 hG4 hR4 hW4 z0 z1 t0 t1 f0 f1 HT5 HB5 R0
  have hS := KS.out _ HBD.out
  refine wp_region_held_drew (S := fun W => W.cell? ⟨w.heap.size, 0, none⟩ = some (.int .i64 v) ∧ W.cell? ⟨w.heap.size, 1, none⟩ = some (.bool s)) (by kernel_rfl) (hS) (fun _ => ?_)
  refine wpAnyH_take (i := 0) (v := ?_) rfl (by kernel_rfl) (by kernel_rfl) (by kernel_rfl) (fun _ _ _ h => h) (Or.inl ⟨by kernel_rfl, ?_⟩) hS ?_
  rotate_left
  · intro w hSw
    (try dsimp only at hSw)
    skip
    go_simp
    try with_reducible rfl
  try dsimp only [Act.put, List.getElem?_toArray, List.getElem?_cons_succ, List.getElem?_cons_zero, List.getElem_toArray, List.getElem_cons_succ, List.getElem_cons_zero]
  try simp only [List.setIfInBounds_toArray, List.set_cons_zero, List.set_cons_succ]
  refine wpAnyH_take (i := 1) (v := ?_) rfl (by kernel_rfl) (by kernel_rfl) (by kernel_rfl) (fun _ _ _ h => h) (Or.inl ⟨by kernel_rfl, ?_⟩) hS ?_
  rotate_left
  · intro w hSw
    (try dsimp only at hSw)
    skip
    go_simp
    try with_reducible rfl
  try dsimp only [Act.put, List.getElem?_toArray, List.getElem?_cons_succ, List.getElem?_cons_zero, List.getElem_toArray, List.getElem_cons_succ, List.getElem_cons_zero]
  try simp only [List.setIfInBounds_toArray, List.set_cons_zero, List.set_cons_succ]
  refine wpAnyH_take (i := 2) (v := ?_) rfl (by kernel_rfl) (by kernel_rfl) (by kernel_rfl) (fun _ _ _ h => h) (Or.inl ⟨by kernel_rfl, ?_⟩) hS ?_
  rotate_left
  · intro w hSw
    (try dsimp only at hSw)
    skip
    go_simp
    try with_reducible rfl
  try dsimp only [Act.put, List.getElem?_toArray, List.getElem?_cons_succ, List.getElem?_cons_zero, List.getElem_toArray, List.getElem_cons_succ, List.getElem_cons_zero]
  try simp only [List.setIfInBounds_toArray, List.set_cons_zero, List.set_cons_succ]
  refine wpAnyH_take (i := 4) (v := ?_) rfl (by kernel_rfl) (by kernel_rfl) (by kernel_rfl) (fun _ _ _ h => h) (Or.inl ⟨by kernel_rfl, ?_⟩) hS ?_
  rotate_left
  · intro w hSw
    (try dsimp only at hSw)
    skip
    go_simp
    try with_reducible rfl
  try dsimp only [Act.put, List.getElem?_toArray, List.getElem?_cons_succ, List.getElem?_cons_zero, List.getElem_toArray, List.getElem_cons_succ, List.getElem_cons_zero]
  try simp only [List.setIfInBounds_toArray, List.set_cons_zero, List.set_cons_succ]
  refine wpAnyH_take (i := 5) (v := ?_) rfl (by kernel_rfl) (by kernel_rfl) (by kernel_rfl) (fun _ _ _ h => h) (Or.inl ⟨by kernel_rfl, ?_⟩) hS ?_
  rotate_left
  · intro w hSw
    (try dsimp only at hSw)
    skip
    go_simp
    try with_reducible rfl
  try dsimp only [Act.put, List.getElem?_toArray, List.getElem?_cons_succ, List.getElem?_cons_zero, List.getElem_toArray, List.getElem_cons_succ, List.getElem_cons_zero]
  try simp only [List.setIfInBounds_toArray, List.set_cons_zero, List.set_cons_succ]
  refine wpAnyH_ready (rs := [3]) (by kernel_rfl) (by simp) (AllReadyH.cons rfl (fun K hK => ?_) AllReadyH.nil)
  go_simp
  go_wp2_with (go_at_call 12; (with_reducible refine (NU.out W4.drew).mono ?_); rintro e w6 ⟨rfl, hb6⟩)
  have hb46 := below_next HBD.out hb6
  have hS5 := KS.out _ hb46
  refine hK.out _ _ (hS5) (fun _ => ?_)
  clear hK K hS
  try dsimp only [Act.put, List.getElem?_toArray, List.getElem?_cons_succ, List.getElem?_cons_zero, List.getElem_toArray, List.getElem_cons_succ, List.getElem_cons_zero]
  try simp only [List.setIfInBounds_toArray, List.set_cons_zero, List.set_cons_succ]
  refine wpAnyH_take (i := 6) (v := ?_) rfl (by kernel_rfl) (by kernel_rfl) (by kernel_rfl) (fun _ _ _ h => h) (Or.inl ⟨by kernel_rfl, ?_⟩) hS5 ?_
  rotate_left
  · intro w hSw
    (try dsimp only at hSw)
    skip
    go_simp
    try with_reducible rfl
  try dsimp only [Act.put, List.getElem?_toArray, List.getElem?_cons_succ, List.getElem?_cons_zero, List.getElem_toArray, List.getElem_cons_succ, List.getElem_cons_zero]
  try simp only [List.setIfInBounds_toArray, List.set_cons_zero, List.set_cons_succ]
  have ht5 := HT4.out.below hb46
  have hc5 := ht5.leaf hk
  have hf5 := ht5.free (8192 + k)
  refine wpAnyH_ready (rs := [7]) (by kernel_rfl) (by simp) (AllReadyH.cons rfl (fun K hK => ?_) AllReadyH.nil)
  go_simp
  have hS6 := KS2.out _ hb46
  refine hK.out _ _ (hS6) (fun _ => ?_)
  clear hK K hS5
  try dsimp only [Act.put, List.getElem?_toArray, List.getElem?_cons_succ, List.getElem?_cons_zero, List.getElem_toArray, List.getElem_cons_succ, List.getElem_cons_zero]
  try simp only [List.setIfInBounds_toArray, List.set_cons_zero, List.set_cons_succ]
  refine wpAnyH_done (by kernel_rfl) ?_ _
  have hT6 := HTL.out _ hb46
  rw [← lv0_set] at hT6
  have hG6 := grown_trans (grown_trans HG4.out (below_grown hb46)) (grown_setCell w6 ⟨b, 8192 + k, none⟩ (.int .u32 (regI (numO (cO v s)))))
  clear hS6 hc5 hf5 ht5
  generalize w6.setCell ⟨b, 8192 + k, none⟩ (.int .u32 (regI (numO (cO v s)))) = W7 at hT6 hG6 ⊢
  have HT6 := Lib.hid hT6
  have HG6 := Lib.hid hG6
  clear hT6 hG6
  go_wp2_with fail
  have HSM := Lib.hid (show ∀ j, j ≠ k → C j = updF C k (cO v s) j from fun j hj => by unfold updF; rw [if_neg hj])
  go_loopw [7, 35] (fun at' i wq => ∃ (lev : Nat) (N : Nat → Nat → BitVec 32), at' = .int .i64 ((k / 16 ^ lev : Nat) : Int) ∧ i = .int .i64 (lev : Int) ∧ lev ≤ 3 ∧ Hid (TreeAt wq b (updF C k (cO v s)) (lvN (updF C k (cO v s)) 0) N) ∧ Hid (NodeOK (updF C k (cO v s)) N lev) ∧ Hid (∀ l, lev ≤ l → l < 3 → ∀ i, i < szM l → N l i = lvN C (l + 1) i) ∧ Hid (w.grownBy wq (some b)))
    (fun _ i _ => 3 - (intOf i).toNat)
  case atStart => exact ⟨0, N, by simp, rfl, by omega, HT6, Lib.hid (fun l hl => absurd hl (Nat.not_lt_zero _)), Lib.hid (fun l _ hl i hi => HN.out l hl i hi), HG6⟩
  case round =>
    clear HT6 HG6 HN
    obtain ⟨lev, N, rfl, rfl, hlev, HT, HN, HO, HG⟩ := hrel
    by_cases hl3 : lev < 3
    · have hq1 : k / 16 ^ (lev + 1) = k / 16 ^ lev / 16 := by rw [Nat.pow_succ, Nat.div_div_eq_div_mul]
      have ha : k / 16 ^ (lev + 1) < szM lev := by
        have h3 : lev = 0 ∨ lev = 1 ∨ lev = 2 := by omega
        rcases h3 with rfl | rfl | rfl <;> simp [szM] <;> omega
      have hlt : k / 16 ^ lev < 4096 := Nat.lt_of_le_of_lt (Nat.div_le_self _ _) hk
      have hup := up_is HN.out hl3 ha
      have RN := Lib.hid (renew_any b lev (k / 16 ^ (lev + 1)) _ _ _ _ HT.out hl3 ha)
      have HUP := Lib.hid hup
      have HLV := Lib.hid (fun j hj => lv_same HSM.out (lev + 1) j hj)
      rw [hq1] at RN HUP HLV
      generalize k / 16 ^ lev = q at RN HUP HLV hq1 hlt
      obtain ⟨q1, hq⟩ : ∃ q1, q / 16 = q1 := ⟨_, rfl⟩
      rw [hq] at RN HUP HLV hq1
      have hd : (q : Int).tdiv 16 = (q1 : Int) := by rw [Int.tdiv_eq_ediv_of_nonneg (by omega)]; omega
      have hd2 : (q : Int) / 16 = (q1 : Int) := by omega
      have HQ1 := Lib.hid hq1
      clear ha hup hq1 hq
      go_wp2_with (first | (go_at_call 39; (with_reducible refine RN.out.mono ?_); rintro e w8 ⟨rfl, hT8, hg8⟩; replace hT8 := Lib.hid hT8; replace hg8 := Lib.hid hg8) | fail)
      go_roundw
      case rel => exact ⟨lev + 1, _, by rw [HQ1.out], by go_num, by omega, hT8, Lib.hid (fun l' hl' i hi => by
          unfold updN
          by_cases he : l' = lev
          · subst he
            by_cases hi2 : i = q1
            · subst hi2
              rw [if_pos ⟨rfl, rfl⟩, HUP.out]
            · rw [if_neg (by omega), HO.out _ (Nat.le_refl _) hl3 i hi]
              exact HLV.out i hi2
          · rw [if_neg (by omega)]
            exact HN.out l' (by omega) i hi), Lib.hid (fun l' h1 h2 i hi => by
          unfold updN
          rw [if_neg (by omega)]
          exact HO.out l' (by omega) h2 i hi), Lib.hid (grown_trans HG.out hg8.out)⟩
      case measure => simp [intOf]; omega
    · obtain rfl : lev = 3 := by omega
      go_wp2_with fail
      go_ret
      exact ⟨rfl, ⟨N, HT.out, HN.out⟩, HG.out⟩
end Go.Proofs.Ytjjadappjapjhaa
