/-
  CONTRACT of the document: Leaves.
-/
import Derived.Test.YtjjadappjapjhaaMkT
namespace Go.Proofs.Ytjjadappjapjhaa
open Go.RowKit Go.Deep

/-- The numbers of a level, in a row. -/
def rowL (f : Nat → BitVec 32) (n : Nat) : List (BitVec 32) := (List.range n).map f
theorem rowL_len (f : Nat → BitVec 32) (n : Nat) : (rowL f n).length = n := by simp [rowL]
theorem rowL_get (f : Nat → BitVec 32) (n k : Nat) (h : k < n) : (rowL f n)[k]? = some (f k) := by simp [rowL, h]
theorem rowL_set (C : Nat → Option Int) (n q : Nat) (c : Option Int) : (rowL (lvN C 0) n).set q (numO c) = rowL (lvN (updF C q c) 0) n := by
  apply List.ext_getElem?
  intro j
  rw [List.getElem?_set]
  by_cases hj : j < n
  · rw [rowL_get _ _ _ hj, rowL_get _ _ _ hj, lv0_set, rowL_len]
    unfold updF
    by_cases h : q = j
    · subst h
      rw [if_pos rfl, if_pos hj, if_pos rfl]
    · rw [if_neg h, if_neg (fun e => h e.symm)]
  · rw [List.getElem?_eq_none (by rw [rowL_len]; omega), List.getElem?_eq_none (by rw [rowL_len]; omega)]
    split
    · rw [if_neg (by rw [rowL_len]; omega)]
    · rfl
theorem rowL_zero (n : Nat) : rowL (lvN (tabC []) 0) n = List.replicate n 0#32 := by
  unfold rowL
  rw [show (lvN (tabC []) 0) = fun _ => 0#32 from rfl, List.map_const', List.length_range]
theorem flatU_set (l : List (BitVec 32)) (q : Nat) (x : BitVec 32) : (flatR encU l).set q (.int .u32 (regI x)) = flatR encU (l.set q x) := by
  rw [flatU, flatU, List.map_set]
def RowP (l : List (BitVec 32)) (w : World) (e : Ending) (w' : World) : Prop := ∃ a n c, e = .returned (.slice a n c) ∧ RArg encU 1 w' a n c l ∧ Below w.heap.size w w'
set_option maxRecDepth 100000 in
set_option maxHeartbeats 4000000 in
theorem leaves_any (a : Option Addr) (n c : Nat) (l : List Pr) (w : World) (h : RArg encP 2 w a n c l) (ht : tblB l = true) :
    Calls Try.prog 50 #[.slice a n c] w (RowP (rowL (lvN (tabC l) 0) 4096) w) := by
  obtain ⟨i0, hi, hz0, hz1, hz2⟩ := info_parts Try.infoU
  have hn : n = l.length := h.1
  have hz : (n : Int) ≤ 9223372036854775807 := by have := h.2.1; omega
  have H := Lib.hid h
  have HN := Lib.hid hn
  have HT := Lib.hid ht
  clear h hn ht
  go_enter Try.func50, Try.ntmps50
  go_wp2_with fail
  go_loopw [3, 4] (fun v i wr => ∃ k : Nat, i = .int .i64 (k : Int) ∧ k ≤ 4096 ∧ Hid (OwnsR encU 1 28 wr w.heap.size v (List.replicate k 0#32)) ∧ Hid (Below w.heap.size w wr))
    (fun _ i _ => 4096 - (intOf i).toNat)
  case atStart => exact ⟨0, rfl, by omega, Lib.hid (OwnsR.nil _ _ _ _ _), Lib.hid (Below.refl _ _)⟩
  case round =>
    obtain ⟨k, rfl, hk, HO, HB⟩ := hrel
    by_cases hlt : k < 4096
    · have HO2 := Lib.hid (show wr.ownsRow w.heap.size 28 1 _ k (flatR encU (List.replicate k 0#32)) from by have := HO.out; unfold OwnsR at this; rwa [List.length_replicate] at this)
      have hsz := HB.out.size
      go_wp2_with (first | (at_builtin; refine wpList_append_own _ rfl _ _ 43 rfl w.heap.size 28 i0 (.int .u32 0) 1 4 Try.underlying43 hi hz0 hz1 hz2 rfl (by decide) _ _ _ rfl (World.ownsRow.alloc HO2.out _) ⟨wr.heap.size, 0, none⟩ 1 1 [.int .u32 0] rfl rfl ?c1 ?c2 ?c3 ?c4 ?c5 ?_) | fail)
      case c1 => exact cell_one_new _ _ _
      case c2 => intro u hu; simp at hu; subst hu; rfl
      case c3 => unfold maxLen; omega
      case c4 => omega
      case c5 => simp; omega
      intro v1 w1 hown1 hg1 _
      have ho := Lib.hid (OwnsR.snoc (enc := encU) (l := List.replicate k 0#32) (x := 0#32) (List.length_replicate) hown1)
      have hb1 := Lib.hid (show Below w.heap.size w w1 from (HB.out.alloc hsz _).grown hg1 (by simp; omega) (fun g hg => (World.ownsRow.lt HO2.out g hg).1))
      clear hown1 hg1 HO2
      go_wp2_with fail
      go_roundw
      case rel => exact ⟨k + 1, by go_num, by omega, Lib.hid (by rw [List.replicate_succ']; exact ho.out), hb1⟩
      case measure => simp [intOf]; omega
    · obtain rfl : k = 4096 := by omega
      rcases HO.out.2 with ⟨_, hn0⟩ | ⟨g, cap, cur, hv, _⟩
      · rw [List.length_replicate] at hn0; cases hn0
      rw [List.length_replicate] at hv
      subst hv
      have ho := HO.out
      unfold OwnsR at ho
      rw [List.length_replicate, ← rowL_zero] at ho
      have HO1 := Lib.hid ho
      have HB1 := Lib.hid HB.out
      clear ho HO HB
      go_wp2_with fail
      rw [show ((4096 : Nat) : Int) = 4096 from rfl]
      go_loopw [5] (fun i wq => ∃ k : Nat, i = .int .i64 (k : Int) ∧ k ≤ n ∧ Hid (wq.ownsRow w.heap.size 28 1 (.slice (some ⟨g, 0, none⟩) 4096 cap) 4096 (flatR encU (rowL (lvN (tabC (l.take k)) 0) 4096))) ∧ Hid (Below w.heap.size w wq))
        (fun i _ => n - (intOf i).toNat)
      case atStart => exact ⟨0, rfl, by omega, HO1, HB1⟩
      case round =>
        obtain ⟨k, rfl, hk, HP, HC⟩ := hrel
        by_cases hlt2 : k < n
        · have hkl : k < l.length := by rw [← HN.out]; exact hlt2
          have hke := tbl_key HT.out hkl
          have hTk := take_moreG hkl
          obtain ⟨b, off, e, hb, d0, d1⟩ := (H.out.below HC.out).prs hkl
          obtain ⟨b', off', e', hb', _⟩ := H.out.prs hkl
          subst e
          have hbw : b < w.heap.size := by cases e'; exact hb'
          generalize l[k]! = s at d0 d1 hke hTk
          obtain ⟨x, y⟩ := s
          dsimp only at d0 d1 hke
          obtain ⟨q, rfl⟩ : ∃ q : Nat, x = (q : Int) := ⟨x.toNat, by omega⟩
          have hq : q < 4096 := by omega
          have hqi : (q : Int) < 4096 := by omega
          have HTK := Lib.hid hTk
          have NU := Lib.hid (fun W => rnumber_any y true W)
          have KS := Lib.hid (fun W (hb3 : Below wr.heap.size wr W) => (show W.cell? ⟨b, off + k * 2, none⟩ = some (.int .i64 (q : Int)) ∧ W.cell? ⟨b, off + k * 2 + 1, none⟩ = some (.int .i64 y) from ⟨(hb3.cell (p := ⟨b, off + k * 2, none⟩) hb).trans d0, (hb3.cell (p := ⟨b, off + k * 2 + 1, none⟩) hb).trans d1⟩))
          have HBD := Lib.hid (show Below wr.heap.size wr wr.drew from (Below.refl _ _).drew)
          have hgb := (World.ownsRow.lt HP.out g rfl).1
          clear hTk hke hkl e' hb' d0 d1
          go_wp2_with fail
          have hS := KS.out _ HBD.out
          refine wp_region_held_drew (S := fun W => W.cell? ⟨b, off + k * 2, none⟩ = some (.int .i64 (q : Int)) ∧ W.cell? ⟨b, off + k * 2 + 1, none⟩ = some (.int .i64 y)) (by kernel_rfl) (hS) (fun _ => ?_)
          refine wpAnyH_take (i := 0) (v := ?_) rfl (by kernel_rfl) (by kernel_rfl) (by kernel_rfl) (fun _ _ _ h => h) (Or.inl ⟨by kernel_rfl, ?_⟩) hS ?_
          rotate_left
          · intro w hSw
            (try dsimp only at hSw)
            skip
            go_simp
            try with_reducible rfl
          try dsimp only [Act.put, List.getElem?_toArray, List.getElem?_cons_succ, List.getElem?_cons_zero, List.getElem_toArray, List.getElem_cons_succ, List.getElem_cons_zero]
          try simp only [List.setIfInBounds_toArray, List.set_cons_zero, List.set_cons_succ]
          refine wpAnyH_take (i := 1) (v := ?_) rfl (by kernel_rfl) (by kernel_rfl) (by kernel_rfl) (fun _ _ _ h => h) (Or.inl ⟨by kernel_rfl, ?_⟩) hS ?_
          rotate_left
          · intro w hSw
            (try dsimp only at hSw)
            skip
            go_simp
            try with_reducible rfl
          try dsimp only [Act.put, List.getElem?_toArray, List.getElem?_cons_succ, List.getElem?_cons_zero, List.getElem_toArray, List.getElem_cons_succ, List.getElem_cons_zero]
          try simp only [List.setIfInBounds_toArray, List.set_cons_zero, List.set_cons_succ]
          refine wpAnyH_take (i := 2) (v := ?_) rfl (by kernel_rfl) (by kernel_rfl) (by kernel_rfl) (fun _ _ _ h => h) (Or.inl ⟨by kernel_rfl, ?_⟩) hS ?_
          rotate_left
          · intro w hSw
            (try dsimp only at hSw)
            skip
            go_simp
            try with_reducible rfl
          try dsimp only [Act.put, List.getElem?_toArray, List.getElem?_cons_succ, List.getElem?_cons_zero, List.getElem_toArray, List.getElem_cons_succ, List.getElem_cons_zero]
          try simp only [List.setIfInBounds_toArray, List.set_cons_zero, List.set_cons_succ]
          refine wpAnyH_take (i := 3) (v := ?_) rfl (by kernel_rfl) (by kernel_rfl) (by kernel_rfl) (fun _ _ _ h => h) (Or.inl ⟨by kernel_rfl, ?_⟩) hS ?_
          rotate_left
          · intro w hSw
            (try dsimp only at hSw)
            skip
            go_simp
            try with_reducible rfl
          try dsimp only [Act.put, List.getElem?_toArray, List.getElem?_cons_succ, List.getElem?_cons_zero, List.getElem_toArray, List.getElem_cons_succ, List.getElem_cons_zero]
          try simp only [List.setIfInBounds_toArray, List.set_cons_zero, List.set_cons_succ]
          refine wpAnyH_take (i := 4) (v := ?_) rfl (by kernel_rfl) (by kernel_rfl) (by kernel_rfl) (fun _ _ _ h => h) (Or.inl ⟨by kernel_rfl, ?_⟩) hS ?_
          rotate_left
          · intro w hSw
            (try dsimp only at hSw)
            skip
            go_simp
            try with_reducible rfl
          try dsimp only [Act.put, List.getElem?_toArray, List.getElem?_cons_succ, List.getElem?_cons_zero, List.getElem_toArray, List.getElem_cons_succ, List.getElem_cons_zero]
          try simp only [List.setIfInBounds_toArray, List.set_cons_zero, List.set_cons_succ]
          refine wpAnyH_take (i := 5) (v := ?_) rfl (by kernel_rfl) (by kernel_rfl) (by kernel_rfl) (fun _ _ _ h => h) (Or.inl ⟨by kernel_rfl, ?_⟩) hS ?_
          rotate_left
          · intro w hSw
            (try dsimp only at hSw)
            skip
            go_simp
            try with_reducible rfl
          try dsimp only [Act.put, List.getElem?_toArray, List.getElem?_cons_succ, List.getElem?_cons_zero, List.getElem_toArray, List.getElem_cons_succ, List.getElem_cons_zero]
          try simp only [List.setIfInBounds_toArray, List.set_cons_zero, List.set_cons_succ]
          refine wpAnyH_take (i := 6) (v := ?_) rfl (by kernel_rfl) (by kernel_rfl) (by kernel_rfl) (fun _ _ _ h => h) (Or.inl ⟨by kernel_rfl, ?_⟩) hS ?_
          rotate_left
          · intro w hSw
            (try dsimp only at hSw)
            skip
            go_simp
            try with_reducible rfl
          try dsimp only [Act.put, List.getElem?_toArray, List.getElem?_cons_succ, List.getElem?_cons_zero, List.getElem_toArray, List.getElem_cons_succ, List.getElem_cons_zero]
          try simp only [List.setIfInBounds_toArray, List.set_cons_zero, List.set_cons_succ]
          refine wpAnyH_take (i := 7) (v := ?_) rfl (by kernel_rfl) (by kernel_rfl) (by kernel_rfl) (fun _ _ _ h => h) (Or.inl ⟨by kernel_rfl, ?_⟩) hS ?_
          rotate_left
          · intro w hSw
            (try dsimp only at hSw)
            skip
            go_simp
            try with_reducible rfl
          try dsimp only [Act.put, List.getElem?_toArray, List.getElem?_cons_succ, List.getElem?_cons_zero, List.getElem_toArray, List.getElem_cons_succ, List.getElem_cons_zero]
          try simp only [List.setIfInBounds_toArray, List.set_cons_zero, List.set_cons_succ]
          refine wpAnyH_take (i := 8) (v := ?_) rfl (by kernel_rfl) (by kernel_rfl) (by kernel_rfl) (fun _ _ _ h => h) (Or.inl ⟨by kernel_rfl, ?_⟩) hS ?_
          rotate_left
          · intro w hSw
            (try dsimp only at hSw)
            skip
            go_simp
            try with_reducible rfl
          try dsimp only [Act.put, List.getElem?_toArray, List.getElem?_cons_succ, List.getElem?_cons_zero, List.getElem_toArray, List.getElem_cons_succ, List.getElem_cons_zero]
          try simp only [List.setIfInBounds_toArray, List.set_cons_zero, List.set_cons_succ]
          refine wpAnyH_take (i := 9) (v := ?_) rfl (by kernel_rfl) (by kernel_rfl) (by kernel_rfl) (fun _ _ _ h => h) (Or.inl ⟨by kernel_rfl, ?_⟩) hS ?_
          rotate_left
          · intro w hSw
            (try dsimp only at hSw)
            skip
            go_simp
            try with_reducible rfl
          try dsimp only [Act.put, List.getElem?_toArray, List.getElem?_cons_succ, List.getElem?_cons_zero, List.getElem_toArray, List.getElem_cons_succ, List.getElem_cons_zero]
          try simp only [List.setIfInBounds_toArray, List.set_cons_zero, List.set_cons_succ]
          refine wpAnyH_take (i := 10) (v := ?_) rfl (by kernel_rfl) (by kernel_rfl) (by kernel_rfl) (fun _ _ _ h => h) (Or.inl ⟨by kernel_rfl, ?_⟩) hS ?_
          rotate_left
          · intro w hSw
            (try dsimp only at hSw)
            skip
            go_simp
            try with_reducible rfl
          try dsimp only [Act.put, List.getElem?_toArray, List.getElem?_cons_succ, List.getElem?_cons_zero, List.getElem_toArray, List.getElem_cons_succ, List.getElem_cons_zero]
          try simp only [List.setIfInBounds_toArray, List.set_cons_zero, List.set_cons_succ]
          refine wpAnyH_take (i := 11) (v := ?_) rfl (by kernel_rfl) (by kernel_rfl) (by kernel_rfl) (fun _ _ _ h => h) (Or.inl ⟨by kernel_rfl, ?_⟩) hS ?_
          rotate_left
          · intro w hSw
            (try dsimp only at hSw)
            skip
            go_simp
            try with_reducible rfl
          try dsimp only [Act.put, List.getElem?_toArray, List.getElem?_cons_succ, List.getElem?_cons_zero, List.getElem_toArray, List.getElem_cons_succ, List.getElem_cons_zero]
          try simp only [List.setIfInBounds_toArray, List.set_cons_zero, List.set_cons_succ]
          refine wpAnyH_ready (rs := [12]) (by kernel_rfl) (by simp) (AllReadyH.cons rfl (fun K hK => ?_) AllReadyH.nil)
          go_simp
          go_wp2_with (go_at_call 13; (with_reducible refine (NU.out wr.drew).mono ?_); rintro e w5 ⟨rfl, hb5⟩)
          have hb45 := below_next HBD.out hb5
          have hS5 := KS.out _ hb45
          refine hK.out _ _ (hS5) (fun _ => ?_)
          clear hK K hS
          try dsimp only [Act.put, List.getElem?_toArray, List.getElem?_cons_succ, List.getElem?_cons_zero, List.getElem_toArray, List.getElem_cons_succ, List.getElem_cons_zero]
          try simp only [List.setIfInBounds_toArray, List.set_cons_zero, List.set_cons_succ]
          refine wpAnyH_take (i := 13) (v := ?_) rfl (by kernel_rfl) (by kernel_rfl) (by kernel_rfl) (fun _ _ _ h => h) (Or.inl ⟨by kernel_rfl, ?_⟩) hS5 ?_
          rotate_left
          · intro w hSw
            (try dsimp only at hSw)
            skip
            go_simp
            try with_reducible rfl
          try dsimp only [Act.put, List.getElem?_toArray, List.getElem?_cons_succ, List.getElem?_cons_zero, List.getElem_toArray, List.getElem_cons_succ, List.getElem_cons_zero]
          try simp only [List.setIfInBounds_toArray, List.set_cons_zero, List.set_cons_succ]
          have ho5 := World.ownsRow.kept (w' := w5) HP.out (below_grown (row := none) hb45) (.inr (by simp [Value.ownBlock]))
          have hc5 : w5.cell? ⟨g, q, none⟩ = some (.int .u32 (regI (lvN (tabC (l.take k)) 0 q))) := (World.ownsRow.cellAt ho5 q (by omega)).trans (by rw [flatU, List.getElem?_map, rowL_get _ _ _ hq]; rfl)
          have hf5 := World.ownsRow.frozenAt ho5 q
          refine wpAnyH_ready (rs := [14]) (by kernel_rfl) (by simp) (AllReadyH.cons rfl (fun K hK => ?_) AllReadyH.nil)
          go_simp
          have hst := World.ownsRow.stored ho5 q (.int .u32 (regI (numV y)))
          have hS6 : (w5.setCell ⟨g, q, none⟩ (.int .u32 (regI (numV y)))).cell? ⟨b, off + k * 2, none⟩ = some (.int .i64 (q : Int)) ∧ (w5.setCell ⟨g, q, none⟩ (.int .u32 (regI (numV y)))).cell? ⟨b, off + k * 2 + 1, none⟩ = some (.int .i64 y) := by
            have hne : b ≠ g := by omega
            have h1 := heap_setCell_other w5 ⟨g, q, none⟩ b (.int .u32 (regI (numV y))) hne
            exact ⟨by simpa [World.cell?, h1] using hS5.1, by simpa [World.cell?, h1] using hS5.2⟩
          refine hK.out _ _ (hS6) (fun _ => ?_)
          clear hK K hS5
          try dsimp only [Act.put, List.getElem?_toArray, List.getElem?_cons_succ, List.getElem?_cons_zero, List.getElem_toArray, List.getElem_cons_succ, List.getElem_cons_zero]
          try simp only [List.setIfInBounds_toArray, List.set_cons_zero, List.set_cons_succ]
          refine wpAnyH_done (by kernel_rfl) ?_ _
          have HP6 := Lib.hid (show (w5.setCell ⟨g, q, none⟩ (.int .u32 (regI (numV y)))).ownsRow w.heap.size 28 1 (.slice (some ⟨g, 0, none⟩) 4096 cap) 4096 (flatR encU (rowL (lvN (tabC (l.take (k + 1))) 0) 4096)) from by
            rw [HTK.out, tabC_snoc]
            have := hst.1
            rw [flatU_set, show numV y = numO (some y) from rfl, rowL_set] at this
            exact this)
          have HC6 := Lib.hid (show Below w.heap.size w (w5.setCell ⟨g, q, none⟩ (.int .u32 (regI (numV y)))) from (HC.out.trans (hb45.mono HC.out.size)).setCell hgb _)
          clear hS6 hst hc5 hf5 ho5
          go_wp2_with fail
          go_roundw
          case rel => exact ⟨k + 1, by go_num, by omega, HP6, HC6⟩
          case measure => simp [intOf]; omega
        · obtain rfl : k = n := by omega
          have hp := HP.out
          rw [List.take_of_length_le (by rw [HN.out]; exact Nat.le_refl _)] at hp
          have HR := Lib.hid (show RArg encU 1 wr (some ⟨g, 0, none⟩) 4096 cap (rowL (lvN (tabC l) 0) 4096) from by
            have ho : OwnsR encU 1 28 wr w.heap.size (.slice (some ⟨g, 0, none⟩) 4096 cap) (rowL (lvN (tabC l) 0) 4096) := by unfold OwnsR; rw [rowL_len]; exact hp
            obtain ⟨a5, c5, e5, h5⟩ := ho.arg encU_len
            rw [rowL_len] at e5 h5
            cases e5
            exact h5)
          clear hp
          go_wp2_with fail
          go_ret
          exact ⟨_, _, _, rfl, HR.out, HC.out⟩
end Go.Proofs.Ytjjadappjapjhaa
