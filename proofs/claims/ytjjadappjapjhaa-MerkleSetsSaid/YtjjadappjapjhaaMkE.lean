/-
  THE TREE OF A TABLE: the contract of New.
-/
import Derived.Test.YtjjadappjapjhaaMkD
import Derived.Great.BuildSlice
import Derived.StillTailTactics
namespace Go.Proofs.Ytjjadappjapjhaa
open Go.RowKit Go.Deep

def isZ : List Value → Bool
  | [] => true
  | .int .i64 0 :: .bool false :: r => isZ r
  | _ => false
def isZ32 : List Value → Bool
  | [] => true
  | .int .u32 0 :: r => isZ32 r
  | _ => false
theorem isZ_get (l : List Value) : isZ l = true → ∀ k, k * 2 < l.length → l[k * 2]? = some (.int .i64 0) ∧ l[k * 2 + 1]? = some (.bool false) := by
  fun_induction isZ l with
  | case1 => intro _ k hk; simp at hk
  | case2 r ih =>
    intro h k hk
    cases k with
    | zero => exact ⟨rfl, rfl⟩
    | succ k =>
      have := ih h k (by simp at hk; omega)
      rw [show (k + 1) * 2 = k * 2 + 1 + 1 by omega]
      simpa using this
  | case3 => intro h; cases h
theorem isZ32_get (l : List Value) : isZ32 l = true → ∀ k, k < l.length → l[k]? = some (.int .u32 0) := by
  fun_induction isZ32 l with
  | case1 => intro _ k hk; simp at hk
  | case2 r ih =>
    intro h k hk
    cases k with
    | zero => rfl
    | succ k => simpa using ih h k (by simpa using hk)
  | case3 => intro h; cases h
def zeroOK (o : Option (Array Value)) : Bool := match o with
  | some Z => Z.toList.length == 13056 && isZ (Z.toList.take 8192) && isZ32 (Z.toList.drop 8192)
  | none => false
def aggOf : Option TypeInfo → Option (Array Value)
  | some i => (match i.zero with | some (.agg c) => some c | _ => none)
  | none => none
theorem Try.zeroTree : zeroOK (aggOf (Try.prog.info? 89)) = true := by kernel_rfl
theorem aggOf_run {P : Program} {t : TypeId} {Z : Array Value} (h : aggOf (P.info? t) = some Z) (w : World) : (zeroValue t).run P w = .ok (.agg Z) w := by
  cases hi : P.info? t with
  | none => rw [hi] at h; cases h
  | some i =>
    rw [hi] at h
    cases hz : i.zero with
    | none => simp [aggOf, hz] at h
    | some v =>
      cases v with
      | agg c =>
        have e : c = Z := by simpa [aggOf, hz] using h
        subst e
        simp [zeroValue, typeInfo, hi, hz]
      | _ => simp [aggOf, hz] at h
theorem zero_tree : ∃ Z, (∀ w, (zeroValue 89).run Try.prog w = .ok (.agg Z) w) ∧ TrA Z (fun _ => none) (fun _ => 0#32) (fun _ _ => 0#32) := by
  have h := Try.zeroTree
  have hr := fun Z (h : aggOf (Try.prog.info? 89) = some Z) w => aggOf_run (P := Try.prog) h w
  revert h hr
  generalize aggOf (Try.prog.info? 89) = o
  intro h hr
  cases o with
  | none => cases h
  | some Z =>
    simp only [zeroOK, Bool.and_eq_true, beq_iff_eq] at h
    obtain ⟨⟨h1, h2⟩, h3⟩ := h
    have hs : Z.size = 13056 := by rw [← Array.length_toList]; exact h1
    have g2 := isZ_get _ h2
    have g3 := isZ32_get _ h3
    have r0 : regI 0#32 = 0 := rfl
    refine ⟨Z, hr Z rfl, hs, fun k hk => ?_, fun k hk => ?_, fun k hk => ?_, fun l i hl hi => ?_⟩
    · have := (g2 k (by rw [List.length_take, h1]; omega)).1
      rw [List.getElem?_take, if_pos (by omega), Array.getElem?_toList, Nat.mul_comm k 2] at this
      exact this
    · have := (g2 k (by rw [List.length_take, h1]; omega)).2
      rw [List.getElem?_take, if_pos (by omega), Array.getElem?_toList, Nat.mul_comm k 2] at this
      exact this
    · have := g3 k (by rw [List.length_drop, h1]; omega)
      rw [List.getElem?_drop, Array.getElem?_toList] at this
      rw [r0]; exact this
    · have := g3 (4096 + l * 256 + i) (by rw [List.length_drop, h1]; omega)
      rw [List.getElem?_drop, Array.getElem?_toList, show 8192 + (4096 + l * 256 + i) = 12288 + l * 256 + i by omega] at this
      rw [r0]; exact this

/-- What a table has of each key. -/
def tabC (l : List Pr) : Nat → Option Int := l.foldl (fun C p => updF C p.1.toNat (some p.2)) (fun _ => none)
theorem tabC_snoc (l : List Pr) (p : Pr) : tabC (l ++ [p]) = updF (tabC l) p.1.toNat (some p.2) := by unfold tabC; rw [List.foldl_append]; rfl
theorem lv0_set (C : Nat → Option Int) (k : Nat) (c : Option Int) : lvN (updF C k c) 0 = updF (lvN C 0) k (numO c) := by
  funext j
  show numO (updF C k c j) = _
  unfold updF
  split <;> rfl
def NodeOK (C : Nat → Option Int) (N : Nat → Nat → BitVec 32) (lev : Nat) : Prop := ∀ l, l < lev → ∀ i, i < szM l → N l i = lvN C (l + 1) i
/-- A level below 'l + 1' nodes, as far as it is looked at. -/
theorem up_is {C : Nat → Option Int} {N : Nat → Nat → BitVec 32} {l a : Nat} (h : NodeOK C N l) (hl : l < 3) (ha : a < szM l) : upN (nmF (lvN C 0) N l) a = lvN C (l + 1) a := by
  show overN _ = overN _
  congr 1
  unfold kidsF
  apply List.map_congr_left
  intro j hj
  have hj := List.mem_range.1 hj
  match l, hl with
  | 0, _ => rfl
  | 1, _ =>
    refine h 0 (by omega) _ ?_
    simp only [szM] at ha ⊢
    omega
  | 2, _ =>
    refine h 1 (by omega) _ ?_
    simp only [szM] at ha ⊢
    omega
def TreeOf (w : World) (b : Nat) (C : Nat → Option Int) : Prop := ∃ N, TreeAt w b C (lvN C 0) N ∧ NodeOK C N 3
theorem TreeOf.lt {w : World} {b : Nat} {C : Nat → Option Int} (h : TreeOf w b C) : b < w.heap.size := by obtain ⟨N, h, _⟩ := h; exact h.lt
theorem TreeOf.below {w w' : World} {b : Nat} {C : Nat → Option Int} (h : TreeOf w b C) (hb : Below w.heap.size w w') : TreeOf w' b C := by obtain ⟨N, h, hn⟩ := h; exact ⟨N, h.below hb, hn⟩
def NewPost (l : List Pr) (w : World) (e : Ending) (w' : World) : Prop := if tblB l = true then ∃ b, e = .returned (.tuple #[.pointer (some ⟨b, 0, none⟩), .int .i64 0]) ∧ TreeOf w' b (tabC l) ∧ w.heap.size ≤ b ∧ Below w.heap.size w w' else e = .returned (.tuple #[.pointer none, .int .i64 1]) ∧ Below w.heap.size w w'
theorem tbl_key : ∀ {l : List Pr} {e : Int}, tblF e l = true → ∀ {k : Nat}, k < l.length → e < l[k]!.1 ∧ l[k]!.1 < 4096
  | p :: t, e, h, 0, _ => by
    simp only [tblF, Bool.and_eq_true, decide_eq_true_eq] at h
    exact h.1.1
  | p :: t, e, h, k + 1, hk => by
    simp only [tblF, Bool.and_eq_true, decide_eq_true_eq] at h
    have := tbl_key h.2 (k := k) (by simpa using hk)
    simp only [List.getElem!_cons_succ]
    omega
set_option maxRecDepth 100000 in
theorem new_bad (a : Option Addr) (n c : Nat) (l : List Pr) (w : World) (h : RArg encP 2 w a n c l) (ht : tblB l = false) : Calls Try.prog 14 #[.slice a n c] w (NewPost l w) := by
  have TC := Lib.hid (ht ▸ tcheck_any a n c l w h)
  have HT := Lib.hid ht
  clear h ht
  go_enter Try.func14, Try.ntmps14
  go_wp2_with (first | (go_at_call 37; (with_reducible refine TC.out.mono ?_); rintro e w1 ⟨rfl, hb1⟩) | fail)
  go_ret2
  unfold NewPost
  rw [if_neg (by rw [HT.out]; decide)]
  exact ⟨rfl, hb1⟩
set_option maxRecDepth 100000 in
set_option maxHeartbeats 2000000 in
theorem new_good (a : Option Addr) (n c : Nat) (l : List Pr) (w : World) (h : RArg encP 2 w a n c l) (ht : tblB l = true) : Calls Try.prog 14 #[.slice a n c] w (NewPost l w) := by
  have TC := Lib.hid (ht ▸ tcheck_any a n c l w h)
  obtain ⟨Z, hZ, hzt⟩ := zero_tree
  have hz : (n : Int) ≤ 9223372036854775807 := by have := h.1; have := h.2.1; omega
  have hn : l.length = n := h.1.symm
  have HZ := Lib.hid hZ
  have HZT := Lib.hid hzt
  have HT := Lib.hid ht
  have HL := Lib.hid h
  have HN := Lib.hid hn
  clear h ht hzt hn
  go_enter Try.func14, Try.ntmps14
  go_wp2_with (first | (go_at_call 37; (with_reducible refine TC.out.mono ?_); rintro e w1 ⟨rfl, hb1⟩) | fail)
  obtain ⟨W2, hW2⟩ : ∃ W2, w1.alloc (.cells Z 89) = W2 := ⟨_, rfl⟩
  have b2 : Below w1.heap.size w1 W2 := by rw [← hW2]; exact (Below.refl _ _).alloc (Nat.le_refl _) _
  have r2 : W2.heap[w1.heap.size]? = some (.cells Z 89 (0, 0)) := by rw [← hW2]; exact heap_alloc_new _ _
  have T2 := Lib.hid (show TreeAt W2 w1.heap.size (tabC []) (lvN (tabC []) 0) (fun _ _ => 0#32) from ⟨Z, r2, HZT.out⟩)
  rw [hW2]
  clear r2 hW2
  go_loopw [16] (fun i wr => ∃ k : Nat, i = .int .i64 (k : Int) ∧ k ≤ n ∧ Hid (TreeAt wr w1.heap.size (tabC (l.take k)) (lvN (tabC (l.take k)) 0) (fun _ _ => 0#32)) ∧ Hid (Below w1.heap.size w1 wr))
    (fun i _ => n - (intOf i).toNat)
  case atStart => exact ⟨0, rfl, by omega, T2, Lib.hid b2⟩
  case round =>
    obtain ⟨k, rfl, hk, HTr, HB⟩ := hrel
    by_cases hlt : k < n
    · have hkl : k < l.length := by rw [HN.out]; exact hlt
      have hke := tbl_key HT.out hkl
      have hTk := take_moreG hkl
      obtain ⟨b, off, e, hb, c0, c1⟩ := ((HL.out.below hb1).below HB.out).prs hkl
      subst e
      generalize l[k]! = s at c0 c1 hke hTk
      obtain ⟨x, y⟩ := s
      dsimp only at c0 c1 hke
      obtain ⟨q, rfl⟩ : ∃ q : Nat, x = (q : Int) := ⟨x.toNat, by omega⟩
      have hq : q < 4096 := by omega
      have hqi : (q : Int) < 4096 := by omega
      have HTK := Lib.hid hTk
      clear hTk hke hkl
      go_upto_region 7 with fail
      have gr : w1.heap.size ≤ wr.heap.size := HB.out.size
      obtain ⟨W3, hW3⟩ : ∃ W3, wr.alloc (.cells #[.int .i64 (q : Int), .int .i64 y] 49) = W3 := ⟨_, rfl⟩
      have b3 : Below wr.heap.size wr W3 := by rw [← hW3]; exact (Below.refl _ _).alloc (Nat.le_refl _) _
      have g3 : wr.heap.size < W3.heap.size := by rw [← hW3]; simp
      have r3 : W3.heap[wr.heap.size]? = some (.cells #[.int .i64 (q : Int), .int .i64 y] 49 (0, 0)) := by rw [← hW3]; exact heap_alloc_new _ _
      have bt := HTr.out.lt
      have HT3 := Lib.hid (HTr.out.below b3)
      have HB3 := Lib.hid (HB.out.trans (b3.mono gr))
      have R3 := Lib.hid r3
      obtain ⟨z0, z1⟩ := cells2M r3
      obtain ⟨t0, t1⟩ := HT3.out.cells hq
      have f0 := HT3.out.free (q * 2)
      have f1 := HT3.out.free (q * 2 + 1)
      rw [hW3]
      clear r3 b3 hW3 c0 c1 HTr HB
      go_still_tail 9, (by kernel_rfl)
      change wpList _ _ _ _ _ W3.drew
      go_wp2_with fail
      obtain ⟨W4, hW4⟩ : ∃ W4, ((W3.setCell ⟨w1.heap.size, q * 2, none⟩ (.int .i64 y)).setCell ⟨w1.heap.size, q * 2 + 1, none⟩ (.bool true)).drew = W4 := ⟨_, rfl⟩
      have hT4 := (HT3.out.setC hq (some y)).same (w' := W4) (by rw [← hW4]; rfl)
      have hB4 : Below w1.heap.size w1 W4 := by rw [← hW4]; exact ((HB3.out.setCell (Nat.le_refl _) _).setCell (Nat.le_refl _) _).drew
      have hR4 : W4.heap[wr.heap.size]? = some (.cells #[.int .i64 (q : Int), .int .i64 y] 49 (0, 0)) := by
        rw [← hW4, heap_drew, heap_setCell_other _ _ _ _ (by dsimp only; omega), heap_setCell_other _ _ _ _ (by dsimp only; omega)]
        exact R3.out
      have g4 : wr.heap.size < W4.heap.size := by rw [← hW4]; simpa using g3
      rw [hW4]
      have HT4 := Lib.hid hT4
      have HB4 := Lib.hid hB4
      have HTL := Lib.hid (fun W (hb : Below W4.heap.size W4 W) => (hT4.below hb).setL hq (numV y))
      have KS := Lib.hid (fun W (hb : Below W4.heap.size W4 W) => (show W.cell? ⟨wr.heap.size, 0, none⟩ = some (.int .i64 (q : Int)) ∧ W.cell? ⟨w1.heap.size, q * 2, none⟩ = some (.int .i64 y) ∧ W.cell? ⟨w1.heap.size, q * 2 + 1, none⟩ = some (.bool true) from by
        have h1 := (hT4.below hb).cells hq
        have h2 := (cells2M ((hb.block _ g4).trans hR4)).1
        rw [show updF (tabC (l.take k)) q (some y) q = some y by unfold updF; rw [if_pos rfl]] at h1
        exact ⟨h2, h1.1, h1.2⟩))
      have KS2 := Lib.hid (fun W (hb : Below W4.heap.size W4 W) => (show (W.setCell ⟨w1.heap.size, 8192 + q, none⟩ (.int .u32 (regI (numV y)))).cell? ⟨wr.heap.size, 0, none⟩ = some (.int .i64 (q : Int)) ∧ (W.setCell ⟨w1.heap.size, 8192 + q, none⟩ (.int .u32 (regI (numV y)))).cell? ⟨w1.heap.size, q * 2, none⟩ = some (.int .i64 y) ∧ (W.setCell ⟨w1.heap.size, 8192 + q, none⟩ (.int .u32 (regI (numV y)))).cell? ⟨w1.heap.size, q * 2 + 1, none⟩ = some (.bool true) from by
        have h1 := ((hT4.below hb).setL hq (numV y)).cells hq
        have h2 := (cells2M ((heap_setCell_other W ⟨w1.heap.size, 8192 + q, none⟩ wr.heap.size (.int .u32 (regI (numV y))) (by dsimp only; omega)).trans ((hb.block _ g4).trans hR4))).1
        rw [show updF (tabC (l.take k)) q (some y) q = some y by unfold updF; rw [if_pos rfl]] at h1
        exact ⟨h2, h1.1, h1.2⟩))
      have NU := Lib.hid (fun W => number20_any y true W)
      have HBD := Lib.hid (show Below W4.heap.size W4 W4.drew from (Below.refl _ _).drew)
      clear hT4 hB4 hR4 hW4 z0 z1 t0 t1 f0 f1 HT3 HB3 R3
      have hS := KS.out _ HBD.out
      refine wp_region_held_drew (S := fun W => W.cell? ⟨wr.heap.size, 0, none⟩ = some (.int .i64 (q : Int)) ∧ W.cell? ⟨w1.heap.size, q * 2, none⟩ = some (.int .i64 y) ∧ W.cell? ⟨w1.heap.size, q * 2 + 1, none⟩ = some (.bool true)) (by kernel_rfl) (hS) (fun _ => ?_)
      refine wpAnyH_take (i := 0) (v := ?_) rfl (by kernel_rfl) (by kernel_rfl) (by kernel_rfl) (fun _ _ _ h => h) (Or.inl ⟨by kernel_rfl, ?_⟩) hS ?_
      rotate_left
      · intro w hSw
        (try dsimp only at hSw)
        skip
        go_simp
        try with_reducible rfl
      try dsimp only [Act.put, List.getElem?_toArray, List.getElem?_cons_succ, List.getElem?_cons_zero, List.getElem_toArray, List.getElem_cons_succ, List.getElem_cons_zero]
      try simp only [List.setIfInBounds_toArray, List.set_cons_zero, List.set_cons_succ]
      refine wpAnyH_take (i := 1) (v := ?_) rfl (by kernel_rfl) (by kernel_rfl) (by kernel_rfl) (fun _ _ _ h => h) (Or.inl ⟨by kernel_rfl, ?_⟩) hS ?_
      rotate_left
      · intro w hSw
        (try dsimp only at hSw)
        skip
        go_simp
        try with_reducible rfl
      try dsimp only [Act.put, List.getElem?_toArray, List.getElem?_cons_succ, List.getElem?_cons_zero, List.getElem_toArray, List.getElem_cons_succ, List.getElem_cons_zero]
      try simp only [List.setIfInBounds_toArray, List.set_cons_zero, List.set_cons_succ]
      refine wpAnyH_take (i := 2) (v := ?_) rfl (by kernel_rfl) (by kernel_rfl) (by kernel_rfl) (fun _ _ _ h => h) (Or.inl ⟨by kernel_rfl, ?_⟩) hS ?_
      rotate_left
      · intro w hSw
        (try dsimp only at hSw)
        skip
        go_simp
        try with_reducible rfl
      try dsimp only [Act.put, List.getElem?_toArray, List.getElem?_cons_succ, List.getElem?_cons_zero, List.getElem_toArray, List.getElem_cons_succ, List.getElem_cons_zero]
      try simp only [List.setIfInBounds_toArray, List.set_cons_zero, List.set_cons_succ]
      refine wpAnyH_take (i := 3) (v := ?_) rfl (by kernel_rfl) (by kernel_rfl) (by kernel_rfl) (fun _ _ _ h => h) (Or.inl ⟨by kernel_rfl, ?_⟩) hS ?_
      rotate_left
      · intro w hSw
        (try dsimp only at hSw)
        skip
        go_simp
        try with_reducible rfl
      try dsimp only [Act.put, List.getElem?_toArray, List.getElem?_cons_succ, List.getElem?_cons_zero, List.getElem_toArray, List.getElem_cons_succ, List.getElem_cons_zero]
      try simp only [List.setIfInBounds_toArray, List.set_cons_zero, List.set_cons_succ]
      refine wpAnyH_take (i := 4) (v := ?_) rfl (by kernel_rfl) (by kernel_rfl) (by kernel_rfl) (fun _ _ _ h => h) (Or.inl ⟨by kernel_rfl, ?_⟩) hS ?_
      rotate_left
      · intro w hSw
        (try dsimp only at hSw)
        skip
        go_simp
        try with_reducible rfl
      try dsimp only [Act.put, List.getElem?_toArray, List.getElem?_cons_succ, List.getElem?_cons_zero, List.getElem_toArray, List.getElem_cons_succ, List.getElem_cons_zero]
      try simp only [List.setIfInBounds_toArray, List.set_cons_zero, List.set_cons_succ]
      refine wpAnyH_take (i := 5) (v := ?_) rfl (by kernel_rfl) (by kernel_rfl) (by kernel_rfl) (fun _ _ _ h => h) (Or.inl ⟨by kernel_rfl, ?_⟩) hS ?_
      rotate_left
      · intro w hSw
        (try dsimp only at hSw)
        skip
        go_simp
        try with_reducible rfl
      try dsimp only [Act.put, List.getElem?_toArray, List.getElem?_cons_succ, List.getElem?_cons_zero, List.getElem_toArray, List.getElem_cons_succ, List.getElem_cons_zero]
      try simp only [List.setIfInBounds_toArray, List.set_cons_zero, List.set_cons_succ]
      refine wpAnyH_take (i := 6) (v := ?_) rfl (by kernel_rfl) (by kernel_rfl) (by kernel_rfl) (fun _ _ _ h => h) (Or.inl ⟨by kernel_rfl, ?_⟩) hS ?_
      rotate_left
      · intro w hSw
        (try dsimp only at hSw)
        skip
        go_simp
        try with_reducible rfl
      try dsimp only [Act.put, List.getElem?_toArray, List.getElem?_cons_succ, List.getElem?_cons_zero, List.getElem_toArray, List.getElem_cons_succ, List.getElem_cons_zero]
      try simp only [List.setIfInBounds_toArray, List.set_cons_zero, List.set_cons_succ]
      refine wpAnyH_take (i := 7) (v := ?_) rfl (by kernel_rfl) (by kernel_rfl) (by kernel_rfl) (fun _ _ _ h => h) (Or.inl ⟨by kernel_rfl, ?_⟩) hS ?_
      rotate_left
      · intro w hSw
        (try dsimp only at hSw)
        skip
        go_simp
        try with_reducible rfl
      try dsimp only [Act.put, List.getElem?_toArray, List.getElem?_cons_succ, List.getElem?_cons_zero, List.getElem_toArray, List.getElem_cons_succ, List.getElem_cons_zero]
      try simp only [List.setIfInBounds_toArray, List.set_cons_zero, List.set_cons_succ]
      refine wpAnyH_take (i := 8) (v := ?_) rfl (by kernel_rfl) (by kernel_rfl) (by kernel_rfl) (fun _ _ _ h => h) (Or.inl ⟨by kernel_rfl, ?_⟩) hS ?_
      rotate_left
      · intro w hSw
        (try dsimp only at hSw)
        skip
        go_simp
        try with_reducible rfl
      try dsimp only [Act.put, List.getElem?_toArray, List.getElem?_cons_succ, List.getElem?_cons_zero, List.getElem_toArray, List.getElem_cons_succ, List.getElem_cons_zero]
      try simp only [List.setIfInBounds_toArray, List.set_cons_zero, List.set_cons_succ]
      refine wpAnyH_take (i := 9) (v := ?_) rfl (by kernel_rfl) (by kernel_rfl) (by kernel_rfl) (fun _ _ _ h => h) (Or.inl ⟨by kernel_rfl, ?_⟩) hS ?_
      rotate_left
      · intro w hSw
        (try dsimp only at hSw)
        skip
        go_simp
        try with_reducible rfl
      try dsimp only [Act.put, List.getElem?_toArray, List.getElem?_cons_succ, List.getElem?_cons_zero, List.getElem_toArray, List.getElem_cons_succ, List.getElem_cons_zero]
      try simp only [List.setIfInBounds_toArray, List.set_cons_zero, List.set_cons_succ]
      refine wpAnyH_take (i := 11) (v := ?_) rfl (by kernel_rfl) (by kernel_rfl) (by kernel_rfl) (fun _ _ _ h => h) (Or.inl ⟨by kernel_rfl, ?_⟩) hS ?_
      rotate_left
      · intro w hSw
        (try dsimp only at hSw)
        skip
        go_simp
        try with_reducible rfl
      try dsimp only [Act.put, List.getElem?_toArray, List.getElem?_cons_succ, List.getElem?_cons_zero, List.getElem_toArray, List.getElem_cons_succ, List.getElem_cons_zero]
      try simp only [List.setIfInBounds_toArray, List.set_cons_zero, List.set_cons_succ]
      refine wpAnyH_take (i := 12) (v := ?_) rfl (by kernel_rfl) (by kernel_rfl) (by kernel_rfl) (fun _ _ _ h => h) (Or.inl ⟨by kernel_rfl, ?_⟩) hS ?_
      rotate_left
      · intro w hSw
        (try dsimp only at hSw)
        skip
        go_simp
        try with_reducible rfl
      try dsimp only [Act.put, List.getElem?_toArray, List.getElem?_cons_succ, List.getElem?_cons_zero, List.getElem_toArray, List.getElem_cons_succ, List.getElem_cons_zero]
      try simp only [List.setIfInBounds_toArray, List.set_cons_zero, List.set_cons_succ]
      refine wpAnyH_ready (rs := [10]) (by kernel_rfl) (by simp) (AllReadyH.cons rfl (fun K hK => ?_) AllReadyH.nil)
      go_simp
      go_wp2_with (go_at_call 12; (with_reducible refine (NU.out W4.drew).mono ?_); rintro e w5 ⟨rfl, hb5⟩)
      have hb45 := below_next HBD.out hb5
      have hS5 := KS.out _ hb45
      refine hK.out _ _ (hS5) (fun _ => ?_)
      clear hK K hS
      try dsimp only [Act.put, List.getElem?_toArray, List.getElem?_cons_succ, List.getElem?_cons_zero, List.getElem_toArray, List.getElem_cons_succ, List.getElem_cons_zero]
      try simp only [List.setIfInBounds_toArray, List.set_cons_zero, List.set_cons_succ]
      refine wpAnyH_take (i := 13) (v := ?_) rfl (by kernel_rfl) (by kernel_rfl) (by kernel_rfl) (fun _ _ _ h => h) (Or.inl ⟨by kernel_rfl, ?_⟩) hS5 ?_
      rotate_left
      · intro w hSw
        (try dsimp only at hSw)
        skip
        go_simp
        try with_reducible rfl
      try dsimp only [Act.put, List.getElem?_toArray, List.getElem?_cons_succ, List.getElem?_cons_zero, List.getElem_toArray, List.getElem_cons_succ, List.getElem_cons_zero]
      try simp only [List.setIfInBounds_toArray, List.set_cons_zero, List.set_cons_succ]
      have ht5 := HT4.out.below hb45
      have hc5 := ht5.leaf hq
      have hf5 := ht5.free (8192 + q)
      refine wpAnyH_ready (rs := [14]) (by kernel_rfl) (by simp) (AllReadyH.cons rfl (fun K hK => ?_) AllReadyH.nil)
      go_simp
      have hS6 := KS2.out _ hb45
      refine hK.out _ _ (hS6) (fun _ => ?_)
      clear hK K hS5
      try dsimp only [Act.put, List.getElem?_toArray, List.getElem?_cons_succ, List.getElem?_cons_zero, List.getElem_toArray, List.getElem_cons_succ, List.getElem_cons_zero]
      try simp only [List.setIfInBounds_toArray, List.set_cons_zero, List.set_cons_succ]
      refine wpAnyH_done (by kernel_rfl) ?_ _
      have hT6 := HTL.out _ hb45
      have hB6 : Below w1.heap.size w1 (w5.setCell ⟨w1.heap.size, 8192 + q, none⟩ (.int .u32 (regI (numV y)))) := (HB4.out.trans (hb45.mono HB4.out.size)).setCell (Nat.le_refl _) _
      clear hS6 hc5 hf5 ht5
      have HT6 := Lib.hid hT6
      have HB6 := Lib.hid hB6
      clear hT6 hB6
      go_wp2_with fail
      go_roundw
      case rel => exact ⟨k + 1, by go_num, by omega, by rw [HTK.out, tabC_snoc, lv0_set]; exact HT6, HB6⟩
      case measure => simp [intOf]; omega
    · obtain rfl : k = n := by omega
      have hT0 := HTr.out
      rw [List.take_of_length_le (by rw [HN.out]; exact Nat.le_refl _)] at hT0
      have HT0 := Lib.hid hT0
      have HT1 := Lib.hid HT.out
      clear hT0 HTr HT
      go_wp2_with fail
      go_loopw [44] (fun i wq => ∃ (lev : Nat) (N : Nat → Nat → BitVec 32), i = .int .i64 (lev : Int) ∧ lev ≤ 3 ∧ Hid (TreeAt wq w1.heap.size (tabC l) (lvN (tabC l) 0) N) ∧ Hid (NodeOK (tabC l) N lev) ∧ Hid (Below w1.heap.size w1 wq))
        (fun i _ => 3 - (intOf i).toNat)
      case atStart => exact ⟨0, _, rfl, by omega, HT0, Lib.hid (fun l hl => absurd hl (Nat.not_lt_zero _)), HB⟩
      case round =>
        obtain ⟨lev, N, rfl, hlev, HTq, HNq, HBq⟩ := hrel
        by_cases hl3 : lev < 3
        · have SZ := Lib.hid (fun W => sizeM_any lev W (by omega))
          have hsz := szM_le lev
          obtain ⟨z, hz0⟩ : ∃ z, szM lev = z := ⟨_, rfl⟩
          rw [hz0] at SZ hsz
          have HZ0 := Lib.hid hz0
          clear hz0
          obtain ⟨wo, rfl⟩ : ∃ wo : World, wo = wr := ⟨_, rfl⟩
          go_wp2_with (first | (go_at_call 38; (with_reducible refine (SZ.out _).mono ?_); rintro e w4 ⟨rfl, rfl⟩) | fail)
          go_loopw [49] (fun i wq => ∃ (j : Nat) (N : Nat → Nat → BitVec 32), i = .int .i64 (j : Int) ∧ j ≤ z ∧ Hid (TreeAt wq w1.heap.size (tabC l) (lvN (tabC l) 0) N) ∧ Hid (NodeOK (tabC l) N lev) ∧ Hid (∀ i, i < j → N lev i = lvN (tabC l) (lev + 1) i) ∧ Hid (Below w1.heap.size w1 wq))
            (fun i _ => z - (intOf i).toNat)
          case atStart => exact ⟨0, N, rfl, by omega, HTq, HNq, Lib.hid (fun i hi => absurd hi (Nat.not_lt_zero _)), HBq⟩
          case round =>
            obtain ⟨j, N, rfl, hj, HTj, HNj, HLj, HBj⟩ := hrel
            by_cases hjz : j < z
            · have ha : j < szM lev := by rw [HZ0.out]; exact hjz
              have hup := up_is HNj.out hl3 ha
              have RN := Lib.hid (renew_any w1.heap.size lev j _ _ _ _ HTj.out hl3 ha)
              have HUP := Lib.hid hup
              clear ha hup
              go_wp2_with (first | (go_at_call 39; (with_reducible refine RN.out.mono ?_); rintro e w5 ⟨rfl, hT5, hg5⟩; replace hT5 := Lib.hid hT5; replace hg5 := Lib.hid hg5) | fail)
              go_roundw
              case rel => exact ⟨j + 1, _, by go_num, by omega, hT5, Lib.hid (fun l' hl' i hi => by
                  unfold updN
                  rw [if_neg (by omega)]
                  exact HNj.out l' hl' i hi), Lib.hid (fun i hi => by
                  unfold updN
                  by_cases he : i = j
                  · subst he
                    rw [if_pos ⟨rfl, rfl⟩, HUP.out]
                  · rw [if_neg (by omega)]
                    exact HLj.out i (by omega)), Lib.hid (HBj.out.grown hg5.out HBj.out.size (fun q hq => by injection hq with hq; omega))⟩
              case measure => simp [intOf]; omega
            · obtain rfl : j = z := by omega
              have HN2 := Lib.hid (show NodeOK (tabC l) N (lev + 1) from fun l' hl' i hi => by
                by_cases he : l' = lev
                · subst he
                  exact HLj.out i (by rw [← HZ0.out]; exact hi)
                · exact HNj.out l' (by omega) i hi)
              go_wp2_with fail
              go_roundw
              case rel => exact ⟨lev + 1, N, by go_num, by omega, HTj, HN2, HBj⟩
              case measure => simp [intOf]; omega
        · obtain rfl : lev = 3 := by omega
          go_wp2_with fail
          go_ret2
          unfold NewPost
          rw [if_pos HT1.out]
          exact ⟨_, rfl, ⟨N, HTq.out, HNq.out⟩, hb1.size, below_next hb1 HBq.out⟩
theorem new_any (a : Option Addr) (n c : Nat) (l : List Pr) (w : World) (h : RArg encP 2 w a n c l) : Calls Try.prog 14 #[.slice a n c] w (NewPost l w) := by
  cases ht : tblB l
  · exact new_bad a n c l w h ht
  · exact new_good a n c l w h ht
end Go.Proofs.Ytjjadappjapjhaa
