/-
  A TREE IN MEMORY, written: what a store makes of it; the contract of renew.
-/
import Derived.Test.YtjjadappjapjhaaMkC
import Derived.Test.YtjjadappjapjhaaDlZ
namespace Go.Proofs.Ytjjadappjapjhaa
open Go.RowKit Go.Deep

def updF {α : Type} (f : Nat → α) (k : Nat) (x : α) : Nat → α := fun j => if j = k then x else f j
def updN (N : Nat → Nat → BitVec 32) (l k : Nat) (x : BitVec 32) : Nat → Nat → BitVec 32 := fun l' k' => if l' = l ∧ k' = k then x else N l' k'
theorem get_set {A : Array Value} {p : Nat} (hp : p < A.size) (v : Value) (q : Nat) : (A.setIfInBounds p v)[q]? = if q = p then some v else A[q]? := by
  rw [Array.getElem?_setIfInBounds]
  by_cases h : p = q
  · subst h; simp [hp]
  · rw [if_neg h, if_neg (fun e => h e.symm)]
theorem TrA.setN {A : Array Value} {C : Nat → Option Int} {L : Nat → BitVec 32} {N : Nat → Nat → BitVec 32} (t : TrA A C L N) {l k : Nat} (hl : l < 3) (hk : k < 256) (x : BitVec 32) : TrA (A.setIfInBounds (12288 + l * 256 + k) (.int .u32 (regI x))) C L (updN N l k x) := by
  have hp : 12288 + l * 256 + k < A.size := by rw [t.sz]; omega
  refine ⟨by simp [t.sz], fun j hj => ?_, fun j hj => ?_, fun j hj => ?_, fun m j hm hj => ?_⟩
  · rw [get_set hp, if_neg (by omega)]; exact t.c0 j hj
  · rw [get_set hp, if_neg (by omega)]; exact t.c1 j hj
  · rw [get_set hp, if_neg (by omega)]; exact t.lf j hj
  · rw [get_set hp]
    unfold updN
    by_cases h : m = l ∧ j = k
    · rw [if_pos (by omega), if_pos h]
    · rw [if_neg (by omega), if_neg h]; exact t.nd m j hm hj
theorem TrA.setL {A : Array Value} {C : Nat → Option Int} {L : Nat → BitVec 32} {N : Nat → Nat → BitVec 32} (t : TrA A C L N) {k : Nat} (hk : k < 4096) (x : BitVec 32) : TrA (A.setIfInBounds (8192 + k) (.int .u32 (regI x))) C (updF L k x) N := by
  have hp : 8192 + k < A.size := by rw [t.sz]; omega
  refine ⟨by simp [t.sz], fun j hj => ?_, fun j hj => ?_, fun j hj => ?_, fun m j hm hj => ?_⟩
  · rw [get_set hp, if_neg (by omega)]; exact t.c0 j hj
  · rw [get_set hp, if_neg (by omega)]; exact t.c1 j hj
  · rw [get_set hp]
    unfold updF
    by_cases h : j = k
    · rw [if_pos (by omega), if_pos h]
    · rw [if_neg (by omega), if_neg h]; exact t.lf j hj
  · rw [get_set hp, if_neg (by omega)]; exact t.nd m j hm hj
theorem TrA.setC {A : Array Value} {C : Nat → Option Int} {L : Nat → BitVec 32} {N : Nat → Nat → BitVec 32} (t : TrA A C L N) {k : Nat} (hk : k < 4096) (c : Option Int) : TrA ((A.setIfInBounds (k * 2) (.int .i64 (c.getD 0))).setIfInBounds (k * 2 + 1) (.bool c.isSome)) (updF C k c) L N := by
  have hp : k * 2 < A.size := by rw [t.sz]; omega
  have hp2 : k * 2 + 1 < (A.setIfInBounds (k * 2) (.int .i64 (c.getD 0))).size := by rw [Array.size_setIfInBounds, t.sz]; omega
  refine ⟨by simp [t.sz], fun j hj => ?_, fun j hj => ?_, fun j hj => ?_, fun m j hm hj => ?_⟩
  · rw [get_set hp2, if_neg (by omega), get_set hp]
    unfold updF
    by_cases h : j = k
    · rw [if_pos (by omega), if_pos h]
    · rw [if_neg (by omega), if_neg h]; exact t.c0 j hj
  · rw [get_set hp2, get_set hp]
    unfold updF
    by_cases h : j = k
    · rw [if_pos (by omega), if_pos h]
    · rw [if_neg (by omega), if_neg (by omega), if_neg h]; exact t.c1 j hj
  · rw [get_set hp2, if_neg (by omega), get_set hp, if_neg (by omega)]; exact t.lf j hj
  · rw [get_set hp2, if_neg (by omega), get_set hp, if_neg (by omega)]; exact t.nd m j hm hj
theorem TreeAt.free {w : World} {b : Nat} {C : Nat → Option Int} {L : Nat → BitVec 32} {N : Nat → Nat → BitVec 32} (h : TreeAt w b C L N) (o : Nat) : w.frozen? ⟨b, o, none⟩ = false := by
  obtain ⟨A, h, t⟩ := h
  exact frozen_of_row w b _ A _ h
theorem TreeAt.setN {w : World} {b : Nat} {C : Nat → Option Int} {L : Nat → BitVec 32} {N : Nat → Nat → BitVec 32} (h : TreeAt w b C L N) {l k : Nat} (hl : l < 3) (hk : k < 256) (x : BitVec 32) : TreeAt (w.setCell ⟨b, 12288 + l * 256 + k, none⟩ (.int .u32 (regI x))) b C L (updN N l k x) := by
  obtain ⟨A, h, t⟩ := h
  exact ⟨_, heap_setCell_same _ _ _ _ _ _ h, t.setN hl hk x⟩
theorem TreeAt.setL {w : World} {b : Nat} {C : Nat → Option Int} {L : Nat → BitVec 32} {N : Nat → Nat → BitVec 32} (h : TreeAt w b C L N) {k : Nat} (hk : k < 4096) (x : BitVec 32) : TreeAt (w.setCell ⟨b, 8192 + k, none⟩ (.int .u32 (regI x))) b C (updF L k x) N := by
  obtain ⟨A, h, t⟩ := h
  exact ⟨_, heap_setCell_same _ _ _ _ _ _ h, t.setL hk x⟩
theorem TreeAt.setC {w : World} {b : Nat} {C : Nat → Option Int} {L : Nat → BitVec 32} {N : Nat → Nat → BitVec 32} (h : TreeAt w b C L N) {k : Nat} (hk : k < 4096) (c : Option Int) : TreeAt ((w.setCell ⟨b, k * 2, none⟩ (.int .i64 (c.getD 0))).setCell ⟨b, k * 2 + 1, none⟩ (.bool c.isSome)) b (updF C k c) L N := by
  obtain ⟨A, h, t⟩ := h
  exact ⟨_, heap_setCell_same _ _ _ _ _ _ (heap_setCell_same _ _ _ _ _ _ h), t.setC hk c⟩
/-- A call that turns the tree alone. -/
def TreePost (b : Nat) (v : Value) (C : Nat → Option Int) (L : Nat → BitVec 32) (N : Nat → Nat → BitVec 32) (w : World) (e : Ending) (w' : World) : Prop := e = .returned v ∧ TreeAt w' b C L N ∧ w.grownBy w' (some b)
set_option maxRecDepth 100000 in
set_option maxHeartbeats 1000000 in
theorem renew_any (b l a : Nat) (C : Nat → Option Int) (L : Nat → BitVec 32) (N : Nat → Nat → BitVec 32) (w : World) (h : TreeAt w b C L N) (hl : l < 3) (ha : a < szM l) :
    Calls Try.prog 39 #[.pointer (some ⟨b, 0, none⟩), .int .i64 (l : Int), .int .i64 (a : Int)] w (TreePost b (.tuple #[]) C L (updN N l a (upN (nmF L N l) a)) w) := by
  have ha256 : a < 256 := Nat.lt_of_lt_of_le ha (szM_le l)
  have hd := h.below (Below.refl _ w).drew
  have KD := Lib.hid (kids_any b l a C L N w.drew hd hl ha)
  have hlen : (kidsF (nmF L N l) a).length = 16 := by simp [kidsF]
  have SM := Lib.hid (fun W => msum_any (kidsF (nmF L N l) a) W hlen)
  have HD := Lib.hid hd
  clear h hd hlen ha
  have hli : (l : Int) < 3 := by omega
  have hai : (a : Int) < 256 := by omega
  go_enter Try.func39, Try.ntmps39
  go_wp2_with fail
  refine wp_region_held_drew (S := fun W => True) (by kernel_rfl) (trivial) (fun _ => ?_)
  refine wpAnyH_take (i := 0) (v := ?_) rfl (by kernel_rfl) (by kernel_rfl) (by kernel_rfl) (fun _ _ _ h => h) (Or.inl ⟨by kernel_rfl, ?_⟩) trivial ?_
  rotate_left
  · intro w hSw
    (try dsimp only at hSw)
    skip
    go_simp
    try with_reducible rfl
  try dsimp only [Act.put, List.getElem?_toArray, List.getElem?_cons_succ, List.getElem?_cons_zero, List.getElem_toArray, List.getElem_cons_succ, List.getElem_cons_zero]
  try simp only [List.setIfInBounds_toArray, List.set_cons_zero, List.set_cons_succ]
  refine wpAnyH_take (i := 1) (v := ?_) rfl (by kernel_rfl) (by kernel_rfl) (by kernel_rfl) (fun _ _ _ h => h) (Or.inl ⟨by kernel_rfl, ?_⟩) trivial ?_
  rotate_left
  · intro w hSw
    (try dsimp only at hSw)
    skip
    go_simp
    try with_reducible rfl
  try dsimp only [Act.put, List.getElem?_toArray, List.getElem?_cons_succ, List.getElem?_cons_zero, List.getElem_toArray, List.getElem_cons_succ, List.getElem_cons_zero]
  try simp only [List.setIfInBounds_toArray, List.set_cons_zero, List.set_cons_succ]
  refine wpAnyH_take (i := 2) (v := ?_) rfl (by kernel_rfl) (by kernel_rfl) (by kernel_rfl) (fun _ _ _ h => h) (Or.inl ⟨by kernel_rfl, ?_⟩) trivial ?_
  rotate_left
  · intro w hSw
    (try dsimp only at hSw)
    skip
    go_simp
    try with_reducible rfl
  try dsimp only [Act.put, List.getElem?_toArray, List.getElem?_cons_succ, List.getElem?_cons_zero, List.getElem_toArray, List.getElem_cons_succ, List.getElem_cons_zero]
  try simp only [List.setIfInBounds_toArray, List.set_cons_zero, List.set_cons_succ]
  refine wpAnyH_take (i := 3) (v := ?_) rfl (by kernel_rfl) (by kernel_rfl) (by kernel_rfl) (fun _ _ _ h => h) (Or.inl ⟨by kernel_rfl, ?_⟩) trivial ?_
  rotate_left
  · intro w hSw
    (try dsimp only at hSw)
    skip
    go_simp
    try with_reducible rfl
  try dsimp only [Act.put, List.getElem?_toArray, List.getElem?_cons_succ, List.getElem?_cons_zero, List.getElem_toArray, List.getElem_cons_succ, List.getElem_cons_zero]
  try simp only [List.setIfInBounds_toArray, List.set_cons_zero, List.set_cons_succ]
  refine wpAnyH_take (i := 4) (v := ?_) rfl (by kernel_rfl) (by kernel_rfl) (by kernel_rfl) (fun _ _ _ h => h) (Or.inl ⟨by kernel_rfl, ?_⟩) trivial ?_
  rotate_left
  · intro w hSw
    (try dsimp only at hSw)
    skip
    go_simp
    try with_reducible rfl
  try dsimp only [Act.put, List.getElem?_toArray, List.getElem?_cons_succ, List.getElem?_cons_zero, List.getElem_toArray, List.getElem_cons_succ, List.getElem_cons_zero]
  try simp only [List.setIfInBounds_toArray, List.set_cons_zero, List.set_cons_succ]
  refine wpAnyH_take (i := 5) (v := ?_) rfl (by kernel_rfl) (by kernel_rfl) (by kernel_rfl) (fun _ _ _ h => h) (Or.inl ⟨by kernel_rfl, ?_⟩) trivial ?_
  rotate_left
  · intro w hSw
    (try dsimp only at hSw)
    skip
    go_simp
    try with_reducible rfl
  try dsimp only [Act.put, List.getElem?_toArray, List.getElem?_cons_succ, List.getElem?_cons_zero, List.getElem_toArray, List.getElem_cons_succ, List.getElem_cons_zero]
  try simp only [List.setIfInBounds_toArray, List.set_cons_zero, List.set_cons_succ]
  refine wpAnyH_take (i := 8) (v := ?_) rfl (by kernel_rfl) (by kernel_rfl) (by kernel_rfl) (fun _ _ _ h => h) (Or.inl ⟨by kernel_rfl, ?_⟩) trivial ?_
  rotate_left
  · intro w hSw
    (try dsimp only at hSw)
    skip
    go_simp
    try with_reducible rfl
  try dsimp only [Act.put, List.getElem?_toArray, List.getElem?_cons_succ, List.getElem?_cons_zero, List.getElem_toArray, List.getElem_cons_succ, List.getElem_cons_zero]
  try simp only [List.setIfInBounds_toArray, List.set_cons_zero, List.set_cons_succ]
  refine wpAnyH_take (i := 9) (v := ?_) rfl (by kernel_rfl) (by kernel_rfl) (by kernel_rfl) (fun _ _ _ h => h) (Or.inl ⟨by kernel_rfl, ?_⟩) trivial ?_
  rotate_left
  · intro w hSw
    (try dsimp only at hSw)
    skip
    go_simp
    try with_reducible rfl
  try dsimp only [Act.put, List.getElem?_toArray, List.getElem?_cons_succ, List.getElem?_cons_zero, List.getElem_toArray, List.getElem_cons_succ, List.getElem_cons_zero]
  try simp only [List.setIfInBounds_toArray, List.set_cons_zero, List.set_cons_succ]
  refine wpAnyH_take (i := 10) (v := ?_) rfl (by kernel_rfl) (by kernel_rfl) (by kernel_rfl) (fun _ _ _ h => h) (Or.inl ⟨by kernel_rfl, ?_⟩) trivial ?_
  rotate_left
  · intro w hSw
    (try dsimp only at hSw)
    skip
    go_simp
    try with_reducible rfl
  try dsimp only [Act.put, List.getElem?_toArray, List.getElem?_cons_succ, List.getElem?_cons_zero, List.getElem_toArray, List.getElem_cons_succ, List.getElem_cons_zero]
  try simp only [List.setIfInBounds_toArray, List.set_cons_zero, List.set_cons_succ]
  refine wpAnyH_ready (rs := [6]) (by kernel_rfl) (by simp) (AllReadyH.cons rfl (fun K hK => ?_) AllReadyH.nil)
  go_simp
  go_wp2_with (go_at_call 47; (with_reducible refine KD.out.mono ?_); rintro e w1 ⟨rfl, hb1⟩)
  refine hK.out _ _ (trivial) (fun _ => ?_)
  clear hK K
  try dsimp only [Act.put, List.getElem?_toArray, List.getElem?_cons_succ, List.getElem?_cons_zero, List.getElem_toArray, List.getElem_cons_succ, List.getElem_cons_zero]
  try simp only [List.setIfInBounds_toArray, List.set_cons_zero, List.set_cons_succ]
  refine wpAnyH_ready (rs := [7]) (by kernel_rfl) (by simp) (AllReadyH.cons rfl (fun K hK => ?_) AllReadyH.nil)
  go_simp
  go_wp2_with (go_at_call 48; (with_reducible refine (SM.out w1).mono ?_); rintro e w2 ⟨rfl, hb2⟩)
  refine hK.out _ _ (trivial) (fun _ => ?_)
  clear hK K
  try dsimp only [Act.put, List.getElem?_toArray, List.getElem?_cons_succ, List.getElem?_cons_zero, List.getElem_toArray, List.getElem_cons_succ, List.getElem_cons_zero]
  try simp only [List.setIfInBounds_toArray, List.set_cons_zero, List.set_cons_succ]
  have hb := below_next hb1 hb2
  have ht := HD.out.below hb
  have hc := ht.node hl ha256
  have hfr := ht.free (12288 + l * 256 + a)
  refine wpAnyH_take (i := 11) (v := ?_) rfl (by kernel_rfl) (by kernel_rfl) (by kernel_rfl) (fun _ _ _ h => h) (Or.inl ⟨by kernel_rfl, ?_⟩) trivial ?_
  rotate_left
  · intro w hSw
    (try dsimp only at hSw)
    skip
    go_simp
    try with_reducible rfl
  try dsimp only [Act.put, List.getElem?_toArray, List.getElem?_cons_succ, List.getElem?_cons_zero, List.getElem_toArray, List.getElem_cons_succ, List.getElem_cons_zero]
  try simp only [List.setIfInBounds_toArray, List.set_cons_zero, List.set_cons_succ]
  refine wpAnyH_ready (rs := [12]) (by kernel_rfl) (by simp) (AllReadyH.cons rfl (fun K hK => ?_) AllReadyH.nil)
  go_simp
  refine hK.out _ _ (trivial) (fun _ => ?_)
  clear hK K
  try dsimp only [Act.put, List.getElem?_toArray, List.getElem?_cons_succ, List.getElem?_cons_zero, List.getElem_toArray, List.getElem_cons_succ, List.getElem_cons_zero]
  try simp only [List.setIfInBounds_toArray, List.set_cons_zero, List.set_cons_succ]
  refine wpAnyH_done (by kernel_rfl) ?_ _
  go_wp2_with fail
  go_end0
  exact ⟨rfl, ht.setN hl ha256 _, grown_trans (below_grown (below_next (Below.refl _ w).drew hb)) (grown_setCell _ ⟨b, 12288 + l * 256 + a, none⟩ _)⟩
end Go.Proofs.Ytjjadappjapjhaa
