/-
  THE LAW MerkleSets: its walk.
-/
import Derived.Test.YtjjadappjapjhaaMkAg
namespace Go.Proofs.Ytjjadappjapjhaa
open Go.RowKit Go.Deep

set_option maxRecDepth 100000 in
set_option maxHeartbeats 8000000 in
theorem merkleSets_short (a1 : Option Addr) (n1 c1 : Nat) (l1 : List Pr) (a2 : Option Addr) (n2 c2 : Nat) (a3 : Option Addr) (n3 c3 : Nat) (w : World) (h1 : RArg encP 2 w a1 n1 c1 l1) (hno : tblB l1 = false ∨ 60 < n1) :
    Calls Try.prog 4 #[.slice a1 n1 c1, .slice a2 n2 c2, .slice a3 n3 c3] w (TruePost w) := by
  have hz1 : (n1 : Int) ≤ 9223372036854775807 := by have := h1.1; have := h1.2.1; omega
  have FW := Lib.hid (fun W => few20_any a1 n1 c1 W hz1)
  by_cases h60 : 60 < n1
  · have h60i : (60 : Int) < (n1 : Int) := by omega
    rw [decide_eq_false (show ¬ n1 ≤ 60 by omega)] at FW
    cases ht : tblB l1
    · have NW := Lib.hid (new_no a1 n1 c1 l1 w h1 ht)
      clear h1 hno ht
      go_enter Try.func4, Try.ntmps4
      go_wp2_with (first | (go_at_call 14; (with_reducible refine NW.out.mono ?_); rintro e w1 ⟨rfl, hb1⟩) | (go_at_call 10; (with_reducible refine (FW.out _).mono ?_); rintro e w3 ⟨rfl, rfl⟩) | (go_at_call 11; (with_reducible refine (awake20_any _).mono ?_); rintro e w9 ⟨rfl, hb9⟩) | fail)
      go_ret
      exact ⟨rfl, below_next hb1 hb9⟩
    · have NW := Lib.hid (new_ok a1 n1 c1 l1 w h1 ht)
      clear h1 hno ht
      go_enter Try.func4, Try.ntmps4
      go_wp2_with (first | (go_at_call 14; (with_reducible refine NW.out.mono ?_); rintro e w1 ⟨b1, rfl, t1, hbb, hb1⟩) | (go_at_call 10; (with_reducible refine (FW.out _).mono ?_); rintro e w3 ⟨rfl, rfl⟩) | (go_at_call 11; (with_reducible refine (awake20_any _).mono ?_); rintro e w9 ⟨rfl, hb9⟩) | fail)
      go_ret
      exact ⟨rfl, below_next hb1 hb9⟩
  · have ht : tblB l1 = false := by rcases hno with h | h; exact h; omega
    have h60i : ¬ (60 : Int) < (n1 : Int) := by omega
    rw [decide_eq_true (show n1 ≤ 60 by omega)] at FW
    have NW := Lib.hid (new_no a1 n1 c1 l1 w h1 ht)
    have RF := Lib.hid (fun W (hb : Below w.heap.size w W) => refs5_any a1 n1 c1 l1 W (by have := h1.1; omega) (h1.below hb))
    have RC := Lib.hid (fun a n c W (h : RArg encP 2 W a n c l1) => ht ▸ rtcheck_any a n c l1 W h)
    clear h1 hno ht
    go_enter Try.func4, Try.ntmps4
    go_wp2_with (first | (go_at_call 14; (with_reducible refine NW.out.mono ?_); rintro e w1 ⟨rfl, hb1⟩) | (go_at_call 10; (with_reducible refine (FW.out _).mono ?_); rintro e w3 ⟨rfl, rfl⟩) | (go_at_call 11; (with_reducible refine (awake20_any _).mono ?_); rintro e w9 ⟨rfl, hb9⟩) | fail)
    go_wp2_with (first | (go_at_call 16; (with_reducible refine (RF.out _ (below_next hb1 hb9)).mono ?_); rintro e w10 ⟨a10, m10, k10, rfl, r10, hb10⟩) | (go_at_call 15; (with_reducible refine (RC.out _ _ _ _ r10).mono ?_); rintro e w11 ⟨rfl, hb11⟩) | fail)
    go_ret
    exact ⟨rfl, below_next hb1 (below_next hb9 (below_next hb10 hb11))⟩
theorem eqCell20In (x : Int) (p : Bool) (w : World) : (Op.equalIn 10000 25 (.agg #[.int .i64 x, .bool p]) (.agg #[.int .i64 x, .bool p])).run Try.prog w = .ok true w := by
  have u3 := Try.underlying3
  have a3 := Try.isAgg3
  have z3 := Try.sizeOf3
  have u4 := Try.underlying4
  have a4 := Try.isAgg4
  have z4 := Try.sizeOf4
  have hS : Try.prog.underlying 25 = some (.struct (Try.prog.fieldsOf 25)) := by kernel_rfl
  have hp : Try.prog.stoodInHeld 25 = false := by kernel_rfl
  rw [show (10000 : Nat) = 9999 + 1 from rfl, run_equalIn_agg w 9999 25 _ _ hS hp]
  simp only [Program.fieldsOf, Try.underlying25]
  go_simp
  try simp
theorem neqCell20 (x : Int) (p : Bool) (w : World) : (binOp .neq 25 (.agg #[.int .i64 x, .bool p]) (.agg #[.int .i64 x, .bool p])).run Try.prog w = .ok (.bool false) w := by
  rw [run_neq_struct, eqCell20In]; rfl
/-- Set, of a key and a cell whatever they are. -/
def SetAny (b : Nat) (gd : Bool) (k : Int) (c : Option Int) (w : World) (e : Ending) (w' : World) : Prop := ∃ (C' : Nat → Option Int) (f : Int), e = .returned (.int .i64 f) ∧ TreeOf w' b C' ∧ VC C' ∧ w.grownBy w' (some b) ∧ (gd = true → f = 0 ∧ C' k.toNat = c) ∧ (gd = false → f = 1)
theorem set_all (b : Nat) (k v : Int) (s : Bool) (C : Nat → Option Int) (w : World) (h : TreeOf w b C) (hv : VC C) :
    Calls Try.prog 21 #[.pointer (some ⟨b, 0, none⟩), .int .i64 k, .agg #[.int .i64 v, .bool s]] w (SetAny b (keyB k && cellB (v, s)) k (cO v s) w) := by
  cases hg : (keyB k && cellB (v, s))
  · refine (set_bad b k v s w (by rcases Bool.and_eq_false_iff.1 hg with h | h; exact .inl h; exact .inr h)).mono fun e w' q => ?_
    exact ⟨C, 1, q.1, h.below q.2, hv, below_grown q.2, fun h => (by cases h), fun _ => rfl⟩
  · rw [Bool.and_eq_true] at hg
    obtain ⟨q, rfl, hq⟩ := keyB_nat hg.1
    refine (set_good b q v s C w h hq hg.2).mono fun e w' p => ?_
    exact ⟨_, 0, p.1, p.2.1, hv.set hq hg.2, p.2.2, fun _ => ⟨rfl, by unfold updF; simp⟩, fun h => (by cases h)⟩
def leafV (C : Nat → Option Int) (x : Int) : Int × Int := if keyB x = true then (regI (lvN C 0 x.toNat), 0) else (0, 1)
theorem leaf_all (b : Nat) (C : Nat → Option Int) (x : Int) (w : World) (h : TreeOf w b C) : Calls Try.prog 19 #[.pointer (some ⟨b, 0, none⟩), .int .i64 x] w fun e w' => e = .returned (.tuple #[.int .u32 (leafV C x).1, .int .i64 (leafV C x).2]) ∧ w = w' := by
  cases hk : keyB x
  · have := leaf20_bad (.pointer (some ⟨b, 0, none⟩)) x w (.inr ⟨b, rfl⟩) (.inl hk)
    unfold leafV
    rw [hk]
    exact this
  · obtain ⟨q, rfl, hq⟩ := keyB_nat hk
    have := leaf20_any b C q w h hq
    unfold leafV
    rw [hk]
    exact this
set_option maxRecDepth 100000 in
set_option maxHeartbeats 8000000 in
theorem merkleSets_main (a1 : Option Addr) (n1 c1 : Nat) (l1 : List Pr) (a2 : Option Addr) (n2 c2 : Nat) (l2 : List Pr) (a3 : Option Addr) (n3 c3 : Nat) (l3 : List Bool) (w : World) (h1 : RArg encP 2 w a1 n1 c1 l1) (h2 : RArg encP 2 w a2 n2 c2 l2) (h3 : RArg encO 1 w a3 n3 c3 l3)
    (ht : tblB l1 = true) (hn1 : n1 ≤ 60) :
    Calls Try.prog 4 #[.slice a1 n1 c1, .slice a2 n2 c2, .slice a3 n3 c3] w (TruePost w) := by
  have hz2 : (n2 : Int) ≤ 9223372036854775807 := by have := h2.1; have := h2.2.1; omega
  have hz3 : (n3 : Int) ≤ 9223372036854775807 := by have := h3.1; have := h3.2.1; omega
  have FW := Lib.hid (fun W => few20_any a1 n1 c1 W (by omega))
  rw [decide_eq_true hn1] at FW
  have NW := Lib.hid (new_ok a1 n1 c1 l1 w h1 ht)
  have hv := VC.tab ht
  have HL2 := Lib.hid h2
  have HL3 := Lib.hid h3
  have hn2 : n2 = l2.length := h2.1
  have hn3 : n3 = l3.length := h3.1
  clear h1 h2 h3 ht
  go_enter Try.func4, Try.ntmps4
  go_wp2_with (first | (go_at_call 14; (with_reducible refine NW.out.mono ?_); rintro e w1 ⟨b1, rfl, t1, hbb, hb1⟩) | (go_at_call 10; (with_reducible refine (FW.out _).mono ?_); rintro e w3 ⟨rfl, rfl⟩) | fail)
  have T1 := Lib.hid t1
  have HV := Lib.hid hv
  clear t1 hv
  generalize tabC l1 = C1 at T1 HV
  go_loopw [9] (fun i wr => ∃ (k : Nat) (C : Nat → Option Int), i = .int .i64 (k : Int) ∧ Hid (TreeOf wr b1 C) ∧ Hid (VC C) ∧ Hid (Below w.heap.size w wr))
    (fun i _ => 20 - (intOf i).toNat)
  case atStart => exact ⟨0, C1, rfl, T1, HV, Lib.hid hb1⟩
  case round =>
    clear T1 HV hb1
    obtain ⟨k, C, rfl, HT, HV, HB⟩ := hrel
    by_cases hlt : k < l2.length ∧ k < 20 ∧ k < l3.length
    · obtain ⟨hl2, hl20, hl3⟩ := hlt
      have i2 : (k : Int) < (l2.length : Int) := by omega
      have i20 : (k : Int) < 20 := by omega
      have i3 : (k : Int) < (l3.length : Int) := by omega
      obtain ⟨bs, os, e2, hbs, d0, d1⟩ := (HL2.out.below HB.out).prs hl2
      obtain ⟨bo, oo, e3, hbo, d2⟩ := (HL3.out.below HB.out).os hl3
      have hbs' : bs < w.heap.size := by
        obtain ⟨_, _, e4, h4, _⟩ := HL2.out.prs hl2
        rw [e2] at e4
        cases e4
        exact h4
      subst e2 e3
      generalize l2[k]! = sk at d0 d1
      obtain ⟨x, v⟩ := sk
      generalize l3[k]! = s at d2
      dsimp only at d0 d1
      go_upto_region 7 with fail
      have hbz := HB.out.size
      have hS : wr.drew.cell? ⟨bs, os + k * 2 + 1, none⟩ = some (.int .i64 v) ∧ wr.drew.cell? ⟨bo, oo + k, none⟩ = some (.bool s) := ⟨d1, d2⟩
      refine wp_region_held_drew (S := fun W => W.cell? ⟨bs, os + k * 2 + 1, none⟩ = some (.int .i64 v) ∧ W.cell? ⟨bo, oo + k, none⟩ = some (.bool s)) (by kernel_rfl) (hS) (fun _ => ?_)
      refine wpAnyH_take (i := 0) (v := ?_) rfl (by kernel_rfl) (by kernel_rfl) (by kernel_rfl) (fun _ _ _ h => h) (Or.inl ⟨by kernel_rfl, ?_⟩) hS ?_
      rotate_left
      · intro w hSw
        (try dsimp only at hSw)
        obtain ⟨q1, q2⟩ := hSw
        go_simp
        try with_reducible rfl
      try dsimp only [Act.put, List.getElem?_toArray, List.getElem?_cons_succ, List.getElem?_cons_zero, List.getElem_toArray, List.getElem_cons_succ, List.getElem_cons_zero]
      try simp only [List.setIfInBounds_toArray, List.set_cons_zero, List.set_cons_succ]
      refine wpAnyH_take (i := 1) (v := ?_) rfl (by kernel_rfl) (by kernel_rfl) (by kernel_rfl) (fun _ _ _ h => h) (Or.inl ⟨by kernel_rfl, ?_⟩) hS ?_
      rotate_left
      · intro w hSw
        (try dsimp only at hSw)
        obtain ⟨q1, q2⟩ := hSw
        go_simp
        try with_reducible rfl
      try dsimp only [Act.put, List.getElem?_toArray, List.getElem?_cons_succ, List.getElem?_cons_zero, List.getElem_toArray, List.getElem_cons_succ, List.getElem_cons_zero]
      try simp only [List.setIfInBounds_toArray, List.set_cons_zero, List.set_cons_succ]
      refine wpAnyH_take (i := 2) (v := ?_) rfl (by kernel_rfl) (by kernel_rfl) (by kernel_rfl) (fun _ _ _ h => h) (Or.inl ⟨by kernel_rfl, ?_⟩) hS ?_
      rotate_left
      · intro w hSw
        (try dsimp only at hSw)
        obtain ⟨q1, q2⟩ := hSw
        go_simp
        try with_reducible rfl
      try dsimp only [Act.put, List.getElem?_toArray, List.getElem?_cons_succ, List.getElem?_cons_zero, List.getElem_toArray, List.getElem_cons_succ, List.getElem_cons_zero]
      try simp only [List.setIfInBounds_toArray, List.set_cons_zero, List.set_cons_succ]
      refine wpAnyH_take (i := 3) (v := ?_) rfl (by kernel_rfl) (by kernel_rfl) (by kernel_rfl) (fun _ _ _ h => h) (Or.inl ⟨by kernel_rfl, ?_⟩) hS ?_
      rotate_left
      · intro w hSw
        (try dsimp only at hSw)
        obtain ⟨q1, q2⟩ := hSw
        go_simp
        try with_reducible rfl
      try dsimp only [Act.put, List.getElem?_toArray, List.getElem?_cons_succ, List.getElem?_cons_zero, List.getElem_toArray, List.getElem_cons_succ, List.getElem_cons_zero]
      try simp only [List.setIfInBounds_toArray, List.set_cons_zero, List.set_cons_succ]
      refine wpAnyH_take (i := 4) (v := ?_) rfl (by kernel_rfl) (by kernel_rfl) (by kernel_rfl) (fun _ _ _ h => h) (Or.inl ⟨by kernel_rfl, ?_⟩) hS ?_
      rotate_left
      · intro w hSw
        (try dsimp only at hSw)
        obtain ⟨q1, q2⟩ := hSw
        go_simp
        try with_reducible rfl
      try dsimp only [Act.put, List.getElem?_toArray, List.getElem?_cons_succ, List.getElem?_cons_zero, List.getElem_toArray, List.getElem_cons_succ, List.getElem_cons_zero]
      try simp only [List.setIfInBounds_toArray, List.set_cons_zero, List.set_cons_succ]
      refine wpAnyH_take (i := 5) (v := ?_) rfl (by kernel_rfl) (by kernel_rfl) (by kernel_rfl) (fun _ _ _ h => h) (Or.inl ⟨by kernel_rfl, ?_⟩) hS ?_
      rotate_left
      · intro w hSw
        (try dsimp only at hSw)
        obtain ⟨q1, q2⟩ := hSw
        go_simp
        try with_reducible rfl
      try dsimp only [Act.put, List.getElem?_toArray, List.getElem?_cons_succ, List.getElem?_cons_zero, List.getElem_toArray, List.getElem_cons_succ, List.getElem_cons_zero]
      try simp only [List.setIfInBounds_toArray, List.set_cons_zero, List.set_cons_succ]
      refine wpAnyH_take (i := 6) (v := ?_) rfl (by kernel_rfl) (by kernel_rfl) (by kernel_rfl) (fun _ _ _ h => h) (Or.inl ⟨by kernel_rfl, ?_⟩) hS ?_
      rotate_left
      · intro w hSw
        (try dsimp only at hSw)
        obtain ⟨q1, q2⟩ := hSw
        go_simp
        try with_reducible rfl
      try dsimp only [Act.put, List.getElem?_toArray, List.getElem?_cons_succ, List.getElem?_cons_zero, List.getElem_toArray, List.getElem_cons_succ, List.getElem_cons_zero]
      try simp only [List.setIfInBounds_toArray, List.set_cons_zero, List.set_cons_succ]
      refine wpAnyH_take (i := 7) (v := ?_) rfl (by kernel_rfl) (by kernel_rfl) (by kernel_rfl) (fun _ _ _ h => h) (Or.inl ⟨by kernel_rfl, ?_⟩) hS ?_
      rotate_left
      · intro w hSw
        (try dsimp only at hSw)
        obtain ⟨q1, q2⟩ := hSw
        go_simp
        try with_reducible rfl
      try dsimp only [Act.put, List.getElem?_toArray, List.getElem?_cons_succ, List.getElem?_cons_zero, List.getElem_toArray, List.getElem_cons_succ, List.getElem_cons_zero]
      try simp only [List.setIfInBounds_toArray, List.set_cons_zero, List.set_cons_succ]
      refine wpAnyH_take (i := 8) (v := ?_) rfl (by kernel_rfl) (by kernel_rfl) (by kernel_rfl) (fun _ _ _ h => h) (Or.inl ⟨by kernel_rfl, ?_⟩) hS ?_
      rotate_left
      · intro w hSw
        (try dsimp only at hSw)
        obtain ⟨q1, q2⟩ := hSw
        go_simp
        try with_reducible rfl
      try dsimp only [Act.put, List.getElem?_toArray, List.getElem?_cons_succ, List.getElem?_cons_zero, List.getElem_toArray, List.getElem_cons_succ, List.getElem_cons_zero]
      try simp only [List.setIfInBounds_toArray, List.set_cons_zero, List.set_cons_succ]
      refine wpAnyH_take (i := 9) (v := ?_) rfl (by kernel_rfl) (by kernel_rfl) (by kernel_rfl) (fun _ _ _ h => h) (Or.inl ⟨by kernel_rfl, ?_⟩) hS ?_
      rotate_left
      · intro w hSw
        (try dsimp only at hSw)
        obtain ⟨q1, q2⟩ := hSw
        go_simp
        try with_reducible rfl
      try dsimp only [Act.put, List.getElem?_toArray, List.getElem?_cons_succ, List.getElem?_cons_zero, List.getElem_toArray, List.getElem_cons_succ, List.getElem_cons_zero]
      try simp only [List.setIfInBounds_toArray, List.set_cons_zero, List.set_cons_succ]
      refine wpAnyH_ready (rs := [10]) (by kernel_rfl) (by simp) (AllReadyH.cons rfl (fun K hK => ?_) AllReadyH.nil)
      go_simp
      have b1w : Below wr.heap.size wr ((wr.alloc (.cells #[.int .i64 0, .bool false] 25)).drew) := ((Below.refl _ _).alloc (Nat.le_refl _) _).drew
      have hb3 : Below wr.heap.size wr ((wr.alloc (.cells #[.int .i64 v, .bool s] 25)).drew) := ((Below.refl _ _).alloc (Nat.le_refl _) _).drew
      have R3 : ((wr.alloc (.cells #[.int .i64 v, .bool s] 25)).drew).heap[wr.heap.size]? = some (.cells #[.int .i64 v, .bool s] 25 (0, 0)) := heap_alloc_new wr _
      have g3 : wr.heap.size < ((wr.alloc (.cells #[.int .i64 v, .bool s] 25)).drew).heap.size := by simp
      have hS5 : ((wr.alloc (.cells #[.int .i64 0, .bool false] 25)).drew).cell? ⟨bs, os + k * 2 + 1, none⟩ = some (.int .i64 v) ∧ ((wr.alloc (.cells #[.int .i64 0, .bool false] 25)).drew).cell? ⟨bo, oo + k, none⟩ = some (.bool s) := ⟨(b1w.cell (p := ⟨bs, os + k * 2 + 1, none⟩) hbs).trans d1, (b1w.cell (p := ⟨bo, oo + k, none⟩) hbo).trans d2⟩
      have hS6 : ((wr.alloc (.cells #[.int .i64 v, .bool s] 25)).drew).cell? ⟨bs, os + k * 2 + 1, none⟩ = some (.int .i64 v) ∧ ((wr.alloc (.cells #[.int .i64 v, .bool s] 25)).drew).cell? ⟨bo, oo + k, none⟩ = some (.bool s) := ⟨(hb3.cell (p := ⟨bs, os + k * 2 + 1, none⟩) hbs).trans d1, (hb3.cell (p := ⟨bo, oo + k, none⟩) hbo).trans d2⟩
      refine hK.out _ _ hS5 (fun _ => ?_)
      clear hK K hS
      try dsimp only [Act.put, List.getElem?_toArray, List.getElem?_cons_succ, List.getElem?_cons_zero, List.getElem_toArray, List.getElem_cons_succ, List.getElem_cons_zero]
      try simp only [List.setIfInBounds_toArray, List.set_cons_zero, List.set_cons_succ]
      refine wpAnyH_ready (rs := [11]) (by kernel_rfl) (by simp) (AllReadyH.cons rfl (fun K hK => ?_) AllReadyH.nil)
      go_simp
      refine hK.out _ _ hS6 (fun _ => ?_)
      clear hK K hS5
      try dsimp only [Act.put, List.getElem?_toArray, List.getElem?_cons_succ, List.getElem?_cons_zero, List.getElem_toArray, List.getElem_cons_succ, List.getElem_cons_zero]
      try simp only [List.setIfInBounds_toArray, List.set_cons_zero, List.set_cons_succ]
      refine wpAnyH_done (by kernel_rfl) ?_ _
      obtain ⟨x0, x1⟩ := cells2M R3
      clear hS6 b1w
      generalize (wr.alloc (.cells #[.int .i64 v, .bool s] 25)).drew = W3 at hb3 R3 x0 x1 g3 ⊢
      have d0' := (hb3.cell (p := ⟨bs, os + k * 2, none⟩) hbs).trans d0
      have HT3 := Lib.hid (HT.out.below hb3)
      have nb1 : b1 < wr.heap.size := HT.out.lt
      have HB3 := Lib.hid (HB.out.trans (hb3.mono hbz))
      clear d0 d1 d2
      go_wp2_with fail
      have SA := Lib.hid (set_all b1 x v s C W3.drew (HT3.out.below (Below.refl _ _).drew) HV.out)
      obtain ⟨gd, hgd⟩ : ∃ gd, (keyB x && cellB (v, s)) = gd := ⟨_, rfl⟩
      rw [hgd] at SA
      have HGD := Lib.hid hgd
      clear hgd
      have hS : W3.drew.cell? ⟨bs, os + k * 2, none⟩ = some (.int .i64 x) ∧ W3.drew.cell? ⟨wr.heap.size, 0, none⟩ = some (.int .i64 v) ∧ W3.drew.cell? ⟨wr.heap.size, 1, none⟩ = some (.bool s) := ⟨d0', x0, x1⟩
      have hbw : Below w.heap.size w W3.drew := HB3.out.drew
      have HBW := Lib.hid hbw
      have hsz3 := hbw.size
      have e1 : bs ≠ b1 := by omega
      have e2 : wr.heap.size ≠ b1 := by omega
      clear hb3 R3 d0' x0 x1 hbw
      refine wp_region_held_drew (S := fun W => W.cell? ⟨bs, os + k * 2, none⟩ = some (.int .i64 x) ∧ W.cell? ⟨wr.heap.size, 0, none⟩ = some (.int .i64 v) ∧ W.cell? ⟨wr.heap.size, 1, none⟩ = some (.bool s)) (by kernel_rfl) (hS) (fun _ => ?_)
      refine wpAnyH_take (i := 0) (v := ?_) rfl (by kernel_rfl) (by kernel_rfl) (by kernel_rfl) (fun _ _ _ h => h) (Or.inl ⟨by kernel_rfl, ?_⟩) hS ?_
      rotate_left
      · intro w hSw
        (try dsimp only at hSw)
        obtain ⟨q1, q2, q3⟩ := hSw
        go_simp
        try with_reducible rfl
      try dsimp only [Act.put, List.getElem?_toArray, List.getElem?_cons_succ, List.getElem?_cons_zero, List.getElem_toArray, List.getElem_cons_succ, List.getElem_cons_zero]
      try simp only [List.setIfInBounds_toArray, List.set_cons_zero, List.set_cons_succ]
      refine wpAnyH_take (i := 1) (v := ?_) rfl (by kernel_rfl) (by kernel_rfl) (by kernel_rfl) (fun _ _ _ h => h) (Or.inl ⟨by kernel_rfl, ?_⟩) hS ?_
      rotate_left
      · intro w hSw
        (try dsimp only at hSw)
        obtain ⟨q1, q2, q3⟩ := hSw
        go_simp
        try with_reducible rfl
      try dsimp only [Act.put, List.getElem?_toArray, List.getElem?_cons_succ, List.getElem?_cons_zero, List.getElem_toArray, List.getElem_cons_succ, List.getElem_cons_zero]
      try simp only [List.setIfInBounds_toArray, List.set_cons_zero, List.set_cons_succ]
      refine wpAnyH_take (i := 2) (v := ?_) rfl (by kernel_rfl) (by kernel_rfl) (by kernel_rfl) (fun _ _ _ h => h) (Or.inl ⟨by kernel_rfl, ?_⟩) hS ?_
      rotate_left
      · intro w hSw
        (try dsimp only at hSw)
        obtain ⟨q1, q2, q3⟩ := hSw
        go_simp
        try with_reducible rfl
      try dsimp only [Act.put, List.getElem?_toArray, List.getElem?_cons_succ, List.getElem?_cons_zero, List.getElem_toArray, List.getElem_cons_succ, List.getElem_cons_zero]
      try simp only [List.setIfInBounds_toArray, List.set_cons_zero, List.set_cons_succ]
      refine wpAnyH_take (i := 3) (v := ?_) rfl (by kernel_rfl) (by kernel_rfl) (by kernel_rfl) (fun _ _ _ h => h) (Or.inl ⟨by kernel_rfl, ?_⟩) hS ?_
      rotate_left
      · intro w hSw
        (try dsimp only at hSw)
        obtain ⟨q1, q2, q3⟩ := hSw
        go_simp
        try with_reducible rfl
      try dsimp only [Act.put, List.getElem?_toArray, List.getElem?_cons_succ, List.getElem?_cons_zero, List.getElem_toArray, List.getElem_cons_succ, List.getElem_cons_zero]
      try simp only [List.setIfInBounds_toArray, List.set_cons_zero, List.set_cons_succ]
      refine wpAnyH_take (i := 4) (v := ?_) rfl (by kernel_rfl) (by kernel_rfl) (by kernel_rfl) (fun _ _ _ h => h) (Or.inl ⟨by kernel_rfl, ?_⟩) hS ?_
      rotate_left
      · intro w hSw
        (try dsimp only at hSw)
        obtain ⟨q1, q2, q3⟩ := hSw
        go_simp
        try with_reducible rfl
      try dsimp only [Act.put, List.getElem?_toArray, List.getElem?_cons_succ, List.getElem?_cons_zero, List.getElem_toArray, List.getElem_cons_succ, List.getElem_cons_zero]
      try simp only [List.setIfInBounds_toArray, List.set_cons_zero, List.set_cons_succ]
      refine wpAnyH_take (i := 5) (v := ?_) rfl (by kernel_rfl) (by kernel_rfl) (by kernel_rfl) (fun _ _ _ h => h) (Or.inl ⟨by kernel_rfl, ?_⟩) hS ?_
      rotate_left
      · intro w hSw
        (try dsimp only at hSw)
        obtain ⟨q1, q2, q3⟩ := hSw
        go_simp
        try with_reducible rfl
      try dsimp only [Act.put, List.getElem?_toArray, List.getElem?_cons_succ, List.getElem?_cons_zero, List.getElem_toArray, List.getElem_cons_succ, List.getElem_cons_zero]
      try simp only [List.setIfInBounds_toArray, List.set_cons_zero, List.set_cons_succ]
      refine wpAnyH_take (i := 6) (v := ?_) rfl (by kernel_rfl) (by kernel_rfl) (by kernel_rfl) (fun _ _ _ h => h) (Or.inl ⟨by kernel_rfl, ?_⟩) hS ?_
      rotate_left
      · intro w hSw
        (try dsimp only at hSw)
        obtain ⟨q1, q2, q3⟩ := hSw
        go_simp
        try with_reducible rfl
      try dsimp only [Act.put, List.getElem?_toArray, List.getElem?_cons_succ, List.getElem?_cons_zero, List.getElem_toArray, List.getElem_cons_succ, List.getElem_cons_zero]
      try simp only [List.setIfInBounds_toArray, List.set_cons_zero, List.set_cons_succ]
      refine wpAnyH_ready (rs := [7]) (by kernel_rfl) (by simp) (AllReadyH.cons rfl (fun K hK => ?_) AllReadyH.nil)
      go_simp
      go_wp2_with (go_at_call 21; (with_reducible refine SA.out.mono ?_); rintro e w4 ⟨C', f, rfl, t4, v4, hg4, hc4, hc5⟩)
      have hS5 : w4.cell? ⟨bs, os + k * 2, none⟩ = some (.int .i64 x) ∧ w4.cell? ⟨wr.heap.size, 0, none⟩ = some (.int .i64 v) ∧ w4.cell? ⟨wr.heap.size, 1, none⟩ = some (.bool s) := ⟨hg4.cell hS.1 (fun e => e1 (by injection e)), hg4.cell hS.2.1 (fun e => e2 (by injection e)), hg4.cell hS.2.2 (fun e => e2 (by injection e))⟩
      refine hK.out _ _ (hS5) (fun _ => ?_)
      clear hK K hS
      try dsimp only [Act.put, List.getElem?_toArray, List.getElem?_cons_succ, List.getElem?_cons_zero, List.getElem_toArray, List.getElem_cons_succ, List.getElem_cons_zero]
      try simp only [List.setIfInBounds_toArray, List.set_cons_zero, List.set_cons_succ]
      refine wpAnyH_take (i := 8) (v := ?_) rfl (by kernel_rfl) (by kernel_rfl) (by kernel_rfl) (fun _ _ _ h => h) (Or.inl ⟨by kernel_rfl, ?_⟩) hS5 ?_
      rotate_left
      · intro w hSw
        (try dsimp only at hSw)
        obtain ⟨q1, q2, q3⟩ := hSw
        go_simp
        try with_reducible rfl
      try dsimp only [Act.put, List.getElem?_toArray, List.getElem?_cons_succ, List.getElem?_cons_zero, List.getElem_toArray, List.getElem_cons_succ, List.getElem_cons_zero]
      try simp only [List.setIfInBounds_toArray, List.set_cons_zero, List.set_cons_succ]
      refine wpAnyH_done (by kernel_rfl) ?_ _
      have HT4 := Lib.hid t4
      have HV4 := Lib.hid v4
      have HC4 := Lib.hid hc4
      have HC5 := Lib.hid hc5
      have HB4 := Lib.hid (HBW.out.grown hg4 hsz3 (fun q hq => by injection hq with hq; omega))
      obtain ⟨d4, y0, y1⟩ := hS5
      clear t4 v4 hc4 hc5 hg4 SA HT HT3 HB HBW
      have hcs : (gd = false ∧ x < 0) ∨ (gd = false ∧ 0 ≤ x ∧ ¬ x < 4096) ∨ (gd = false ∧ 0 ≤ x ∧ x < 4096 ∧ s = true ∧ v < -1099511627776) ∨ (gd = false ∧ 0 ≤ x ∧ x < 4096 ∧ s = true ∧ -1099511627776 ≤ v ∧ 1099511627776 < v ∧ decide (v ≤ 1099511627776) = false) ∨ (gd = false ∧ 0 ≤ x ∧ x < 4096 ∧ s = false ∧ v ≠ 0 ∧ (v == 0) = false) ∨ (gd = true ∧ 0 ≤ x ∧ x < 4096 ∧ s = true ∧ -1099511627776 ≤ v ∧ v ≤ 1099511627776 ∧ decide (v ≤ 1099511627776) = true) ∨ (gd = true ∧ 0 ≤ x ∧ x < 4096 ∧ s = false ∧ v = 0) := by
        have hg := HGD.out
        unfold keyB cellB at hg
        cases s <;> cases gd <;> simp at hg ⊢ <;> omega
      rcases hcs with ⟨rfl, g1⟩ | ⟨rfl, g1, g2⟩ | ⟨rfl, g1, g2, rfl, g3⟩ | ⟨rfl, g1, g2, rfl, g3, g4, g5⟩ | ⟨rfl, g1, g2, rfl, g3, g5⟩ | ⟨rfl, g1, g2, rfl, g3, g4, g5⟩ | ⟨rfl, g1, g2, rfl, rfl⟩
      iterate 5
        · obtain rfl := HC5.out rfl
          go_wp2_with fail
          have hS : True := trivial
          refine wp_region_held_drew (S := fun W => True) (by kernel_rfl) (trivial) (fun _ => ?_)
          refine wpAnyH_take (i := 0) (v := ?_) rfl (by kernel_rfl) (by kernel_rfl) (by kernel_rfl) (fun _ _ _ h => h) (Or.inl ⟨by kernel_rfl, ?_⟩) trivial ?_
          rotate_left
          · intro w hSw
            (try dsimp only at hSw)
            skip
            go_simp
            try with_reducible rfl
          try dsimp only [Act.put, List.getElem?_toArray, List.getElem?_cons_succ, List.getElem?_cons_zero, List.getElem_toArray, List.getElem_cons_succ, List.getElem_cons_zero]
          try simp only [List.setIfInBounds_toArray, List.set_cons_zero, List.set_cons_succ]
          refine wpAnyH_take (i := 1) (v := ?_) rfl (by kernel_rfl) (by kernel_rfl) (by kernel_rfl) (fun _ _ _ h => h) (Or.inl ⟨by kernel_rfl, ?_⟩) trivial ?_
          rotate_left
          · intro w hSw
            (try dsimp only at hSw)
            skip
            go_simp
            try with_reducible rfl
          try dsimp only [Act.put, List.getElem?_toArray, List.getElem?_cons_succ, List.getElem?_cons_zero, List.getElem_toArray, List.getElem_cons_succ, List.getElem_cons_zero]
          try simp only [List.setIfInBounds_toArray, List.set_cons_zero, List.set_cons_succ]
          refine wpAnyH_take (i := 2) (v := ?_) rfl (by kernel_rfl) (by kernel_rfl) (by kernel_rfl) (fun _ _ _ h => h) (Or.inl ⟨by kernel_rfl, ?_⟩) trivial ?_
          rotate_left
          · intro w hSw
            (try dsimp only at hSw)
            skip
            go_simp
            try with_reducible rfl
          try dsimp only [Act.put, List.getElem?_toArray, List.getElem?_cons_succ, List.getElem?_cons_zero, List.getElem_toArray, List.getElem_cons_succ, List.getElem_cons_zero]
          try simp only [List.setIfInBounds_toArray, List.set_cons_zero, List.set_cons_succ]
          refine wpAnyH_take (i := 3) (v := ?_) rfl (by kernel_rfl) (by kernel_rfl) (by kernel_rfl) (fun _ _ _ h => h) (Or.inl ⟨by kernel_rfl, ?_⟩) trivial ?_
          rotate_left
          · intro w hSw
            (try dsimp only at hSw)
            skip
            go_simp
            try with_reducible rfl
          try dsimp only [Act.put, List.getElem?_toArray, List.getElem?_cons_succ, List.getElem?_cons_zero, List.getElem_toArray, List.getElem_cons_succ, List.getElem_cons_zero]
          try simp only [List.setIfInBounds_toArray, List.set_cons_zero, List.set_cons_succ]
          refine wpAnyH_take (i := 4) (v := ?_) rfl (by kernel_rfl) (by kernel_rfl) (by kernel_rfl) (fun _ _ _ h => h) (Or.inl ⟨by kernel_rfl, ?_⟩) trivial ?_
          rotate_left
          · intro w hSw
            (try dsimp only at hSw)
            skip
            go_simp
            try with_reducible rfl
          try dsimp only [Act.put, List.getElem?_toArray, List.getElem?_cons_succ, List.getElem?_cons_zero, List.getElem_toArray, List.getElem_cons_succ, List.getElem_cons_zero]
          try simp only [List.setIfInBounds_toArray, List.set_cons_zero, List.set_cons_succ]
          refine wpAnyH_take (i := 5) (v := ?_) rfl (by kernel_rfl) (by kernel_rfl) (by kernel_rfl) (fun _ _ _ h => h) (Or.inl ⟨by kernel_rfl, ?_⟩) trivial ?_
          rotate_left
          · intro w hSw
            (try dsimp only at hSw)
            skip
            go_simp
            try with_reducible rfl
          try dsimp only [Act.put, List.getElem?_toArray, List.getElem?_cons_succ, List.getElem?_cons_zero, List.getElem_toArray, List.getElem_cons_succ, List.getElem_cons_zero]
          try simp only [List.setIfInBounds_toArray, List.set_cons_zero, List.set_cons_succ]
          refine wpAnyH_take (i := 6) (v := ?_) rfl (by kernel_rfl) (by kernel_rfl) (by kernel_rfl) (fun _ _ _ h => h) (Or.inl ⟨by kernel_rfl, ?_⟩) trivial ?_
          rotate_left
          · intro w hSw
            (try dsimp only at hSw)
            skip
            go_simp
            try with_reducible rfl
          try dsimp only [Act.put, List.getElem?_toArray, List.getElem?_cons_succ, List.getElem?_cons_zero, List.getElem_toArray, List.getElem_cons_succ, List.getElem_cons_zero]
          try simp only [List.setIfInBounds_toArray, List.set_cons_zero, List.set_cons_succ]
          refine wpAnyH_take (i := 7) (v := ?_) rfl (by kernel_rfl) (by kernel_rfl) (by kernel_rfl) (fun _ _ _ h => h) (Or.inl ⟨by kernel_rfl, ?_⟩) trivial ?_
          rotate_left
          · intro w hSw
            (try dsimp only at hSw)
            skip
            go_simp
            try with_reducible rfl
          try dsimp only [Act.put, List.getElem?_toArray, List.getElem?_cons_succ, List.getElem?_cons_zero, List.getElem_toArray, List.getElem_cons_succ, List.getElem_cons_zero]
          try simp only [List.setIfInBounds_toArray, List.set_cons_zero, List.set_cons_succ]
          refine wpAnyH_take (i := 8) (v := ?_) rfl (by kernel_rfl) (by kernel_rfl) (by kernel_rfl) (fun _ _ _ h => h) (Or.inl ⟨by kernel_rfl, ?_⟩) trivial ?_
          rotate_left
          · intro w hSw
            (try dsimp only at hSw)
            skip
            go_simp
            try with_reducible rfl
          try dsimp only [Act.put, List.getElem?_toArray, List.getElem?_cons_succ, List.getElem?_cons_zero, List.getElem_toArray, List.getElem_cons_succ, List.getElem_cons_zero]
          try simp only [List.setIfInBounds_toArray, List.set_cons_zero, List.set_cons_succ]
          refine wpAnyH_take (i := 9) (v := ?_) rfl (by kernel_rfl) (by kernel_rfl) (by kernel_rfl) (fun _ _ _ h => h) (Or.inl ⟨by kernel_rfl, ?_⟩) trivial ?_
          rotate_left
          · intro w hSw
            (try dsimp only at hSw)
            skip
            go_simp
            try with_reducible rfl
          try dsimp only [Act.put, List.getElem?_toArray, List.getElem?_cons_succ, List.getElem?_cons_zero, List.getElem_toArray, List.getElem_cons_succ, List.getElem_cons_zero]
          try simp only [List.setIfInBounds_toArray, List.set_cons_zero, List.set_cons_succ]
          refine wpAnyH_take (i := 10) (v := ?_) rfl (by kernel_rfl) (by kernel_rfl) (by kernel_rfl) (fun _ _ _ h => h) (Or.inl ⟨by kernel_rfl, ?_⟩) trivial ?_
          rotate_left
          · intro w hSw
            (try dsimp only at hSw)
            skip
            go_simp
            try with_reducible rfl
          try dsimp only [Act.put, List.getElem?_toArray, List.getElem?_cons_succ, List.getElem?_cons_zero, List.getElem_toArray, List.getElem_cons_succ, List.getElem_cons_zero]
          try simp only [List.setIfInBounds_toArray, List.set_cons_zero, List.set_cons_succ]
          refine wpAnyH_take (i := 11) (v := ?_) rfl (by kernel_rfl) (by kernel_rfl) (by kernel_rfl) (fun _ _ _ h => h) (Or.inl ⟨by kernel_rfl, ?_⟩) trivial ?_
          rotate_left
          · intro w hSw
            (try dsimp only at hSw)
            skip
            go_simp
            try with_reducible rfl
          try dsimp only [Act.put, List.getElem?_toArray, List.getElem?_cons_succ, List.getElem?_cons_zero, List.getElem_toArray, List.getElem_cons_succ, List.getElem_cons_zero]
          try simp only [List.setIfInBounds_toArray, List.set_cons_zero, List.set_cons_succ]
          refine wpAnyH_take (i := 12) (v := ?_) rfl (by kernel_rfl) (by kernel_rfl) (by kernel_rfl) (fun _ _ _ h => h) (Or.inl ⟨by kernel_rfl, ?_⟩) trivial ?_
          rotate_left
          · intro w hSw
            (try dsimp only at hSw)
            skip
            go_simp
            try with_reducible rfl
          try dsimp only [Act.put, List.getElem?_toArray, List.getElem?_cons_succ, List.getElem?_cons_zero, List.getElem_toArray, List.getElem_cons_succ, List.getElem_cons_zero]
          try simp only [List.setIfInBounds_toArray, List.set_cons_zero, List.set_cons_succ]
          refine wpAnyH_take (i := 13) (v := ?_) rfl (by kernel_rfl) (by kernel_rfl) (by kernel_rfl) (fun _ _ _ h => h) (Or.inl ⟨by kernel_rfl, ?_⟩) trivial ?_
          rotate_left
          · intro w hSw
            (try dsimp only at hSw)
            skip
            go_simp
            try with_reducible rfl
          try dsimp only [Act.put, List.getElem?_toArray, List.getElem?_cons_succ, List.getElem?_cons_zero, List.getElem_toArray, List.getElem_cons_succ, List.getElem_cons_zero]
          try simp only [List.setIfInBounds_toArray, List.set_cons_zero, List.set_cons_succ]
          refine wpAnyH_take (i := 14) (v := ?_) rfl (by kernel_rfl) (by kernel_rfl) (by kernel_rfl) (fun _ _ _ h => h) (Or.inl ⟨by kernel_rfl, ?_⟩) trivial ?_
          rotate_left
          · intro w hSw
            (try dsimp only at hSw)
            skip
            go_simp
            try with_reducible rfl
          try dsimp only [Act.put, List.getElem?_toArray, List.getElem?_cons_succ, List.getElem?_cons_zero, List.getElem_toArray, List.getElem_cons_succ, List.getElem_cons_zero]
          try simp only [List.setIfInBounds_toArray, List.set_cons_zero, List.set_cons_succ]
          refine wpAnyH_take (i := 15) (v := undef) rfl (by kernel_rfl) (by kernel_rfl) (by kernel_rfl) (fun _ _ _ h => h) (Or.inr ⟨by kernel_rfl, rfl⟩) trivial ?_
          try dsimp only [Act.put, List.getElem?_toArray, List.getElem?_cons_succ, List.getElem?_cons_zero, List.getElem_toArray, List.getElem_cons_succ, List.getElem_cons_zero]
          try simp only [List.setIfInBounds_toArray, List.set_cons_zero, List.set_cons_succ]
          refine wpAnyH_take (i := 16) (v := undef) rfl (by kernel_rfl) (by kernel_rfl) (by kernel_rfl) (fun _ _ _ h => h) (Or.inr ⟨by kernel_rfl, rfl⟩) trivial ?_
          try dsimp only [Act.put, List.getElem?_toArray, List.getElem?_cons_succ, List.getElem?_cons_zero, List.getElem_toArray, List.getElem_cons_succ, List.getElem_cons_zero]
          try simp only [List.setIfInBounds_toArray, List.set_cons_zero, List.set_cons_succ]
          refine wpAnyH_take (i := 17) (v := undef) rfl (by kernel_rfl) (by kernel_rfl) (by kernel_rfl) (fun _ _ _ h => h) (Or.inr ⟨by kernel_rfl, rfl⟩) trivial ?_
          try dsimp only [Act.put, List.getElem?_toArray, List.getElem?_cons_succ, List.getElem?_cons_zero, List.getElem_toArray, List.getElem_cons_succ, List.getElem_cons_zero]
          try simp only [List.setIfInBounds_toArray, List.set_cons_zero, List.set_cons_succ]
          refine wpAnyH_take (i := 18) (v := undef) rfl (by kernel_rfl) (by kernel_rfl) (by kernel_rfl) (fun _ _ _ h => h) (Or.inr ⟨by kernel_rfl, rfl⟩) trivial ?_
          try dsimp only [Act.put, List.getElem?_toArray, List.getElem?_cons_succ, List.getElem?_cons_zero, List.getElem_toArray, List.getElem_cons_succ, List.getElem_cons_zero]
          try simp only [List.setIfInBounds_toArray, List.set_cons_zero, List.set_cons_succ]
          refine wpAnyH_take (i := 19) (v := undef) rfl (by kernel_rfl) (by kernel_rfl) (by kernel_rfl) (fun _ _ _ h => h) (Or.inr ⟨by kernel_rfl, rfl⟩) trivial ?_
          try dsimp only [Act.put, List.getElem?_toArray, List.getElem?_cons_succ, List.getElem?_cons_zero, List.getElem_toArray, List.getElem_cons_succ, List.getElem_cons_zero]
          try simp only [List.setIfInBounds_toArray, List.set_cons_zero, List.set_cons_succ]
          refine wpAnyH_take (i := 20) (v := undef) rfl (by kernel_rfl) (by kernel_rfl) (by kernel_rfl) (fun _ _ _ h => h) (Or.inr ⟨by kernel_rfl, rfl⟩) trivial ?_
          try dsimp only [Act.put, List.getElem?_toArray, List.getElem?_cons_succ, List.getElem?_cons_zero, List.getElem_toArray, List.getElem_cons_succ, List.getElem_cons_zero]
          try simp only [List.setIfInBounds_toArray, List.set_cons_zero, List.set_cons_succ]
          refine wpAnyH_take (i := 21) (v := undef) rfl (by kernel_rfl) (by kernel_rfl) (by kernel_rfl) (fun _ _ _ h => h) (Or.inr ⟨by kernel_rfl, rfl⟩) trivial ?_
          try dsimp only [Act.put, List.getElem?_toArray, List.getElem?_cons_succ, List.getElem?_cons_zero, List.getElem_toArray, List.getElem_cons_succ, List.getElem_cons_zero]
          try simp only [List.setIfInBounds_toArray, List.set_cons_zero, List.set_cons_succ]
          refine wpAnyH_take (i := 22) (v := undef) rfl (by kernel_rfl) (by kernel_rfl) (by kernel_rfl) (fun _ _ _ h => h) (Or.inr ⟨by kernel_rfl, rfl⟩) trivial ?_
          try dsimp only [Act.put, List.getElem?_toArray, List.getElem?_cons_succ, List.getElem?_cons_zero, List.getElem_toArray, List.getElem_cons_succ, List.getElem_cons_zero]
          try simp only [List.setIfInBounds_toArray, List.set_cons_zero, List.set_cons_succ]
          refine wpAnyH_take (i := 23) (v := undef) rfl (by kernel_rfl) (by kernel_rfl) (by kernel_rfl) (fun _ _ _ h => h) (Or.inr ⟨by kernel_rfl, rfl⟩) trivial ?_
          try dsimp only [Act.put, List.getElem?_toArray, List.getElem?_cons_succ, List.getElem?_cons_zero, List.getElem_toArray, List.getElem_cons_succ, List.getElem_cons_zero]
          try simp only [List.setIfInBounds_toArray, List.set_cons_zero, List.set_cons_succ]
          refine wpAnyH_take (i := 24) (v := ?_) rfl (by kernel_rfl) (by kernel_rfl) (by kernel_rfl) (fun _ _ _ h => h) (Or.inl ⟨by kernel_rfl, ?_⟩) trivial ?_
          rotate_left
          · intro w hSw
            (try dsimp only at hSw)
            skip
            go_simp
            try with_reducible rfl
          try dsimp only [Act.put, List.getElem?_toArray, List.getElem?_cons_succ, List.getElem?_cons_zero, List.getElem_toArray, List.getElem_cons_succ, List.getElem_cons_zero]
          try simp only [List.setIfInBounds_toArray, List.set_cons_zero, List.set_cons_succ]
          refine wpAnyH_take (i := 25) (v := ?_) rfl (by kernel_rfl) (by kernel_rfl) (by kernel_rfl) (fun _ _ _ h => h) (Or.inl ⟨by kernel_rfl, ?_⟩) trivial ?_
          rotate_left
          · intro w hSw
            (try dsimp only at hSw)
            skip
            go_simp
            try with_reducible rfl
          try dsimp only [Act.put, List.getElem?_toArray, List.getElem?_cons_succ, List.getElem?_cons_zero, List.getElem_toArray, List.getElem_cons_succ, List.getElem_cons_zero]
          try simp only [List.setIfInBounds_toArray, List.set_cons_zero, List.set_cons_succ]
          refine wpAnyH_done (by kernel_rfl) ?_ _
          clear d4 y0 y1
          go_wp2_with fail
          go_roundw
          case rel => exact ⟨k + 1, C', by go_num, Lib.hid (HT4.out.below (Below.refl _ _).drew), HV4, Lib.hid HB4.out.drew⟩
          case measure => simp [intOf]; omega
      · obtain ⟨rfl, hcc⟩ := HC4.out rfl
        obtain ⟨q, rfl⟩ : ∃ q : Nat, x = (q : Int) := ⟨x.toNat, by omega⟩
        rw [Int.toNat_natCast] at hcc
        have hq : q < 4096 := by omega
        have hcg := cO_get (Bool.and_eq_true_iff.1 HGD.out).2
        have GT := Lib.hid (fun W (hb : Below w4.heap.size w4 W) => (hcg.2 ▸ hcg.1 ▸ hcc ▸ get20_any b1 C' q W (HT4.out.below hb) hq))
        have g4s : wr.heap.size < w4.heap.size := World.block_lt_of_cell? w4 _ y0
        have gbs : bs < w4.heap.size := World.block_lt_of_cell? w4 _ d4
        have KS := Lib.hid (fun W (hb : Below w4.heap.size w4 W) => (show W.cell? ⟨bs, os + k * 2, none⟩ = some (.int .i64 (q : Int)) ∧ W.cell? ⟨wr.heap.size, 0, none⟩ = some (.int .i64 v) ∧ W.cell? ⟨wr.heap.size, 1, none⟩ = some (.bool true) from ⟨(hb.cell (p := ⟨bs, os + k * 2, none⟩) gbs).trans d4, (hb.cell (p := ⟨wr.heap.size, 0, none⟩) g4s).trans y0, (hb.cell (p := ⟨wr.heap.size, 1, none⟩) g4s).trans y1⟩))
        have hS := KS.out _ (Below.refl _ _).drew
        have NE := fun w => neqCell20 v true w
        clear d4 y0 y1 hcg hcc
        go_wp2_with fail
        refine wp_region_held_drew (S := fun W => W.cell? ⟨bs, os + k * 2, none⟩ = some (.int .i64 (q : Int)) ∧ W.cell? ⟨wr.heap.size, 0, none⟩ = some (.int .i64 v) ∧ W.cell? ⟨wr.heap.size, 1, none⟩ = some (.bool true)) (by kernel_rfl) (hS) (fun _ => ?_)
        refine wpAnyH_take (i := 0) (v := ?_) rfl (by kernel_rfl) (by kernel_rfl) (by kernel_rfl) (fun _ _ _ h => h) (Or.inl ⟨by kernel_rfl, ?_⟩) hS ?_
        rotate_left
        · intro w hSw
          (try dsimp only at hSw)
          obtain ⟨q1, q2, q3⟩ := hSw
          go_simp
          try with_reducible rfl
        try dsimp only [Act.put, List.getElem?_toArray, List.getElem?_cons_succ, List.getElem?_cons_zero, List.getElem_toArray, List.getElem_cons_succ, List.getElem_cons_zero]
        try simp only [List.setIfInBounds_toArray, List.set_cons_zero, List.set_cons_succ]
        refine wpAnyH_take (i := 1) (v := ?_) rfl (by kernel_rfl) (by kernel_rfl) (by kernel_rfl) (fun _ _ _ h => h) (Or.inl ⟨by kernel_rfl, ?_⟩) hS ?_
        rotate_left
        · intro w hSw
          (try dsimp only at hSw)
          obtain ⟨q1, q2, q3⟩ := hSw
          go_simp
          try with_reducible rfl
        try dsimp only [Act.put, List.getElem?_toArray, List.getElem?_cons_succ, List.getElem?_cons_zero, List.getElem_toArray, List.getElem_cons_succ, List.getElem_cons_zero]
        try simp only [List.setIfInBounds_toArray, List.set_cons_zero, List.set_cons_succ]
        refine wpAnyH_take (i := 2) (v := ?_) rfl (by kernel_rfl) (by kernel_rfl) (by kernel_rfl) (fun _ _ _ h => h) (Or.inl ⟨by kernel_rfl, ?_⟩) hS ?_
        rotate_left
        · intro w hSw
          (try dsimp only at hSw)
          obtain ⟨q1, q2, q3⟩ := hSw
          go_simp
          try with_reducible rfl
        try dsimp only [Act.put, List.getElem?_toArray, List.getElem?_cons_succ, List.getElem?_cons_zero, List.getElem_toArray, List.getElem_cons_succ, List.getElem_cons_zero]
        try simp only [List.setIfInBounds_toArray, List.set_cons_zero, List.set_cons_succ]
        refine wpAnyH_take (i := 3) (v := ?_) rfl (by kernel_rfl) (by kernel_rfl) (by kernel_rfl) (fun _ _ _ h => h) (Or.inl ⟨by kernel_rfl, ?_⟩) hS ?_
        rotate_left
        · intro w hSw
          (try dsimp only at hSw)
          obtain ⟨q1, q2, q3⟩ := hSw
          go_simp
          try with_reducible rfl
        try dsimp only [Act.put, List.getElem?_toArray, List.getElem?_cons_succ, List.getElem?_cons_zero, List.getElem_toArray, List.getElem_cons_succ, List.getElem_cons_zero]
        try simp only [List.setIfInBounds_toArray, List.set_cons_zero, List.set_cons_succ]
        refine wpAnyH_take (i := 4) (v := ?_) rfl (by kernel_rfl) (by kernel_rfl) (by kernel_rfl) (fun _ _ _ h => h) (Or.inl ⟨by kernel_rfl, ?_⟩) hS ?_
        rotate_left
        · intro w hSw
          (try dsimp only at hSw)
          obtain ⟨q1, q2, q3⟩ := hSw
          go_simp
          try with_reducible rfl
        try dsimp only [Act.put, List.getElem?_toArray, List.getElem?_cons_succ, List.getElem?_cons_zero, List.getElem_toArray, List.getElem_cons_succ, List.getElem_cons_zero]
        try simp only [List.setIfInBounds_toArray, List.set_cons_zero, List.set_cons_succ]
        refine wpAnyH_take (i := 5) (v := ?_) rfl (by kernel_rfl) (by kernel_rfl) (by kernel_rfl) (fun _ _ _ h => h) (Or.inl ⟨by kernel_rfl, ?_⟩) hS ?_
        rotate_left
        · intro w hSw
          (try dsimp only at hSw)
          obtain ⟨q1, q2, q3⟩ := hSw
          go_simp
          try with_reducible rfl
        try dsimp only [Act.put, List.getElem?_toArray, List.getElem?_cons_succ, List.getElem?_cons_zero, List.getElem_toArray, List.getElem_cons_succ, List.getElem_cons_zero]
        try simp only [List.setIfInBounds_toArray, List.set_cons_zero, List.set_cons_succ]
        refine wpAnyH_take (i := 6) (v := ?_) rfl (by kernel_rfl) (by kernel_rfl) (by kernel_rfl) (fun _ _ _ h => h) (Or.inl ⟨by kernel_rfl, ?_⟩) hS ?_
        rotate_left
        · intro w hSw
          (try dsimp only at hSw)
          obtain ⟨q1, q2, q3⟩ := hSw
          go_simp
          try with_reducible rfl
        try dsimp only [Act.put, List.getElem?_toArray, List.getElem?_cons_succ, List.getElem?_cons_zero, List.getElem_toArray, List.getElem_cons_succ, List.getElem_cons_zero]
        try simp only [List.setIfInBounds_toArray, List.set_cons_zero, List.set_cons_succ]
        refine wpAnyH_take (i := 7) (v := ?_) rfl (by kernel_rfl) (by kernel_rfl) (by kernel_rfl) (fun _ _ _ h => h) (Or.inl ⟨by kernel_rfl, ?_⟩) hS ?_
        rotate_left
        · intro w hSw
          (try dsimp only at hSw)
          obtain ⟨q1, q2, q3⟩ := hSw
          go_simp
          try with_reducible rfl
        try dsimp only [Act.put, List.getElem?_toArray, List.getElem?_cons_succ, List.getElem?_cons_zero, List.getElem_toArray, List.getElem_cons_succ, List.getElem_cons_zero]
        try simp only [List.setIfInBounds_toArray, List.set_cons_zero, List.set_cons_succ]
        refine wpAnyH_take (i := 8) (v := undef) rfl (by kernel_rfl) (by kernel_rfl) (by kernel_rfl) (fun _ _ _ h => h) (Or.inr ⟨by kernel_rfl, rfl⟩) hS ?_
        try dsimp only [Act.put, List.getElem?_toArray, List.getElem?_cons_succ, List.getElem?_cons_zero, List.getElem_toArray, List.getElem_cons_succ, List.getElem_cons_zero]
        try simp only [List.setIfInBounds_toArray, List.set_cons_zero, List.set_cons_succ]
        refine wpAnyH_take (i := 9) (v := undef) rfl (by kernel_rfl) (by kernel_rfl) (by kernel_rfl) (fun _ _ _ h => h) (Or.inr ⟨by kernel_rfl, rfl⟩) hS ?_
        try dsimp only [Act.put, List.getElem?_toArray, List.getElem?_cons_succ, List.getElem?_cons_zero, List.getElem_toArray, List.getElem_cons_succ, List.getElem_cons_zero]
        try simp only [List.setIfInBounds_toArray, List.set_cons_zero, List.set_cons_succ]
        refine wpAnyH_take (i := 10) (v := ?_) rfl (by kernel_rfl) (by kernel_rfl) (by kernel_rfl) (fun _ _ _ h => h) (Or.inl ⟨by kernel_rfl, ?_⟩) hS ?_
        rotate_left
        · intro w hSw
          (try dsimp only at hSw)
          obtain ⟨q1, q2, q3⟩ := hSw
          go_simp
          try with_reducible rfl
        try dsimp only [Act.put, List.getElem?_toArray, List.getElem?_cons_succ, List.getElem?_cons_zero, List.getElem_toArray, List.getElem_cons_succ, List.getElem_cons_zero]
        try simp only [List.setIfInBounds_toArray, List.set_cons_zero, List.set_cons_succ]
        refine wpAnyH_take (i := 11) (v := ?_) rfl (by kernel_rfl) (by kernel_rfl) (by kernel_rfl) (fun _ _ _ h => h) (Or.inl ⟨by kernel_rfl, ?_⟩) hS ?_
        rotate_left
        · intro w hSw
          (try dsimp only at hSw)
          obtain ⟨q1, q2, q3⟩ := hSw
          go_simp
          try with_reducible rfl
        try dsimp only [Act.put, List.getElem?_toArray, List.getElem?_cons_succ, List.getElem?_cons_zero, List.getElem_toArray, List.getElem_cons_succ, List.getElem_cons_zero]
        try simp only [List.setIfInBounds_toArray, List.set_cons_zero, List.set_cons_succ]
        refine wpAnyH_take (i := 12) (v := ?_) rfl (by kernel_rfl) (by kernel_rfl) (by kernel_rfl) (fun _ _ _ h => h) (Or.inl ⟨by kernel_rfl, ?_⟩) hS ?_
        rotate_left
        · intro w hSw
          (try dsimp only at hSw)
          obtain ⟨q1, q2, q3⟩ := hSw
          go_simp
          try with_reducible rfl
        try dsimp only [Act.put, List.getElem?_toArray, List.getElem?_cons_succ, List.getElem?_cons_zero, List.getElem_toArray, List.getElem_cons_succ, List.getElem_cons_zero]
        try simp only [List.setIfInBounds_toArray, List.set_cons_zero, List.set_cons_succ]
        refine wpAnyH_take (i := 13) (v := ?_) rfl (by kernel_rfl) (by kernel_rfl) (by kernel_rfl) (fun _ _ _ h => h) (Or.inl ⟨by kernel_rfl, ?_⟩) hS ?_
        rotate_left
        · intro w hSw
          (try dsimp only at hSw)
          obtain ⟨q1, q2, q3⟩ := hSw
          go_simp
          try with_reducible rfl
        try dsimp only [Act.put, List.getElem?_toArray, List.getElem?_cons_succ, List.getElem?_cons_zero, List.getElem_toArray, List.getElem_cons_succ, List.getElem_cons_zero]
        try simp only [List.setIfInBounds_toArray, List.set_cons_zero, List.set_cons_succ]
        refine wpAnyH_take (i := 14) (v := ?_) rfl (by kernel_rfl) (by kernel_rfl) (by kernel_rfl) (fun _ _ _ h => h) (Or.inl ⟨by kernel_rfl, ?_⟩) hS ?_
        rotate_left
        · intro w hSw
          (try dsimp only at hSw)
          obtain ⟨q1, q2, q3⟩ := hSw
          go_simp
          try with_reducible rfl
        try dsimp only [Act.put, List.getElem?_toArray, List.getElem?_cons_succ, List.getElem?_cons_zero, List.getElem_toArray, List.getElem_cons_succ, List.getElem_cons_zero]
        try simp only [List.setIfInBounds_toArray, List.set_cons_zero, List.set_cons_succ]
        refine wpAnyH_take (i := 15) (v := ?_) rfl (by kernel_rfl) (by kernel_rfl) (by kernel_rfl) (fun _ _ _ h => h) (Or.inl ⟨by kernel_rfl, ?_⟩) hS ?_
        rotate_left
        · intro w hSw
          (try dsimp only at hSw)
          obtain ⟨q1, q2, q3⟩ := hSw
          go_simp
          try with_reducible rfl
        try dsimp only [Act.put, List.getElem?_toArray, List.getElem?_cons_succ, List.getElem?_cons_zero, List.getElem_toArray, List.getElem_cons_succ, List.getElem_cons_zero]
        try simp only [List.setIfInBounds_toArray, List.set_cons_zero, List.set_cons_succ]
        refine wpAnyH_take (i := 16) (v := ?_) rfl (by kernel_rfl) (by kernel_rfl) (by kernel_rfl) (fun _ _ _ h => h) (Or.inl ⟨by kernel_rfl, ?_⟩) hS ?_
        rotate_left
        · intro w hSw
          (try dsimp only at hSw)
          obtain ⟨q1, q2, q3⟩ := hSw
          go_simp
          try with_reducible rfl
        try dsimp only [Act.put, List.getElem?_toArray, List.getElem?_cons_succ, List.getElem?_cons_zero, List.getElem_toArray, List.getElem_cons_succ, List.getElem_cons_zero]
        try simp only [List.setIfInBounds_toArray, List.set_cons_zero, List.set_cons_succ]
        refine wpAnyH_take (i := 17) (v := ?_) rfl (by kernel_rfl) (by kernel_rfl) (by kernel_rfl) (fun _ _ _ h => h) (Or.inl ⟨by kernel_rfl, ?_⟩) hS ?_
        rotate_left
        · intro w hSw
          (try dsimp only at hSw)
          obtain ⟨q1, q2, q3⟩ := hSw
          go_simp
          try with_reducible rfl
        try dsimp only [Act.put, List.getElem?_toArray, List.getElem?_cons_succ, List.getElem?_cons_zero, List.getElem_toArray, List.getElem_cons_succ, List.getElem_cons_zero]
        try simp only [List.setIfInBounds_toArray, List.set_cons_zero, List.set_cons_succ]
        refine wpAnyH_take (i := 18) (v := ?_) rfl (by kernel_rfl) (by kernel_rfl) (by kernel_rfl) (fun _ _ _ h => h) (Or.inl ⟨by kernel_rfl, ?_⟩) hS ?_
        rotate_left
        · intro w hSw
          (try dsimp only at hSw)
          obtain ⟨q1, q2, q3⟩ := hSw
          go_simp
          try with_reducible rfl
        try dsimp only [Act.put, List.getElem?_toArray, List.getElem?_cons_succ, List.getElem?_cons_zero, List.getElem_toArray, List.getElem_cons_succ, List.getElem_cons_zero]
        try simp only [List.setIfInBounds_toArray, List.set_cons_zero, List.set_cons_succ]
        refine wpAnyH_take (i := 19) (v := ?_) rfl (by kernel_rfl) (by kernel_rfl) (by kernel_rfl) (fun _ _ _ h => h) (Or.inl ⟨by kernel_rfl, ?_⟩) hS ?_
        rotate_left
        · intro w hSw
          (try dsimp only at hSw)
          obtain ⟨q1, q2, q3⟩ := hSw
          go_simp
          try with_reducible rfl
        try dsimp only [Act.put, List.getElem?_toArray, List.getElem?_cons_succ, List.getElem?_cons_zero, List.getElem_toArray, List.getElem_cons_succ, List.getElem_cons_zero]
        try simp only [List.setIfInBounds_toArray, List.set_cons_zero, List.set_cons_succ]
        refine wpAnyH_take (i := 20) (v := ?_) rfl (by kernel_rfl) (by kernel_rfl) (by kernel_rfl) (fun _ _ _ h => h) (Or.inl ⟨by kernel_rfl, ?_⟩) hS ?_
        rotate_left
        · intro w hSw
          (try dsimp only at hSw)
          obtain ⟨q1, q2, q3⟩ := hSw
          go_simp
          try with_reducible rfl
        try dsimp only [Act.put, List.getElem?_toArray, List.getElem?_cons_succ, List.getElem?_cons_zero, List.getElem_toArray, List.getElem_cons_succ, List.getElem_cons_zero]
        try simp only [List.setIfInBounds_toArray, List.set_cons_zero, List.set_cons_succ]
        refine wpAnyH_take (i := 22) (v := ?_) rfl (by kernel_rfl) (by kernel_rfl) (by kernel_rfl) (fun _ _ _ h => h) (Or.inl ⟨by kernel_rfl, ?_⟩) hS ?_
        rotate_left
        · intro w hSw
          (try dsimp only at hSw)
          obtain ⟨q1, q2, q3⟩ := hSw
          go_simp
          try with_reducible rfl
        try dsimp only [Act.put, List.getElem?_toArray, List.getElem?_cons_succ, List.getElem?_cons_zero, List.getElem_toArray, List.getElem_cons_succ, List.getElem_cons_zero]
        try simp only [List.setIfInBounds_toArray, List.set_cons_zero, List.set_cons_succ]
        refine wpAnyH_ready (rs := [21]) (by kernel_rfl) (by simp) (AllReadyH.cons rfl (fun K hK => ?_) AllReadyH.nil)
        go_simp
        go_wp2_with (go_at_call 22; (with_reducible refine (GT.out _ ((Below.refl _ _).drew)).mono ?_); rintro e w5 ⟨rfl, hb5⟩)
        have hb45 := below_next ((Below.refl w4.heap.size w4).drew) hb5
        have hS5 := KS.out _ hb45
        refine hK.out _ _ (hS5) (fun _ => ?_)
        clear hK K hS
        try dsimp only [Act.put, List.getElem?_toArray, List.getElem?_cons_succ, List.getElem?_cons_zero, List.getElem_toArray, List.getElem_cons_succ, List.getElem_cons_zero]
        try simp only [List.setIfInBounds_toArray, List.set_cons_zero, List.set_cons_succ]
        refine wpAnyH_take (i := 23) (v := ?_) rfl (by kernel_rfl) (by kernel_rfl) (by kernel_rfl) (fun _ _ _ h => h) (Or.inl ⟨by kernel_rfl, ?_⟩) hS5 ?_
        rotate_left
        · intro w hSw
          (try dsimp only at hSw)
          obtain ⟨q1, q2, q3⟩ := hSw
          go_simp
          try with_reducible rfl
        try dsimp only [Act.put, List.getElem?_toArray, List.getElem?_cons_succ, List.getElem?_cons_zero, List.getElem_toArray, List.getElem_cons_succ, List.getElem_cons_zero]
        try simp only [List.setIfInBounds_toArray, List.set_cons_zero, List.set_cons_succ]
        refine wpAnyH_take (i := 24) (v := ?_) rfl (by kernel_rfl) (by kernel_rfl) (by kernel_rfl) (fun _ _ _ h => h) (Or.inl ⟨by kernel_rfl, ?_⟩) hS5 ?_
        rotate_left
        · intro w hSw
          (try dsimp only at hSw)
          obtain ⟨q1, q2, q3⟩ := hSw
          go_simp
          try with_reducible rfl
        try dsimp only [Act.put, List.getElem?_toArray, List.getElem?_cons_succ, List.getElem?_cons_zero, List.getElem_toArray, List.getElem_cons_succ, List.getElem_cons_zero]
        try simp only [List.setIfInBounds_toArray, List.set_cons_zero, List.set_cons_succ]
        refine wpAnyH_take (i := 25) (v := ?_) rfl (by kernel_rfl) (by kernel_rfl) (by kernel_rfl) (fun _ _ _ h => h) (Or.inl ⟨by kernel_rfl, ?_⟩) hS5 ?_
        rotate_left
        · intro w hSw
          (try dsimp only at hSw)
          obtain ⟨q1, q2, q3⟩ := hSw
          go_simp
          try with_reducible rfl
        try dsimp only [Act.put, List.getElem?_toArray, List.getElem?_cons_succ, List.getElem?_cons_zero, List.getElem_toArray, List.getElem_cons_succ, List.getElem_cons_zero]
        try simp only [List.setIfInBounds_toArray, List.set_cons_zero, List.set_cons_succ]
        refine wpAnyH_done (by kernel_rfl) ?_ _
        go_wp2_with fail
        go_roundw
        case rel => exact ⟨k + 1, C', by go_num, Lib.hid (HT4.out.below hb45), HV4, Lib.hid (HB4.out.trans (hb45.mono HB4.out.size))⟩
        case measure => simp [intOf]; omega
      · obtain ⟨rfl, hcc⟩ := HC4.out rfl
        obtain ⟨q, rfl⟩ : ∃ q : Nat, x = (q : Int) := ⟨x.toNat, by omega⟩
        rw [Int.toNat_natCast] at hcc
        have hq : q < 4096 := by omega
        have hcg := cO_get (Bool.and_eq_true_iff.1 HGD.out).2
        have GT := Lib.hid (fun W (hb : Below w4.heap.size w4 W) => (hcg.2 ▸ hcg.1 ▸ hcc ▸ get20_any b1 C' q W (HT4.out.below hb) hq))
        have g4s : wr.heap.size < w4.heap.size := World.block_lt_of_cell? w4 _ y0
        have gbs : bs < w4.heap.size := World.block_lt_of_cell? w4 _ d4
        have KS := Lib.hid (fun W (hb : Below w4.heap.size w4 W) => (show W.cell? ⟨bs, os + k * 2, none⟩ = some (.int .i64 (q : Int)) ∧ W.cell? ⟨wr.heap.size, 0, none⟩ = some (.int .i64 0) ∧ W.cell? ⟨wr.heap.size, 1, none⟩ = some (.bool false) from ⟨(hb.cell (p := ⟨bs, os + k * 2, none⟩) gbs).trans d4, (hb.cell (p := ⟨wr.heap.size, 0, none⟩) g4s).trans y0, (hb.cell (p := ⟨wr.heap.size, 1, none⟩) g4s).trans y1⟩))
        have hS := KS.out _ (Below.refl _ _).drew
        have NE := fun w => neqCell20 0 false w
        clear d4 y0 y1 hcg hcc
        go_wp2_with fail
        refine wp_region_held_drew (S := fun W => W.cell? ⟨bs, os + k * 2, none⟩ = some (.int .i64 (q : Int)) ∧ W.cell? ⟨wr.heap.size, 0, none⟩ = some (.int .i64 0) ∧ W.cell? ⟨wr.heap.size, 1, none⟩ = some (.bool false)) (by kernel_rfl) (hS) (fun _ => ?_)
        refine wpAnyH_take (i := 0) (v := ?_) rfl (by kernel_rfl) (by kernel_rfl) (by kernel_rfl) (fun _ _ _ h => h) (Or.inl ⟨by kernel_rfl, ?_⟩) hS ?_
        rotate_left
        · intro w hSw
          (try dsimp only at hSw)
          obtain ⟨q1, q2, q3⟩ := hSw
          go_simp
          try with_reducible rfl
        try dsimp only [Act.put, List.getElem?_toArray, List.getElem?_cons_succ, List.getElem?_cons_zero, List.getElem_toArray, List.getElem_cons_succ, List.getElem_cons_zero]
        try simp only [List.setIfInBounds_toArray, List.set_cons_zero, List.set_cons_succ]
        refine wpAnyH_take (i := 1) (v := ?_) rfl (by kernel_rfl) (by kernel_rfl) (by kernel_rfl) (fun _ _ _ h => h) (Or.inl ⟨by kernel_rfl, ?_⟩) hS ?_
        rotate_left
        · intro w hSw
          (try dsimp only at hSw)
          obtain ⟨q1, q2, q3⟩ := hSw
          go_simp
          try with_reducible rfl
        try dsimp only [Act.put, List.getElem?_toArray, List.getElem?_cons_succ, List.getElem?_cons_zero, List.getElem_toArray, List.getElem_cons_succ, List.getElem_cons_zero]
        try simp only [List.setIfInBounds_toArray, List.set_cons_zero, List.set_cons_succ]
        refine wpAnyH_take (i := 2) (v := ?_) rfl (by kernel_rfl) (by kernel_rfl) (by kernel_rfl) (fun _ _ _ h => h) (Or.inl ⟨by kernel_rfl, ?_⟩) hS ?_
        rotate_left
        · intro w hSw
          (try dsimp only at hSw)
          obtain ⟨q1, q2, q3⟩ := hSw
          go_simp
          try with_reducible rfl
        try dsimp only [Act.put, List.getElem?_toArray, List.getElem?_cons_succ, List.getElem?_cons_zero, List.getElem_toArray, List.getElem_cons_succ, List.getElem_cons_zero]
        try simp only [List.setIfInBounds_toArray, List.set_cons_zero, List.set_cons_succ]
        refine wpAnyH_take (i := 3) (v := ?_) rfl (by kernel_rfl) (by kernel_rfl) (by kernel_rfl) (fun _ _ _ h => h) (Or.inl ⟨by kernel_rfl, ?_⟩) hS ?_
        rotate_left
        · intro w hSw
          (try dsimp only at hSw)
          obtain ⟨q1, q2, q3⟩ := hSw
          go_simp
          try with_reducible rfl
        try dsimp only [Act.put, List.getElem?_toArray, List.getElem?_cons_succ, List.getElem?_cons_zero, List.getElem_toArray, List.getElem_cons_succ, List.getElem_cons_zero]
        try simp only [List.setIfInBounds_toArray, List.set_cons_zero, List.set_cons_succ]
        refine wpAnyH_take (i := 4) (v := ?_) rfl (by kernel_rfl) (by kernel_rfl) (by kernel_rfl) (fun _ _ _ h => h) (Or.inl ⟨by kernel_rfl, ?_⟩) hS ?_
        rotate_left
        · intro w hSw
          (try dsimp only at hSw)
          obtain ⟨q1, q2, q3⟩ := hSw
          go_simp
          try with_reducible rfl
        try dsimp only [Act.put, List.getElem?_toArray, List.getElem?_cons_succ, List.getElem?_cons_zero, List.getElem_toArray, List.getElem_cons_succ, List.getElem_cons_zero]
        try simp only [List.setIfInBounds_toArray, List.set_cons_zero, List.set_cons_succ]
        refine wpAnyH_take (i := 5) (v := ?_) rfl (by kernel_rfl) (by kernel_rfl) (by kernel_rfl) (fun _ _ _ h => h) (Or.inl ⟨by kernel_rfl, ?_⟩) hS ?_
        rotate_left
        · intro w hSw
          (try dsimp only at hSw)
          obtain ⟨q1, q2, q3⟩ := hSw
          go_simp
          try with_reducible rfl
        try dsimp only [Act.put, List.getElem?_toArray, List.getElem?_cons_succ, List.getElem?_cons_zero, List.getElem_toArray, List.getElem_cons_succ, List.getElem_cons_zero]
        try simp only [List.setIfInBounds_toArray, List.set_cons_zero, List.set_cons_succ]
        refine wpAnyH_take (i := 6) (v := ?_) rfl (by kernel_rfl) (by kernel_rfl) (by kernel_rfl) (fun _ _ _ h => h) (Or.inl ⟨by kernel_rfl, ?_⟩) hS ?_
        rotate_left
        · intro w hSw
          (try dsimp only at hSw)
          obtain ⟨q1, q2, q3⟩ := hSw
          go_simp
          try with_reducible rfl
        try dsimp only [Act.put, List.getElem?_toArray, List.getElem?_cons_succ, List.getElem?_cons_zero, List.getElem_toArray, List.getElem_cons_succ, List.getElem_cons_zero]
        try simp only [List.setIfInBounds_toArray, List.set_cons_zero, List.set_cons_succ]
        refine wpAnyH_take (i := 7) (v := ?_) rfl (by kernel_rfl) (by kernel_rfl) (by kernel_rfl) (fun _ _ _ h => h) (Or.inl ⟨by kernel_rfl, ?_⟩) hS ?_
        rotate_left
        · intro w hSw
          (try dsimp only at hSw)
          obtain ⟨q1, q2, q3⟩ := hSw
          go_simp
          try with_reducible rfl
        try dsimp only [Act.put, List.getElem?_toArray, List.getElem?_cons_succ, List.getElem?_cons_zero, List.getElem_toArray, List.getElem_cons_succ, List.getElem_cons_zero]
        try simp only [List.setIfInBounds_toArray, List.set_cons_zero, List.set_cons_succ]
        refine wpAnyH_take (i := 8) (v := undef) rfl (by kernel_rfl) (by kernel_rfl) (by kernel_rfl) (fun _ _ _ h => h) (Or.inr ⟨by kernel_rfl, rfl⟩) hS ?_
        try dsimp only [Act.put, List.getElem?_toArray, List.getElem?_cons_succ, List.getElem?_cons_zero, List.getElem_toArray, List.getElem_cons_succ, List.getElem_cons_zero]
        try simp only [List.setIfInBounds_toArray, List.set_cons_zero, List.set_cons_succ]
        refine wpAnyH_take (i := 9) (v := undef) rfl (by kernel_rfl) (by kernel_rfl) (by kernel_rfl) (fun _ _ _ h => h) (Or.inr ⟨by kernel_rfl, rfl⟩) hS ?_
        try dsimp only [Act.put, List.getElem?_toArray, List.getElem?_cons_succ, List.getElem?_cons_zero, List.getElem_toArray, List.getElem_cons_succ, List.getElem_cons_zero]
        try simp only [List.setIfInBounds_toArray, List.set_cons_zero, List.set_cons_succ]
        refine wpAnyH_take (i := 10) (v := ?_) rfl (by kernel_rfl) (by kernel_rfl) (by kernel_rfl) (fun _ _ _ h => h) (Or.inl ⟨by kernel_rfl, ?_⟩) hS ?_
        rotate_left
        · intro w hSw
          (try dsimp only at hSw)
          obtain ⟨q1, q2, q3⟩ := hSw
          go_simp
          try with_reducible rfl
        try dsimp only [Act.put, List.getElem?_toArray, List.getElem?_cons_succ, List.getElem?_cons_zero, List.getElem_toArray, List.getElem_cons_succ, List.getElem_cons_zero]
        try simp only [List.setIfInBounds_toArray, List.set_cons_zero, List.set_cons_succ]
        refine wpAnyH_take (i := 11) (v := ?_) rfl (by kernel_rfl) (by kernel_rfl) (by kernel_rfl) (fun _ _ _ h => h) (Or.inl ⟨by kernel_rfl, ?_⟩) hS ?_
        rotate_left
        · intro w hSw
          (try dsimp only at hSw)
          obtain ⟨q1, q2, q3⟩ := hSw
          go_simp
          try with_reducible rfl
        try dsimp only [Act.put, List.getElem?_toArray, List.getElem?_cons_succ, List.getElem?_cons_zero, List.getElem_toArray, List.getElem_cons_succ, List.getElem_cons_zero]
        try simp only [List.setIfInBounds_toArray, List.set_cons_zero, List.set_cons_succ]
        refine wpAnyH_take (i := 12) (v := ?_) rfl (by kernel_rfl) (by kernel_rfl) (by kernel_rfl) (fun _ _ _ h => h) (Or.inl ⟨by kernel_rfl, ?_⟩) hS ?_
        rotate_left
        · intro w hSw
          (try dsimp only at hSw)
          obtain ⟨q1, q2, q3⟩ := hSw
          go_simp
          try with_reducible rfl
        try dsimp only [Act.put, List.getElem?_toArray, List.getElem?_cons_succ, List.getElem?_cons_zero, List.getElem_toArray, List.getElem_cons_succ, List.getElem_cons_zero]
        try simp only [List.setIfInBounds_toArray, List.set_cons_zero, List.set_cons_succ]
        refine wpAnyH_take (i := 13) (v := ?_) rfl (by kernel_rfl) (by kernel_rfl) (by kernel_rfl) (fun _ _ _ h => h) (Or.inl ⟨by kernel_rfl, ?_⟩) hS ?_
        rotate_left
        · intro w hSw
          (try dsimp only at hSw)
          obtain ⟨q1, q2, q3⟩ := hSw
          go_simp
          try with_reducible rfl
        try dsimp only [Act.put, List.getElem?_toArray, List.getElem?_cons_succ, List.getElem?_cons_zero, List.getElem_toArray, List.getElem_cons_succ, List.getElem_cons_zero]
        try simp only [List.setIfInBounds_toArray, List.set_cons_zero, List.set_cons_succ]
        refine wpAnyH_take (i := 14) (v := ?_) rfl (by kernel_rfl) (by kernel_rfl) (by kernel_rfl) (fun _ _ _ h => h) (Or.inl ⟨by kernel_rfl, ?_⟩) hS ?_
        rotate_left
        · intro w hSw
          (try dsimp only at hSw)
          obtain ⟨q1, q2, q3⟩ := hSw
          go_simp
          try with_reducible rfl
        try dsimp only [Act.put, List.getElem?_toArray, List.getElem?_cons_succ, List.getElem?_cons_zero, List.getElem_toArray, List.getElem_cons_succ, List.getElem_cons_zero]
        try simp only [List.setIfInBounds_toArray, List.set_cons_zero, List.set_cons_succ]
        refine wpAnyH_take (i := 15) (v := ?_) rfl (by kernel_rfl) (by kernel_rfl) (by kernel_rfl) (fun _ _ _ h => h) (Or.inl ⟨by kernel_rfl, ?_⟩) hS ?_
        rotate_left
        · intro w hSw
          (try dsimp only at hSw)
          obtain ⟨q1, q2, q3⟩ := hSw
          go_simp
          try with_reducible rfl
        try dsimp only [Act.put, List.getElem?_toArray, List.getElem?_cons_succ, List.getElem?_cons_zero, List.getElem_toArray, List.getElem_cons_succ, List.getElem_cons_zero]
        try simp only [List.setIfInBounds_toArray, List.set_cons_zero, List.set_cons_succ]
        refine wpAnyH_take (i := 16) (v := ?_) rfl (by kernel_rfl) (by kernel_rfl) (by kernel_rfl) (fun _ _ _ h => h) (Or.inl ⟨by kernel_rfl, ?_⟩) hS ?_
        rotate_left
        · intro w hSw
          (try dsimp only at hSw)
          obtain ⟨q1, q2, q3⟩ := hSw
          go_simp
          try with_reducible rfl
        try dsimp only [Act.put, List.getElem?_toArray, List.getElem?_cons_succ, List.getElem?_cons_zero, List.getElem_toArray, List.getElem_cons_succ, List.getElem_cons_zero]
        try simp only [List.setIfInBounds_toArray, List.set_cons_zero, List.set_cons_succ]
        refine wpAnyH_take (i := 17) (v := ?_) rfl (by kernel_rfl) (by kernel_rfl) (by kernel_rfl) (fun _ _ _ h => h) (Or.inl ⟨by kernel_rfl, ?_⟩) hS ?_
        rotate_left
        · intro w hSw
          (try dsimp only at hSw)
          obtain ⟨q1, q2, q3⟩ := hSw
          go_simp
          try with_reducible rfl
        try dsimp only [Act.put, List.getElem?_toArray, List.getElem?_cons_succ, List.getElem?_cons_zero, List.getElem_toArray, List.getElem_cons_succ, List.getElem_cons_zero]
        try simp only [List.setIfInBounds_toArray, List.set_cons_zero, List.set_cons_succ]
        refine wpAnyH_take (i := 18) (v := ?_) rfl (by kernel_rfl) (by kernel_rfl) (by kernel_rfl) (fun _ _ _ h => h) (Or.inl ⟨by kernel_rfl, ?_⟩) hS ?_
        rotate_left
        · intro w hSw
          (try dsimp only at hSw)
          obtain ⟨q1, q2, q3⟩ := hSw
          go_simp
          try with_reducible rfl
        try dsimp only [Act.put, List.getElem?_toArray, List.getElem?_cons_succ, List.getElem?_cons_zero, List.getElem_toArray, List.getElem_cons_succ, List.getElem_cons_zero]
        try simp only [List.setIfInBounds_toArray, List.set_cons_zero, List.set_cons_succ]
        refine wpAnyH_take (i := 19) (v := ?_) rfl (by kernel_rfl) (by kernel_rfl) (by kernel_rfl) (fun _ _ _ h => h) (Or.inl ⟨by kernel_rfl, ?_⟩) hS ?_
        rotate_left
        · intro w hSw
          (try dsimp only at hSw)
          obtain ⟨q1, q2, q3⟩ := hSw
          go_simp
          try with_reducible rfl
        try dsimp only [Act.put, List.getElem?_toArray, List.getElem?_cons_succ, List.getElem?_cons_zero, List.getElem_toArray, List.getElem_cons_succ, List.getElem_cons_zero]
        try simp only [List.setIfInBounds_toArray, List.set_cons_zero, List.set_cons_succ]
        refine wpAnyH_take (i := 20) (v := ?_) rfl (by kernel_rfl) (by kernel_rfl) (by kernel_rfl) (fun _ _ _ h => h) (Or.inl ⟨by kernel_rfl, ?_⟩) hS ?_
        rotate_left
        · intro w hSw
          (try dsimp only at hSw)
          obtain ⟨q1, q2, q3⟩ := hSw
          go_simp
          try with_reducible rfl
        try dsimp only [Act.put, List.getElem?_toArray, List.getElem?_cons_succ, List.getElem?_cons_zero, List.getElem_toArray, List.getElem_cons_succ, List.getElem_cons_zero]
        try simp only [List.setIfInBounds_toArray, List.set_cons_zero, List.set_cons_succ]
        refine wpAnyH_take (i := 22) (v := ?_) rfl (by kernel_rfl) (by kernel_rfl) (by kernel_rfl) (fun _ _ _ h => h) (Or.inl ⟨by kernel_rfl, ?_⟩) hS ?_
        rotate_left
        · intro w hSw
          (try dsimp only at hSw)
          obtain ⟨q1, q2, q3⟩ := hSw
          go_simp
          try with_reducible rfl
        try dsimp only [Act.put, List.getElem?_toArray, List.getElem?_cons_succ, List.getElem?_cons_zero, List.getElem_toArray, List.getElem_cons_succ, List.getElem_cons_zero]
        try simp only [List.setIfInBounds_toArray, List.set_cons_zero, List.set_cons_succ]
        refine wpAnyH_ready (rs := [21]) (by kernel_rfl) (by simp) (AllReadyH.cons rfl (fun K hK => ?_) AllReadyH.nil)
        go_simp
        go_wp2_with (go_at_call 22; (with_reducible refine (GT.out _ ((Below.refl _ _).drew)).mono ?_); rintro e w5 ⟨rfl, hb5⟩)
        have hb45 := below_next ((Below.refl w4.heap.size w4).drew) hb5
        have hS5 := KS.out _ hb45
        refine hK.out _ _ (hS5) (fun _ => ?_)
        clear hK K hS
        try dsimp only [Act.put, List.getElem?_toArray, List.getElem?_cons_succ, List.getElem?_cons_zero, List.getElem_toArray, List.getElem_cons_succ, List.getElem_cons_zero]
        try simp only [List.setIfInBounds_toArray, List.set_cons_zero, List.set_cons_succ]
        refine wpAnyH_take (i := 23) (v := ?_) rfl (by kernel_rfl) (by kernel_rfl) (by kernel_rfl) (fun _ _ _ h => h) (Or.inl ⟨by kernel_rfl, ?_⟩) hS5 ?_
        rotate_left
        · intro w hSw
          (try dsimp only at hSw)
          obtain ⟨q1, q2, q3⟩ := hSw
          go_simp
          try with_reducible rfl
        try dsimp only [Act.put, List.getElem?_toArray, List.getElem?_cons_succ, List.getElem?_cons_zero, List.getElem_toArray, List.getElem_cons_succ, List.getElem_cons_zero]
        try simp only [List.setIfInBounds_toArray, List.set_cons_zero, List.set_cons_succ]
        refine wpAnyH_take (i := 24) (v := ?_) rfl (by kernel_rfl) (by kernel_rfl) (by kernel_rfl) (fun _ _ _ h => h) (Or.inl ⟨by kernel_rfl, ?_⟩) hS5 ?_
        rotate_left
        · intro w hSw
          (try dsimp only at hSw)
          obtain ⟨q1, q2, q3⟩ := hSw
          go_simp
          try with_reducible rfl
        try dsimp only [Act.put, List.getElem?_toArray, List.getElem?_cons_succ, List.getElem?_cons_zero, List.getElem_toArray, List.getElem_cons_succ, List.getElem_cons_zero]
        try simp only [List.setIfInBounds_toArray, List.set_cons_zero, List.set_cons_succ]
        refine wpAnyH_take (i := 25) (v := ?_) rfl (by kernel_rfl) (by kernel_rfl) (by kernel_rfl) (fun _ _ _ h => h) (Or.inl ⟨by kernel_rfl, ?_⟩) hS5 ?_
        rotate_left
        · intro w hSw
          (try dsimp only at hSw)
          obtain ⟨q1, q2, q3⟩ := hSw
          go_simp
          try with_reducible rfl
        try dsimp only [Act.put, List.getElem?_toArray, List.getElem?_cons_succ, List.getElem?_cons_zero, List.getElem_toArray, List.getElem_cons_succ, List.getElem_cons_zero]
        try simp only [List.setIfInBounds_toArray, List.set_cons_zero, List.set_cons_succ]
        refine wpAnyH_done (by kernel_rfl) ?_ _
        go_wp2_with fail
        go_roundw
        case rel => exact ⟨k + 1, C', by go_num, Lib.hid (HT4.out.below hb45), HV4, Lib.hid (HB4.out.trans (hb45.mono HB4.out.size))⟩
        case measure => simp [intOf]; omega
    · have HTB := Lib.hid (table20_any b1 C wr HT.out)
      have hnot : ¬ ((k : Int) < (l2.length : Int)) ∨ ((k : Int) < (l2.length : Int)) ∧ ¬ ((k : Int) < 20) ∨ ((k : Int) < (l2.length : Int)) ∧ ((k : Int) < 20) ∧ ¬ ((k : Int) < (l3.length : Int)) := by omega
      have HLT := Lib.hid hlt
      clear hlt
      rcases hnot with u1 | ⟨u1, u2⟩ | ⟨u1, u2, u3⟩
      all_goals
        go_wp2_with (first | (go_at_call 23; (with_reducible refine HTB.out.mono ?_); rintro e w5 ⟨v5, rfl, o5, hb5⟩; obtain ⟨a5, m5, k5, rfl, r5⟩ := OwnsR.argN encP_len o5; clear o5) | fail)
        have NW5 := Lib.hid (new_ok a5 m5 k5 (tabL C 4096) w5 r5 (tabL_good HV.out))
        rw [tabC_back HV.out] at NW5
        go_wp2_with (first | (go_at_call 14; (with_reducible refine NW5.out.mono ?_); rintro e w6 ⟨b6, rfl, t6, _, hb6⟩) | fail)
        have T1 := Lib.hid (HT.out.below (below_next hb5 hb6))
        have T6 := Lib.hid t6
        have R6 := Lib.hid (r5.below hb6)
        have HB6 := Lib.hid (HB.out.trans ((below_next hb5 hb6).mono HB.out.size))
        clear t6 r5 hb5 hb6
        obtain ⟨rt, hrt⟩ : ∃ rt, regI (lvN C 3 0) = rt := ⟨_, rfl⟩
        have RA := Lib.hid (fun W (hb : Below w6.heap.size w6 W) => hrt ▸ root20_any b1 _ W (T1.out.below hb))
        have RB := Lib.hid (fun W (hb : Below w6.heap.size w6 W) => hrt ▸ root20_any b6 _ W (T6.out.below hb))
        have P1 := Lib.hid (show TrP w6 (.pointer (some ⟨b1, 0, none⟩)) C from .inr ⟨b1, rfl, T1.out⟩)
        have P6 := Lib.hid (show TrP w6 (.pointer (some ⟨b6, 0, none⟩)) C from .inr ⟨b6, rfl, T6.out⟩)
        have DN := Lib.hid (diff_none _ _ C w6 P1.out P6.out)
        have HRT := Lib.hid hrt
        clear hrt
        go_wp2_with (first | (go_at_call 20; (with_reducible refine (RB.out _ (Below.refl _ _)).mono ?_); rintro e w7 ⟨rfl, rfl⟩) | (go_at_call 20; (with_reducible refine (RA.out _ (Below.refl _ _)).mono ?_); rintro e w7 ⟨rfl, rfl⟩) | (go_at_call 24; (with_reducible refine DN.out.mono ?_); rintro e w7 ⟨a7, k7, rfl, hb7⟩) | fail)
        have HB7 := Lib.hid (HB6.out.trans (hb7.mono HB6.out.size))
        have T17 := Lib.hid (T1.out.below hb7)
        have T67 := Lib.hid (T6.out.below hb7)
        have R7 := Lib.hid (R6.out.below hb7)
        have RA7 := Lib.hid (fun W (hb : Below w7.heap.size w7 W) => RA.out W (below_next hb7 hb))
        clear hb7
        go_loopw [16] (fun i wq => ∃ j : Nat, i = .int .i64 (j : Int) ∧ j ≤ 20 ∧ Hid (Below w7.heap.size w7 wq))
          (fun i _ => 20 - (intOf i).toNat)
        case atStart => exact ⟨0, rfl, by omega, Lib.hid (Below.refl _ _)⟩
        case round =>
          obtain ⟨j, rfl, hj, HQ⟩ := hrel
          by_cases hjt : j < l2.length ∧ j < 20
          · obtain ⟨hj2, hj20⟩ := hjt
            have i2 : (j : Int) < (l2.length : Int) := by omega
            have i20 : (j : Int) < 20 := by omega
            obtain ⟨bs, os, e2, _, d0, d1⟩ := ((HL2.out.below HB7.out).below HQ.out).prs hj2
            subst e2
            generalize l2[j]! = sk at d0 d1
            obtain ⟨x, y⟩ := sk
            dsimp only at d0
            have L1 := Lib.hid (leaf_all b1 C x _ (T17.out.below HQ.out))
            have L6 := Lib.hid (leaf_all b6 C x _ (T67.out.below HQ.out))
            obtain ⟨⟨p1, p2⟩, hp⟩ : ∃ p, leafV C x = p := ⟨_, rfl⟩
            rw [hp] at L1 L6
            clear d1 hp
            go_wp2_with (first | (go_at_call 19; (with_reducible refine L1.out.mono ?_); rintro e w8 ⟨rfl, rfl⟩) | (go_at_call 19; (with_reducible refine L6.out.mono ?_); rintro e w8 ⟨rfl, rfl⟩) | fail)
            go_roundw
            case rel => exact ⟨j + 1, by go_num, by omega, HQ⟩
            case measure => simp [intOf]; omega
          · have LV := Lib.hid (fun W (hb : Below w7.heap.size w7 W) => levelsA_any a5 m5 k5 (tabL C 4096) W (R7.out.below hb) (tabL_good HV.out) (Nat.le_trans (tabL_len C 4096) (by decide)))
            rw [tabC_back HV.out] at LV
            have jnot : ¬ ((j : Int) < (l2.length : Int)) ∨ ((j : Int) < (l2.length : Int)) ∧ ¬ ((j : Int) < 20) := by omega
            clear hjt
            rcases jnot with s1 | ⟨s1, s2⟩
            all_goals
              go_wp2_with (first | (go_at_call 11; (with_reducible refine (awake20_any _).mono ?_); rintro e w9 ⟨rfl, hb9⟩; have hb79 := below_next HQ.out hb9) | (go_at_call 20; (with_reducible refine (RA7.out _ hb79).mono ?_); rintro e w8 ⟨rfl, rfl⟩) | (go_at_call 17; (with_reducible refine (LV.out _ hb79).mono ?_); rintro e w10 ⟨g1, rfl, q1, hb10⟩; obtain ⟨p3, q3, c3, s3, _, l3'⟩ := q1.at (m := 3) (k := 0) (by decide) (by decide); rw [Nat.add_zero, HRT.out] at l3'; replace s3 : w10.cell? ⟨g1, 3, none⟩ = some (.slice (some ⟨p3, q3, none⟩) 1 c3) := s3) | fail)
              go_ret
              exact ⟨rfl, below_next HB7.out (below_next hb79 hb10)⟩
theorem merkleSets_walk (a1 : Option Addr) (n1 c1 : Nat) (l1 : List Pr) (a2 : Option Addr) (n2 c2 : Nat) (l2 : List Pr) (a3 : Option Addr) (n3 c3 : Nat) (l3 : List Bool) (w : World) (h1 : RArg encP 2 w a1 n1 c1 l1) (h2 : RArg encP 2 w a2 n2 c2 l2) (h3 : RArg encO 1 w a3 n3 c3 l3) :
    Calls Try.prog 4 #[.slice a1 n1 c1, .slice a2 n2 c2, .slice a3 n3 c3] w (TruePost w) := by
  by_cases h : tblB l1 = false ∨ 60 < n1
  · exact merkleSets_short a1 n1 c1 l1 a2 n2 c2 a3 n3 c3 w h1 h
  · refine merkleSets_main a1 n1 c1 l1 a2 n2 c2 l2 a3 n3 c3 l3 w h1 h2 h3 ?_ (by omega)
    cases ht : tblB l1
    · exact absurd (.inl ht) h
    · rfl
end Go.Proofs.Ytjjadappjapjhaa
