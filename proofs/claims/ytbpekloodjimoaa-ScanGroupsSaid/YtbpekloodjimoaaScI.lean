/-
  SCAN: contracts of Top, and of what it sorts by.
-/
import Derived.Test.YtbpekloodjimoaaScH
namespace Go.Proofs.Ytbpekloodjimoaa
open Go.RowKit Go.Shelf
open Go.Sort (HoldsK PermIn SortedIn SWO grow putRowK putRow)

theorem cmpOr_any (g : Nat) (x y : Int) (W : World) (c0 : W.cell? ⟨g, 0, none⟩ = some (.int .i64 x)) (c1 : W.cell? ⟨g, 1, none⟩ = some (.int .i64 y)) :
    Calls Try.prog 42 #[.slice (some ⟨g, 0, none⟩) 2 2] W fun e w' => e = .returned (.int .i64 (if x = 0 then y else x)) ∧ W = w' := by
  go_enter Try.func42, Try.ntmps42
  go_wp2_with fail
  go_loop [5, 8] (fun _ i => ∃ (k : Nat), i = .int .i64 (k : Int) ∧ k ≤ 2 ∧ (1 ≤ k → x = 0) ∧ (2 ≤ k → y = 0)) (fun _ i => 2 - (intOf i).toNat)
  case atStart => exact ⟨0, rfl, by omega, fun h => by omega, fun h => by omega⟩
  case round =>
    obtain ⟨k, rfl, hk, hx, hy⟩ := hrel
    match k, hk, hx, hy with
    | 0, _, _, _ =>
      by_cases h : x = 0
      · subst h
        go_wp2_with fail
        go_round
        case rel => exact ⟨1, rfl, by omega, by simp, fun h => by omega⟩
        case measure => simp [intOf]
      · have hb : (x == 0) = false := by simpa using h
        have hb2 : (x != 0) = true := by simpa using h
        go_wp2_with fail
        go_ret
        exact ⟨ret_int (by first | rfl | rw [if_neg h] | simp [h]), rfl⟩
    | 1, _, hx, _ =>
      have h0 := hx (by omega)
      subst h0
      clear hx
      by_cases h : y = 0
      · subst h
        go_wp2_with fail
        go_round
        case rel => exact ⟨2, rfl, by omega, by simp, by simp⟩
        case measure => simp [intOf]
      · have hb : (y == 0) = false := by simpa using h
        have hb2 : (y != 0) = true := by simpa using h
        go_wp2_with fail
        go_ret
        exact ⟨ret_int (by first | rfl | simp), rfl⟩
    | 2, _, hx, hy =>
      have h0 := hx (by omega)
      have h1 := hy (by omega)
      subst h0 h1
      clear hx hy
      go_wp2_with fail
      go_ret
      exact ⟨rfl, rfl⟩
def cmpT (x y : Sp) : Int := if Lib.compareInt y.2 x.2 = 0 then Lib.compareInt x.1 y.1 else Lib.compareInt y.2 x.2
theorem ltT (x y : Sp) : ltOf cmpT x y = decide (y.2 < x.2 ∨ (y.2 = x.2 ∧ x.1 < y.1)) := by
  unfold ltOf cmpT Lib.compareInt
  by_cases h1 : y.2 < x.2
  · simp [h1]
  · by_cases h2 : x.2 < y.2
    · simp [h1, h2]; omega
    · have h3 : y.2 = x.2 := by omega
      by_cases h4 : x.1 < y.1
      · simp [h3, h4]
      · by_cases h5 : y.1 < x.1 <;> simp [h3, h4, h5]
theorem swoT : SWO (ltOf cmpT) where
  irrefl x := by rw [ltT]; simp
  trans x y z h1 h2 := by rw [ltT] at *; simp at *; omega
  ntrans x y z h1 h2 := by rw [ltT] at *; simp at *; omega
/-- In the order of a top. -/
def topLe (x y : Sp) : Prop := y.2 < x.2 ∨ (y.2 = x.2 ∧ x.1 ≤ y.1)
theorem pairwise_top {d : Array Sp} (h : SortedIn (ltOf cmpT) 0 d.size d) : d.toList.Pairwise topLe := by
  rw [List.pairwise_iff_getElem]
  intro i j hi hj hij
  have := h i j (Nat.zero_le _) hij (by simpa using hj)
  rw [ltT, decide_eq_false_iff_not, getElem!_pos d i (by simpa using hi), getElem!_pos d j (by simpa using hj)] at this
  unfold topLe
  simp only [Array.getElem_toList]
  omega
set_option maxRecDepth 100000 in
set_option maxHeartbeats 1000000 in
theorem topCmp (x y : Sp) (W : World) : Calls Try.prog 41 #[.agg #[.int .i64 x.1, .int .i64 x.2], .agg #[.int .i64 y.1, .int .i64 y.2]] W fun e w' => e = .returned (.int .i64 (cmpT x y)) ∧ ∃ q os', w' = grow (W.drewN q) os' := by
  have h1 := Lib.hid (fun W' => cmpI_any y.2 x.2 W')
  have h2 := Lib.hid (fun W' => cmpI_any x.1 y.1 W')
  have HC : Hid (cmpT x y = if Lib.compareInt y.2 x.2 = 0 then Lib.compareInt x.1 y.1 else Lib.compareInt y.2 x.2) := Lib.hid rfl
  obtain ⟨r, hr⟩ : ∃ r, cmpT x y = r := ⟨_, rfl⟩
  rw [hr] at HC ⊢
  clear hr
  generalize Lib.compareInt y.2 x.2 = u at h1 HC
  generalize Lib.compareInt x.1 y.1 = v at h2 HC
  have OR := Lib.hid (fun (g : Nat) (V : World) (c0 : V.cell? ⟨g, 0, none⟩ = some (.int .i64 u)) (c1 : V.cell? ⟨g, 1, none⟩ = some (.int .i64 v)) => (show Calls Try.prog 42 #[.slice (some ⟨g, 0, none⟩) 2 2] V fun e w' => e = .returned (.int .i64 r) ∧ V = w' from by rw [HC.out]; exact cmpOr_any g u v V c0 c1))
  obtain ⟨W2, hW2⟩ : ∃ W2, (W.alloc (.cells #[.int .i64 x.1, .int .i64 x.2] 43)).alloc (.cells #[.int .i64 y.1, .int .i64 y.2] 43) = W2 := ⟨_, rfl⟩
  have b0 : (W.alloc (.cells #[.int .i64 x.1, .int .i64 x.2] 43)).heap.size = W.heap.size + 1 := by simp
  have b1 : Below (W.heap.size + 1) (W.alloc (.cells #[.int .i64 x.1, .int .i64 x.2] 43)) W2 := by rw [← hW2]; exact (Below.refl _ _).alloc (by simp) _
  have p0 : W2.cell? ⟨W.heap.size, 0, none⟩ = some (.int .i64 x.1) := (b1.cell (p := ⟨W.heap.size, 0, none⟩) (by simp)).trans (cell_of_row _ _ 0 _ _ _ (heap_alloc_new _ _))
  have p1 : W2.cell? ⟨W.heap.size, 1, none⟩ = some (.int .i64 x.2) := (b1.cell (p := ⟨W.heap.size, 1, none⟩) (by simp)).trans (cell_of_row _ _ 1 _ _ _ (heap_alloc_new _ _))
  have p2 : W2.cell? ⟨W.heap.size + 1, 0, none⟩ = some (.int .i64 y.1) := by rw [← hW2, ← b0]; exact cell_of_row _ _ 0 _ _ _ (heap_alloc_new _ _)
  have p3 : W2.cell? ⟨W.heap.size + 1, 1, none⟩ = some (.int .i64 y.2) := by rw [← hW2, ← b0]; exact cell_of_row _ _ 1 _ _ _ (heap_alloc_new _ _)
  have hs2 : W2.heap.size = W.heap.size + 2 := by rw [← hW2]; simp
  have HS2 := Lib.hid hs2
  have HW2 := Lib.hid hW2
  clear b0 hs2 b1
  go_enter Try.func41, Try.ntmps41
  go_wp2_with fail
  go_region_held3 (fun V => V.cell? ⟨W.heap.size, 0, none⟩ = some (.int .i64 x.1) ∧ V.cell? ⟨W.heap.size, 1, none⟩ = some (.int .i64 x.2) ∧ V.cell? ⟨W.heap.size + 1, 0, none⟩ = some (.int .i64 y.1) ∧ V.cell? ⟨W.heap.size + 1, 1, none⟩ = some (.int .i64 y.2)) (first | exact ⟨p0, p1, p2, p3⟩ | go_keep) ((first | (go_at_call 43; (with_reducible refine (h1.out _).mono ?_); rintro e wz ⟨rfl, rfl⟩) | (go_at_call 43; (with_reducible refine (h2.out _).mono ?_); rintro e wz ⟨rfl, rfl⟩) | (go_at_call 42; (refine (OR.out _ _ (cell_of_row _ _ 0 _ _ _ (heap_alloc_new _ _)) (cell_of_row _ _ 1 _ _ _ (heap_alloc_new _ _))).mono ?_); rintro e wz ⟨rfl, rfl⟩) | fail))
  all_goals
    go_wp2_with fail
    go_ret
    exact ⟨rfl, 1, _, by rw [← HW2.out, Go.Sort.alloc_eq_grow, Go.Sort.alloc_eq_grow, Go.Sort.alloc_eq_grow, Go.Sort.grow_grow, Go.Sort.grow_grow]; rfl⟩
def TopSorted (base : Nat) (a : Option Addr) (l : List Sp) (w : World) (e : Ending) (w' : World) : Prop :=
  e = .returned (.tuple #[]) ∧ ∃ d : List Sp, d.Perm l ∧ d.Pairwise topLe ∧ PIn w' w'.heap.size a d ∧ Below base w w'
theorem sortTop_any (a : Option Addr) (cap base : Nat) (l : List Sp) (w : World) (hlen : l.length ≤ 100000) (hbase : base ≤ w.heap.size) (ho : OwnsP 43 w base (.slice a l.length cap) l) :
    Calls Try.prog 40 #[.slice a l.length cap, .func (.func 41) #[] #[]] w (TopSorted base a l w) := by
  by_cases hl : l = []
  · subst hl
    exact (AnyF.slices_SortFunc_none Try.lSortPair a cap _ w).mono fun _ _ ⟨he, hw⟩ => ⟨he, [], List.Perm.refl _, List.Pairwise.nil, PIn.nil _ _ _, by rw [hw]; exact Below.refl _ _⟩
  · obtain ⟨g, cap', hv, h1, h2, _, _⟩ := ho.form hl
    cases hv
    have hf : ∀ i, w.frozen? ⟨g, i, none⟩ = false := fun i => World.ownsRow.frozenAt ho i
    have hp : PIn w w.heap.size (some ⟨g, 0, none⟩) l := by
      obtain ⟨a', c', hv, _, _, hp, _⟩ := ho.arg
      cases hv; exact hp
    have hH : HoldsK spC 2 w g 0 l.toArray := holds_of_pIn (fun j u hj => flatP_hc hp j u hj) hf
    have hs : l.length = l.toArray.size := by simp
    rw [hs]
    refine (AnyQ.slices_SortFunc Try.lSortPair 2 Try.isAgg43 Try.sizeOf43 spC (fun _ => rfl) (fun x v hv => by simp [spC] at hv; rcases hv with rfl | rfl <;> rfl) cmpT swoT 41 #[] g 0 cap l.toArray w
      (enters_of Try.func41 (by kernel_rfl) rfl) (fun _ _ _ _ x y => topCmp x y _) hH h2 (by simp; omega)).mono ?_
    rintro e w' ⟨he, d', n, os, hpm, hso, rfl⟩
    obtain ⟨q1, _, q3⟩ := hpm
    refine ⟨he, d'.toList, ?_, pairwise_top (by rw [q1]; exact hso), ?_, below_sorted d' h1 hbase⟩
    · have e1 : d'.extract 0 l.toArray.size = d' := by rw [← q1]; exact Array.extract_size
      have e2 : l.toArray.extract 0 l.toArray.size = l.toArray := Array.extract_size
      rw [e1, e2] at q3
      exact q3
    · have hh := holdsK_sortWorldK_c spC 2 w g 0 l.toArray d' n os hH h2 q1
      refine pIn_of_holds (Nat.lt_of_lt_of_le h2 ?_) hh
      exact (below_sorted (B := 0) d' (Nat.zero_le _) (Nat.zero_le _)).size
/-- What a top is: the first so many of all, sorted. -/
def TopPost (M : List Sp) (n : Int) (w : World) (e : Ending) (w' : World) : Prop := ∃ (d : List Sp) (a : Option Addr) (m c : Nat), e = .returned (.slice a m c) ∧ d.Perm M ∧ d.Pairwise topLe ∧ (m : Int) = min (max n 0) (d.length : Int) ∧ Arg w' a m c (d.take m) ∧ Below w.heap.size w w'
set_option maxRecDepth 100000 in
set_option maxHeartbeats 1000000 in
theorem top_any (a : Option Addr) (n c : Nat) (l : List Sp) (a3 : Option Addr) (n3 c3 : Nat) (on : List Sp) (k : Int) (w : World) (hL : Arg w a n c l) (hO : Arg w a3 n3 c3 on) :
    Calls Try.prog 20 #[.slice a n c, .slice a3 n3 c3, .int .i64 k] w (TopPost (clipP l on) k w) := by
  have CL := Lib.hid (clip_any a n c l a3 n3 c3 on w hL hO)
  have hct := clip_tbl l on
  have hcl := tbl_le hct
  generalize clipP l on = M at *
  have ST := Lib.hid (fun W (a8 : Option Addr) (c8 base : Nat) (hb : base ≤ W.heap.size) (ho : OwnsP 43 W base (.slice a8 M.length c8) M) => sortTop_any a8 c8 base M W (by omega) hb ho)
  obtain ⟨m, hm⟩ : ∃ m : Nat, min (max k 0) (M.length : Int) = (m : Int) := ⟨(min (max k 0) (M.length : Int)).toNat, by omega⟩
  have hmM : m ≤ M.length := by omega
  have HM := Lib.hid hm
  clear hL hO hct
  go_enter Try.func20, Try.ntmps20
  go_wp2_with (first | (go_at_call 12; (with_reducible refine CL.out.mono ?_); rintro e w2 ⟨v, rfl, ho, b2⟩; obtain ⟨a8, c8, hv, h8⟩ := ho.arg; subst hv; have hc8 : M.length ≤ c8 := h8.1; have hc9 : c8 ≤ maxLen := h8.2.1) | (go_at_call 40; (with_reducible refine (ST.out _ _ _ _ b2.size ho).mono ?_); rintro e w3 ⟨rfl, d, hd1, hd2, hp, b3⟩))
  go_ret
  have hdl := hd1.length_eq
  have hA : Arg w3 a8 d.length c8 d := ⟨rfl, by omega, by omega, hc9, hp⟩
  exact ⟨d, a8, m, c8, rfl, hd1, hd2, by rw [hdl]; exact HM.out.symm, hA.takeA m (by omega), b2.trans b3⟩
end Go.Proofs.Ytbpekloodjimoaa
