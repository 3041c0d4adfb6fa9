/-
  CONTRACTS: slices.Grow of no pairs, slices.Concat of two rows of pairs, slices.SortFunc of pairs by their keys.
-/
import Derived.Test.YthofoidafdbgcaaTB
namespace Go.Proofs.Ythofoidafdbgcaa
open Go.RowKit Go.Shelf
open Go.Sort (HoldsK PermIn SortedIn SWO grow putRowK putRow)

theorem joinCmp (x y : Sp) (W : World) : Calls Try.prog 44 #[.agg #[.int .i64 x.1, .int .i64 x.2], .agg #[.int .i64 y.1, .int .i64 y.2]] W fun e w' => e = .returned (.int .i64 (Lib.compareInt x.1 y.1)) ∧ ∃ q os', w' = grow (W.drewN q) os' := by
  have hcon := fun W' => AnyG.cmp_Compare_int Try.lCmpInt x.1 y.1 W'
  change ∀ W', Calls Try.prog 45 _ _ _ at hcon
  generalize Lib.compareInt x.1 y.1 = r at hcon ⊢
  go_enter Try.func44, Try.ntmps44
  go_wp2_with (go_at_call 45; refine (hcon _).mono ?_; rintro e w' ⟨rfl, rfl⟩)
  go_ret
  exact ⟨rfl, 0, _, by rw [Go.Sort.alloc_eq_grow, Go.Sort.alloc_eq_grow, Go.Sort.grow_grow]; rfl⟩

theorem sortPair_any (a : Option Addr) (cap base : Nat) (l : List Sp) (w : World) (hlen : l.length ≤ 100000) (hbase : base ≤ w.heap.size) (ho : OwnsP 65 w base (.slice a l.length cap) l) :
    Calls Try.prog 43 #[.slice a l.length cap, .func (.func 44) #[] #[]] w (SortPost base a l w) := by
  by_cases hl : l = []
  · subst hl
    exact (AnyF.slices_SortFunc_none Try.lSortPair a cap _ w).mono fun _ _ ⟨he, hw⟩ => ⟨he, [], List.Perm.refl _, List.Pairwise.nil, PIn.nil _ _ _, by rw [hw]; exact Below.refl _ _⟩
  · obtain ⟨g, cap', hv, h1, h2, _, _⟩ := ho.form hl
    cases hv
    have hf : ∀ i, w.frozen? ⟨g, i, none⟩ = false := fun i => World.ownsRow.frozenAt ho i
    have hp : PIn w w.heap.size (some ⟨g, 0, none⟩) l := by
      obtain ⟨a', c', hv, _, _, hp, _⟩ := ho.arg
      cases hv; exact hp
    have hH : HoldsK spC 2 w g 0 l.toArray := holds_of_pIn (fun j u hj => flatP_hc hp j u hj) hf
    have hs : l.length = l.toArray.size := by simp
    rw [hs]
    refine (AnyQ.slices_SortFunc Try.lSortPair 2 Try.isAgg65 Try.sizeOf65 spC (fun _ => rfl) (fun x v hv => by simp [spC] at hv; rcases hv with rfl | rfl <;> rfl) (fun x y => Lib.compareInt x.1 y.1) swoLo 44 #[] g 0 cap l.toArray w
      (enters_of Try.func44 (by kernel_rfl) rfl) (fun _ _ _ _ x y => joinCmp x y _) hH h2 (by simp; omega)).mono ?_
    rintro e w' ⟨he, d', n, os, hpm, hso, rfl⟩
    obtain ⟨q1, _, q3⟩ := hpm
    refine ⟨he, d'.toList, ?_, pairwise_of (by rw [q1]; exact hso), ?_, below_sorted d' h1 hbase⟩
    · have e1 : d'.extract 0 l.toArray.size = d' := by rw [← q1]; exact Array.extract_size
      have e2 : l.toArray.extract 0 l.toArray.size = l.toArray := Array.extract_size
      rw [e1, e2] at q3
      exact q3
    · have hh := holdsK_sortWorldK_c spC 2 w g 0 l.toArray d' n os hH h2 q1
      refine pIn_of_holds (Nat.lt_of_lt_of_le h2 ?_) hh
      exact (below_sorted (B := 0) d' (Nat.zero_le _) (Nat.zero_le _)).size


/-- An own row of no pairs, with room or without. -/
def RowPost (l : List Sp) (w : World) (e : Ending) (w' : World) : Prop := ∃ v, e = .returned v ∧ w'.ownsRow w.heap.size 65 2 v l.length (flatP l) ∧ Below w.heap.size w w'
set_option maxRecDepth 100000 in
set_option maxHeartbeats 1000000 in
theorem grow_nil (n : Nat) (w : World) (hn : n ≤ 100000) : Calls Try.prog 65 #[.slice none 0 0, .int .i64 (n : Int)] w (RowPost [] w) := by
  by_cases h0 : n = 0
  · subst h0
    go_enter Try.func65, Try.ntmps65
    go_wp2
    go_ret
    exact ⟨_, rfl, ⟨rfl, .inl ⟨rfl, rfl⟩⟩, Below.refl _ _⟩
  · have hnz : (0 : Int) < (n : Int) := by omega
    have hn0 : 0 < n := by omega
    obtain ⟨i0, hi, hz0, hz1, hz2⟩ := info_parts Try.infoPair
    have hrz : ∀ ty, (Builtin.append_ #[29, 3] ty #[.slice none 0 0, .int .i64 (n : Int)]).run Try.prog w =
      .ok (.slice (some ⟨w.heap.size, 0, none⟩) n (grownCap w n 0 65)) (w.drew.alloc (.cells (Builtin.zeroCells (Value.agg #[.int .i64 0, .int .i64 0]).cells n ++ Builtin.zeroCells (Value.agg #[.int .i64 0, .int .i64 0]).cells (grownCap w n 0 65 - n)) 65)) := fun ty =>
      Lib.run_append_nil_zeros w 29 3 ty 65 i0 _ .i64 .i64 Try.underlying29 Try.underlying3 hi hz0 n hn0 (by rw [hz1]; omega) (by omega) (by rw [hz2]; omega)
    obtain ⟨G, hG⟩ : ∃ G, grownCap w n 0 65 = G := ⟨_, rfl⟩
    have hGn : n ≤ G := by rw [← hG]; exact grownCap_ge w _ _ _
    have hGm : G ≤ maxLen := by rw [← hG]; exact grownCap_le_maxLen w n 0 65 (by unfold maxLen; omega)
    rw [hG] at hrz
    obtain ⟨Z, hZ⟩ : ∃ Z, Builtin.zeroCells (Value.agg #[.int .i64 0, .int .i64 0]).cells n ++ Builtin.zeroCells (Value.agg #[.int .i64 0, .int .i64 0]).cells (G - n) = Z := ⟨_, rfl⟩
    have hZs : Z.size = G * 2 := by rw [← hZ]; simp [Builtin.zeroCells, Value.cells]; omega
    rw [hZ] at hrz
    replace hG := Lib.hid hG
    replace hZ := Lib.hid hZ
    have HRZ := Lib.hid hrz
    have HGM := Lib.hid hGm
    have HZS := Lib.hid hZs
    have hG63 : (G : Int) ≤ 9223372036854775807 := by unfold maxLen at hGm; omega
    clear hrz hGm hZs
    go_enter Try.func65, Try.ntmps65
    go_wp2_with (at_builtin; refine Lib.wpList_append_run _ rfl _ _ 29 3 rfl _ _ rfl rfl _ _ (HRZ.out _) ?_)
    go_ret
    exact ⟨_, rfl, ⟨rfl, .inr ⟨w.heap.size, G, Z, rfl, Nat.le_refl _, heap_alloc_new w.drew _, Nat.zero_le _, HGM.out, HZS.out, rfl⟩⟩, ((Below.refl _ w).drew).alloc (Nat.le_refl _) _⟩
end Go.Proofs.Ythofoidafdbgcaa
