/-
  CHARTS: contracts of the statements' Refs and Ref, and of the document's SameList and Same where both are the same.
-/
import Derived.Test.YtihpojllalnmcaaChT
import Derived.Deep.RegionLaw
import Derived.Deep.AppendLies
import Derived.Deep.RegionHeld3
namespace Go.Proofs.Ytihpojllalnmcaa
open Go.RowKit Go.Shelf Go.ChangeShapes Go.WideShapes Go.Deep

theorem Try.infoRSd : (Try.prog.info? 104).map (fun i => (i.zero, i.size, i.bytes)) = some (some (.agg #[.int .i64 0, .int .i64 0, .int .i64 0, .int .i64 0]), 4, 32) := by kernel_rfl
def NewRow (w : World) (l : List Sd) (e : Ending) (w' : World) : Prop := ∃ a n c, e = .returned (.slice a n c) ∧ RArg encS 4 w' a n c l ∧ (l ≠ [] → ∃ g o, a = some ⟨g, o, none⟩ ∧ w.heap.size ≤ g) ∧ Below w.heap.size w w'
theorem cellD4 (w : World) (x y z u : Value) (t : TypeId) : ∀ j v, [x, y, z, u][j]? = some v → ((w.alloc (.cells #[x, y, z, u] t)).drew).cell? ((⟨w.heap.size, 0, none⟩ : Addr).add j) = some v := by
  intro j v hj
  have hA : ∀ i, ((w.alloc (.cells #[x, y, z, u] t)).drew).cell? ⟨w.heap.size, i, none⟩ = #[x, y, z, u][i]? := fun i => cell_of_row _ _ _ _ _ _ (heap_alloc_new w _)
  match j, hj with
  | 0, hj => simp at hj; subst hj; simp [Addr.add]
  | 1, hj => simp at hj; subst hj; simp [Addr.add]
  | 2, hj => simp at hj; subst hj; simp [Addr.add]
  | 3, hj => simp at hj; subst hj; simp [Addr.add]
theorem four_i64 (x y z u : Int) : ∀ v ∈ [Value.int .i64 x, Value.int .i64 y, Value.int .i64 z, Value.int .i64 u], v.oneCell' = true := by
  intro v hv
  simp at hv
  rcases hv with rfl | rfl | rfl | rfl <;> rfl
theorem OwnsR.new {t : TypeId} {W : World} {base n : Nat} {v : Value} {l : List Sd} (h : OwnsR encS 4 t W base v l) (hn : l.length = n) : ∃ a c, v = .slice a n c ∧ RArg encS 4 W a n c l ∧ (l ≠ [] → ∃ g o, a = some ⟨g, o, none⟩ ∧ base ≤ g) := by
  obtain ⟨a, c, e, hr⟩ := h.arg encS_len
  subst hn
  refine ⟨a, c, e, hr, fun q => ?_⟩
  rcases h.2 with ⟨_, h0⟩ | ⟨g, cap, cur, e2, hb, _⟩
  · exact absurd (List.eq_nil_of_length_eq_zero h0) q
  · rw [e] at e2
    cases e2
    exact ⟨g, 0, rfl, hb⟩
set_option maxRecDepth 100000 in
set_option maxHeartbeats 2000000 in
theorem refs8_any (a : Option Addr) (n c : Nat) (l : List Sd) (w : World) (hz : l.length ≤ 100000) (h : RArg encS 4 w a n c l) :
    Calls Try.prog 30 #[.slice a n c] w (NewRow w l) := by
  obtain ⟨i0, hi0, hz0, hz1, hz2⟩ := info_parts Try.infoRSd
  obtain ⟨hn, _, hc1, hc2, hp⟩ := h
  have hn1 : n ≤ 100000 := by omega
  replace hn := Lib.hid hn
  replace hp := Lib.hid hp
  go_enter Try.func30, Try.ntmps30
  go_wp2_with fail
  go_loopw [3, 4] (fun vo i wr => ∃ (k : Nat) (v : Value), v = vo ∧ i = .int .i64 (k : Int) ∧ k ≤ n ∧ Hid (OwnsR encS 4 104 wr w.heap.size v (l.take k)) ∧ Below w.heap.size w wr)
    (fun _ i _ => n - (intOf i).toNat)
  case atStart => exact ⟨0, _, rfl, rfl, by omega, Lib.hid (OwnsR.nil _ _ _ _ _), Below.refl _ _⟩
  case round =>
    obtain ⟨k, v, rfl, rfl, hk, HO, hbl⟩ := hrel
    have hsz := hbl.size
    by_cases hlt : k < n
    · have hkl : k < l.length := by rw [← hn.out]; exact hlt
      have hkz : (k : Int) < (n : Int) := by omega
      obtain ⟨b, off, e, hb, d0, d1, d2, d3⟩ := (hp.out.below hbl).shard k hkl
      subst e
      have HT := Lib.hid (take_moreG hkl)
      obtain ⟨s, hs⟩ : ∃ s, l[k]! = s := ⟨_, rfl⟩
      rw [hs] at d0 d1 d2 d3 HT
      clear hs
      obtain ⟨i1, lo, hi, nd⟩ := s
      dsimp only at d0 d1 d2 d3
      have hlen : (l.take k).length = k := by rw [List.length_take]; omega
      have ho : wr.ownsRow w.heap.size 104 4 v k (flatR encS (l.take k)) := by
        have := HO.out
        unfold OwnsR at this
        rwa [hlen] at this
      have A0 : ∀ o, (wr.alloc o).cell? ⟨b, off + k * 4, none⟩ = some (.int .i64 i1) := fun o => (World.cell?_alloc_lt _ _ ⟨b, off + k * 4, none⟩ hb).trans d0
      have HD := Lib.hid (fun o => (ho.alloc o).drew)
      have HG := Lib.hid (fun o w1 (hg : ((wr.alloc o).drew).grownBy w1 v.ownBlock) => (show Below w.heap.size w w1 from by
        have hlt2 := ho.lt
        exact ((hbl.alloc hsz o).drew).grown hg (by simp; omega) (fun g e => (hlt2 g e).1)))
      have B63 := Lib.hid (show k + 1 ≤ maxLen by unfold maxLen; omega)
      have BBY := Lib.hid (show (k + 1) * 32 ≤ 140737488355328 by omega)
      have HBS := Lib.hid (fun o => (show w.heap.size ≤ ((wr.alloc o).drew).heap.size from by simp; omega))
      have HH := Lib.hid (fun o => (show ((wr.alloc o).drew).heap.size = wr.heap.size + 1 from by simp))
      clear ho
      go_wp2_with fail
      go_region_law (first | (refine step_append_lies _ rfl (.tmp 11) (.tmp 28) 40 rfl w.heap.size 104 i0 (.agg #[.int .i64 0, .int .i64 0, .int .i64 0, .int .i64 0]) 4 32 Try.underlying40 hi0 hz0 hz1 hz2 rfl (by decide) _ _ _ rfl (HD.out _) ⟨wr.heap.size, 0, none⟩ 1 1 [.int .i64 i1, .int .i64 lo, .int .i64 hi, .int .i64 nd] rfl rfl (cellD4 wr _ _ _ _ _) (four_i64 _ _ _ _) (by decide) B63.out BBY.out (HBS.out _) (wr.heap.size + 1) (HH.out _) ?_; intro g cap w1 hown1 hgrow1 _ _; have g1 := HG.out _ _ hgrow1; replace hown1 := Lib.hid hown1; clear hgrow1))
      all_goals
        go_wp2
        go_roundw
        case rel =>
          refine ⟨k + 1, _, rfl, by go_num, by omega, Lib.hid ?_, g1⟩
          rw [HT.out]
          exact OwnsR.snoc (x := (i1, lo, hi, nd)) hlen hown1.out
        case measure => simp [intOf]; omega
    · have hk' : l.take k = l := List.take_of_length_le (by rw [← hn.out]; omega)
      have hkz : ¬ (k : Int) < (n : Int) := by omega
      have ho := HO.out
      rw [hk'] at ho
      obtain ⟨a6, c6, rfl, hA, hN⟩ := ho.new rfl
      have HA := Lib.hid (And.intro hA hN)
      clear ho HO hk' hA hN
      go_wp2
      go_ret
      exact ⟨_, _, _, rfl, HA.out.1, HA.out.2, hbl⟩
theorem eqSpanR (n : Nat) (x y p q : Int) (w : World) : (Op.equalIn (n + 3) 102 (.agg #[.int .i64 x, .int .i64 y]) (.agg #[.int .i64 p, .int .i64 q])).run Try.prog w = .ok (x == p && y == q) w := by
  have u3 := Try.underlying3
  have a3 := Try.isAgg3
  have z3 := Try.sizeOf3
  have hS : Try.prog.underlying 102 = some (.struct (Try.prog.fieldsOf 102)) := by kernel_rfl
  have hp : Try.prog.stoodInHeld 102 = false := by kernel_rfl
  rw [run_equalIn_agg w (n + 2) 102 _ _ hS hp]
  simp only [Program.fieldsOf, Try.underlying102]
  go_simp
  by_cases h1 : x = p <;> by_cases h2 : y = q <;> simp [h1, h2]
theorem eqSdRIn (s t : Sd) (w : World) : (Op.equalIn 10000 104 (.agg #[.int .i64 s.1, .int .i64 s.2.1, .int .i64 s.2.2.1, .int .i64 s.2.2.2]) (.agg #[.int .i64 t.1, .int .i64 t.2.1, .int .i64 t.2.2.1, .int .i64 t.2.2.2])).run Try.prog w = .ok (eqSB s t) w := by
  obtain ⟨a, b, c, d⟩ := s
  obtain ⟨e, f, g, h⟩ := t
  have u3 := Try.underlying3
  have a3 := Try.isAgg3
  have z3 := Try.sizeOf3
  have aS := Try.isAgg102
  have zS := Try.sizeOf102
  have hS : Try.prog.underlying 104 = some (.struct (Try.prog.fieldsOf 104)) := by kernel_rfl
  have hp : Try.prog.stoodInHeld 104 = false := by kernel_rfl
  rw [show (10000 : Nat) = 9999 + 1 from rfl, run_equalIn_agg w 9999 104 _ _ hS hp]
  simp only [Program.fieldsOf, Try.underlying104]
  have E := fun n x y p q w => eqSpanR n x y p q w
  go_simp
  unfold eqSB
  by_cases h1 : a = e <;> by_cases h2 : b = f <;> by_cases h3 : c = g <;> by_cases h4 : d = h <;> simp [h1, h2, h3, h4]
theorem neqSdR (s : Sd) (w : World) : (binOp .neq 104 (.agg #[.int .i64 s.1, .int .i64 s.2.1, .int .i64 s.2.2.1, .int .i64 s.2.2.2]) (.agg #[.int .i64 s.1, .int .i64 s.2.1, .int .i64 s.2.2.1, .int .i64 s.2.2.2])).run Try.prog w = .ok (.bool false) w := by
  rw [run_neq_struct, eqSdRIn, (eqSB_iff s s).2 rfl]
  rfl
end Go.Proofs.Ytihpojllalnmcaa
