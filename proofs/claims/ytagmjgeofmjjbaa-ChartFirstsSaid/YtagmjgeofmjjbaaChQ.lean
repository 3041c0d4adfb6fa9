/-
  CHARTS: contract of the document's First.
-/
import Derived.Test.YtagmjgeofmjjbaaChP
namespace Go.Proofs.Ytagmjgeofmjjbaa
open Go.RowKit Go.Shelf Go.ChangeShapes Go.WideShapes Go.Deep

def RFirstPost (r : Int × Int × List Sd × Int) (w : World) (e : Ending) (w' : World) : Prop := ∃ a n c,
  e = .returned (.tuple #[.agg #[.int .i64 r.1, .int .i64 r.2.1, .slice a n c], .int .i64 r.2.2.2]) ∧ RArg encS 4 w' a n c r.2.2.1 ∧ Below w.heap.size w w'
theorem rf_ret {r : Int × Int × List Sd × Int} {x y z : Int} {L : List Sd} {v : Value} (h : r = (x, y, L, z)) : Ending.returned (.tuple #[.agg #[.int .i64 x, .int .i64 y, v], .int .i64 z]) = .returned (.tuple #[.agg #[.int .i64 r.1, .int .i64 r.2.1, v], .int .i64 r.2.2.2]) := by rw [h]
theorem rarg_own {t : TypeId} {W : World} {base n : Nat} {a : Option Addr} {c : Nat} {l : List Sd} (h : W.ownsRow base t 4 (.slice a n c) n (flatR encS l)) (hn : l.length = n) : RArg encS 4 W a n c l := by
  have hO : OwnsR encS 4 t W base (.slice a n c) l := by
    unfold OwnsR
    rw [hn]
    exact h
  obtain ⟨a', c', e, hr, _⟩ := hO.new hn
  cases e
  exact hr
set_option maxRecDepth 100000 in
set_option maxHeartbeats 2000000 in
theorem rfirst_any (nodes shards : Int) (w : World) : Calls Try.prog 10 #[.int .i64 nodes, .int .i64 shards] w (RFirstPost (firstC nodes shards) w) := by
  obtain ⟨i0, hi0, hz0, hz1, hz2⟩ := info_parts Try.infoRSd
  obtain ⟨R, hR⟩ : ∃ R, firstC nodes shards = R := ⟨_, rfl⟩
  rw [hR]
  obtain ⟨W1, hW1⟩ : ∃ W1, w.alloc (.cells #[.int .i64 0, .int .i64 0, .slice none 0 0] 30) = W1 := ⟨_, rfl⟩
  have bw : Below w.heap.size w W1 := by rw [← hW1]; exact (Below.refl _ _).alloc (Nat.le_refl _) _
  have g1 : w.heap.size < W1.heap.size := by rw [← hW1]; simp
  have hr1 : W1.heap[w.heap.size]? = some (.cells #[.int .i64 0, .int .i64 0, .slice none 0 0] 30) := by rw [← hW1]; exact heap_alloc_new _ _
  have KR := Lib.hid (fun W (h : Below W1.heap.size W1 W) => (h.block _ g1).trans hr1)
  obtain ⟨z0, z1, z2⟩ := c3K hr1
  obtain ⟨f0, f1, f2⟩ := f3K hr1
  clear hr1
  by_cases hgood : btwC 1 nodes 5 = true ∧ btwC 1 shards 24 = true
  · obtain ⟨h1, h2⟩ := hgood
    obtain ⟨hn1, hn5⟩ := (btwC_iff _ _ _).1 h1
    obtain ⟨hs1, hs24⟩ := (btwC_iff _ _ _).1 h2
    obtain ⟨n, hn⟩ : ∃ n : Nat, shards = (n : Int) := ⟨shards.toNat, by omega⟩
    subst hn
    have HR := Lib.hid (show R = (1, (n : Int) + 1, firstL nodes n, 0) by rw [← hR]; unfold firstC; rw [if_pos ⟨h1, h2⟩]; rfl)
    clear hR h1 h2
    have hn1' : 1 ≤ n := by omega
    have hn24 : n ≤ 24 := by omega
    have hc1 : ¬ nodes < 1 := by omega
    have hc2 : ¬ 5 < nodes := by omega
    have hc3 : ¬ (n : Int) < 1 := by omega
    have hc4 : ¬ 24 < (n : Int) := by omega
    have hw9 : IntKind.i64.wrap ((n : Int) + 1) = (n : Int) + 1 := IntWalk.i64_in _ (by omega)
    go_enter Try.func10, Try.ntmps10
    go_wp2_with fail
    generalize hW2 : W1.alloc (.cells #[.int .i64 1, .int .i64 ((n : Int) + 1), .slice none 0 0] 30) = W2
    have b2 : Below W1.heap.size W1 W2 := by rw [← hW2]; exact (Below.refl _ _).alloc (Nat.le_refl _) _
    have hr2 : W2.heap[W1.heap.size]? = some (.cells #[.int .i64 1, .int .i64 ((n : Int) + 1), .slice none 0 0] 30) := by rw [← hW2]; exact heap_alloc_new _ _
    have g2 : W1.heap.size < W2.heap.size := by rw [← hW2]; simp
    have HR2 := Lib.hid hr2
    clear hr2
    replace hW2 := Lib.hid hW2
    replace hW1 := Lib.hid hW1
    go_loopw [7] (fun i wr => ∃ (j : Nat), i = .int .i64 (j : Int) ∧ j ≤ n ∧ Hid (∃ v, wr.ownsRow W2.heap.size 76 4 v j (flatR encS ((firstL nodes n).take j)) ∧ wr.heap[W1.heap.size]? = some (.cells #[.int .i64 1, .int .i64 ((n : Int) + 1), v] 30) ∧ Below W1.heap.size W2 wr ∧ W2.heap.size ≤ wr.heap.size))
      (fun i _ => n - (intOf i).toNat)
    case atStart => exact ⟨0, rfl, Nat.zero_le _, Lib.hid ⟨_, ⟨rfl, .inl ⟨rfl, rfl⟩⟩, HR2.out, Below.refl _ _, Nat.le_refl _⟩⟩
    case round =>
      obtain ⟨j, rfl, hj, HI⟩ := hrel
      obtain ⟨v, ho, hb2, hbl, hsz⟩ := HI.out
      clear HI
      have hb1 : Below W1.heap.size W1 wr := b2.trans hbl
      by_cases hlt : j < n
      · have hkz : (j : Int) < (n : Int) := by omega
        obtain ⟨q1, hq1⟩ : ∃ q, (4096 * (j : Int)).tdiv (n : Int) = q := ⟨_, rfl⟩
        obtain ⟨q2, hq2⟩ : ∃ q, (4096 * ((j : Int) + 1)).tdiv (n : Int) = q := ⟨_, rfl⟩
        obtain ⟨q3, hq3⟩ : ∃ q, (j : Int).tmod nodes = q := ⟨_, rfl⟩
        have hfa : firstAt nodes n j = ((j : Int) + 1, q1, q2, q3) := by unfold firstAt; rw [hq1, hq2, hq3]
        have hb3 : 0 ≤ q1 ∧ q1 ≤ 4096 * (j : Int) := by rw [← hq1]; exact ⟨Int.tdiv_nonneg (by omega) (by omega), Int.tdiv_le_self (n : Int) (by omega)⟩
        have hb4 : 0 ≤ q2 ∧ q2 ≤ 4096 * ((j : Int) + 1) := by rw [← hq2]; exact ⟨Int.tdiv_nonneg (by omega) (by omega), Int.tdiv_le_self (n : Int) (by omega)⟩
        have hlf : (firstL nodes n).length = n := firstL_len nodes n
        have HT := Lib.hid (show (firstL nodes n).take (j + 1) = (firstL nodes n).take j ++ [((j : Int) + 1, q1, q2, q3)] by
          rw [take_moreG (by rw [hlf]; exact hlt), getElem!_pos _ j (by rw [hlf]; exact hlt), ← hfa]
          unfold firstL
          simp)
        have hw1 : IntKind.i64.wrap (4096 * (j : Int)) = 4096 * (j : Int) := IntWalk.i64_in _ (by omega)
        have hw2 : IntKind.i64.wrap ((j : Int) + 1) = (j : Int) + 1 := IntWalk.i64_in _ (by omega)
        have hw3 : IntKind.i64.wrap (4096 * ((j : Int) + 1)) = 4096 * ((j : Int) + 1) := IntWalk.i64_in _ (by omega)
        have hw4 : IntKind.i64.wrap q1 = q1 := IntWalk.i64_in _ (by omega)
        have hw5 : IntKind.i64.wrap q2 = q2 := IntWalk.i64_in _ (by omega)
        have hw6 : IntKind.i64.wrap q3 = q3 := by
          have h1 := Int.tmod_lt_of_pos (j : Int) (show 0 < nodes by omega)
          have h2 := Int.tmod_nonneg nodes (show 0 ≤ (j : Int) by omega)
          rw [hq3] at h1 h2
          exact IntWalk.i64_in _ (by omega)
        have hnz : ((n : Int) == 0) = false := by simp; omega
        have hnz2 : (nodes == 0) = false := by simp; omega
        have hne1 : ¬ n = 0 := by omega
        have hne2 : ¬ (n : Int) = 0 := by omega
        have hne3 : ¬ nodes = 0 := by omega
        have hkn' : (j : Int) ≤ 24 := by omega
        obtain ⟨v0, v1, v2⟩ := c3K hb2
        have A3 : ∀ o, (wr.alloc o).cell? ⟨W1.heap.size, 2, none⟩ = some v := fun o => (World.cell?_alloc_lt _ _ ⟨W1.heap.size, 2, none⟩ (show W1.heap.size < _ by omega)).trans v2
        have HD := Lib.hid (fun o => (ho.alloc o).drew)
        have HG := Lib.hid (fun o w1 (hg : ((wr.alloc o).drew).grownBy w1 v.ownBlock) => (show w1.heap[W1.heap.size]? = some (.cells #[.int .i64 1, .int .i64 ((n : Int) + 1), v] 30) ∧ Below W1.heap.size W2 w1 ∧ W2.heap.size ≤ w1.heap.size from by
          have hlt2 := ho.lt
          have z : ((wr.alloc o).drew).heap.size = wr.heap.size + 1 := by simp
          refine ⟨(hg.block W1.heap.size (by rw [z]; omega) (fun e => by have := (hlt2 _ e.symm).1; omega)).trans ((heap_alloc_old wr o (by omega)).trans hb2), ?_, Nat.le_trans (by rw [z]; omega) hg.size⟩
          exact ((hbl.alloc (by omega) o).drew).grown hg (by rw [z]; omega) (fun g e => by have := (hlt2 g e).1; omega)))
        have B63 := Lib.hid (show j + 1 ≤ maxLen by unfold maxLen; omega)
        have BBY := Lib.hid (show (j + 1) * 32 ≤ 140737488355328 by omega)
        have HBS := Lib.hid (fun o => (show W2.heap.size ≤ ((wr.alloc o).drew).heap.size from by simp; omega))
        have HH := Lib.hid (fun o => (show ((wr.alloc o).drew).heap.size = wr.heap.size + 1 from by simp))
        clear ho hb2 hb1 hlf hfa hb3 hb4
        go_wp2_with fail
        go_region_law (first | (refine step_append_lies _ rfl (.tmp 32) (.tmp 49) 28 rfl W2.heap.size 76 i0 (.agg #[.int .i64 0, .int .i64 0, .int .i64 0, .int .i64 0]) 4 32 Try.underlying28 hi0 hz0 hz1 hz2 rfl (by decide) _ _ _ rfl (HD.out _) ⟨wr.heap.size, 0, none⟩ 1 1 [.int .i64 ((j : Int) + 1), .int .i64 q1, .int .i64 q2, .int .i64 q3] rfl rfl (cellD4 wr _ _ _ _ _) (four_i64 _ _ _ _) (by decide) B63.out BBY.out (HBS.out _) (wr.heap.size + 1) (HH.out _) ?_; intro g cap w1 hown1 hgrow1 _ _; obtain ⟨g1', g2', g3'⟩ := HG.out _ _ hgrow1; obtain ⟨u0, u1, u2⟩ := c3K g1'; obtain ⟨e0, e1, e2⟩ := f3K g1'; replace g1' := Lib.hid g1'; replace hown1 := Lib.hid hown1; clear hgrow1))
        all_goals
          go_wp2
          go_roundw
          case rel =>
            refine ⟨j + 1, by go_num, by omega, Lib.hid ⟨.slice (some ⟨g, 0, none⟩) (j + 1) cap, ?_, ?_, ?_, ?_⟩⟩
            · rw [HT.out, flatR_append]
              exact ownsRow_setCell_below (a := ⟨W1.heap.size, 2, none⟩) hown1.out (by dsimp only; omega) _
            · exact heap_setCell_same _ _ 2 _ _ (.slice (some ⟨g, 0, none⟩) (j + 1) cap) g1'.out
            · exact g2'.setCell (by dsimp only; omega) _
            · simpa using g3'
          case measure => simp [intOf]; omega
      · have hjn : j = n := by omega
        have hjz : ¬ (j : Int) < (n : Int) := by omega
        subst hjn
        have hlf : (firstL nodes j).length = j := firstL_len nodes j
        rw [List.take_of_length_le (by omega)] at ho
        have hO : OwnsR encS 4 76 wr W2.heap.size v (firstL nodes j) := by
          unfold OwnsR
          rw [hlf]
          exact ho
        obtain ⟨aO, cO, hv, _, _⟩ := hO.new hlf
        subst hv
        have HROW := Lib.hid ho
        obtain ⟨v0, v1, v2⟩ := c3K hb2
        obtain ⟨z0, z1, z2⟩ := c3K (KR.out _ hb1)
        obtain ⟨f0, f1, f2⟩ := f3K (KR.out _ hb1)
        have HBF := Lib.hid (show Below w.heap.size w wr from below_next bw hb1)
        clear ho hO hb2 hlf
        go_wp2_with fail
        exact bodyPost_ret (v := .tuple #[.agg #[.int .i64 1, .int .i64 ((j : Int) + 1), .slice aO j cO], .int .i64 0]) (by simp [results, Try.results10, go_sem, z0, z1, z2]) rfl ⟨aO, j, cO, rf_ret HR.out, (by
          rw [HR.out]
          exact rarg_own (t := 76) (base := W2.heap.size) (by repeat (first | with_reducible exact HROW.out | with_reducible refine ownsRow_setCell_below ?_ (by dsimp only; omega) _)) (firstL_len nodes j)), (by repeat (first | with_reducible exact HBF.out | with_reducible refine Below.setCell ?_ (by first | with_reducible exact Nat.le_refl _ | (dsimp only; omega)) _))⟩
  · have HR := Lib.hid (show R = (0, 0, [], 1) by rw [← hR]; exact if_neg hgood)
    have hcs : nodes < 1 ∨ (1 ≤ nodes ∧ 5 < nodes) ∨ (1 ≤ nodes ∧ nodes ≤ 5 ∧ shards < 1) ∨ (1 ≤ nodes ∧ nodes ≤ 5 ∧ 1 ≤ shards ∧ 24 < shards) := by
      rw [btwC_iff, btwC_iff] at hgood
      omega
    clear hgood hR
    rcases hcs with h1 | ⟨h1, h2⟩ | ⟨h1, h2, h3⟩ | ⟨h1, h2, h3, h4⟩
    all_goals
      try have k1 : ¬ nodes < 1 := by omega
      try have k2 : ¬ 5 < nodes := by omega
      try have k3 : ¬ shards < 1 := by omega
      go_enter Try.func10, Try.ntmps10
      go_wp2_with fail
      exact bodyPost_ret (v := .tuple #[.agg #[.int .i64 0, .int .i64 0, .slice none 0 0], .int .i64 1]) (by simp [results, Try.results10, go_sem, z0, z1, z2]) rfl ⟨none, 0, 0, rf_ret HR.out, by rw [HR.out]; exact RArg.nil _ _ _, (by repeat (first | with_reducible exact bw | with_reducible refine Below.setCell ?_ (by first | with_reducible exact Nat.le_refl _ | (dsimp only; omega)) _))⟩
end Go.Proofs.Ytagmjgeofmjjbaa
