/-
  CONTRACT: chart.First.
-/
import Derived.Test.YtihpojllalnmcaaChE
import Derived.OwnWalk
namespace Go.Proofs.Ytihpojllalnmcaa
open Go.RowKit Go.Shelf Go.ChangeShapes Go.WideShapes Go.Deep

def firstAt (nodes : Int) (n k : Nat) : Sd := ((k : Int) + 1, (4096 * (k : Int)).tdiv (n : Int), (4096 * ((k : Int) + 1)).tdiv (n : Int), (k : Int).tmod nodes)
def firstL (nodes : Int) (n : Nat) : List Sd := (List.range n).map (firstAt nodes n)
def partF (nodes : Int) (n k : Nat) : List Sd := (firstL nodes n).take k ++ List.replicate (n - k) (0, 0, 0, 0)
theorem firstL_len (nodes : Int) (n : Nat) : (firstL nodes n).length = n := by unfold firstL; simp
theorem partF_len {nodes : Int} {n k : Nat} (h : k ≤ n) : (partF nodes n k).length = n := by unfold partF; rw [List.length_append, List.length_take, List.length_replicate, firstL_len]; omega
theorem partF_all (nodes : Int) (n : Nat) : partF nodes n n = firstL nodes n := by
  unfold partF
  rw [Nat.sub_self, List.take_of_length_le (by rw [firstL_len]; exact Nat.le_refl _)]
  exact List.append_nil _
theorem set4_flat (x y : Sd) : ∀ (A B : List Sd), ((((flatR encS (A ++ x :: B)).set (A.length * 4) (.int .i64 y.1)).set (A.length * 4 + 1) (.int .i64 y.2.1)).set (A.length * 4 + 2) (.int .i64 y.2.2.1)).set (A.length * 4 + 3) (.int .i64 y.2.2.2) = flatR encS (A ++ y :: B)
  | [], B => rfl
  | z :: A, B => by
    have ih := set4_flat x y A B
    have e : ∀ (q : Sd) (L : List Sd), flatR encS (q :: L) = .int .i64 q.1 :: .int .i64 q.2.1 :: .int .i64 q.2.2.1 :: .int .i64 q.2.2.2 :: flatR encS L := fun _ _ => rfl
    rw [List.cons_append, List.cons_append, e, e, List.length_cons, show (A.length + 1) * 4 = A.length * 4 + 1 + 1 + 1 + 1 from by omega]
    simp only [List.set_cons_succ, show A.length * 4 + 1 + 1 + 1 + 1 + 1 = A.length * 4 + 1 + 1 + 1 + 1 + 1 from rfl, show A.length * 4 + 1 + 1 + 1 + 1 + 2 = A.length * 4 + 2 + 1 + 1 + 1 + 1 from by omega, show A.length * 4 + 1 + 1 + 1 + 1 + 3 = A.length * 4 + 3 + 1 + 1 + 1 + 1 from by omega]
    rw [ih]
theorem partF_set {nodes : Int} {n k : Nat} (h : k < n) :
    ((((flatR encS (partF nodes n k)).set (k * 4) (.int .i64 (firstAt nodes n k).1)).set (k * 4 + 1) (.int .i64 (firstAt nodes n k).2.1)).set (k * 4 + 2) (.int .i64 (firstAt nodes n k).2.2.1)).set (k * 4 + 3) (.int .i64 (firstAt nodes n k).2.2.2) = flatR encS (partF nodes n (k + 1)) := by
  have hA : ((firstL nodes n).take k).length = k := by rw [List.length_take, firstL_len]; omega
  have e1 : partF nodes n k = (firstL nodes n).take k ++ (0, 0, 0, 0) :: List.replicate (n - (k + 1)) (0, 0, 0, 0) := by
    unfold partF
    rw [show n - k = (n - (k + 1)) + 1 by omega, List.replicate_succ]
  have e2 : partF nodes n (k + 1) = (firstL nodes n).take k ++ firstAt nodes n k :: List.replicate (n - (k + 1)) (0, 0, 0, 0) := by
    unfold partF
    rw [take_moreG (by rw [firstL_len]; exact h), List.append_assoc]
    have : (firstL nodes n)[k]! = firstAt nodes n k := by
      rw [getElem!_pos _ k (by rw [firstL_len]; exact h)]
      unfold firstL
      rw [List.getElem_map, List.getElem_range]
    rw [this]
    rfl
  have := set4_flat (0, 0, 0, 0) (firstAt nodes n k) ((firstL nodes n).take k) (List.replicate (n - (k + 1)) (0, 0, 0, 0))
  rw [hA] at this
  rw [e1, e2]
  exact this
theorem made_four (z : Value) (m : Nat) : (madeCells #[z, z, z, z] m).toList = List.replicate m z := by
  apply List.ext_getElem?
  intro j
  by_cases hj : j < m
  · simp [madeCells, hj]
    have : j % 4 = 0 ∨ j % 4 = 1 ∨ j % 4 = 2 ∨ j % 4 = 3 := by omega
    rcases this with h | h | h | h <;> simp [h]
  · simp [madeCells, hj]
theorem flatS_zeros (n : Nat) : flatR encS (List.replicate n (0, 0, 0, 0)) = List.replicate (n * 4) (.int .i64 0) := by
  induction n with
  | zero => rfl
  | succ n ih =>
    rw [List.replicate_succ, show flatR encS (((0, 0, 0, 0) : Sd) :: List.replicate n (0, 0, 0, 0)) = .int .i64 0 :: .int .i64 0 :: .int .i64 0 :: .int .i64 0 :: flatR encS (List.replicate n (0, 0, 0, 0)) from rfl, ih, show (n + 1) * 4 = n * 4 + 1 + 1 + 1 + 1 from by omega]
    rfl
theorem partF_zero (nodes : Int) (n : Nat) : partF nodes n 0 = List.replicate n (0, 0, 0, 0) := by unfold partF; simp
theorem Only.cell {g : Nat} {W W' : World} (h : Only g W W') {p : Addr} (hp : p.block ≠ g) : W'.cell? p = W.cell? p := World.cell?_of_block (w := W) (h.2 p.block hp)
def firstC (nodes shards : Int) : Int × Int × List Sd × Int := if btwC 1 nodes 5 = true ∧ btwC 1 shards 24 = true then (1, shards + 1, firstL nodes shards.toNat, 0) else (0, 0, [], 1)
def FirstPost (r : Int × Int × List Sd × Int) (w : World) (e : Ending) (w' : World) : Prop := ∃ a n c,
  e = .returned (.tuple #[.agg #[.int .i64 r.1, .int .i64 r.2.1, .slice a n c], .int .i64 r.2.2.2]) ∧ RArg encS 4 w' a n c r.2.2.1 ∧ Below w.heap.size w w' ∧ TRow w' a
set_option maxRecDepth 100000 in
set_option maxHeartbeats 4000000 in
theorem first_any (nodes shards : Int) (w : World) : Calls Try.prog 20 #[.int .i64 nodes, .int .i64 shards] w (FirstPost (firstC nodes shards) w) := by
  obtain ⟨i0, hi0, hz0, hz1, hz2⟩ := info_parts Try.infoShard
  obtain ⟨R, hR⟩ : ∃ R, firstC nodes shards = R := ⟨_, rfl⟩
  rw [hR]
  obtain ⟨W1, hW1⟩ : ∃ W1, w.alloc (.cells #[.int .i64 0, .int .i64 0, .slice none 0 0] 24) = W1 := ⟨_, rfl⟩
  have bw : Below w.heap.size w W1 := by rw [← hW1]; exact (Below.refl _ _).alloc (Nat.le_refl _) _
  have g1 : w.heap.size < W1.heap.size := by rw [← hW1]; simp
  have K := Lib.hid (fun W (h : Below W1.heap.size W1 W) => box3Z (w := w) (t := 24) (x := .int .i64 0) (y := .int .i64 0) (z := .slice none 0 0) (W := W) (by rw [hW1]; exact h))
  obtain ⟨z0, z1, z2, f0, f1, f2⟩ := K.out _ (Below.refl _ _)
  obtain ⟨r1, h1⟩ : ∃ r, btwC 1 nodes 5 = r := ⟨_, rfl⟩
  obtain ⟨r2, h2⟩ : ∃ r, btwC 1 shards 24 = r := ⟨_, rfl⟩
  have BN := Lib.hid (fun W => h1 ▸ betweenC_any 1 nodes 5 W)
  have BS := Lib.hid (fun W => h2 ▸ betweenC_any 1 shards 24 W)
  by_cases hgood : r1 = true ∧ r2 = true
  · obtain ⟨rfl, rfl⟩ := hgood
    obtain ⟨hn1, hn5⟩ := (btwC_iff _ _ _).1 h1
    obtain ⟨hs1, hs24⟩ := (btwC_iff _ _ _).1 h2
    obtain ⟨n, hn⟩ : ∃ n : Nat, shards = (n : Int) := ⟨shards.toNat, by omega⟩
    subst hn
    have HR := Lib.hid (show R = (1, (n : Int) + 1, firstL nodes n, 0) by rw [← hR]; unfold firstC; rw [if_pos ⟨h1, h2⟩]; rfl)
    clear hR h1 h2
    have hn1' : 1 ≤ n := by omega
    have hn24 : n ≤ 24 := by omega
    have hw9 : IntKind.i64.wrap ((n : Int) + 1) = (n : Int) + 1 := IntWalk.i64_in _ (by omega)
    go_enter Try.func20, Try.ntmps20
    go_wp2_with (first | (go_at_call 44; (with_reducible refine (BN.out _).mono ?_); rintro e w' ⟨rfl, rfl⟩) | (go_at_call 44; (with_reducible refine (BS.out _).mono ?_); rintro e w' ⟨rfl, rfl⟩) | (at_make; refine wpList_make_full _ rfl (.tmp 18) (.tmp 18) 22 rfl W1.heap.size 61 i0 (.agg #[.int .i64 0, .int .i64 0, .int .i64 0, .int .i64 0]) 4 Try.underlying22 hi0 hz0 hz1 .i64 .i64 n n n rfl rfl rfl rfl (by rw [hz2]; omega) (by unfold maxLen; omega) (Nat.le_refl _) ?_))
    intro w3 hrow hg3
    have b03 : Below W1.heap.size W1 w3 := (Below.refl _ _).grown hg3 (Nat.le_refl _) (fun _ h => by cases h)
    have hr : OwnsR encS 4 61 w3 W1.heap.size (.slice (some ⟨W1.heap.size, 0, none⟩) n n) (partF nodes n 0) := by
      unfold OwnsR
      rw [partF_len (Nat.zero_le _), partF_zero, flatS_zeros, ← made_four]
      exact hrow
    have HR3 := Lib.hid hr
    have G : W1.heap.size < w3.heap.size := (hrow.lt W1.heap.size rfl).2
    obtain ⟨z0, z1, z2, f0, f1, f2⟩ := K.out _ b03
    clear hrow hg3 hr
    replace hW1 := Lib.hid hW1
    go_wp2_with fail
    go_loopw [7, 8, 22] (fun _ _ i wr => ∃ (k : Nat), i = .int .i64 (k : Int) ∧ k ≤ n ∧ Hid (OwnsR encS 4 61 wr W1.heap.size (.slice (some ⟨W1.heap.size, 0, none⟩) n n) (partF nodes n k)) ∧ Below W1.heap.size W1 wr ∧ W1.heap.size < wr.heap.size)
      (fun _ _ i _ => n - (intOf i).toNat)
    case atStart => exact ⟨0, rfl, Nat.zero_le _, HR3, b03, G⟩
    case round =>
      obtain ⟨k, rfl, hk, HO, hbl, hG⟩ := hrel
      by_cases hlt : k < n
      · have hkz : (k : Int) < (n : Int) := by omega
        have hset := partF_set (nodes := nodes) hlt
        have hro := HO.out
        unfold OwnsR at hro
        rw [partF_len hk] at hro
        obtain ⟨q1, hq1⟩ : ∃ q, (4096 * (k : Int)).tdiv (n : Int) = q := ⟨_, rfl⟩
        obtain ⟨q2, hq2⟩ : ∃ q, (4096 * ((k : Int) + 1)).tdiv (n : Int) = q := ⟨_, rfl⟩
        obtain ⟨q3, hq3⟩ : ∃ q, (k : Int).tmod nodes = q := ⟨_, rfl⟩
        have hfa : firstAt nodes n k = ((k : Int) + 1, q1, q2, q3) := by unfold firstAt; rw [hq1, hq2, hq3]
        have hb1 : 0 ≤ q1 ∧ q1 ≤ 4096 * (k : Int) := by rw [← hq1]; exact ⟨Int.tdiv_nonneg (by omega) (by omega), Int.tdiv_le_self (n : Int) (by omega)⟩
        have hb2 : 0 ≤ q2 ∧ q2 ≤ 4096 * ((k : Int) + 1) := by rw [← hq2]; exact ⟨Int.tdiv_nonneg (by omega) (by omega), Int.tdiv_le_self (n : Int) (by omega)⟩
        rw [hfa] at hset
        dsimp only at hset
        have hw1 : IntKind.i64.wrap (4096 * (k : Int)) = 4096 * (k : Int) := IntWalk.i64_in _ (by omega)
        have hw2 : IntKind.i64.wrap ((k : Int) + 1) = (k : Int) + 1 := IntWalk.i64_in _ (by omega)
        have hw3 : IntKind.i64.wrap (4096 * ((k : Int) + 1)) = 4096 * ((k : Int) + 1) := IntWalk.i64_in _ (by omega)
        have hw4 : IntKind.i64.wrap q1 = q1 := IntWalk.i64_in _ (by omega)
        have hw5 : IntKind.i64.wrap q2 = q2 := IntWalk.i64_in _ (by omega)
        have hnz : ((n : Int) == 0) = false := by simp; omega
        have hnz2 : (nodes == 0) = false := by simp; omega
        have hne1 : ¬ n = 0 := by omega
        have hne2 : ¬ (n : Int) = 0 := by omega
        have hne3 : ¬ nodes = 0 := by omega
        have hkn' : (k : Int) ≤ 24 := by omega
        obtain ⟨W7, hW7⟩ : ∃ W7, (wr.alloc (.cells #[.int .i64 q1, .int .i64 q2] 59)).drew = W7 := ⟨_, rfl⟩
        have b7 : Below wr.heap.size wr W7 := by rw [← hW7]; exact ((Below.refl _ _).alloc (Nat.le_refl _) _).drew
        have HRO := Lib.hid (show W7.ownsRow W1.heap.size 61 4 (.slice (some ⟨W1.heap.size, 0, none⟩) n n) n (flatR encS (partF nodes n k)) by rw [← hW7]; exact hro.alloc _)
        have hlen := flatS_len (partF nodes n k)
        rw [partF_len hk] at hlen
        have cz : ∀ i, i < n * 4 → ∃ v, W7.cell? ⟨W1.heap.size, i, none⟩ = some v := fun i hi => ⟨_, (World.ownsRow.cellAt HRO.out i hi).trans (List.getElem?_eq_getElem (by rw [hlen]; exact hi))⟩
        obtain ⟨v0, c0⟩ := cz (k * 4) (by omega)
        obtain ⟨v1, c1⟩ := cz (k * 4 + 1) (by omega)
        obtain ⟨v2, c2⟩ := cz (k * 4 + 2) (by omega)
        obtain ⟨v3, c3⟩ := cz (k * 4 + 3) (by omega)
        have e0 := World.ownsRow.frozenAt HRO.out (k * 4)
        have e1 := World.ownsRow.frozenAt HRO.out (k * 4 + 1)
        have e2 := World.ownsRow.frozenAt HRO.out (k * 4 + 2)
        have e3 := World.ownsRow.frozenAt HRO.out (k * 4 + 3)
        have x0 : W7.cell? ⟨wr.heap.size, 0, none⟩ = some (.int .i64 q1) := by rw [← hW7]; exact cell_of_row _ _ 0 _ _ _ (heap_alloc_new _ _)
        have x1 : W7.cell? ⟨wr.heap.size, 1, none⟩ = some (.int .i64 q2) := by rw [← hW7]; exact cell_of_row _ _ 1 _ _ _ (heap_alloc_new _ _)
        have HSET := Lib.hid (show (((W7.setCell ⟨W1.heap.size, k * 4, none⟩ (.int .i64 ((k : Int) + 1))).setCell ⟨W1.heap.size, k * 4 + 1, none⟩ (.int .i64 q1)).setCell ⟨W1.heap.size, k * 4 + 2, none⟩ (.int .i64 q2)).setCell ⟨W1.heap.size, k * 4 + 3, none⟩ (.int .i64 q3) |>.ownsRow W1.heap.size 61 4 (.slice (some ⟨W1.heap.size, 0, none⟩) n n) n (flatR encS (partF nodes n (k + 1))) by
          rw [← hset]
          exact (World.ownsRow.stored (World.ownsRow.stored (World.ownsRow.stored (World.ownsRow.stored HRO.out _ _).1 _ _).1 _ _).1 _ _).1)
        have HKE := Lib.hid (show ∀ W, Only W1.heap.size W7 W → W.cell? ⟨wr.heap.size, 0, none⟩ = some (.int .i64 q1) ∧ W.cell? ⟨wr.heap.size, 1, none⟩ = some (.int .i64 q2) from fun W h => ⟨(h.cell (p := ⟨wr.heap.size, 0, none⟩) (by show wr.heap.size ≠ W1.heap.size; omega)).trans x0, (h.cell (p := ⟨wr.heap.size, 1, none⟩) (by show wr.heap.size ≠ W1.heap.size; omega)).trans x1⟩)
        have hb7 := below_next hbl b7
        have hG7 := Nat.lt_of_lt_of_le hG b7.size
        have hw6 : IntKind.i64.wrap q3 = q3 := by
          have h1 := Int.tmod_lt_of_pos (k : Int) (show 0 < nodes by omega)
          have h2 := Int.tmod_nonneg nodes (show 0 ≤ (k : Int) by omega)
          rw [hq3] at h1 h2
          exact IntWalk.i64_in _ (by omega)
        clear hset hro hfa hlen cz hb1 hb2
        go_upto_region 7 with fail
        go_cut [8] from 25 to 44 (fun p wx => p = .pointer (some ⟨wr.heap.size, 0, none⟩) ∧ wx = W7)
        case first =>
          go_region_held3 (fun _ => True) (trivial) (fail)
          all_goals
            go_wp2_with fail
            go_meet
            exact ⟨rfl, rfl⟩
        case rest =>
          obtain ⟨rfl, rfl⟩ := hcut
          replace hW7 := Lib.hid hW7
          go_wp2_with fail
          go_region_held3 (fun W => W.cell? ⟨wr.heap.size, 0, none⟩ = some (.int .i64 q1) ∧ W.cell? ⟨wr.heap.size, 1, none⟩ = some (.int .i64 q2)) (exact HKE.out _ (by repeat (first | exact Only.refl _ _ | refine Only.set ?_ _ _ | refine Only.drewR ?_))) (fail)
          all_goals
            go_wp2
            go_roundw
            case rel => exact ⟨k + 1, by go_num, by omega, Lib.hid (by unfold OwnsR; rw [partF_len (by omega)]; exact HSET.out), (by repeat (first | exact hb7 | refine Below.drew ?_ | refine Below.setCell ?_ (show W1.heap.size ≤ W1.heap.size from Nat.le_refl _) _)), by simpa using hG7⟩
            case measure => simp [intOf]; omega
      · have hkn : k = n := by omega
        have hkz : ¬ (k : Int) < (n : Int) := by omega
        subst hkn
        have hfin := HO.out
        rw [partF_all] at hfin
        have HF := Lib.hid hfin
        obtain ⟨z0, z1, z2, f0, f1, f2⟩ := K.out _ hbl
        go_wp2
        exact bodyPost_ret (v := .tuple #[.agg #[.int .i64 1, .int .i64 ((k : Int) + 1), .slice (some ⟨W1.heap.size, 0, none⟩) k k], .int .i64 0]) (by simp [results, Try.results20, go_sem, z0, z1, z2]) rfl ⟨some ⟨W1.heap.size, 0, none⟩, k, k, by rw [HR.out], by rw [HR.out]; exact OwnsR.row (OwnsR.only HF.out (by repeat (first | exact Only.refl _ _ | refine Only.set ?_ _ _ | refine Only.drewR ?_)) g1), (by repeat (first | exact below_next bw hbl | refine Below.setCell ?_ (show w.heap.size ≤ w.heap.size from Nat.le_refl _) _)), OwnsR.trow (OwnsR.only HF.out (by repeat (first | exact Only.refl _ _ | refine Only.set ?_ _ _ | refine Only.drewR ?_)) g1)⟩
  · have HR := Lib.hid (show R = (0, 0, [], 1) by rw [← hR]; unfold firstC; rw [if_neg (by rw [h1, h2]; exact hgood)])
    clear hR h1 h2
    cases r1 <;> cases r2
    all_goals first
      | exact absurd ⟨rfl, rfl⟩ hgood
      | (go_enter Try.func20, Try.ntmps20
         go_wp2_with (first | (go_at_call 44; (with_reducible refine (BN.out _).mono ?_); rintro e w' ⟨rfl, rfl⟩) | (go_at_call 44; (with_reducible refine (BS.out _).mono ?_); rintro e w' ⟨rfl, rfl⟩))
         exact bodyPost_ret (v := .tuple #[.agg #[.int .i64 0, .int .i64 0, .slice none 0 0], .int .i64 1]) (by simp [results, Try.results20, go_sem, z0, z1, z2]) rfl ⟨none, 0, 0, by rw [HR.out], by rw [HR.out]; exact RArg.nil _ _ _, (by repeat (first | exact bw | refine Below.setCell ?_ (show w.heap.size ≤ w.heap.size from Nat.le_refl _) _)), TRow.none _⟩)
end Go.Proofs.Ytihpojllalnmcaa
