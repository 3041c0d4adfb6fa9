/-
  THE STATEMENT 'splicelaw08.ChartWhole'.
-/
import Derived.Test.YtaopdandkpfdnaaChI
import Derived.Deep.DeepCutAuto
namespace Go.Proofs.Ytaopdandkpfdnaa
open Go.RowKit Go.Shelf Go.ChangeShapes Go.WideShapes Go.Deep

theorem box2W {w W : World} {t : TypeId} {x y : Value} (hb : Below (w.alloc (.cells #[x, y] t)).heap.size (w.alloc (.cells #[x, y] t)) W) :
    W.cell? ⟨w.heap.size, 0, none⟩ = some x ∧ W.cell? ⟨w.heap.size, 1, none⟩ = some y := by
  have hs : w.heap.size < (w.alloc (.cells #[x, y] t)).heap.size := by simp
  have c := fun i => hb.cell (p := ⟨w.heap.size, i, none⟩) hs
  exact ⟨(c 0).trans (cell_of_row _ _ 0 _ _ _ (heap_alloc_new _ _)), (c 1).trans (cell_of_row _ _ 1 _ _ _ (heap_alloc_new _ _))⟩
theorem cntK_take {key : Int} {l : List Sd} {j : Nat} (hj : j < l.length) : cntK key (l.take (j + 1)) = cntK key (l.take j) + if hasK key l[j]! = true then 1 else 0 := by
  rw [take_moreG hj]
  unfold cntK
  rw [List.filter_append, List.length_append]
  congr 1
  rw [List.filter_cons]
  split <;> rfl
theorem cntK_le (key : Int) (l : List Sd) (j : Nat) : cntK key (l.take j) ≤ l.length := by
  unfold cntK
  exact Nat.le_trans (List.length_filter_le _ _) (List.length_take_le' _ _)

set_option maxRecDepth 100000 in
set_option maxHeartbeats 4000000 in
theorem chartWhole_walk (nodes shards : Int) (a : Option Addr) (n c : Nat) (G : List Gd) (k0 : Int) (w : World) (_hnodes : (Lit.int .i64 nodes).wf = true) (_hshards : (Lit.int .i64 shards).wf = true) (h : RArg encG 3 w a n c G) :
    Calls Try.prog 8 #[.int .i64 nodes, .int .i64 shards, .agg #[.slice a n c, .int .i64 k0]] w (TruePost w) := by
  obtain ⟨W1, hW1⟩ : ∃ W1, w.alloc (.cells #[.slice a n c, .int .i64 k0] 72) = W1 := ⟨_, rfl⟩
  have bw : Below w.heap.size w W1 := by rw [← hW1]; exact (Below.refl _ _).alloc (Nat.le_refl _) _
  have K := Lib.hid (fun W (h : Below W1.heap.size W1 W) => box2W (w := w) (t := 72) (x := .slice a n c) (y := .int .i64 k0) (W := W) (by rw [hW1]; exact h))
  obtain ⟨q0, q1⟩ := K.out _ (Below.refl _ _)
  have WK := Lib.hid (show Calls Try.prog 37 #[.int .i64 nodes, .int .i64 shards, .slice a n c, .int .i64 40] W1 (WalkPost (walkL nodes shards (G.take 40)) W1) from walk_any nodes shards a n c G 40 (by decide) W1 (h.below bw))
  obtain ⟨P, hP⟩ : ∃ P, walkL nodes shards (G.take 40) = P := ⟨_, rfl⟩
  have PC := Lib.hid (fun j d => hP ▸ walk_chk nodes shards (G.take 40) j d)
  have PL := Lib.hid (show P.length ≤ 41 by
    rw [← hP]
    show (startC nodes shards :: pastL (startC nodes shards) (G.take 40)).length ≤ 41
    have := pastL_len (G.take 40) (startC nodes shards)
    rw [List.length_take] at this
    rw [List.length_cons]
    omega)
  rw [hP] at WK
  obtain ⟨t1, t2⟩ := tmod_bd 4096 k0 (by omega)
  have ky0 := Int.emod_nonneg (k0.tmod 4096 + 4096) (show (4096 : Int) ≠ 0 by omega)
  have ky1 := Int.emod_lt_of_pos (k0.tmod 4096 + 4096) (show (0 : Int) < 4096 by omega)
  clear hP h
  go_enter Try.func8, Try.ntmps8
  go_wp2_with (go_at_call 37; (with_reducible refine WK.out.mono ?_); rintro e w3 ⟨cs, z, av, nv, cv, rfl, hcd, _, hR, hrows, _, b3⟩; obtain ⟨W4, hW4⟩ : ∃ W4, w3.alloc (.cells #[.int .i64 z.ep, .int .i64 z.nx, .slice z.a z.n z.c] 24) = W4 := ⟨_, rfl⟩; have b4 : Below w3.heap.size w3 W4 := (by rw [← hW4]; exact (Below.refl _ _).alloc (Nat.le_refl _) _); obtain ⟨y0, y1⟩ := K.out _ (below_next b3 b4))
  go_wp2_with fail
  replace hW1 := Lib.hid hW1
  replace hW4 := Lib.hid hW4
  generalize (k0.tmod 4096 + 4096) % 4096 = key at ky0 ky1 ⊢
  obtain rfl : nv = cs.length := hR.1
  have hPl : P.length = cs.length := by rw [← hcd, List.length_map]
  have hn41 : cs.length ≤ 41 := by have := PL.out; omega
  have hnc : cs.length ≤ cv := by have := hR.2.2.1; omega
  have HC := Lib.hid hcd
  have HRR := Lib.hid (hR.below b4)
  have HRS := Lib.hid (hrows.below b4)
  clear hcd hR hrows q0 y0 y1
  go_loopw [10, 11, 12, 13] (fun i _ _ _ wr => ∃ (j : Nat), i = .int .i64 (j : Int) ∧ j ≤ cs.length ∧ Below W4.heap.size W4 wr) (fun i _ _ _ _ => cs.length - (intOf i).toNat)
  case atStart => exact ⟨0, rfl, Nat.zero_le _, Below.refl _ _⟩
  case round =>
    obtain ⟨j, rfl, hj, hbl⟩ := hrel
    by_cases hlt : j < cs.length
    · have hjc : j < cs.length := by omega
      have hjz : (j : Int) < (cs.length : Int) := by omega
      have hj41 : (j : Int) < 41 := by omega
      obtain ⟨b, off, e, hb, h0, h1, h2⟩ := (HRR.out.below hbl).2.2.2.2.chart j hjc
      subst e
      have hrow := HRS.out.below hbl cs[j]! (by rw [getElem!_pos cs j hjc]; exact List.getElem_mem _)
      have hPj : P[j]? = some cs[j]!.cd := by rw [← HC.out, List.getElem?_map, List.getElem?_eq_getElem hjc, getElem!_pos cs j hjc]; rfl
      obtain ⟨ck, hep⟩ := PC.out j _ hPj
      generalize cs[j]! = x at h0 h1 h2 hrow ck hep
      obtain ⟨ep, nx, ra, rn, rc, l⟩ := x
      dsimp only [Cr.cd] at h0 h1 h2 hrow ck hep
      subst hep
      obtain rfl : rn = l.length := hrow.1
      have hrc : l.length ≤ rc := by have := hrow.2.2.1; omega
      have hl24 : l.length ≤ 24 := (chkC_parts ck).2.2.1.2
      have hrz : (l.length : Int) ≤ 24 := by omega
      have CK := Lib.hid (fun W h => ck ▸ chk_any ((j : Int) + 1) nx ra l.length rc l W h)
      have CN := Lib.hid (chkC_cnt ck ky0 ky1)
      have HROW := Lib.hid hrow
      have KK := Lib.hid (fun W (h : Below wr.heap.size wr W) => (show W.cell? ⟨b, off + j * 3, none⟩ = some (.int .i64 ((j : Int) + 1)) ∧ W.cell? ⟨b, off + j * 3 + 1, none⟩ = some (.int .i64 nx) ∧ W.cell? ⟨b, off + j * 3 + 2, none⟩ = some (.slice ra l.length rc) from
        ⟨(h.cell (p := ⟨b, off + j * 3, none⟩) hb).trans h0, (h.cell (p := ⟨b, off + j * 3 + 1, none⟩) hb).trans h1, (h.cell (p := ⟨b, off + j * 3 + 2, none⟩) hb).trans h2⟩))
      clear h0 h1 h2 hrow ck hPj
      replace hbl := Lib.hid hbl
      go_wp2_with fail
      go_loopw [11, 12, 13] (fun m i _ wq => ∃ (q : Nat), m = .int .i64 ((cntK key (l.take q) : Nat) : Int) ∧ i = .int .i64 (q : Int) ∧ q ≤ l.length ∧ Below wr.heap.size wr wq) (fun _ i _ _ => l.length - (intOf i).toNat)
      case atStart => exact ⟨0, by simp [cntK], rfl, Nat.zero_le _, Below.refl _ _⟩
      case round =>
        obtain ⟨q, rfl, rfl, hq, hbq⟩ := hrel
        obtain ⟨c0, c1, c2⟩ := KK.out _ hbq
        by_cases hql : q < l.length
        · have hqz : (q : Int) < (l.length : Int) := by omega
          have hqc : q < l.length := by omega
          obtain ⟨b2, off2, e2, hb2, _, d1, d2, _⟩ := (HROW.out.below hbq).2.2.2.2.shard q hqc
          subst e2
          have hm := cntK_le key l q
          have hnx := cntK_take (key := key) hqc
          generalize l[q]! = s at d1 d2 hnx
          obtain ⟨id, lo, hi, nd⟩ := s
          dsimp only at d1 d2 hnx
          have hz := Lib.hid hnx
          clear hnx
          obtain ⟨m, hmm⟩ : ∃ m, cntK key (l.take q) = m := ⟨_, rfl⟩
          rw [hmm] at hm hz ⊢
          have hmz : (m : Int) ≤ 24 := by omega
          have bA := hbq.alloc hbq.size (.cells #[.int .i64 lo, .int .i64 hi] 40)
          by_cases h5 : lo ≤ key
          · by_cases h6 : key < hi
            · go_wp2_with fail
              go_roundw
              case rel => exact ⟨q + 1, by rw [hz.out, if_pos (by simp [hasK, h5, h6])]; go_num, by go_num, by omega, bA⟩
              case measure => simp [intOf]; omega
            · go_wp2_with fail
              go_roundw
              case rel => exact ⟨q + 1, by rw [hz.out, if_neg (by simp [hasK, h5, h6])]; go_num, by go_num, by omega, bA⟩
              case measure => simp [intOf]; omega
          · go_wp2_with fail
            go_roundw
            case rel => exact ⟨q + 1, by rw [hz.out, if_neg (by simp [hasK, h5])]; go_num, by go_num, by omega, bA⟩
            case measure => simp [intOf]; omega
        · have hqz : ¬ (q : Int) < (l.length : Int) := by omega
          have hc1 : cntK key (l.take q) = 1 := by rw [List.take_of_length_le (by omega)]; exact CN.out
          rw [hc1]
          have hRq := Lib.hid (HROW.out.below hbq)
          go_wp2_with (go_at_call 17; (with_reducible refine (CK.out _ hRq.out).mono ?_); rintro e w9 ⟨rfl, hb9⟩; obtain ⟨x0, x1, x2⟩ := KK.out _ (below_next hbq hb9))
          go_roundw
          case rel => exact ⟨j + 1, by go_num, by omega, below_next hbl.out (below_next hbq hb9)⟩
          case measure => simp [intOf]; omega
    · have hjz : ¬ (j : Int) < (cs.length : Int) := by omega
      go_wp2_with (go_at_call 14; (with_reducible refine (awake8_any _).mono ?_); rintro e w9 ⟨rfl, hb9⟩)
      go_ret
      exact ⟨rfl, below_next bw (below_next b3 (below_next b4 (below_next hbl hb9)))⟩
end Go.Proofs.Ytaopdandkpfdnaa
