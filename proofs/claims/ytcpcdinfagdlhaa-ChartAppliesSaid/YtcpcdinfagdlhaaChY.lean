/-
  CONTRACTS of chart.Text, readShards, Read.
-/
import Derived.Test.YtcpcdinfagdlhaaChX
import Derived.Test.YtcpcdinfagdlhaaChP
import Derived.Test.YtcpcdinfagdlhaaMA3
namespace Go.Proofs.Ytcpcdinfagdlhaa
open Go.RowKit Go.Shelf Go.ChangeShapes Go.WideShapes Go.Deep

theorem ret_strC {a b : ByteArray} (h : a = b) : Ending.returned (.string a) = .returned (.string b) := by rw [h]
theorem shsT_drop {l : List Sd} {j : Nat} (h : j < l.length) : shsT (l.drop j) = shT l[j]! ++ shsT (l.drop (j + 1)) := by rw [drop_moreG h]; rfl
set_option maxRecDepth 100000 in
set_option maxHeartbeats 4000000 in
theorem ctext_any (ep nx : Int) (a : Option Addr) (n c : Nat) (l : List Sd) (w : World) (h : RArg encS 4 w a n c l) :
    Calls Try.prog 32 #[.agg #[.int .i64 ep, .int .i64 nx, .slice a n c]] w (Gives w (.string (ofC (textC ep nx l)))) := by
  obtain ⟨W1, hW1⟩ : ∃ W1, w.alloc (.cells #[.int .i64 ep, .int .i64 nx, .slice a n c] 24) = W1 := ⟨_, rfl⟩
  have bw : Below w.heap.size w W1 := by rw [← hW1]; exact (Below.refl _ _).alloc (Nat.le_refl _) _
  have g1 : w.heap.size < W1.heap.size := by rw [← hW1]; simp
  have hr1 : W1.heap[w.heap.size]? = some (.cells #[.int .i64 ep, .int .i64 nx, .slice a n c] 24) := by rw [← hW1]; exact heap_alloc_new _ _
  obtain ⟨q0, q1, q2⟩ := c3K hr1
  have KS := Lib.hid (fun W (h : Below W1.heap.size W1 W) => c3K ((h.block _ g1).trans hr1))
  have CT := Lib.hid (fun W (hb : Below w.heap.size w W) => chk_any ep nx a n c l W (h.below hb))
  cases ht : chkC ep nx l with
  | false =>
    rw [show textC ep nx l = [] from if_neg (by rw [ht]; simp)]
    have h1 := Lib.hid ht
    clear h hr1
    go_enter Try.func32, Try.ntmps32
    go_wp2_with (go_at_call 19; (with_reducible refine (CT.out _ bw).mono ?_); rw [h1.out]; rintro e w2 ⟨rfl, b2⟩)
    go_ret
    exact ⟨rfl, below_next bw b2⟩
  | true =>
    obtain rfl := h.1
    obtain ⟨hep, hnx, hl, _, _, _⟩ := chkC_parts ht
    have hnb : (l.length : Int) ≤ 9223372036854775807 := by omega
    have hepb : ep ≤ 9223372036854775807 := by omega
    have hnxb : nx ≤ 9223372036854775807 := by omega
    have HF := Lib.hid (chk_fit ht)
    have HA := Lib.hid h
    have h1 := Lib.hid ht
    obtain ⟨R, hR⟩ : ∃ R, textC ep nx l = R := ⟨_, rfl⟩
    have HT := Lib.hid (show bl (numS ep) ++ bl (numS nx) ++ bl (numS (l.length : Int)) ++ shsT (l.drop 0) = R by rw [← hR, show textC ep nx l = bodyC ep nx l from if_pos ht]; rfl)
    rw [hR]
    clear h ht hR hr1
    go_enter Try.func32, Try.ntmps32
    go_wp2_with (go_at_call 19; (with_reducible refine (CT.out _ bw).mono ?_); rw [h1.out]; rintro e w2 ⟨rfl, b2⟩; have b12 := b2; obtain ⟨W3, hW3⟩ : ∃ W3, w2.alloc (.cells #[.pointer none, .slice none 0 0] 139) = W3 := ⟨_, rfl⟩; have b23 : Below w2.heap.size w2 W3 := (by rw [← hW3]; exact (Below.refl _ _).alloc (Nat.le_refl _) _); have hB3 : w2.heap.size < W3.heap.size := (by rw [← hW3]; simp); have bB0 : Bld w2.heap.size w2.heap.size [] W3 := (by rw [← hW3]; exact bld_new w2); have HB0 := Lib.hid (TS.mk (w0 := W3) (B := w2.heap.size) (L := []) (m := 0) (W := W3) bB0 (Nat.le_refl _) (Below.refl _ _) (KeptO.refl _) hB3); have b03 := below_next bw (below_next b2 b23); have b13 := below_next b2 b23; obtain ⟨q0, q1, q2⟩ := KS.out _ b13; have hgB := b2.size; obtain ⟨W4, hW4⟩ : ∃ W4, W3.alloc (.cells #[.int .i64 ep, .int .i64 nx, .int .i64 (l.length : Int)] 3) = W4 := ⟨_, rfl⟩; have hr4 : W4.heap[W3.heap.size]? = some (.cells #[.int .i64 ep, .int .i64 nx, .int .i64 (l.length : Int)] 3 (0, 0)) := (by rw [← hW4]; exact heap_alloc_new _ _); have e0 : W4.cell? ⟨W3.heap.size, 0, none⟩ = some (.int .i64 ep) := cell_of_row _ _ 0 _ _ _ hr4; have b14 := (show Below W1.heap.size W1 W4 by rw [← hW4]; exact b13.alloc b13.size _); have b04 := below_next bw b14; have HP := Lib.hid (HB0.out.below (W' := W4) (by rw [← hW4]; exact (Below.refl _ _).alloc (Nat.le_refl _) _)); have HB := Lib.hid HP.out.base; have hgp := Lib.hid hr4; clear bB0 b23 hr4)
    replace hW1 := Lib.hid hW1
    replace hW3 := Lib.hid hW3
    replace hW4 := Lib.hid hW4
    generalize w2.heap.size = B at *
    generalize W3.heap.size = G at *
    refine wp_loop_rounds 4 ?_
    rw [rounds_succ]
    go_wp2_with (first
      | (go_at_call 80; (with_reducible refine (num_ts HB.out ep hepb).mono ?_); rintro e w' ⟨rfl, hh⟩; replace HB := Lib.hid hh)
      | (go_at_call 79; (with_reducible refine (write_ts HB.out (numS ep) (numS_size hepb) (by omega)).mono ?_); rintro e w' ⟨rfl, hh⟩; replace HB := Lib.hid hh; have e1 := cellsKept (i := 1) HB.out.kept hgp.out (by decide) (by decide)))
    rw [rounds_succ]
    go_wp2_with (first
      | (go_at_call 80; (with_reducible refine (num_ts HB.out nx hnxb).mono ?_); rintro e w' ⟨rfl, hh⟩; replace HB := Lib.hid hh)
      | (go_at_call 79; (with_reducible refine (write_ts HB.out (numS nx) (numS_size hnxb) (by omega)).mono ?_); rintro e w' ⟨rfl, hh⟩; replace HB := Lib.hid hh; have e2 := cellsKept (i := 2) HB.out.kept hgp.out (by decide) (by decide)))
    rw [rounds_succ]
    go_wp2_with (first
      | (go_at_call 80; (with_reducible refine (num_ts HB.out (l.length : Int) hnb).mono ?_); rintro e w' ⟨rfl, hh⟩; replace HB := Lib.hid hh)
      | (go_at_call 79; (with_reducible refine (write_ts HB.out (numS (l.length : Int)) (numS_size hnb) (by omega)).mono ?_); rintro e w' ⟨rfl, hh⟩; replace HB := Lib.hid hh; obtain ⟨q0, q1, q2⟩ := KS.out _ (b14.trans (HB.out.low.mono hgB))))
    rw [rounds_succ]
    go_wp2_with fail
    have hwB : w.heap.size ≤ B := Nat.le_trans bw.size hgB
    clear q0 q1 q2 e0 e1 e2 HP HB0
    go_loopw [7, 9, 33] (fun _ _ i wr => ∃ (j : Nat) (p : List UInt8), i = .int .i64 (j : Int) ∧ j ≤ l.length ∧ Hid (p ++ shsT (l.drop j) = R) ∧ Hid (TS W4 B p (27 + 27 * j) wr))
      (fun _ _ i _ => l.length - (intOf i).toNat)
    case atStart => exact ⟨0, _, rfl, by omega, HT, Lib.hid (HB.out.cast (by simp) (by omega))⟩
    case round =>
      obtain ⟨j, p, rfl, hj, HPt, HS⟩ := hrel
      have bw' : Below w.heap.size w wr := b04.trans (HS.out.low.mono hwB)
      clear HB
      by_cases hlt : j < l.length
      · have hjz : (j : Int) < (l.length : Int) := by omega
        obtain ⟨b, off, e, hb, d0, d1, d2, d3⟩ := (HA.out.below bw').2.2.2.2.shard j hlt
        subst e
        have hf := HF.out l[j]! (by rw [getElem!_pos l j hlt]; exact List.getElem_mem hlt)
        have hp := HPt.out
        rw [shsT_drop hlt] at hp
        generalize l[j]! = sh at d0 d1 d2 d3 hf hp
        obtain ⟨i, lo, hi, nd⟩ := sh
        dsimp only at d0 d1 d2 d3
        obtain ⟨f0, f1, f2, f3, f4, f5⟩ := hf
        dsimp only at f0 f1 f2 f3 f4 f5
        have hib : i ≤ 9223372036854775807 := by omega
        have hhb : hi ≤ 9223372036854775807 := by omega
        have hdb : nd ≤ 9223372036854775807 := by omega
        have HP2 := Lib.hid (show p ++ (shT (i, lo, hi, nd) ++ shsT (l.drop (j + 1))) = R from hp)
        clear hp HPt
        obtain ⟨Wp, hWp⟩ : ∃ Wp, wr.alloc (.cells #[.int .i64 i, .int .i64 lo, .int .i64 hi, .int .i64 nd] 35) = Wp := ⟨_, rfl⟩
        have hgp : Wp.heap[wr.heap.size]? = some (.cells #[.int .i64 i, .int .i64 lo, .int .i64 hi, .int .i64 nd] 35) := by rw [← hWp]; exact heap_alloc_new wr _
        have p0 := cell_of_row _ _ 0 _ _ _ hgp
        have p2 := cell_of_row _ _ 2 _ _ _ hgp
        have p3 := cell_of_row _ _ 3 _ _ _ hgp
        obtain ⟨Wq, hWq⟩ : ∃ Wq, Wp.alloc (.cells #[.int .i64 i, .int .i64 hi, .int .i64 nd] 3) = Wq := ⟨_, rfl⟩
        have hgq : Wq.heap[Wp.heap.size]? = some (.cells #[.int .i64 i, .int .i64 hi, .int .i64 nd] 3 (0, 0)) := by rw [← hWq]; exact heap_alloc_new Wp _
        have e0 : Wq.cell? ⟨Wp.heap.size, 0, none⟩ = some (.int .i64 i) := cell_of_row _ _ 0 _ _ _ hgq
        have HPs := Lib.hid (HS.out.below (W' := Wq) (by rw [← hWq, ← hWp]; exact ((Below.refl _ _).alloc (Nat.le_refl _) _).alloc (by simp) _))
        have HB := Lib.hid HPs.out.base
        replace hgq := Lib.hid hgq
        replace hgp := Lib.hid hgp
        go_wp2_with fail
        refine wp_loop_rounds 4 ?_
        rw [rounds_succ]
        go_wp2_with (first
          | (go_at_call 80; (with_reducible refine (num_ts HB.out i hib).mono ?_); rintro e w' ⟨rfl, hh⟩; replace HB := Lib.hid hh)
          | (go_at_call 79; (with_reducible refine (write_ts HB.out (numS i) (numS_size hib) (by omega)).mono ?_); rintro e w' ⟨rfl, hh⟩; replace HB := Lib.hid hh; have e1 := cellsKept (i := 1) HB.out.kept hgq.out (by decide) (by decide)))
        rw [rounds_succ]
        go_wp2_with (first
          | (go_at_call 80; (with_reducible refine (num_ts HB.out hi hhb).mono ?_); rintro e w' ⟨rfl, hh⟩; replace HB := Lib.hid hh)
          | (go_at_call 79; (with_reducible refine (write_ts HB.out (numS hi) (numS_size hhb) (by omega)).mono ?_); rintro e w' ⟨rfl, hh⟩; replace HB := Lib.hid hh; have e2 := cellsKept (i := 2) HB.out.kept hgq.out (by decide) (by decide)))
        rw [rounds_succ]
        go_wp2_with (first
          | (go_at_call 80; (with_reducible refine (num_ts HB.out nd hdb).mono ?_); rintro e w' ⟨rfl, hh⟩; replace HB := Lib.hid hh)
          | (go_at_call 79; (with_reducible refine (write_ts HB.out (numS nd) (numS_size hdb) (by omega)).mono ?_); rintro e w' ⟨rfl, hh⟩; replace HB := Lib.hid hh))
        rw [rounds_succ]
        go_wp2_with fail
        go_roundw
        case rel => exact ⟨j + 1, p ++ shT (i, lo, hi, nd), by go_num, by omega, Lib.hid (by rw [← HP2.out, List.append_assoc]), Lib.hid ((HPs.out.comp HB.out).cast (by unfold shT; simp [List.append_assoc]) (by omega))⟩
        case measure => simp [intOf]; omega
      · have hjn : j = l.length := by omega
        subst hjn
        have hpr : p = R := by have := HPt.out; rw [List.drop_length] at this; simpa [shsT] using this
        subst hpr
        have hjz : ¬ (l.length : Int) < (l.length : Int) := by omega
        go_wp2_with (go_at_call 81; (with_reducible refine (string_ts HS.out).mono ?_); rintro e w' ⟨rfl, bs⟩)
        go_ret
        exact ⟨rfl, b04.trans (bs.mono hwB)⟩
end Go.Proofs.Ytcpcdinfagdlhaa
