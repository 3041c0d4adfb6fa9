/-
  CONTRACT of the document's Text, of charts.
-/
import Derived.Test.YtcpcdinfagdlhaaChOx
import Derived.Test.YtcpcdinfagdlhaaChX
import Derived.Test.YtcpcdinfagdlhaaVB
import Derived.Deep.RegionHeld3
namespace Go.Proofs.Ytcpcdinfagdlhaa
open Go.RowKit Go.Shelf Go.ChangeShapes Go.WideShapes Go.Deep

theorem ba_app_size (a b : ByteArray) : (a ++ b).size = a.size + b.size := by rw [ba_size, ba_app, List.length_append, ← ba_size, ← ba_size]
theorem shsT_ba {l : List Sd} {j : Nat} (h : j < l.length) : ofC (shsT (l.drop j)) = numS l[j]!.1 ++ (numS l[j]!.2.2.1 ++ (numS l[j]!.2.2.2 ++ ofC (shsT (l.drop (j + 1))))) := by
  rw [drop_moreG h]
  show ofC (shT l[j]! ++ shsT (l.drop (j + 1))) = _
  unfold shT
  rw [ofC_app, ofC_app, ofC_app, ofC_bl, ofC_bl, ofC_bl]
  simp only [ba_assoc]
set_option maxRecDepth 100000 in
set_option maxHeartbeats 8000000 in
theorem rtext8_any (ep nx : Int) (a : Option Addr) (n c : Nat) (l : List Sd) (w : World) (h : RArg encS 4 w a n c l) :
    Calls Try.prog 33 #[.agg #[.int .i64 ep, .int .i64 nx, .slice a n c]] w (Gives w (.string (ofC (textC ep nx l)))) := by
  obtain ⟨W1, hW1⟩ : ∃ W1, w.alloc (.cells #[.int .i64 ep, .int .i64 nx, .slice a n c] 30) = W1 := ⟨_, rfl⟩
  have bw : Below w.heap.size w W1 := by rw [← hW1]; exact (Below.refl _ _).alloc (Nat.le_refl _) _
  have g1 : w.heap.size < W1.heap.size := by rw [← hW1]; simp
  have hr1 : W1.heap[w.heap.size]? = some (.cells #[.int .i64 ep, .int .i64 nx, .slice a n c] 30) := by rw [← hW1]; exact heap_alloc_new _ _
  have K3 := Lib.hid (fun W (h : Below W1.heap.size W1 W) => c3K ((h.block _ g1).trans hr1))
  have HP := Lib.hid (fun W (hb : Below W1.heap.size W1 W) => ((h.below bw).below hb).2.2.2.2)
  have CC := Lib.hid (fun W (hb : Below W1.heap.size W1 W) => rcheck8_any ep nx a n c l W ((h.below bw).below hb))
  obtain ⟨q0, q1, q2⟩ := K3.out _ (Below.refl _ _)
  have hn := Lib.hid h.1
  cases ht : chkC ep nx l with
  | false =>
    rw [show textC ep nx l = [] from if_neg (by rw [ht]; simp)]
    rw [ht] at CC
    clear h hr1 ht
    go_enter Try.func33, Try.ntmps33
    go_wp2_with (go_at_call 20; (with_reducible refine (CC.out _ (Below.refl _ _)).mono ?_); rintro e w2 ⟨rfl, b2⟩)
    go_ret
    exact ⟨rfl, below_next bw b2⟩
  | true =>
    rw [ht] at CC
    obtain ⟨hep, hnx, hl, _, _, _⟩ := chkC_parts ht
    rw [← hn.out] at hl
    have hnz : (n : Int) ≤ 24 := by omega
    have HF := Lib.hid (chk_fit ht)
    obtain ⟨R, hR⟩ : ∃ R, ofC (textC ep nx l) = R := ⟨_, rfl⟩
    have H0 := Lib.hid (show numS ep ++ numS nx ++ numS (n : Int) ++ ofC (shsT (l.drop 0)) = R by
      rw [← hR, show textC ep nx l = bodyC ep nx l from if_pos ht, hn.out]
      unfold bodyC
      rw [ofC_app, ofC_app, ofC_app, ofC_bl, ofC_bl, ofC_bl]; rfl)
    rw [hR]
    have g1' := numS_size (n := ep) (by omega)
    have g2' := numS_size (n := nx) (by omega)
    have g3' := numS_size (n := (n : Int)) (by omega)
    have hr1 : ¬ 9223372036854775807 < (numS ep).size + (numS nx).size := by (try simp only [ba_app_size]); omega
    have hs1 : ¬ 9223372036854775807 < (numS ep).size + (numS nx).size := by omega
    have hr2 : ¬ 9223372036854775807 < (numS ep ++ numS nx).size + (numS (n : Int)).size := by (try simp only [ba_app_size]); omega
    have hs2 : ¬ 9223372036854775807 < (numS ep).size + (numS nx).size + (numS (n : Int)).size := by omega
    clear h hr1 ht hR
    go_enter Try.func33, Try.ntmps33
    go_upto_region 3 with (go_at_call 20; (with_reducible refine (CC.out _ (Below.refl _ _)).mono ?_); rintro e w2 ⟨rfl, b2⟩)
    replace hW1 := Lib.hid hW1
    have KA := Lib.hid (fun W (hb : Below w2.heap.size w2 W) => K3.out _ (below_next b2 hb))
    have HB := Lib.hid (Below.refl w2.heap.size w2)
    clear q0 q1 q2
    obtain ⟨q0, q1, q2⟩ := KA.out _ (Below.refl _ _)
    (first | go_region_held3 (fun W => W.cell? ⟨w.heap.size, 0, none⟩ = some (.int .i64 ep) ∧ W.cell? ⟨w.heap.size, 1, none⟩ = some (.int .i64 nx) ∧ W.cell? ⟨w.heap.size, 2, none⟩ = some (.slice a n c)) (exact KA.out _ (below_next HB.out (by repeat (first | with_reducible exact Below.refl _ _ | with_reducible refine toDK ?_ | with_reducible refine Below.alloc ?_ (by first | exact Nat.le_refl _ | omega | (simp; omega)) _)))) ((first
      | (go_at_call 82; (with_reducible refine (refNum_any ep _ (by omega)).mono ?_); rintro e wa ⟨rfl, ba⟩; replace HB := Lib.hid (below_next (below_next HB.out (by repeat (first | with_reducible exact Below.refl _ _ | with_reducible refine toDK ?_ | with_reducible refine Below.alloc ?_ (by first | exact Nat.le_refl _ | omega | (simp; omega)) _))) ba); clear ba)
      | (go_at_call 82; (with_reducible refine (refNum_any nx _ (by omega)).mono ?_); rintro e wa ⟨rfl, ba⟩; replace HB := Lib.hid (below_next (below_next HB.out (by repeat (first | with_reducible exact Below.refl _ _ | with_reducible refine toDK ?_ | with_reducible refine Below.alloc ?_ (by first | exact Nat.le_refl _ | omega | (simp; omega)) _))) ba); clear ba)
      | (go_at_call 82; (with_reducible refine (refNum_any (n : Int) _ (by omega)).mono ?_); rintro e wa ⟨rfl, ba⟩; replace HB := Lib.hid (below_next (below_next HB.out (by repeat (first | with_reducible exact Below.refl _ _ | with_reducible refine toDK ?_ | with_reducible refine Below.alloc ?_ (by first | exact Nat.le_refl _ | omega | (simp; omega)) _))) ba); clear ba))) | fail)
    all_goals
      have B3 := below_next b2 (below_next HB.out (by repeat (first | with_reducible exact Below.refl _ _ | with_reducible refine toDK ?_ | with_reducible refine Below.alloc ?_ (by first | exact Nat.le_refl _ | omega | (simp; omega)) _)))
      clear q0 q1 q2 hr1 hs1 hr2 hs2
      go_wp2_with fail
      go_loopw [3, 4] (fun v i wr => ∃ (j : Nat) (t : ByteArray), v = .string t ∧ i = .int .i64 (j : Int) ∧ j ≤ n ∧ t.size ≤ 27 + 27 * j ∧ Hid (t ++ ofC (shsT (l.drop j)) = R) ∧ Below W1.heap.size W1 wr)
        (fun _ i _ => n - (intOf i).toNat)
      case atStart => exact ⟨0, _, rfl, rfl, by omega, by simp only [ba_app_size]; omega, H0, B3⟩
      case round =>
        obtain ⟨j, t, rfl, rfl, hj, hts, HT, hbl⟩ := hrel
        obtain ⟨q0, q1, q2⟩ := K3.out _ hbl
        by_cases hlt : j < n
        · have hjl : j < l.length := by rw [← hn.out]; exact hlt
          have hjz : (j : Int) < (n : Int) := by omega
          have hj0 : (0 : Int) ≤ (j : Int) := by omega
          obtain ⟨b, off, e, hb, d0, _, d2, d3⟩ := (HP.out _ hbl).shard j hjl
          subst e
          have hf := HF.out l[j]! (by rw [getElem!_pos l j hjl]; exact List.getElem_mem hjl)
          have hp := HT.out
          rw [shsT_ba hjl] at hp
          generalize l[j]! = sh at d0 d2 d3 hf hp
          obtain ⟨i, lo, hi, nd⟩ := sh
          dsimp only at d0 d2 d3 hp
          obtain ⟨f0, f1, f2, f3, f4, f5⟩ := hf
          dsimp only at f0 f1 f2 f3 f4 f5
          have z1 := numS_size (n := i) (by omega)
          have z2 := numS_size (n := hi) (by omega)
          have z3 := numS_size (n := nd) (by omega)
          have hr1 : ¬ 9223372036854775807 < (t).size + (numS i).size := by (try simp only [ba_app_size]); omega
          have hs1 : ¬ 9223372036854775807 < (t).size + (numS i).size := by omega
          have hr2 : ¬ 9223372036854775807 < (t ++ numS i).size + (numS hi).size := by (try simp only [ba_app_size]); omega
          have hs2 : ¬ 9223372036854775807 < (t).size + (numS i).size + (numS hi).size := by omega
          have hr3 : ¬ 9223372036854775807 < (t ++ numS i ++ numS hi).size + (numS nd).size := by (try simp only [ba_app_size]); omega
          have hs3 : ¬ 9223372036854775807 < (t).size + (numS i).size + (numS hi).size + (numS nd).size := by omega
          have HT2 := Lib.hid (show t ++ numS i ++ numS hi ++ numS nd ++ ofC (shsT (l.drop (j + 1))) = R by rw [← hp]; simp only [ba_assoc])
          have HZ2 := Lib.hid (show (t ++ numS i ++ numS hi ++ numS nd).size ≤ 27 + 27 * (j + 1) by simp only [ba_app_size]; omega)
          have KA2 := Lib.hid (fun W (hq : Below wr.heap.size wr W) => (show W.cell? ⟨w.heap.size, 2, none⟩ = some (.slice (some ⟨b, off, none⟩) n c) ∧ W.cell? ⟨b, off + j * 4, none⟩ = some (.int .i64 i) ∧ W.cell? ⟨b, off + j * 4 + 2, none⟩ = some (.int .i64 hi) ∧ W.cell? ⟨b, off + j * 4 + 3, none⟩ = some (.int .i64 nd) from ⟨(K3.out _ (below_next hbl hq)).2.2, (hq.cell (p := ⟨b, off + j * 4, none⟩) hb).trans d0, (hq.cell (p := ⟨b, off + j * 4 + 2, none⟩) hb).trans d2, (hq.cell (p := ⟨b, off + j * 4 + 3, none⟩) hb).trans d3⟩))
          have HB := Lib.hid (Below.refl wr.heap.size wr)
          clear hp HT
          go_wp2_with fail
          (first | go_region_held3 (fun W => W.cell? ⟨w.heap.size, 2, none⟩ = some (.slice (some ⟨b, off, none⟩) n c) ∧ W.cell? ⟨b, off + j * 4, none⟩ = some (.int .i64 i) ∧ W.cell? ⟨b, off + j * 4 + 2, none⟩ = some (.int .i64 hi) ∧ W.cell? ⟨b, off + j * 4 + 3, none⟩ = some (.int .i64 nd)) (exact KA2.out _ (below_next HB.out (by repeat (first | with_reducible exact Below.refl _ _ | with_reducible refine toDK ?_ | with_reducible refine Below.alloc ?_ (by first | exact Nat.le_refl _ | omega | (simp; omega)) _)))) ((first
            | (go_at_call 82; (with_reducible refine (refNum_any i _ (by omega)).mono ?_); rintro e wa ⟨rfl, ba⟩; replace HB := Lib.hid (below_next (below_next HB.out (by repeat (first | with_reducible exact Below.refl _ _ | with_reducible refine toDK ?_ | with_reducible refine Below.alloc ?_ (by first | exact Nat.le_refl _ | omega | (simp; omega)) _))) ba); clear ba)
            | (go_at_call 82; (with_reducible refine (refNum_any hi _ (by omega)).mono ?_); rintro e wa ⟨rfl, ba⟩; replace HB := Lib.hid (below_next (below_next HB.out (by repeat (first | with_reducible exact Below.refl _ _ | with_reducible refine toDK ?_ | with_reducible refine Below.alloc ?_ (by first | exact Nat.le_refl _ | omega | (simp; omega)) _))) ba); clear ba)
            | (go_at_call 82; (with_reducible refine (refNum_any nd _ (by omega)).mono ?_); rintro e wa ⟨rfl, ba⟩; replace HB := Lib.hid (below_next (below_next HB.out (by repeat (first | with_reducible exact Below.refl _ _ | with_reducible refine toDK ?_ | with_reducible refine Below.alloc ?_ (by first | exact Nat.le_refl _ | omega | (simp; omega)) _))) ba); clear ba))) | fail)
          all_goals
            go_wp2_with fail
            go_roundw
            case rel => exact ⟨j + 1, _, rfl, by go_num, by omega, HZ2.out, HT2, below_next hbl (below_next HB.out (by repeat (first | with_reducible exact Below.refl _ _ | with_reducible refine toDK ?_ | with_reducible refine Below.alloc ?_ (by first | exact Nat.le_refl _ | omega | (simp; omega)) _)))⟩
            case measure => simp [intOf]; omega
        · have hjz : ¬ (j : Int) < (n : Int) := by omega
          have hfin := HT.out
          rw [List.drop_eq_nil_of_le (by rw [← hn.out]; omega)] at hfin
          have HE := Lib.hid (show t = R by rw [← hfin]; refine ba_ext ?_; rw [ba_app]; simp [shsT, ofC])
          clear hfin
          go_wp2_with fail
          go_ret
          exact ⟨by rw [HE.out]; rfl, below_next bw hbl⟩
end Go.Proofs.Ytcpcdinfagdlhaa
