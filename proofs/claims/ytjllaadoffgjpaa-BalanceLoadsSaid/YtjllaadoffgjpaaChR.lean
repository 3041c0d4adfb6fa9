/-
  CONTRACT of the document's Check, of charts.
-/
import Derived.Test.YtjllaadoffgjpaaChP
import Derived.Test.YtjllaadoffgjpaaSB
import Derived.BigQuiet
namespace Go.Proofs.Ytjllaadoffgjpaa
open Go.RowKit Go.Shelf Go.ChangeShapes Go.WideShapes Go.Deep

def hiAt (l : List Sd) (k : Nat) : Int := if k = 0 then 0 else l[k - 1]!.2.2.1
/-- So far the shards may be. -/
structure Inv8 (nx : Int) (l : List Sd) (k : Nat) : Prop where
  cov : covF 0 l = covF (hiAt l k) (l.drop k)
  dist : distF l k = true
  ok : ∀ j, j < k → okS nx l[j]! = true
theorem Inv8.zero (nx : Int) (l : List Sd) : Inv8 nx l 0 := ⟨rfl, rfl, fun _ h => absurd h (Nat.not_lt_zero _)⟩
theorem hiAt_succ (l : List Sd) (k : Nat) : hiAt l (k + 1) = l[k]!.2.2.1 := by unfold hiAt; rw [if_neg (by omega), Nat.add_sub_cancel]
theorem covF_step {l : List Sd} {k : Nat} (hk : k < l.length) (e : Int) : covF e (l.drop k) = ((decide (l[k]!.2.1 = e) && oneB (l[k]!.2.1, l[k]!.2.2.1)) && covF l[k]!.2.2.1 (l.drop (k + 1))) := by rw [drop_moreG hk]; rfl
theorem Inv8.next {nx : Int} {l : List Sd} {k : Nat} (h : Inv8 nx l k) (hk : k < l.length) (h1 : okS nx l[k]! = true) (h2 : l[k]!.2.1 = hiAt l k) (h3 : oneB (l[k]!.2.1, l[k]!.2.2.1) = true) (h4 : hasN (l.take k) l[k]!.1 = false) : Inv8 nx l (k + 1) := by
  refine ⟨?_, ?_, fun j hj => ?_⟩
  · rw [h.cov, covF_step hk, decide_eq_true h2, h3, hiAt_succ]; rfl
  · show (distF l k && !hasN (l.take k) l[k]!.1) = true
    rw [h.dist, h4]; rfl
  · rcases Nat.lt_or_eq_of_le (Nat.le_of_lt_succ hj) with q | q
    · exact h.ok j q
    · rw [q]; exact h1
theorem distF_less {l : List Sd} {k : Nat} : ∀ {n : Nat}, k ≤ n → distF l n = true → distF l k = true
  | 0, hk, h => by obtain rfl : k = 0 := by omega
                   exact h
  | n + 1, hk, h => by
    rcases Nat.lt_or_eq_of_le hk with q | q
    · unfold distF at h
      rw [Bool.and_eq_true] at h
      exact distF_less (Nat.le_of_lt_succ q) h.1
    · rw [q]; exact h
section
variable {ep nx : Int} {l : List Sd} {k : Nat} (hi : Inv8 nx l k) (hk : k < l.length)
include hk
theorem chk8_ok (h : okS nx l[k]! = false) : chkC ep nx l = false := by
  cases hc : chkC ep nx l with
  | false => rfl
  | true =>
    have := List.all_eq_true.1 (chkC_parts hc).2.2.2.2.2 l[k]! (by rw [getElem!_pos l k hk]; exact List.getElem_mem hk)
    rw [h] at this; cases this
theorem chk8_dist (h : hasN (l.take k) l[k]!.1 = true) : chkC ep nx l = false := by
  cases hc : chkC ep nx l with
  | false => rfl
  | true =>
    have h1 := distF_less (show k + 1 ≤ l.length from hk) (chkC_parts hc).2.2.2.2.1
    unfold distF at h1
    rw [h] at h1
    simp at h1
include hi
theorem chk8_cov (h : ¬ (l[k]!.2.1 = hiAt l k ∧ oneB (l[k]!.2.1, l[k]!.2.2.1) = true)) : chkC ep nx l = false := by
  cases hc : chkC ep nx l with
  | false => rfl
  | true =>
    have h1 := (chkC_parts hc).2.2.2.1
    rw [hi.cov, covF_step hk, Bool.and_eq_true, Bool.and_eq_true, decide_eq_true_iff] at h1
    exact absurd h1.1 h
end
theorem chk8_end {ep nx : Int} {l : List Sd} (hi : Inv8 nx l l.length) (h1 : 1 ≤ ep ∧ ep ≤ 1073741824) (h2 : 1 ≤ nx ∧ nx ≤ 65537) (h3 : 1 ≤ l.length ∧ l.length ≤ 24) : chkC ep nx l = decide (hiAt l l.length = 4096) := by
  unfold chkC
  have h4 : covF 0 l = decide (hiAt l l.length = 4096) := by rw [hi.cov, List.drop_length]; rfl
  have h5 : l.all (okS nx) = true := List.all_eq_true.2 fun s hs => by
    obtain ⟨j, hj, rfl⟩ := List.getElem_of_mem hs
    have := hi.ok j hj
    rwa [getElem!_pos l j hj] at this
  rw [(btwC_iff _ _ _).2 h1, (btwC_iff _ _ _).2 h2, (btwC_iff _ _ _).2 (show 1 ≤ (l.length : Int) ∧ (l.length : Int) ≤ 24 by omega), h4, hi.dist, h5]
  simp
theorem chk8_pre {ep nx : Int} {l : List Sd} (h : ¬ ((1 ≤ ep ∧ ep ≤ 1073741824) ∧ (1 ≤ nx ∧ nx ≤ 65537) ∧ (1 ≤ l.length ∧ l.length ≤ 24))) : chkC ep nx l = false := by
  cases hc : chkC ep nx l with
  | false => rfl
  | true => obtain ⟨a, b, c, _⟩ := chkC_parts hc; exact absurd ⟨a, b, c⟩ h
theorem hasN_more {l : List Sd} {j : Nat} (h : j < l.length) (i : Int) : hasN (l.take (j + 1)) i = (hasN (l.take j) i || (l[j]!.1 == i)) := by
  unfold hasN
  rw [take_moreG h, List.any_append]
  simp
set_option maxRecDepth 100000 in
set_option maxHeartbeats 4000000 in
theorem rcheck8_any (ep nx : Int) (a : Option Addr) (n c : Nat) (l : List Sd) (w : World) (h : RArg encS 4 w a n c l) :
    Calls Try.prog 14 #[.agg #[.int .i64 ep, .int .i64 nx, .slice a n c]] w (Gives w (.bool (chkC ep nx l))) := by
  obtain ⟨R, hR⟩ : ∃ R, chkC ep nx l = R := ⟨_, rfl⟩
  rw [hR]
  have hn := Lib.hid h.1
  have hnz : (n : Int) ≤ 9223372036854775807 := by have := h.2.1; have := hn.out; omega
  obtain ⟨W1, hW1⟩ : ∃ W1, w.alloc (.cells #[.int .i64 ep, .int .i64 nx, .slice a n c] 34) = W1 := ⟨_, rfl⟩
  have bw : Below w.heap.size w W1 := by rw [← hW1]; exact (Below.refl _ _).alloc (Nat.le_refl _) _
  have g1 : w.heap.size < W1.heap.size := by rw [← hW1]; simp
  have hr1 : W1.heap[w.heap.size]? = some (.cells #[.int .i64 ep, .int .i64 nx, .slice a n c] 34) := by rw [← hW1]; exact heap_alloc_new _ _
  have K3 := Lib.hid (fun W (h : Below W1.heap.size W1 W) => c3K ((h.block _ g1).trans hr1))
  have HP := Lib.hid (fun W (hb : Below W1.heap.size W1 W) => ((h.below bw).below hb).2.2.2.2)
  obtain ⟨q0, q1, q2⟩ := K3.out _ (Below.refl _ _)
  clear h hr1
  by_cases hpre : (1 ≤ ep ∧ ep ≤ 1073741824) ∧ (1 ≤ nx ∧ nx ≤ 65537) ∧ (1 ≤ l.length ∧ l.length ≤ 24)
  · obtain ⟨⟨p1, p2⟩, ⟨p3, p4⟩, ⟨p5, p6⟩⟩ := hpre
    have HEND := Lib.hid (fun hi => (hR ▸ chk8_end (ep := ep) (nx := nx) (l := l) hi ⟨p1, p2⟩ ⟨p3, p4⟩ ⟨p5, p6⟩ : R = decide (hiAt l l.length = 4096)))
    have HOK := Lib.hid (fun k (hk : k < l.length) h => (hR ▸ chk8_ok (ep := ep) (nx := nx) hk h : R = false))
    have HDI := Lib.hid (fun k (hk : k < l.length) h => (hR ▸ chk8_dist (ep := ep) (nx := nx) hk h : R = false))
    have HCO := Lib.hid (fun k hi (hk : k < l.length) h => (hR ▸ chk8_cov (ep := ep) (nx := nx) hi hk h : R = false))
    replace hR := Lib.hid hR
    rw [← hn.out] at p5 p6 HEND
    have d1 : decide (ep < 1) = false := decide_eq_false (by omega)
    have d2 : decide (1073741824 < ep) = false := decide_eq_false (by omega)
    have d3 : decide (nx < 1) = false := decide_eq_false (by omega)
    have d4 : decide (65537 < nx) = false := decide_eq_false (by omega)
    have d5 : decide ((n : Int) < 1) = false := decide_eq_false (by omega)
    have d6 : decide (24 < (n : Int)) = false := decide_eq_false (by omega)
    have d7 : ¬ n < 1 := by omega
    have d8 : ¬ n = 0 := by omega
    have d9 : ¬ 24 < n := by omega
    have hn0 : (n == 0) = false := by simp; omega
    go_enter Try.func14, Try.ntmps14
    go_wp2_with fail
    replace hW1 := Lib.hid hW1
    go_loopw [4, 5, 6] (fun i _ _ wr => ∃ (k : Nat), i = .int .i64 (k : Int) ∧ k ≤ n ∧ Hid (Inv8 nx l k) ∧ Below W1.heap.size W1 wr)
      (fun i _ _ _ => n - (intOf i).toNat)
    case atStart => exact ⟨0, rfl, by omega, Lib.hid (Inv8.zero _ _), Below.refl _ _⟩
    case round =>
      obtain ⟨k, rfl, hk, HI, hbl⟩ := hrel
      clear q0 q1 q2
      by_cases hlt : k < n
      · have hkl : k < l.length := by rw [← hn.out]; exact hlt
        have hkz : (k : Int) < (n : Int) := by omega
        have hk0 : (0 : Int) ≤ (k : Int) := by omega
        obtain ⟨b, off, e, hb, c0, c1, c2, c3⟩ := (HP.out _ hbl).shard k hkl
        subst e
        obtain ⟨q0, q1, q2⟩ := K3.out _ hbl
        have HOK1 := Lib.hid (HOK.out k hkl)
        have HDI1 := Lib.hid (HDI.out k hkl)
        have HCO1 := Lib.hid (HCO.out k HI.out hkl)
        have HNX := Lib.hid (fun a1 a2 a3 a4 => HI.out.next hkl a1 a2 a3 a4)
        generalize hs : l[k]! = sh at c0 c1 c2 c3 HOK1 HDI1 HCO1 HNX
        replace hs := Lib.hid hs
        obtain ⟨i, lo, hi, nd⟩ := sh
        dsimp only at c0 c1 c2 c3 HOK1 HDI1 HCO1 HNX
        obtain ⟨Wb, hWb⟩ : ∃ Wb, wr.alloc (.cells #[.int .i64 i, .int .i64 lo, .int .i64 hi, .int .i64 nd] 89) = Wb := ⟨_, rfl⟩
        have bb : Below wr.heap.size wr Wb := by rw [← hWb]; exact (Below.refl _ _).alloc (Nat.le_refl _) _
        have gb : wr.heap.size < Wb.heap.size := by rw [← hWb]; simp
        have hrb : Wb.heap[wr.heap.size]? = some (.cells #[.int .i64 i, .int .i64 lo, .int .i64 hi, .int .i64 nd] 89) := by rw [← hWb]; exact heap_alloc_new _ _
        have KB := Lib.hid (fun W (h : Below Wb.heap.size Wb W) => (show W.cell? ⟨wr.heap.size, 0, none⟩ = some (.int .i64 i) ∧ W.cell? ⟨wr.heap.size, 1, none⟩ = some (.int .i64 lo) ∧ W.cell? ⟨wr.heap.size, 2, none⟩ = some (.int .i64 hi) ∧ W.cell? ⟨wr.heap.size, 3, none⟩ = some (.int .i64 nd) from ⟨cell_of_row _ _ 0 _ _ _ ((h.block _ gb).trans hrb), cell_of_row _ _ 1 _ _ _ ((h.block _ gb).trans hrb), cell_of_row _ _ 2 _ _ _ ((h.block _ gb).trans hrb), cell_of_row _ _ 3 _ _ _ ((h.block _ gb).trans hrb)⟩))
        have B1 := below_next hbl bb
        obtain ⟨u0, u1, u2, u3⟩ := KB.out _ (Below.refl _ _)
        obtain ⟨r0, r1, r2⟩ := K3.out _ B1
        clear hrb
        have e1 := fun (q : i < 1) => decide_eq_true q
        by_cases hok : okS nx (i, lo, hi, nd) = true
        · obtain ⟨ho1, ho2⟩ : (1 ≤ i ∧ i ≤ nx - 1) ∧ (0 ≤ nd ∧ nd ≤ 4) := by
            unfold okS at hok
            rw [Bool.and_eq_true, btwC_iff, btwC_iff] at hok
            exact hok
          have f1 : decide (i < 1) = false := decide_eq_false (by omega)
          have f2 : decide (nx ≤ i) = false := decide_eq_false (by omega)
          have f3 : decide (nd < 0) = false := decide_eq_false (by omega)
          have f4 : decide (4 < nd) = false := decide_eq_false (by omega)
          cases ho : oneB (lo, hi) with
          | false =>
            have HR := Lib.hid (HCO1.out (fun q => by have := q.2; rw [ho] at this; cases this))
            have C0 := Lib.hid (fun W => rone_is ho W)
            clear ho hok e1
            go_wp2_with (go_at_call 38; (with_reducible refine (C0.out _).mono ?_); rintro e w4 ⟨rfl, q, os', rfl⟩)
            go_ret
            exact ⟨ret_bool HR.out.symm, below_next bw (below_growN B1 B1.size _ _)⟩
          | true =>
            have C0 := Lib.hid (fun W => rone_is ho W)
            replace ho := Lib.hid ho
            replace hok := Lib.hid hok
            clear e1
            go_upto_region 10 with (go_at_call 38; (with_reducible refine (C0.out _).mono ?_); rintro e w4 ⟨rfl, q, os', rfl⟩; have bg := below_growN (Below.refl Wb.heap.size Wb) (Nat.le_refl _) q os'; generalize Go.Sort.grow (Wb.drewN q) os' = Wg at bg; have B2 := below_next B1 bg; obtain ⟨u0, u1, u2, u3⟩ := KB.out _ bg; obtain ⟨r0, r1, r2⟩ := K3.out _ B2)
            rcases Nat.eq_zero_or_pos k with hz | hz
            · have hhi : hiAt l k = 0 := by unfold hiAt; rw [if_pos hz]
              have e1 : ((k : Int) == 0) = true := by simp; omega
              have e2 : (k == 0) = true := by simp; omega
              have e3 : decide ((0 : Int) < (k : Int)) = false := decide_eq_false (by omega)
              have e4 : decide (0 < k) = false := decide_eq_false (by omega)
              rw [hhi] at HCO1 HNX
              clear hhi hz
              by_cases hlo : lo = 0
              · have e5 : (lo != 0) = false := by simpa using hlo
                replace hlo := Lib.hid hlo
                have HGO := Lib.hid (fun a4 => HNX.out hok.out hlo.out ho.out a4)
                go_quiet (fail)
                obtain ⟨Wi, hWi⟩ : ∃ Wi, Wg.drewN nq = Wi := ⟨_, rfl⟩
                have bi : Below Wg.heap.size Wg Wi := by rw [← hWi]; exact below_drewN (Below.refl _ _) _
                rw [hWi]
                replace hWi := Lib.hid hWi
                have B3 := below_next B2 bi
                have BB3 := below_next bg bi
                clear u0 u1 u2 u3 r0 r1 r2 c0 c1 c2 c3 q0 q1 q2
                go_wp2_with fail
                go_loopw [6] (fun jv wj => ∃ (j : Nat), jv = .int .i64 (j : Int) ∧ j ≤ k ∧ Hid (hasN (l.take j) i = false) ∧ Below Wi.heap.size Wi wj)
                  (fun jv _ => k - (intOf jv).toNat)
                case atStart => exact ⟨0, rfl, by omega, Lib.hid rfl, Below.refl _ _⟩
                case round =>
                  obtain ⟨j, rfl, hj, HN, hbj⟩ := hrel
                  have BJ := below_next B3 hbj
                  by_cases hjk : j < k
                  · have hjz : (j : Int) < (k : Int) := by omega
                    have hjl : j < l.length := by omega
                    have hjn : (j : Int) < (n : Int) := by omega
                    obtain ⟨b2, off2, e2', _, h0, _, _, _⟩ := (HP.out _ BJ).shard j hjl
                    cases e2'
                    obtain ⟨v0, v1, v2, v3⟩ := KB.out _ (below_next BB3 hbj)
                    obtain ⟨s0, s1, s2⟩ := K3.out _ BJ
                    have hm := hasN_more hjl i
                    rw [HN.out] at hm
                    generalize l[j]!.1 = ij at h0 hm
                    by_cases hij : ij = i
                    · have e8 : (ij == i) = true := by simpa using hij
                      have HR := Lib.hid (HDI1.out (by
                        have h9 : hasN (l.take (j + 1)) i = true := by rw [hm, e8]; rfl
                        unfold hasN at h9 ⊢
                        obtain ⟨t, ht, hti⟩ := List.any_eq_true.1 h9
                        exact List.any_eq_true.2 ⟨t, (List.take_sublist_take_left (show j + 1 ≤ k from hjk)).subset ht, hti⟩))
                      clear hm hij
                      go_wp2_with fail
                      go_quiet (fail)
                      go_wp2_with fail
                      go_ret
                      exact ⟨ret_bool HR.out.symm, below_next bw (below_drewN BJ _)⟩
                    · have e8 : (ij == i) = false := by simpa using hij
                      have HN2 := Lib.hid (show hasN (l.take (j + 1)) i = false by rw [hm, e8]; rfl)
                      clear hm hij
                      go_wp2_with fail
                      go_quiet (fail)
                      go_wp2_with fail
                      go_roundw
                      case rel => exact ⟨j + 1, by go_num, by omega, HN2, below_drewN hbj _⟩
                      case measure => simp [intOf]; omega
                  · have hjz : ¬ (j : Int) < (k : Int) := by omega
                    have HI2 := Lib.hid (HGO.out (by have := HN.out; rwa [show j = k by omega] at this))
                    go_wp2_with fail
                    go_roundw
                    case rel => exact ⟨k + 1, by go_num, by omega, HI2, BJ⟩
                    case measure => simp [intOf]; omega
              · have e5 : (lo != 0) = true := by simpa using hlo
                have HR := Lib.hid (HCO1.out (fun q => hlo q.1))
                clear hlo
                go_quiet (fail)
                go_wp2_with fail
                go_ret
                exact ⟨ret_bool HR.out.symm, below_next bw (below_drewN B2 _)⟩
            · obtain ⟨m, rfl⟩ : ∃ m, k = m + 1 := ⟨k - 1, by omega⟩
              obtain ⟨b', off', e', hb', g0, gg1, g2, g3⟩ := (HP.out _ B2).shard m (by omega)
              cases e'
              obtain ⟨ph, hph⟩ : ∃ ph, l[m]!.2.2.1 = ph := ⟨_, rfl⟩
              have hhi : hiAt l (m + 1) = ph := by rw [hiAt_succ, hph]
              rw [hph] at g2
              have e1 : (((m : Int) + 1) == 0) = false := by simp; omega
              have e2 : ((m + 1 : Nat) == 0) = false := by simp
              have e3 : decide ((0 : Int) < (m : Int) + 1) = true := decide_eq_true (by omega)
              have hks : (m : Int) + 1 - 1 = m := by omega
              have hkw : IntKind.i64.wrap ((m : Int) + 1 - 1) = m := by rw [hks]; exact IntWalk.i64_in _ (by omega)
              have ht : ((m : Int) + 1).toNat = m + 1 := by omega
              have hkz' : (m : Int) + 1 < (n : Int) := by omega
              have hmz : (m : Int) < (n : Int) := by omega
              replace hks := Lib.hid hks
              replace hph := Lib.hid hph
              rw [hhi] at HCO1 HNX
              clear hhi
              by_cases hlo : lo = ph
              · have e5 : (lo != ph) = false := by simpa using hlo
                replace hlo := Lib.hid hlo
                have HGO := Lib.hid (fun a4 => HNX.out hok.out hlo.out ho.out a4)
                go_quiet (fail)
                obtain ⟨Wi, hWi⟩ : ∃ Wi, Wg.drewN nq = Wi := ⟨_, rfl⟩
                have bi : Below Wg.heap.size Wg Wi := by rw [← hWi]; exact below_drewN (Below.refl _ _) _
                rw [hWi]
                replace hWi := Lib.hid hWi
                have B3 := below_next B2 bi
                have BB3 := below_next bg bi
                clear u0 u1 u2 u3 r0 r1 r2 c0 c1 c2 c3 q0 q1 q2
                go_wp2_with fail
                go_loopw [6] (fun jv wj => ∃ (j : Nat), jv = .int .i64 (j : Int) ∧ j ≤ (m + 1) ∧ Hid (hasN (l.take j) i = false) ∧ Below Wi.heap.size Wi wj)
                  (fun jv _ => (m + 1) - (intOf jv).toNat)
                case atStart => exact ⟨0, rfl, by omega, Lib.hid rfl, Below.refl _ _⟩
                case round =>
                  obtain ⟨j, rfl, hj, HN, hbj⟩ := hrel
                  have BJ := below_next B3 hbj
                  by_cases hjk : j < (m + 1)
                  · have hjz : (j : Int) < ((m : Int) + 1) := by omega
                    have hjl : j < l.length := by omega
                    have hjn : (j : Int) < (n : Int) := by omega
                    obtain ⟨b2, off2, e2', _, h0, _, _, _⟩ := (HP.out _ BJ).shard j hjl
                    cases e2'
                    obtain ⟨v0, v1, v2, v3⟩ := KB.out _ (below_next BB3 hbj)
                    obtain ⟨s0, s1, s2⟩ := K3.out _ BJ
                    have hm := hasN_more hjl i
                    rw [HN.out] at hm
                    generalize l[j]!.1 = ij at h0 hm
                    by_cases hij : ij = i
                    · have e8 : (ij == i) = true := by simpa using hij
                      have HR := Lib.hid (HDI1.out (by
                        have h9 : hasN (l.take (j + 1)) i = true := by rw [hm, e8]; rfl
                        unfold hasN at h9 ⊢
                        obtain ⟨t, ht, hti⟩ := List.any_eq_true.1 h9
                        exact List.any_eq_true.2 ⟨t, (List.take_sublist_take_left (show j + 1 ≤ (m + 1) from hjk)).subset ht, hti⟩))
                      clear hm hij
                      go_wp2_with fail
                      go_quiet (fail)
                      go_wp2_with fail
                      go_ret
                      exact ⟨ret_bool HR.out.symm, below_next bw (below_drewN BJ _)⟩
                    · have e8 : (ij == i) = false := by simpa using hij
                      have HN2 := Lib.hid (show hasN (l.take (j + 1)) i = false by rw [hm, e8]; rfl)
                      clear hm hij
                      go_wp2_with fail
                      go_quiet (fail)
                      go_wp2_with fail
                      go_roundw
                      case rel => exact ⟨j + 1, by go_num, by omega, HN2, below_drewN hbj _⟩
                      case measure => simp [intOf]; omega
                  · have hjz : ¬ (j : Int) < ((m : Int) + 1) := by omega
                    have HI2 := Lib.hid (HGO.out (by have := HN.out; rwa [show j = (m + 1) by omega] at this))
                    go_wp2_with fail
                    go_roundw
                    case rel => exact ⟨(m + 1) + 1, by go_num, by omega, HI2, BJ⟩
                    case measure => simp [intOf]; omega
              · have e5 : (lo != ph) = true := by simpa using hlo
                have HR := Lib.hid (HCO1.out (fun q => hlo q.1))
                clear hlo
                go_quiet (fail)
                go_wp2_with fail
                go_ret
                exact ⟨ret_bool HR.out.symm, below_next bw (below_drewN B2 _)⟩
        · have HR := Lib.hid (HOK1.out (by simpa using hok))
          have hbad : i < 1 ∨ (¬ i < 1 ∧ nx ≤ i) ∨ (¬ i < 1 ∧ ¬ nx ≤ i ∧ nd < 0) ∨ (¬ i < 1 ∧ ¬ nx ≤ i ∧ ¬ nd < 0 ∧ 4 < nd) := by
            unfold okS at hok
            rw [Bool.and_eq_true, btwC_iff, btwC_iff] at hok
            dsimp only at hok
            omega
          clear hok e1
          rcases hbad with f1 | ⟨f1, f2⟩ | ⟨f1, f2, f3⟩ | ⟨f1, f2, f3, f4⟩
          · have k1 : decide (i < 1) = true := decide_eq_true f1
            go_wp2_with fail
            go_ret
            exact ⟨ret_bool HR.out.symm, below_next bw B1⟩
          · have k1 : decide (i < 1) = false := decide_eq_false f1
            have k2 : decide (nx ≤ i) = true := decide_eq_true f2
            clear f1
            go_wp2_with fail
            go_ret
            exact ⟨ret_bool HR.out.symm, below_next bw B1⟩
          · have k1 : decide (i < 1) = false := decide_eq_false f1
            have k2 : decide (nx ≤ i) = false := decide_eq_false f2
            have k3 : decide (nd < 0) = true := decide_eq_true f3
            clear f1 f2
            go_wp2_with fail
            go_ret
            exact ⟨ret_bool HR.out.symm, below_next bw B1⟩
          · have k1 : decide (i < 1) = false := decide_eq_false f1
            have k2 : decide (nx ≤ i) = false := decide_eq_false f2
            have k3 : decide (nd < 0) = false := decide_eq_false f3
            have k4 : decide (4 < nd) = true := decide_eq_true f4
            clear f1 f2 f3
            go_wp2_with fail
            go_ret
            exact ⟨ret_bool HR.out.symm, below_next bw B1⟩
      · obtain rfl : k = n := by omega
        obtain ⟨m, rfl⟩ : ∃ m, k = m + 1 := ⟨k - 1, by omega⟩
        have hkz : ¬ (m : Int) + 1 < (m : Int) + 1 := by omega
        have hml : m < l.length := by have := hn.out; omega
        obtain ⟨b, off, e, hb, c0, c1, c2, c3⟩ := (HP.out _ hbl).shard m hml
        subst e
        obtain ⟨q0, q1, q2⟩ := K3.out _ hbl
        have HE := Lib.hid (HEND.out (by have := HI.out; rwa [hn.out] at this))
        rw [hiAt_succ] at HE
        generalize l[m]! = sh at c0 c1 c2 c3 HE
        obtain ⟨i, lo, hi, nd⟩ := sh
        dsimp only at c0 c1 c2 c3 HE
        have hks : (m : Int) + 1 - 1 = m := by omega
        have hkw : IntKind.i64.wrap ((m : Int) + 1 - 1) = m := by rw [hks]; exact IntWalk.i64_in _ (by omega)
        have hmz : (m : Int) < (m : Int) + 1 := by omega
        replace hks := Lib.hid hks
        have hq : (hi == 4096) = decide (hi = 4096) := by by_cases z : hi = 4096 <;> simp [z]
        have HE2 := Lib.hid (HE.out.trans hq.symm)
        clear hq HE
        go_wp2_with fail
        go_ret
        exact ⟨ret_bool HE2.out.symm, below_next bw hbl⟩
  · have HR := Lib.hid (show R = false from hR ▸ chk8_pre hpre)
    rw [← hn.out] at hpre
    have hbad : ep < 1 ∨ (¬ ep < 1 ∧ 1073741824 < ep) ∨ (¬ ep < 1 ∧ ¬ 1073741824 < ep ∧ nx < 1) ∨ (¬ ep < 1 ∧ ¬ 1073741824 < ep ∧ ¬ nx < 1 ∧ 65537 < nx) ∨ (¬ ep < 1 ∧ ¬ 1073741824 < ep ∧ ¬ nx < 1 ∧ ¬ 65537 < nx ∧ n = 0) ∨ (¬ ep < 1 ∧ ¬ 1073741824 < ep ∧ ¬ nx < 1 ∧ ¬ 65537 < nx ∧ 24 < n) := by omega
    clear hpre hR
    rcases hbad with f1 | ⟨f1, f2⟩ | ⟨f1, f2, f3⟩ | ⟨f1, f2, f3, f4⟩ | ⟨f1, f2, f3, f4, f5⟩ | ⟨f1, f2, f3, f4, f5⟩
    · have k1 : decide (ep < 1) = true := decide_eq_true f1
      go_enter Try.func14, Try.ntmps14
      go_wp2_with fail
      go_ret
      exact ⟨ret_bool HR.out.symm, bw⟩
    · have k1 : decide (ep < 1) = false := decide_eq_false f1
      have k2 : decide (1073741824 < ep) = true := decide_eq_true f2
      clear f1
      go_enter Try.func14, Try.ntmps14
      go_wp2_with fail
      go_ret
      exact ⟨ret_bool HR.out.symm, bw⟩
    · have k1 : decide (ep < 1) = false := decide_eq_false f1
      have k2 : decide (1073741824 < ep) = false := decide_eq_false f2
      have k3 : decide (nx < 1) = true := decide_eq_true f3
      clear f1 f2
      go_enter Try.func14, Try.ntmps14
      go_wp2_with fail
      go_ret
      exact ⟨ret_bool HR.out.symm, bw⟩
    · have k1 : decide (ep < 1) = false := decide_eq_false f1
      have k2 : decide (1073741824 < ep) = false := decide_eq_false f2
      have k3 : decide (nx < 1) = false := decide_eq_false f3
      have k4 : decide (65537 < nx) = true := decide_eq_true f4
      clear f1 f2 f3
      go_enter Try.func14, Try.ntmps14
      go_wp2_with fail
      go_ret
      exact ⟨ret_bool HR.out.symm, bw⟩
    · have k1 : decide (ep < 1) = false := decide_eq_false f1
      have k2 : decide (1073741824 < ep) = false := decide_eq_false f2
      have k3 : decide (nx < 1) = false := decide_eq_false f3
      have k4 : decide (65537 < nx) = false := decide_eq_false f4
      subst f5
      clear f1 f2 f3 f4
      go_enter Try.func14, Try.ntmps14
      go_wp2_with fail
      go_ret
      exact ⟨ret_bool HR.out.symm, bw⟩
    · have k1 : decide (ep < 1) = false := decide_eq_false f1
      have k2 : decide (1073741824 < ep) = false := decide_eq_false f2
      have k3 : decide (nx < 1) = false := decide_eq_false f3
      have k4 : decide (65537 < nx) = false := decide_eq_false f4
      have k5 : decide ((n : Int) < 1) = false := decide_eq_false (by omega)
      have k6 : decide (24 < (n : Int)) = true := decide_eq_true (by omega)
      have k7 : ¬ n < 1 := by omega
      have k8 : ¬ n = 0 := by omega
      clear f1 f2 f3 f4
      go_enter Try.func14, Try.ntmps14
      go_wp2_with fail
      go_ret
      exact ⟨ret_bool HR.out.symm, bw⟩
end Go.Proofs.Ytjllaadoffgjpaa
