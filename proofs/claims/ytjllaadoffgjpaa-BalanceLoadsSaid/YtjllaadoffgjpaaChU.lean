/-
  CONTRACTS of the document's Find and Owner, of charts.
-/
import Derived.Test.YtjllaadoffgjpaaChR
namespace Go.Proofs.Ytjllaadoffgjpaa
open Go.RowKit Go.Shelf Go.ChangeShapes Go.WideShapes Go.Deep

/-- Where the first shard of which p is true stands; below 0: none. -/
def plcC (p : Sd → Bool) (ep nx : Int) (l : List Sd) : Int := if chkC ep nx l = true then idxC p l else -1
theorem idxC_at {p : Sd → Bool} {l : List Sd} {k : Nat} (hk : k < l.length) (h0 : ∀ j, j < k → p l[j]! = false) (h1 : p l[k]! = true) : idxC p l = (k : Int) := by
  rcases idxC_spec p l with ⟨_, h⟩ | ⟨m, hm, he, hp, hb⟩
  · rw [h k hk] at h1; cases h1
  · rcases Nat.lt_trichotomy m k with q | q | q
    · rw [h0 m q] at hp; cases hp
    · rw [he, q]
    · rw [hb k q] at h1; cases h1
theorem idxC_no {p : Sd → Bool} {l : List Sd} (h0 : ∀ j, j < l.length → p l[j]! = false) : idxC p l = -1 := by
  rcases idxC_spec p l with ⟨h, _⟩ | ⟨m, hm, he, hp, hb⟩
  · exact h
  · rw [h0 m hm] at hp; cases hp
set_option maxRecDepth 100000 in
set_option maxHeartbeats 4000000 in
theorem rfind8_any (ep nx z : Int) (a : Option Addr) (n c : Nat) (l : List Sd) (w : World) (h : RArg encS 4 w a n c l) :
    Calls Try.prog 67 #[.agg #[.int .i64 ep, .int .i64 nx, .slice a n c], .int .i64 z] w (Gives w (.int .i64 (plcC (fun x => x.1 == z) ep nx l))) := by
  obtain ⟨R, hR⟩ : ∃ R, plcC (fun x => x.1 == z) ep nx l = R := ⟨_, rfl⟩
  rw [hR]
  have hn := Lib.hid h.1
  have hnz : (n : Int) ≤ 9223372036854775807 := by have := h.2.1; have := hn.out; omega
  obtain ⟨W1, hW1⟩ : ∃ W1, w.alloc (.cells #[.int .i64 ep, .int .i64 nx, .slice a n c] 34) = W1 := ⟨_, rfl⟩
  have bw : Below w.heap.size w W1 := by rw [← hW1]; exact (Below.refl _ _).alloc (Nat.le_refl _) _
  have g1 : w.heap.size < W1.heap.size := by rw [← hW1]; simp
  have hr1 : W1.heap[w.heap.size]? = some (.cells #[.int .i64 ep, .int .i64 nx, .slice a n c] 34) := by rw [← hW1]; exact heap_alloc_new _ _
  have K3 := Lib.hid (fun W (h : Below W1.heap.size W1 W) => c3K ((h.block _ g1).trans hr1))
  have HP := Lib.hid (fun W (hb : Below W1.heap.size W1 W) => ((h.below bw).below hb).2.2.2.2)
  have CC := Lib.hid (fun W (hb : Below W1.heap.size W1 W) => rcheck8_any ep nx a n c l W ((h.below bw).below hb))
  obtain ⟨q0, q1, q2⟩ := K3.out _ (Below.refl _ _)
  have HD := Lib.hid (show R = if chkC ep nx l = true then idxC (fun x => x.1 == z) l else -1 from hR.symm)
  generalize hck : chkC ep nx l = ck at CC HD
  replace hck := Lib.hid hck
  clear h hr1 hR
  go_enter Try.func67, Try.ntmps67
  go_wp2_with fail
  replace hW1 := Lib.hid hW1
  go_loopw [5] (fun i wr => ∃ (k : Nat), i = .int .i64 (k : Int) ∧ k ≤ n ∧ Hid (ck = true → ∀ j, j < k → (fun x => x.1 == z) l[j]! = false) ∧ Below W1.heap.size W1 wr)
    (fun i _ => n - (intOf i).toNat)
  case atStart => exact ⟨0, rfl, by omega, Lib.hid (fun _ j hj => absurd hj (Nat.not_lt_zero _)), Below.refl _ _⟩
  case round =>
    obtain ⟨k, rfl, hk, HI, hbl⟩ := hrel
    clear q0 q1 q2
    obtain ⟨q0, q1, q2⟩ := K3.out _ hbl
    by_cases hlt : k < n
    · have hkl : k < l.length := by rw [← hn.out]; exact hlt
      have hkz : (k : Int) < (n : Int) := by omega
      have hk0 : (0 : Int) ≤ (k : Int) := by omega
      cases ck with
      | false =>
        go_wp2_with (go_at_call 14; (with_reducible refine (CC.out _ hbl).mono ?_); rintro e w4 ⟨rfl, b4⟩)
        go_roundw
        case rel => exact ⟨k + 1, by go_num, by omega, Lib.hid (fun q => by cases q), below_next hbl b4⟩
        case measure => simp [intOf]; omega
      | true =>
        obtain ⟨b, off, e, hb, c0, c1, c2, c3⟩ := (HP.out _ hbl).shard k hkl
        subst e
        have HY := Lib.hid (fun q => (HD.out.trans (by rw [if_pos rfl]; exact idxC_at hkl (HI.out rfl) q) : R = (k : Int)))
        have HN := Lib.hid (fun q => (fun _ j hj => (Nat.lt_or_eq_of_le (Nat.le_of_lt_succ hj)).elim (fun g => HI.out rfl j g) (fun g => g ▸ q) : true = true → ∀ j, j < k + 1 → (fun x => x.1 == z) l[j]! = false))
        obtain ⟨v0, v1, v2⟩ : l[k]!.1 = l[k]!.1 ∧ l[k]!.2.1 = l[k]!.2.1 ∧ l[k]!.2.2.1 = l[k]!.2.2.1 := ⟨rfl, rfl, rfl⟩
        clear v0 v1 v2
        have HQ := Lib.hid (rfl : (fun x => x.1 == z) l[k]! = (fun x => x.1 == z) l[k]!)
        have HPV := Lib.hid (fun (r : Bool) (q : (fun x => x.1 == z) l[k]! = r) => q)
        obtain ⟨sh, hs⟩ : ∃ sh, l[k]! = sh := ⟨_, rfl⟩
        rw [hs] at c0 c1 c2 c3 HY HN
        replace hs := Lib.hid hs
        clear HQ HPV
        obtain ⟨i, lo, hi, nd⟩ := sh
        dsimp only at c0 c1 c2 c3 HY HN
        have KR := Lib.hid (fun W (hb' : Below wr.heap.size wr W) => (show W.cell? ⟨b, off + k * 4, none⟩ = some (.int .i64 i) ∧ W.cell? ⟨b, off + k * 4 + 1, none⟩ = some (.int .i64 lo) ∧ W.cell? ⟨b, off + k * 4 + 2, none⟩ = some (.int .i64 hi) from ⟨(hb'.cell (p := ⟨b, off + k * 4, none⟩) hb).trans c0, (hb'.cell (p := ⟨b, off + k * 4 + 1, none⟩) hb).trans c1, (hb'.cell (p := ⟨b, off + k * 4 + 2, none⟩) hb).trans c2⟩))
        clear c0 c1 c2 c3
        by_cases hq : i = z
        · have e1 : (i == z) = true := by simpa using hq
          have HYY := Lib.hid (HY.out e1)
          clear hq
          go_wp2_with (go_at_call 14; (with_reducible refine (CC.out _ hbl).mono ?_); rintro e w4 ⟨rfl, b4⟩; have B4 := below_next hbl b4; obtain ⟨q0, q1, q2⟩ := K3.out _ B4; obtain ⟨c0, c1, c2⟩ := KR.out _ b4)
          go_ret
          exact ⟨by rw [HYY.out]; rfl, below_next bw B4⟩
        · have e1 : (i == z) = false := by simpa using hq
          have HNN := Lib.hid (HN.out e1)
          clear hq
          go_wp2_with (go_at_call 14; (with_reducible refine (CC.out _ hbl).mono ?_); rintro e w4 ⟨rfl, b4⟩; have B4 := below_next hbl b4; obtain ⟨q0, q1, q2⟩ := K3.out _ B4; obtain ⟨c0, c1, c2⟩ := KR.out _ b4)
          go_roundw
          case rel => exact ⟨k + 1, by go_num, by omega, HNN, B4⟩
          case measure => simp [intOf]; omega
    · have hkz : ¬ (k : Int) < (n : Int) := by omega
      have HNO := Lib.hid (show R = -1 by
        rw [HD.out]
        split
        · rename_i q
          exact idxC_no (fun j hj => HI.out q j (by have := hn.out; omega))
        · rfl)
      go_wp2_with fail
      go_ret
      exact ⟨by rw [HNO.out]; rfl, below_next bw hbl⟩
end Go.Proofs.Ytjllaadoffgjpaa
