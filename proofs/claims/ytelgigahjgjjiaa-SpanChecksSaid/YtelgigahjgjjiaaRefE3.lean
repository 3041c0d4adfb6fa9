/-
  CONTRACTS of the document's Mix and Some.
-/
import Derived.Test.YtelgigahjgjjiaaRefD3
namespace Go.Proofs.Ytelgigahjgjjiaa
open Go.RowKit Go.Shelf

theorem new1 (w : World) (v : Value) (t : TypeId) (j : Nat) (u : Value) (hj : [v][j]? = some u) : (w.alloc (.cells #[v] t)).cell? ((⟨w.heap.size, 0, none⟩ : Addr).add j) = some u := by
  match j, hj with
  | 0, hj => simp at hj; subst hj; simp [Addr.add]
theorem one1 {v : Value} (h : v.oneCell' = true) : ∀ u ∈ [v], u.oneCell' = true := fun u hu => by simp at hu; subst hu; exact h

theorem mixP_yes' (f : Bool → Bool → Bool) {A B : List Sp} (hA : chkB A = true) (hB : chkB B = true) : mixP f A B = limP (setOf fun j => f (hasB A j) (hasB B j)) := if_pos ⟨hA, hB⟩
set_option maxRecDepth 100000 in
theorem mix_bad (A B : List Sp) (aA aB : Option Addr) (nA nB cA cB : Nat) (h : Int) (w : World) (hA : Arg w aA nA cA A) (hB : Arg w aB nB cB B) (hbad : chkB A = false ∨ (chkB A = true ∧ chkB B = false)) :
    Calls Try.prog 28 #[.slice aA nA cA, .slice aB nB cB, .int .i64 h] w (SetArg w ([], 1)) := by
  replace hA := Lib.hid hA
  replace hB := Lib.hid hB
  rcases hbad with kA | ⟨kA, kB⟩
  · replace kA := Lib.hid kA
    go_enter Try.func28, Try.ntmps28
    go_wp2_with (go_at_call 19; (with_reducible refine (rcheck_any aA nA cA A _ hA.out).mono ?_); rw [kA.out]; rintro e w1 ⟨rfl, b1⟩)
    go_ret2
    exact ⟨_, _, _, rfl, ⟨rfl, by simp, Nat.le_refl _, Nat.zero_le _, PIn.nil _ _ _⟩, b1⟩
  · replace kA := Lib.hid kA
    replace kB := Lib.hid kB
    go_enter Try.func28, Try.ntmps28
    go_wp2_with (first | (go_at_call 19; (with_reducible refine (rcheck_any aA nA cA A _ hA.out).mono ?_); rw [kA.out]; rintro e w1 ⟨rfl, b1⟩) | (go_at_call 19; (with_reducible refine (rcheck_any aB nB cB B _ (hB.out.below b1)).mono ?_); rw [kB.out]; rintro e w2 ⟨rfl, b2⟩; have b12 := below_next b1 b2))
    go_ret2
    exact ⟨_, _, _, rfl, ⟨rfl, by simp, Nat.le_refl _, Nat.zero_le _, PIn.nil _ _ _⟩, b12⟩

set_option maxRecDepth 100000 in
set_option maxHeartbeats 4000000 in
theorem mix0_ok (A B : List Sp) (aA aB : Option Addr) (nA nB cA cB : Nat) (w : World) (hA : Arg w aA nA cA A) (hB : Arg w aB nB cB B) (kA : chkB A = true) (kB : chkB B = true) :
    Calls Try.prog 28 #[.slice aA nA cA, .slice aB nB cB, .int .i64 0] w (SetArg w (limP (setOf fun j => (fun x y => x || y) (hasB A j) (hasB B j)))) := by
  obtain ⟨i0, hi, hz0, hz1, hz2⟩ := info_parts Try.infoBool
  replace hA := Lib.hid hA
  replace hB := Lib.hid hB
  replace kA := Lib.hid kA
  replace kB := Lib.hid kB
  go_enter Try.func28, Try.ntmps28
  go_wp2_with (first | (go_at_call 19; (with_reducible refine (rcheck_any aA nA cA A _ hA.out).mono ?_); rw [kA.out]; rintro e w1 ⟨rfl, b1⟩) | (go_at_call 19; (with_reducible refine (rcheck_any aB nB cB B _ (hB.out.below b1)).mono ?_); rw [kB.out]; rintro e w2 ⟨rfl, b2⟩; have b12 := below_next b1 b2) | (go_at_call 37; (with_reducible refine (keys_any aA nA cA A _ (hA.out.below b12)).mono ?_); rintro e w3 ⟨gA, dA, rfl, hKA, b3⟩; have b13 := below_next b12 b3; replace hKA := Lib.hid hKA) | (go_at_call 37; (with_reducible refine (keys_any aB nB cB B _ (hB.out.below b13)).mono ?_); rintro e w4 ⟨gB, dB, rfl, hKB, b4⟩; have b14 := below_next b13 b4; replace hKB := Lib.hid hKB; have hKA' := Lib.hid (hKA.out.below b4)))
  go_loopw [10, 11, 12] (fun v i _ wr => ∃ (k : Nat), i = .int .i64 (k : Int) ∧ k ≤ 4096 ∧ Hid (wr.ownsRow w4.heap.size 4 1 v k (tab (fun j => (fun x y => x || y) (hasB A j) (hasB B j)) k)) ∧ Below w4.heap.size w4 wr)
    (fun _ i _ _ => 4096 - (intOf i).toNat)
  case atStart => exact ⟨0, rfl, by omega, Lib.hid ⟨rfl, .inl ⟨rfl, rfl⟩⟩, Below.refl _ _⟩
  case round =>
    obtain ⟨k, rfl, hk4, HO, hbl⟩ := hrel
    have hsz := hbl.size
    by_cases hlt : k < 4096
    · have hltz : (k : Int) < 4096 := by omega
      have cx := (hKA'.out.below hbl).2 k hlt
      have cy := (hKB.out.below hbl).2 k hlt
      cases hx : hasB A (k : Int)
      · cases hy : hasB B (k : Int)
        · have hs := Lib.hid (show tab (fun j => (fun x y => x || y) (hasB A j) (hasB B j)) (k + 1) = tab (fun j => (fun x y => x || y) (hasB A j) (hasB B j)) k ++ [.bool false] by rw [tab_succ]; dsimp only; rw [hx, hy]; rfl)
          rw [hx] at cx
          rw [hy] at cy
          replace hx := Lib.hid hx
          replace hy := Lib.hid hy
          go_wp2_with (at_builtin; refine wpList_append_own _ rfl _ _ 50 rfl w4.heap.size 4 i0 (.bool false) 1 1 Try.underlying50 hi hz0 hz1 hz2 rfl (by decide) _ _ _ rfl (HO.out.alloc _) ⟨wr.heap.size, 0, none⟩ 1 1 [.bool false] rfl rfl (new1 wr _ _) (one1 rfl) (by unfold maxLen; omega) (by omega) (by simp; omega) ?_; intro v' w1 hown' hgrow _; have hb1 := (hbl.alloc hsz (.cells #[.bool false] 4)).grown hgrow (by simp; omega) (fun j hj => (HO.out.lt j hj).1); replace hown' := Lib.hid hown')
          go_wp2
          go_roundw
          case rel => exact ⟨k + 1, by go_num, by omega, Lib.hid (by rw [hs.out]; exact hown'.out), hb1⟩
          case measure => simp [intOf]; omega
        · have hs := Lib.hid (show tab (fun j => (fun x y => x || y) (hasB A j) (hasB B j)) (k + 1) = tab (fun j => (fun x y => x || y) (hasB A j) (hasB B j)) k ++ [.bool true] by rw [tab_succ]; dsimp only; rw [hx, hy]; rfl)
          rw [hx] at cx
          rw [hy] at cy
          replace hx := Lib.hid hx
          replace hy := Lib.hid hy
          go_wp2_with (at_builtin; refine wpList_append_own _ rfl _ _ 50 rfl w4.heap.size 4 i0 (.bool false) 1 1 Try.underlying50 hi hz0 hz1 hz2 rfl (by decide) _ _ _ rfl (HO.out.alloc _) ⟨wr.heap.size, 0, none⟩ 1 1 [.bool true] rfl rfl (new1 wr _ _) (one1 rfl) (by unfold maxLen; omega) (by omega) (by simp; omega) ?_; intro v' w1 hown' hgrow _; have hb1 := (hbl.alloc hsz (.cells #[.bool true] 4)).grown hgrow (by simp; omega) (fun j hj => (HO.out.lt j hj).1); replace hown' := Lib.hid hown')
          go_wp2
          go_roundw
          case rel => exact ⟨k + 1, by go_num, by omega, Lib.hid (by rw [hs.out]; exact hown'.out), hb1⟩
          case measure => simp [intOf]; omega
      · cases hy : hasB B (k : Int)
        · have hs := Lib.hid (show tab (fun j => (fun x y => x || y) (hasB A j) (hasB B j)) (k + 1) = tab (fun j => (fun x y => x || y) (hasB A j) (hasB B j)) k ++ [.bool true] by rw [tab_succ]; dsimp only; rw [hx, hy]; rfl)
          rw [hx] at cx
          rw [hy] at cy
          replace hx := Lib.hid hx
          replace hy := Lib.hid hy
          go_wp2_with (at_builtin; refine wpList_append_own _ rfl _ _ 50 rfl w4.heap.size 4 i0 (.bool false) 1 1 Try.underlying50 hi hz0 hz1 hz2 rfl (by decide) _ _ _ rfl (HO.out.alloc _) ⟨wr.heap.size, 0, none⟩ 1 1 [.bool true] rfl rfl (new1 wr _ _) (one1 rfl) (by unfold maxLen; omega) (by omega) (by simp; omega) ?_; intro v' w1 hown' hgrow _; have hb1 := (hbl.alloc hsz (.cells #[.bool true] 4)).grown hgrow (by simp; omega) (fun j hj => (HO.out.lt j hj).1); replace hown' := Lib.hid hown')
          go_wp2
          go_roundw
          case rel => exact ⟨k + 1, by go_num, by omega, Lib.hid (by rw [hs.out]; exact hown'.out), hb1⟩
          case measure => simp [intOf]; omega
        · have hs := Lib.hid (show tab (fun j => (fun x y => x || y) (hasB A j) (hasB B j)) (k + 1) = tab (fun j => (fun x y => x || y) (hasB A j) (hasB B j)) k ++ [.bool true] by rw [tab_succ]; dsimp only; rw [hx, hy]; rfl)
          rw [hx] at cx
          rw [hy] at cy
          replace hx := Lib.hid hx
          replace hy := Lib.hid hy
          go_wp2_with (at_builtin; refine wpList_append_own _ rfl _ _ 50 rfl w4.heap.size 4 i0 (.bool false) 1 1 Try.underlying50 hi hz0 hz1 hz2 rfl (by decide) _ _ _ rfl (HO.out.alloc _) ⟨wr.heap.size, 0, none⟩ 1 1 [.bool true] rfl rfl (new1 wr _ _) (one1 rfl) (by unfold maxLen; omega) (by omega) (by simp; omega) ?_; intro v' w1 hown' hgrow _; have hb1 := (hbl.alloc hsz (.cells #[.bool true] 4)).grown hgrow (by simp; omega) (fun j hj => (HO.out.lt j hj).1); replace hown' := Lib.hid hown')
          go_wp2
          go_roundw
          case rel => exact ⟨k + 1, by go_num, by omega, Lib.hid (by rw [hs.out]; exact hown'.out), hb1⟩
          case measure => simp [intOf]; omega
    · have hk' : k = 4096 := by omega
      have hnlt : ¬ (k : Int) < 4096 := by omega
      have ho := HO.out
      rw [hk'] at ho
      obtain ⟨g, cap, hv, hg1, hg2⟩ := row_form ho (by omega)
      subst hv
      have HK := Lib.hid (KIn.of_row rfl ho)
      have hb := b14.trans (hbl.mono b14.size)
      rw [hk']
      replace hk' := Lib.hid hk'
      clear ho HO
      go_wp2_with (go_at_call 45; (with_reducible refine (rset_any g cap _ _ HK.out).mono ?_); rintro e w6 ⟨a6, n6, c6, rfl, h6, b6⟩)
      go_ret2
      exact ⟨_, _, _, rfl, h6, below_next hb b6⟩

theorem mix0_any (A B : List Sp) (aA aB : Option Addr) (nA nB cA cB : Nat) (w : World) (hA : Arg w aA nA cA A) (hB : Arg w aB nB cB B) :
    Calls Try.prog 28 #[.slice aA nA cA, .slice aB nB cB, .int .i64 0] w (SetArg w (joinP A B)) := by
  cases kA : chkB A
  · rw [show joinP A B = ([], 1) from if_neg (by rw [kA]; simp)]
    exact mix_bad A B aA aB nA nB cA cB 0 w hA hB (.inl kA)
  · cases kB : chkB B
    · rw [show joinP A B = ([], 1) from if_neg (by rw [kB]; simp)]
      exact mix_bad A B aA aB nA nB cA cB 0 w hA hB (.inr ⟨kA, kB⟩)
    · rw [show joinP A B = limP (setOf fun j => (fun x y => x || y) (hasB A j) (hasB B j)) from mixP_yes' _ kA kB]
      exact mix0_ok A B aA aB nA nB cA cB w hA hB kA kB

set_option maxRecDepth 100000 in
set_option maxHeartbeats 4000000 in
theorem mix1_ok (A B : List Sp) (aA aB : Option Addr) (nA nB cA cB : Nat) (w : World) (hA : Arg w aA nA cA A) (hB : Arg w aB nB cB B) (kA : chkB A = true) (kB : chkB B = true) :
    Calls Try.prog 28 #[.slice aA nA cA, .slice aB nB cB, .int .i64 1] w (SetArg w (limP (setOf fun j => (fun x y => x && y) (hasB A j) (hasB B j)))) := by
  obtain ⟨i0, hi, hz0, hz1, hz2⟩ := info_parts Try.infoBool
  replace hA := Lib.hid hA
  replace hB := Lib.hid hB
  replace kA := Lib.hid kA
  replace kB := Lib.hid kB
  go_enter Try.func28, Try.ntmps28
  go_wp2_with (first | (go_at_call 19; (with_reducible refine (rcheck_any aA nA cA A _ hA.out).mono ?_); rw [kA.out]; rintro e w1 ⟨rfl, b1⟩) | (go_at_call 19; (with_reducible refine (rcheck_any aB nB cB B _ (hB.out.below b1)).mono ?_); rw [kB.out]; rintro e w2 ⟨rfl, b2⟩; have b12 := below_next b1 b2) | (go_at_call 37; (with_reducible refine (keys_any aA nA cA A _ (hA.out.below b12)).mono ?_); rintro e w3 ⟨gA, dA, rfl, hKA, b3⟩; have b13 := below_next b12 b3; replace hKA := Lib.hid hKA) | (go_at_call 37; (with_reducible refine (keys_any aB nB cB B _ (hB.out.below b13)).mono ?_); rintro e w4 ⟨gB, dB, rfl, hKB, b4⟩; have b14 := below_next b13 b4; replace hKB := Lib.hid hKB; have hKA' := Lib.hid (hKA.out.below b4)))
  go_loopw [10, 11, 12] (fun v i _ wr => ∃ (k : Nat), i = .int .i64 (k : Int) ∧ k ≤ 4096 ∧ Hid (wr.ownsRow w4.heap.size 4 1 v k (tab (fun j => (fun x y => x && y) (hasB A j) (hasB B j)) k)) ∧ Below w4.heap.size w4 wr)
    (fun _ i _ _ => 4096 - (intOf i).toNat)
  case atStart => exact ⟨0, rfl, by omega, Lib.hid ⟨rfl, .inl ⟨rfl, rfl⟩⟩, Below.refl _ _⟩
  case round =>
    obtain ⟨k, rfl, hk4, HO, hbl⟩ := hrel
    have hsz := hbl.size
    by_cases hlt : k < 4096
    · have hltz : (k : Int) < 4096 := by omega
      have cx := (hKA'.out.below hbl).2 k hlt
      have cy := (hKB.out.below hbl).2 k hlt
      cases hx : hasB A (k : Int)
      · cases hy : hasB B (k : Int)
        · have hs := Lib.hid (show tab (fun j => (fun x y => x && y) (hasB A j) (hasB B j)) (k + 1) = tab (fun j => (fun x y => x && y) (hasB A j) (hasB B j)) k ++ [.bool false] by rw [tab_succ]; dsimp only; rw [hx, hy]; rfl)
          rw [hx] at cx
          rw [hy] at cy
          replace hx := Lib.hid hx
          replace hy := Lib.hid hy
          go_wp2_with (at_builtin; refine wpList_append_own _ rfl _ _ 50 rfl w4.heap.size 4 i0 (.bool false) 1 1 Try.underlying50 hi hz0 hz1 hz2 rfl (by decide) _ _ _ rfl (HO.out.alloc _) ⟨wr.heap.size, 0, none⟩ 1 1 [.bool false] rfl rfl (new1 wr _ _) (one1 rfl) (by unfold maxLen; omega) (by omega) (by simp; omega) ?_; intro v' w1 hown' hgrow _; have hb1 := (hbl.alloc hsz (.cells #[.bool false] 4)).grown hgrow (by simp; omega) (fun j hj => (HO.out.lt j hj).1); replace hown' := Lib.hid hown')
          go_wp2
          go_roundw
          case rel => exact ⟨k + 1, by go_num, by omega, Lib.hid (by rw [hs.out]; exact hown'.out), hb1⟩
          case measure => simp [intOf]; omega
        · have hs := Lib.hid (show tab (fun j => (fun x y => x && y) (hasB A j) (hasB B j)) (k + 1) = tab (fun j => (fun x y => x && y) (hasB A j) (hasB B j)) k ++ [.bool false] by rw [tab_succ]; dsimp only; rw [hx, hy]; rfl)
          rw [hx] at cx
          rw [hy] at cy
          replace hx := Lib.hid hx
          replace hy := Lib.hid hy
          go_wp2_with (at_builtin; refine wpList_append_own _ rfl _ _ 50 rfl w4.heap.size 4 i0 (.bool false) 1 1 Try.underlying50 hi hz0 hz1 hz2 rfl (by decide) _ _ _ rfl (HO.out.alloc _) ⟨wr.heap.size, 0, none⟩ 1 1 [.bool false] rfl rfl (new1 wr _ _) (one1 rfl) (by unfold maxLen; omega) (by omega) (by simp; omega) ?_; intro v' w1 hown' hgrow _; have hb1 := (hbl.alloc hsz (.cells #[.bool false] 4)).grown hgrow (by simp; omega) (fun j hj => (HO.out.lt j hj).1); replace hown' := Lib.hid hown')
          go_wp2
          go_roundw
          case rel => exact ⟨k + 1, by go_num, by omega, Lib.hid (by rw [hs.out]; exact hown'.out), hb1⟩
          case measure => simp [intOf]; omega
      · cases hy : hasB B (k : Int)
        · have hs := Lib.hid (show tab (fun j => (fun x y => x && y) (hasB A j) (hasB B j)) (k + 1) = tab (fun j => (fun x y => x && y) (hasB A j) (hasB B j)) k ++ [.bool false] by rw [tab_succ]; dsimp only; rw [hx, hy]; rfl)
          rw [hx] at cx
          rw [hy] at cy
          replace hx := Lib.hid hx
          replace hy := Lib.hid hy
          go_wp2_with (at_builtin; refine wpList_append_own _ rfl _ _ 50 rfl w4.heap.size 4 i0 (.bool false) 1 1 Try.underlying50 hi hz0 hz1 hz2 rfl (by decide) _ _ _ rfl (HO.out.alloc _) ⟨wr.heap.size, 0, none⟩ 1 1 [.bool false] rfl rfl (new1 wr _ _) (one1 rfl) (by unfold maxLen; omega) (by omega) (by simp; omega) ?_; intro v' w1 hown' hgrow _; have hb1 := (hbl.alloc hsz (.cells #[.bool false] 4)).grown hgrow (by simp; omega) (fun j hj => (HO.out.lt j hj).1); replace hown' := Lib.hid hown')
          go_wp2
          go_roundw
          case rel => exact ⟨k + 1, by go_num, by omega, Lib.hid (by rw [hs.out]; exact hown'.out), hb1⟩
          case measure => simp [intOf]; omega
        · have hs := Lib.hid (show tab (fun j => (fun x y => x && y) (hasB A j) (hasB B j)) (k + 1) = tab (fun j => (fun x y => x && y) (hasB A j) (hasB B j)) k ++ [.bool true] by rw [tab_succ]; dsimp only; rw [hx, hy]; rfl)
          rw [hx] at cx
          rw [hy] at cy
          replace hx := Lib.hid hx
          replace hy := Lib.hid hy
          go_wp2_with (at_builtin; refine wpList_append_own _ rfl _ _ 50 rfl w4.heap.size 4 i0 (.bool false) 1 1 Try.underlying50 hi hz0 hz1 hz2 rfl (by decide) _ _ _ rfl (HO.out.alloc _) ⟨wr.heap.size, 0, none⟩ 1 1 [.bool true] rfl rfl (new1 wr _ _) (one1 rfl) (by unfold maxLen; omega) (by omega) (by simp; omega) ?_; intro v' w1 hown' hgrow _; have hb1 := (hbl.alloc hsz (.cells #[.bool true] 4)).grown hgrow (by simp; omega) (fun j hj => (HO.out.lt j hj).1); replace hown' := Lib.hid hown')
          go_wp2
          go_roundw
          case rel => exact ⟨k + 1, by go_num, by omega, Lib.hid (by rw [hs.out]; exact hown'.out), hb1⟩
          case measure => simp [intOf]; omega
    · have hk' : k = 4096 := by omega
      have hnlt : ¬ (k : Int) < 4096 := by omega
      have ho := HO.out
      rw [hk'] at ho
      obtain ⟨g, cap, hv, hg1, hg2⟩ := row_form ho (by omega)
      subst hv
      have HK := Lib.hid (KIn.of_row rfl ho)
      have hb := b14.trans (hbl.mono b14.size)
      rw [hk']
      replace hk' := Lib.hid hk'
      clear ho HO
      go_wp2_with (go_at_call 45; (with_reducible refine (rset_any g cap _ _ HK.out).mono ?_); rintro e w6 ⟨a6, n6, c6, rfl, h6, b6⟩)
      go_ret2
      exact ⟨_, _, _, rfl, h6, below_next hb b6⟩

theorem mix1_any (A B : List Sp) (aA aB : Option Addr) (nA nB cA cB : Nat) (w : World) (hA : Arg w aA nA cA A) (hB : Arg w aB nB cB B) :
    Calls Try.prog 28 #[.slice aA nA cA, .slice aB nB cB, .int .i64 1] w (SetArg w (meetP A B)) := by
  cases kA : chkB A
  · rw [show meetP A B = ([], 1) from if_neg (by rw [kA]; simp)]
    exact mix_bad A B aA aB nA nB cA cB 1 w hA hB (.inl kA)
  · cases kB : chkB B
    · rw [show meetP A B = ([], 1) from if_neg (by rw [kB]; simp)]
      exact mix_bad A B aA aB nA nB cA cB 1 w hA hB (.inr ⟨kA, kB⟩)
    · rw [show meetP A B = limP (setOf fun j => (fun x y => x && y) (hasB A j) (hasB B j)) from mixP_yes' _ kA kB]
      exact mix1_ok A B aA aB nA nB cA cB w hA hB kA kB

set_option maxRecDepth 100000 in
set_option maxHeartbeats 4000000 in
theorem mix2_ok (A B : List Sp) (aA aB : Option Addr) (nA nB cA cB : Nat) (w : World) (hA : Arg w aA nA cA A) (hB : Arg w aB nB cB B) (kA : chkB A = true) (kB : chkB B = true) :
    Calls Try.prog 28 #[.slice aA nA cA, .slice aB nB cB, .int .i64 2] w (SetArg w (limP (setOf fun j => (fun x y => x && !y) (hasB A j) (hasB B j)))) := by
  obtain ⟨i0, hi, hz0, hz1, hz2⟩ := info_parts Try.infoBool
  replace hA := Lib.hid hA
  replace hB := Lib.hid hB
  replace kA := Lib.hid kA
  replace kB := Lib.hid kB
  go_enter Try.func28, Try.ntmps28
  go_wp2_with (first | (go_at_call 19; (with_reducible refine (rcheck_any aA nA cA A _ hA.out).mono ?_); rw [kA.out]; rintro e w1 ⟨rfl, b1⟩) | (go_at_call 19; (with_reducible refine (rcheck_any aB nB cB B _ (hB.out.below b1)).mono ?_); rw [kB.out]; rintro e w2 ⟨rfl, b2⟩; have b12 := below_next b1 b2) | (go_at_call 37; (with_reducible refine (keys_any aA nA cA A _ (hA.out.below b12)).mono ?_); rintro e w3 ⟨gA, dA, rfl, hKA, b3⟩; have b13 := below_next b12 b3; replace hKA := Lib.hid hKA) | (go_at_call 37; (with_reducible refine (keys_any aB nB cB B _ (hB.out.below b13)).mono ?_); rintro e w4 ⟨gB, dB, rfl, hKB, b4⟩; have b14 := below_next b13 b4; replace hKB := Lib.hid hKB; have hKA' := Lib.hid (hKA.out.below b4)))
  go_loopw [10, 11, 12] (fun v i _ wr => ∃ (k : Nat), i = .int .i64 (k : Int) ∧ k ≤ 4096 ∧ Hid (wr.ownsRow w4.heap.size 4 1 v k (tab (fun j => (fun x y => x && !y) (hasB A j) (hasB B j)) k)) ∧ Below w4.heap.size w4 wr)
    (fun _ i _ _ => 4096 - (intOf i).toNat)
  case atStart => exact ⟨0, rfl, by omega, Lib.hid ⟨rfl, .inl ⟨rfl, rfl⟩⟩, Below.refl _ _⟩
  case round =>
    obtain ⟨k, rfl, hk4, HO, hbl⟩ := hrel
    have hsz := hbl.size
    by_cases hlt : k < 4096
    · have hltz : (k : Int) < 4096 := by omega
      have cx := (hKA'.out.below hbl).2 k hlt
      have cy := (hKB.out.below hbl).2 k hlt
      cases hx : hasB A (k : Int)
      · cases hy : hasB B (k : Int)
        · have hs := Lib.hid (show tab (fun j => (fun x y => x && !y) (hasB A j) (hasB B j)) (k + 1) = tab (fun j => (fun x y => x && !y) (hasB A j) (hasB B j)) k ++ [.bool false] by rw [tab_succ]; dsimp only; rw [hx, hy]; rfl)
          rw [hx] at cx
          rw [hy] at cy
          replace hx := Lib.hid hx
          replace hy := Lib.hid hy
          go_wp2_with (at_builtin; refine wpList_append_own _ rfl _ _ 50 rfl w4.heap.size 4 i0 (.bool false) 1 1 Try.underlying50 hi hz0 hz1 hz2 rfl (by decide) _ _ _ rfl (HO.out.alloc _) ⟨wr.heap.size, 0, none⟩ 1 1 [.bool false] rfl rfl (new1 wr _ _) (one1 rfl) (by unfold maxLen; omega) (by omega) (by simp; omega) ?_; intro v' w1 hown' hgrow _; have hb1 := (hbl.alloc hsz (.cells #[.bool false] 4)).grown hgrow (by simp; omega) (fun j hj => (HO.out.lt j hj).1); replace hown' := Lib.hid hown')
          go_wp2
          go_roundw
          case rel => exact ⟨k + 1, by go_num, by omega, Lib.hid (by rw [hs.out]; exact hown'.out), hb1⟩
          case measure => simp [intOf]; omega
        · have hs := Lib.hid (show tab (fun j => (fun x y => x && !y) (hasB A j) (hasB B j)) (k + 1) = tab (fun j => (fun x y => x && !y) (hasB A j) (hasB B j)) k ++ [.bool false] by rw [tab_succ]; dsimp only; rw [hx, hy]; rfl)
          rw [hx] at cx
          rw [hy] at cy
          replace hx := Lib.hid hx
          replace hy := Lib.hid hy
          go_wp2_with (at_builtin; refine wpList_append_own _ rfl _ _ 50 rfl w4.heap.size 4 i0 (.bool false) 1 1 Try.underlying50 hi hz0 hz1 hz2 rfl (by decide) _ _ _ rfl (HO.out.alloc _) ⟨wr.heap.size, 0, none⟩ 1 1 [.bool false] rfl rfl (new1 wr _ _) (one1 rfl) (by unfold maxLen; omega) (by omega) (by simp; omega) ?_; intro v' w1 hown' hgrow _; have hb1 := (hbl.alloc hsz (.cells #[.bool false] 4)).grown hgrow (by simp; omega) (fun j hj => (HO.out.lt j hj).1); replace hown' := Lib.hid hown')
          go_wp2
          go_roundw
          case rel => exact ⟨k + 1, by go_num, by omega, Lib.hid (by rw [hs.out]; exact hown'.out), hb1⟩
          case measure => simp [intOf]; omega
      · cases hy : hasB B (k : Int)
        · have hs := Lib.hid (show tab (fun j => (fun x y => x && !y) (hasB A j) (hasB B j)) (k + 1) = tab (fun j => (fun x y => x && !y) (hasB A j) (hasB B j)) k ++ [.bool true] by rw [tab_succ]; dsimp only; rw [hx, hy]; rfl)
          rw [hx] at cx
          rw [hy] at cy
          replace hx := Lib.hid hx
          replace hy := Lib.hid hy
          go_wp2_with (at_builtin; refine wpList_append_own _ rfl _ _ 50 rfl w4.heap.size 4 i0 (.bool false) 1 1 Try.underlying50 hi hz0 hz1 hz2 rfl (by decide) _ _ _ rfl (HO.out.alloc _) ⟨wr.heap.size, 0, none⟩ 1 1 [.bool true] rfl rfl (new1 wr _ _) (one1 rfl) (by unfold maxLen; omega) (by omega) (by simp; omega) ?_; intro v' w1 hown' hgrow _; have hb1 := (hbl.alloc hsz (.cells #[.bool true] 4)).grown hgrow (by simp; omega) (fun j hj => (HO.out.lt j hj).1); replace hown' := Lib.hid hown')
          go_wp2
          go_roundw
          case rel => exact ⟨k + 1, by go_num, by omega, Lib.hid (by rw [hs.out]; exact hown'.out), hb1⟩
          case measure => simp [intOf]; omega
        · have hs := Lib.hid (show tab (fun j => (fun x y => x && !y) (hasB A j) (hasB B j)) (k + 1) = tab (fun j => (fun x y => x && !y) (hasB A j) (hasB B j)) k ++ [.bool false] by rw [tab_succ]; dsimp only; rw [hx, hy]; rfl)
          rw [hx] at cx
          rw [hy] at cy
          replace hx := Lib.hid hx
          replace hy := Lib.hid hy
          go_wp2_with (at_builtin; refine wpList_append_own _ rfl _ _ 50 rfl w4.heap.size 4 i0 (.bool false) 1 1 Try.underlying50 hi hz0 hz1 hz2 rfl (by decide) _ _ _ rfl (HO.out.alloc _) ⟨wr.heap.size, 0, none⟩ 1 1 [.bool false] rfl rfl (new1 wr _ _) (one1 rfl) (by unfold maxLen; omega) (by omega) (by simp; omega) ?_; intro v' w1 hown' hgrow _; have hb1 := (hbl.alloc hsz (.cells #[.bool false] 4)).grown hgrow (by simp; omega) (fun j hj => (HO.out.lt j hj).1); replace hown' := Lib.hid hown')
          go_wp2
          go_roundw
          case rel => exact ⟨k + 1, by go_num, by omega, Lib.hid (by rw [hs.out]; exact hown'.out), hb1⟩
          case measure => simp [intOf]; omega
    · have hk' : k = 4096 := by omega
      have hnlt : ¬ (k : Int) < 4096 := by omega
      have ho := HO.out
      rw [hk'] at ho
      obtain ⟨g, cap, hv, hg1, hg2⟩ := row_form ho (by omega)
      subst hv
      have HK := Lib.hid (KIn.of_row rfl ho)
      have hb := b14.trans (hbl.mono b14.size)
      rw [hk']
      replace hk' := Lib.hid hk'
      clear ho HO
      go_wp2_with (go_at_call 45; (with_reducible refine (rset_any g cap _ _ HK.out).mono ?_); rintro e w6 ⟨a6, n6, c6, rfl, h6, b6⟩)
      go_ret2
      exact ⟨_, _, _, rfl, h6, below_next hb b6⟩

theorem mix2_any (A B : List Sp) (aA aB : Option Addr) (nA nB cA cB : Nat) (w : World) (hA : Arg w aA nA cA A) (hB : Arg w aB nB cB B) :
    Calls Try.prog 28 #[.slice aA nA cA, .slice aB nB cB, .int .i64 2] w (SetArg w (lessP A B)) := by
  cases kA : chkB A
  · rw [show lessP A B = ([], 1) from if_neg (by rw [kA]; simp)]
    exact mix_bad A B aA aB nA nB cA cB 2 w hA hB (.inl kA)
  · cases kB : chkB B
    · rw [show lessP A B = ([], 1) from if_neg (by rw [kB]; simp)]
      exact mix_bad A B aA aB nA nB cA cB 2 w hA hB (.inr ⟨kA, kB⟩)
    · rw [show lessP A B = limP (setOf fun j => (fun x y => x && !y) (hasB A j) (hasB B j)) from mixP_yes' _ kA kB]
      exact mix2_ok A B aA aB nA nB cA cB w hA hB kA kB
end Go.Proofs.Ytelgigahjgjjiaa
