/-
  CONTRACTS: balance.areLoads, Check; the document's Loads, Sum, Check; the statements' few and policy.
-/
import Derived.Test.YtihpojllalnmcaaBaP
import Derived.Test.YtihpojllalnmcaaChP
namespace Go.Proofs.Ytihpojllalnmcaa
open Go.RowKit Go.Shelf

theorem neg1 (w : World) : PredBelow Try.prog 87 #[] (fun x => .agg (spC x).toArray) (fun x => decide (x.2 < 0)) w := fun W x hb => by
  obtain ⟨k, v⟩ := x
  show Calls Try.prog 87 #[.agg #[.int .i64 k, .int .i64 v]] W fun e w' => e = .returned (.bool (decide (v < 0))) ∧ Below w.heap.size w w'
  have b1 : Below w.heap.size w (W.alloc (.cells #[.int .i64 k, .int .i64 v] 68)) := hb.alloc hb.size _
  obtain ⟨r, hr⟩ : ∃ r, decide (v < 0) = r := ⟨_, rfl⟩
  rw [hr]
  cases r
  all_goals
    go_enter Try.func87, Try.ntmps87
    go_wp2
    go_ret
    exact ⟨rfl, b1⟩
theorem load_eq (l : List Sp) : loadB l = (tblB l && !(l.any fun x => decide (x.2 < 0))) := by
  unfold loadB
  rw [Bool.and_comm, List.not_any_eq_all_not]
  congr 2
  funext x
  by_cases h : x.2 < 0
  · rw [decide_eq_true h, decide_eq_false (by omega)]; rfl
  · rw [decide_eq_false h, decide_eq_true (by omega)]; rfl
theorem areLoads_any (a : Option Addr) (n c : Nat) (l : List Sp) (w : World) (h : Arg w a n c l) :
    Calls Try.prog 59 #[.slice a n c] w (Gives w (.bool (loadB l))) := by
  have hE := load_eq l
  obtain ⟨R, hR⟩ : ∃ R, loadB l = R := ⟨_, rfl⟩
  rw [hR] at hE ⊢
  obtain ⟨b1, h1⟩ : ∃ b, tblB l = b := ⟨_, rfl⟩
  obtain ⟨b2, h2⟩ : ∃ b, (l.any fun x => decide (x.2 < 0)) = b := ⟨_, rfl⟩
  rw [h1, h2] at hE
  have C1 := Lib.hid (h1 ▸ tcheck_any a n c l w h)
  have C2 := Lib.hid (fun W (hA : Arg W a n c l) => (show Calls Try.prog 86 #[.slice a n c, .func (.func 87) #[] #[]] W (Gives W (.bool b2)) by
    obtain ⟨rfl, hz, _, _, hp⟩ := hA
    exact h2 ▸ containsPair_any (fun x => decide (x.2 < 0)) 87 #[] (enters_of Try.func87 (by kernel_rfl) rfl) a c l W (neg1 W) hz hp))
  replace h := Lib.hid h
  have HR := Lib.hid hE
  clear h1 h2 hE hR
  cases b1
  · go_enter Try.func59, Try.ntmps59
    go_wp2_with (go_at_call 78; (with_reducible refine C1.out.mono ?_); rintro e w' ⟨rfl, hb⟩)
    go_ret
    exact ⟨ret_bool (by rw [HR.out]; rfl), hb⟩
  · cases b2
    all_goals
      go_enter Try.func59, Try.ntmps59
      go_wp2_with (first | (go_at_call 78; (with_reducible refine C1.out.mono ?_); rintro e w' ⟨rfl, hb⟩) | (go_at_call 86; (with_reducible refine (C2.out _ (h.out.below hb)).mono ?_); rintro e w2 ⟨rfl, hb2⟩))
      go_ret
      exact ⟨ret_bool (by rw [HR.out]; rfl), below_next hb hb2⟩
theorem polB_parts (p : Po) : polB p = ((((decide (0 ≤ p.2.1) && decide (p.2.1 ≤ p.1)) && decide (p.1 ≤ 1099511627776)) && decide (0 ≤ p.2.2)) && decide (p.2.2 ≤ 1099511627776)) := by
  unfold polB
  simp only [Bool.decide_and, Bool.and_assoc]
theorem pcheck_any (h lo sl : Int) (w : World) : Calls Try.prog 21 #[.agg #[.int .i64 h, .int .i64 lo, .int .i64 sl]] w (Gives w (.bool (polB (h, lo, sl)))) := by
  have H := polB_parts (h, lo, sl)
  dsimp only at H
  obtain ⟨R, hR⟩ : ∃ R, polB (h, lo, sl) = R := ⟨_, rfl⟩
  rw [hR] at H ⊢
  have b1 : Below w.heap.size w (w.alloc (.cells #[.int .i64 h, .int .i64 lo, .int .i64 sl] 27)) := (Below.refl _ _).alloc (Nat.le_refl _) _
  obtain ⟨x1, h1⟩ : ∃ b, decide (0 ≤ lo) = b := ⟨_, rfl⟩
  obtain ⟨x2, h2⟩ : ∃ b, decide (lo ≤ h) = b := ⟨_, rfl⟩
  obtain ⟨x3, h3⟩ : ∃ b, decide (h ≤ 1099511627776) = b := ⟨_, rfl⟩
  obtain ⟨x4, h4⟩ : ∃ b, decide (0 ≤ sl) = b := ⟨_, rfl⟩
  obtain ⟨x5, h5⟩ : ∃ b, decide (sl ≤ 1099511627776) = b := ⟨_, rfl⟩
  rw [h1, h2, h3, h4, h5] at H
  replace H := Lib.hid H
  clear hR
  cases x1 <;> cases x2 <;> cases x3 <;> cases x4 <;> cases x5
  all_goals
    go_enter Try.func21, Try.ntmps21
    go_wp2
    go_ret
    exact ⟨ret_bool (by rw [H.out]; rfl), b1⟩
theorem rpcheck_any (h lo sl : Int) (w : World) : Calls Try.prog 25 #[.agg #[.int .i64 h, .int .i64 lo, .int .i64 sl]] w (Gives w (.bool (polB (h, lo, sl)))) := by
  have H := polB_parts (h, lo, sl)
  dsimp only at H
  obtain ⟨R, hR⟩ : ∃ R, polB (h, lo, sl) = R := ⟨_, rfl⟩
  rw [hR] at H ⊢
  have b1 : Below w.heap.size w (w.alloc (.cells #[.int .i64 h, .int .i64 lo, .int .i64 sl] 46)) := (Below.refl _ _).alloc (Nat.le_refl _) _
  obtain ⟨x1, h1⟩ : ∃ b, decide (0 ≤ lo) = b := ⟨_, rfl⟩
  obtain ⟨x2, h2⟩ : ∃ b, decide (lo ≤ h) = b := ⟨_, rfl⟩
  obtain ⟨x3, h3⟩ : ∃ b, decide (h ≤ 1099511627776) = b := ⟨_, rfl⟩
  obtain ⟨x4, h4⟩ : ∃ b, decide (0 ≤ sl) = b := ⟨_, rfl⟩
  obtain ⟨x5, h5⟩ : ∃ b, decide (sl ≤ 1099511627776) = b := ⟨_, rfl⟩
  rw [h1, h2, h3, h4, h5] at H
  replace H := Lib.hid H
  clear hR
  cases x1 <;> cases x2 <;> cases x3 <;> cases x4 <;> cases x5
  all_goals
    go_enter Try.func25, Try.ntmps25
    go_wp2
    go_ret
    exact ⟨ret_bool (by rw [H.out]; rfl), b1⟩
theorem ref25_any (h lo sl : Int) (w : World) : Calls Try.prog 12 #[.agg #[.int .i64 h, .int .i64 lo, .int .i64 sl]] w (Gives w (.agg #[.int .i64 h, .int .i64 lo, .int .i64 sl])) := by
  go_enter Try.func12, Try.ntmps12
  go_wp2_with fail
  exact bodyPost_ret (v := .agg #[.int .i64 h, .int .i64 lo, .int .i64 sl]) (by simp [results, Try.results12, go_sem]) rfl ⟨rfl, (by repeat (first | with_reducible exact Below.refl _ _ | with_reducible refine Below.alloc ?_ (by simp) _ | with_reducible refine Below.setCell ?_ (by simp) _))⟩
theorem take_sum {l : List Sp} {lo hi : Int} {k : Nat} (hk : k < l.length) : valS ((l.take (k + 1)).filter (inK lo hi)) = valS ((l.take k).filter (inK lo hi)) + (if inK lo hi (l.getD k (0, 0)) = true then (l.getD k (0, 0)).2 else 0) := by
  rw [take_more hk, List.filter_append, valS_append, List.filter_cons]
  split <;> simp [valS]
set_option maxRecDepth 100000 in
set_option maxHeartbeats 2000000 in
theorem refSum_any (a : Option Addr) (n c : Nat) (l : List Sp) (lo hi : Int) (w : World) (h : Arg w a n c l) (hl : loadB l = true) :
    Calls Try.prog 17 #[.slice a n c, .int .i64 lo, .int .i64 hi] w fun e w' => e = .returned (.int .i64 (sumK l lo hi)) ∧ w = w' := by
  obtain ⟨hn, hz, _, _, hp⟩ := h
  have hnz : (n : Int) ≤ 9223372036854775807 := by omega
  have HB := Lib.hid (fun k => load_sub hl (m := (l.take k).filter (inK lo hi)) (List.Sublist.trans List.filter_sublist (List.take_sublist _ _)))
  replace hn := Lib.hid hn
  replace hp := Lib.hid hp
  clear hl
  go_enter Try.func17, Try.ntmps17
  go_wp2_with fail
  go_loopw [7, 8] (fun s i wr => ∃ (k : Nat) (z : Int), i = .int .i64 (k : Int) ∧ s = .int .i64 z ∧ k ≤ n ∧ Hid (z = valS ((l.take k).filter (inK lo hi))) ∧ w = wr)
    (fun _ i _ => n - (intOf i).toNat)
  case atStart => exact ⟨0, 0, rfl, rfl, by omega, Lib.hid rfl, rfl⟩
  case round =>
    obtain ⟨k, z, rfl, rfl, hk, HZ, rfl⟩ := hrel
    by_cases hlt : k < n
    · have hkl : k < l.length := by rw [← hn.out]; exact hlt
      have hkz : (k : Int) < (n : Int) := by omega
      obtain ⟨b, off, e, hb, c0, c1⟩ := hp.out k hkl
      subst e
      obtain ⟨s, hs⟩ : ∃ s, l.getD k (0, 0) = s := ⟨_, rfl⟩
      have ht := take_sum (lo := lo) (hi := hi) hkl
      rw [hs] at c0 c1 ht
      have hb1 := HB.out (k + 1)
      obtain ⟨x, v⟩ := s
      dsimp only at c0 c1 ht
      rw [show inK lo hi (x, v) = (decide (lo ≤ x) && decide (x < hi)) from rfl] at ht
      clear hs
      by_cases h1 : lo ≤ x
      · by_cases h2 : x < hi
        · rw [decide_eq_true h1, decide_eq_true h2, Bool.and_true, if_pos rfl, ← HZ.out] at ht
          rw [ht] at hb1
          have hw : IntKind.i64.wrap (z + v) = z + v := IntWalk.i64_in _ (by omega)
          replace ht := Lib.hid ht
          go_wp2
          go_roundw
          case rel => exact ⟨k + 1, z + v, by go_num, rfl, by omega, Lib.hid ht.out.symm, trivial⟩
          case measure => simp [intOf]; omega
        · rw [decide_eq_true h1, decide_eq_false h2, Bool.and_false, if_neg (by simp), ← HZ.out, Int.add_zero] at ht
          replace ht := Lib.hid ht
          go_wp2
          go_roundw
          case rel => exact ⟨k + 1, z, by go_num, rfl, by omega, Lib.hid ht.out.symm, trivial⟩
          case measure => simp [intOf]; omega
      · rw [decide_eq_false h1, Bool.false_and, if_neg (by simp), ← HZ.out, Int.add_zero] at ht
        replace ht := Lib.hid ht
        go_wp2
        go_roundw
        case rel => exact ⟨k + 1, z, by go_num, rfl, by omega, Lib.hid ht.out.symm, trivial⟩
        case measure => simp [intOf]; omega
    · have hkz : ¬ (k : Int) < (n : Int) := by omega
      have hz' := HZ.out
      rw [List.take_of_length_le (by rw [← hn.out]; omega)] at hz'
      have HF := Lib.hid hz'
      clear hz'
      go_wp2
      go_ret
      exact ⟨ret_int HF.out, rfl⟩
theorem rloads_any (a : Option Addr) (n c : Nat) (l : List Sp) (w : World) (h : Arg w a n c l) :
    Calls Try.prog 50 #[.slice a n c] w (Gives w (.bool (loadB l))) := by
  have CT := Lib.hid (rtcheck_any a n c l w h)
  obtain ⟨hn, hz, _, _, hp⟩ := h
  have hnz : (n : Int) ≤ 9223372036854775807 := by omega
  obtain ⟨r, hr⟩ : ∃ r, loadB l = r := ⟨_, rfl⟩
  rw [hr]
  have HF := Lib.hid (show ∀ k, k < l.length → (l.getD k (0, 0)).2 < 0 → r = false by
    intro k hk hv
    rw [← hr]
    cases e : loadB l
    · rfl
    · have := (loadB_iff.1 e).1 (l.getD k (0, 0)) (by rw [← getE_eq hk, getElem!_pos l k hk]; exact List.getElem_mem hk)
      omega)
  have HT := Lib.hid (show (∀ k, k < l.length → 0 ≤ (l.getD k (0, 0)).2) → r = tblB l by
    intro hA
    rw [← hr]
    unfold loadB
    rw [show (l.all fun p => decide (0 ≤ p.2)) = true from List.all_eq_true.2 fun p hp => by
      obtain ⟨i, hi, e⟩ := List.mem_iff_getElem.1 hp
      have := hA i hi
      rw [← getE_eq hi, getElem!_pos l i hi, e] at this
      exact decide_eq_true (by omega)]
    rfl)
  replace hn := Lib.hid hn
  replace hp := Lib.hid hp
  clear hr
  go_enter Try.func50, Try.ntmps50
  go_wp2_with fail
  go_loopw [3] (fun i wr => ∃ (k : Nat), i = .int .i64 (k : Int) ∧ k ≤ n ∧ Hid (∀ j, j < k → 0 ≤ (l.getD j (0, 0)).2) ∧ w = wr)
    (fun i _ => n - (intOf i).toNat)
  case atStart => exact ⟨0, rfl, by omega, Lib.hid (fun j hj => absurd hj (Nat.not_lt_zero _)), rfl⟩
  case round =>
    obtain ⟨k, rfl, hk, HZ, rfl⟩ := hrel
    by_cases hlt : k < n
    · have hkl : k < l.length := by rw [← hn.out]; exact hlt
      have hkz : (k : Int) < (n : Int) := by omega
      obtain ⟨b, off, e, hb, c0, c1⟩ := hp.out k hkl
      subst e
      have hf := HF.out k hkl
      have hN := HZ.out
      obtain ⟨s, hs⟩ : ∃ s, l.getD k (0, 0) = s := ⟨_, rfl⟩
      rw [hs] at c0 c1 hf
      obtain ⟨x, v⟩ := s
      dsimp only at c0 c1 hf
      by_cases h1 : v < 0
      · have HR := Lib.hid (hf h1)
        clear hf hN hs
        go_wp2
        go_ret
        exact ⟨ret_bool HR.out.symm, Below.refl _ _⟩
      · have HN := Lib.hid (show ∀ j, j < k + 1 → 0 ≤ (l.getD j (0, 0)).2 from fun j hj => by
          rcases Nat.lt_or_ge j k with q | q
          · exact hN j q
          · rw [show j = k by omega, hs]; dsimp only; omega)
        clear hf hN hs
        go_wp2
        go_roundw
        case rel => exact ⟨k + 1, by go_num, by omega, HN, trivial⟩
        case measure => simp [intOf]; omega
    · have hkz : ¬ (k : Int) < (n : Int) := by omega
      have HR := Lib.hid (HT.out fun j hj => HZ.out j (by rw [← hn.out] at hj; omega))
      go_wp2_with (go_at_call 82; (with_reducible refine CT.out.mono ?_); rintro e w' ⟨rfl, hb⟩)
      go_ret
      exact ⟨ret_bool HR.out.symm, hb⟩
theorem few25_any (ep nx : Int) (a : Option Addr) (n c : Nat) (a2 : Option Addr) (n2 c2 : Nat) (p1 p2 p3 z : Int) (w : World) (hz : (n : Int) ≤ 9223372036854775807) (hz2 : (n2 : Int) ≤ 9223372036854775807) {r : Bool} (hr : (decide (n ≤ 60) && decide (n2 ≤ 60)) = r) :
    Calls Try.prog 6 #[.agg #[.int .i64 ep, .int .i64 nx, .slice a n c, .slice a2 n2 c2, .int .i64 p1, .int .i64 p2, .int .i64 p3, .int .i64 z]] w (Gives w (.bool r)) := by
  have b1 : Below w.heap.size w (w.alloc (.cells #[.int .i64 ep, .int .i64 nx, .slice a n c, .slice a2 n2 c2, .int .i64 p1, .int .i64 p2, .int .i64 p3, .int .i64 z] 29)) := (Below.refl _ _).alloc (Nat.le_refl _) _
  by_cases h1 : n ≤ 60
  · have z1 : (n : Int) ≤ 60 := by omega
    by_cases h2 : n2 ≤ 60
    · have z2 : (n2 : Int) ≤ 60 := by omega
      rw [decide_eq_true h1, decide_eq_true h2] at hr
      have HR := Lib.hid hr
      clear hr
      go_enter Try.func6, Try.ntmps6
      go_wp2
      go_ret
      exact ⟨ret_bool (by rw [← HR.out]; rfl), b1⟩
    · have z2 : ¬ (n2 : Int) ≤ 60 := by omega
      rw [decide_eq_true h1, decide_eq_false h2] at hr
      have HR := Lib.hid hr
      clear hr
      go_enter Try.func6, Try.ntmps6
      go_wp2
      go_ret
      exact ⟨ret_bool (by rw [← HR.out]; rfl), b1⟩
  · have z1 : ¬ (n : Int) ≤ 60 := by omega
    rw [decide_eq_false h1] at hr
    have HR := Lib.hid hr
    clear hr
    go_enter Try.func6, Try.ntmps6
    go_wp2
    go_ret
    exact ⟨ret_bool (by rw [← HR.out]; rfl), b1⟩
end Go.Proofs.Ytihpojllalnmcaa
