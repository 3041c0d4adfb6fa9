/-
  CONTRACTS: the document's May and Nodes.
-/
import Derived.Test.YtjllaadoffgjpaaBaF
import Derived.Test.YtjllaadoffgjpaaChR
import Derived.BigQuiet
namespace Go.Proofs.Ytjllaadoffgjpaa
open Go.RowKit Go.Shelf

theorem all_take {sd : List Sd} {p : Sd → Bool} (h : ∀ j, j < sd.length → p sd[j]! = true) : sd.all p = true := List.all_eq_true.2 fun x hx => by
  obtain ⟨i, hi, e⟩ := List.mem_iff_getElem.1 hx
  have := h i hi
  rwa [getElem!_pos sd i hi, e] at this
set_option maxRecDepth 100000 in
set_option maxHeartbeats 4000000 in
theorem rmay_any (ep nx : Int) (a : Option Addr) (n c : Nat) (sd : List Sd) (a2 : Option Addr) (n2 cp2 : Nat) (l : List Sp) (nodes : Int) (w : World) (h : RArg encS 4 w a n c sd) (hL : Arg w a2 n2 cp2 l) :
    Calls Try.prog 18 #[.agg #[.int .i64 ep, .int .i64 nx, .slice a n c], .slice a2 n2 cp2, .int .i64 nodes] w (Gives w (.bool (mayB ep nx sd l nodes))) := by
  obtain ⟨R, hR⟩ : ∃ R, mayB ep nx sd l nodes = R := ⟨_, rfl⟩
  rw [hR]
  obtain ⟨W1, hW1⟩ : ∃ W1, w.alloc (.cells #[.int .i64 ep, .int .i64 nx, .slice a n c] 34) = W1 := ⟨_, rfl⟩
  have bw : Below w.heap.size w W1 := by rw [← hW1]; exact (Below.refl _ _).alloc (Nat.le_refl _) _
  have KX := Lib.hid (fun W (h : Below W1.heap.size W1 W) => box3D (w := w) (t := 34) (x := .int .i64 ep) (y := .int .i64 nx) (z := .slice a n c) (w' := W) (by rw [hW1]; exact h))
  have HP := Lib.hid (h.below bw)
  have HL := Lib.hid (hL.below bw)
  have hn := h.1
  have hnz : (n : Int) ≤ 9223372036854775807 := by have := h.2.1; omega
  have HF := Lib.hid (show ∀ k, k < sd.length → nodes ≤ sd[k]!.2.2.2 → R = false by
    intro k hk hv
    rw [← hR]
    unfold mayB
    rw [show (sd.all fun s => decide (s.2.2.2 < nodes)) = false by
      rw [Bool.eq_false_iff]
      intro q
      have := of_decide_eq_true (List.all_eq_true.1 q _ (mem_bang hk))
      omega, Bool.and_false])
  have HT := Lib.hid (show (∀ k, k < sd.length → sd[k]!.2.2.2 < nodes) → R = ((chkC ep nx sd && loadB l) && (decide (1 ≤ nodes) && decide (nodes ≤ 5))) by
    intro hA
    rw [← hR]
    unfold mayB
    rw [all_take (p := fun s => decide (s.2.2.2 < nodes)) (fun j hj => decide_eq_true (hA j hj)), Bool.and_true])
  obtain ⟨x1, h1⟩ : ∃ x, chkC ep nx sd = x := ⟨_, rfl⟩
  obtain ⟨x2, h2⟩ : ∃ x, loadB l = x := ⟨_, rfl⟩
  obtain ⟨x3, h3⟩ : ∃ x, decide (1 ≤ nodes) = x := ⟨_, rfl⟩
  obtain ⟨x4, h4⟩ : ∃ x, decide (nodes ≤ 5) = x := ⟨_, rfl⟩
  have C1 := Lib.hid (fun W hh => h1 ▸ rcheck8_any ep nx a n c sd W hh)
  have C2 := Lib.hid (fun W hh => h2 ▸ rloads_any a2 n2 cp2 l W hh)
  rw [h1, h2, h3, h4] at HT
  replace hn := Lib.hid hn
  clear h hL hR h1 h2
  obtain ⟨q0, q1, q2⟩ := KX.out _ (Below.refl _ _)
  go_enter Try.func18, Try.ntmps18
  go_wp2_with fail
  replace hW1 := Lib.hid hW1
  go_loopw [7] (fun i wr => ∃ (k : Nat), i = .int .i64 (k : Int) ∧ k ≤ n ∧ Hid (∀ j, j < k → sd[j]!.2.2.2 < nodes) ∧ W1 = wr)
    (fun i _ => n - (intOf i).toNat)
  case atStart => exact ⟨0, rfl, Nat.zero_le _, Lib.hid (fun j hj => absurd hj (Nat.not_lt_zero _)), rfl⟩
  case round =>
    obtain ⟨k, rfl, hk, HZ, rfl⟩ := hrel
    by_cases hlt : k < n
    · have hkl : k < sd.length := by rw [← hn.out]; exact hlt
      have hkz : (k : Int) < (n : Int) := by omega
      have hk0 : (0 : Int) ≤ (k : Int) := by omega
      obtain ⟨b, off, e, hb9, d0, d1, d2, d3⟩ := HP.out.2.2.2.2.shard k hkl
      subst e
      have hf := HF.out k hkl
      have hN := HZ.out
      obtain ⟨⟨i, lo, hi, nd⟩, hs⟩ : ∃ s, sd[k]! = s := ⟨_, rfl⟩
      rw [hs] at d0 d1 d2 d3 hf
      dsimp only at d0 d1 d2 d3 hf
      by_cases hge : nodes ≤ nd
      · have HR := Lib.hid (hf hge)
        clear hf hN hs
        go_wp2_with fail
        go_ret
        exact ⟨ret_bool HR.out.symm, bw⟩
      · have HN := Lib.hid (show ∀ j, j < k + 1 → sd[j]!.2.2.2 < nodes from fun j hj => by
          rcases Nat.lt_or_ge j k with q | q
          · exact hN j q
          · rw [show j = k by omega, hs]; dsimp only; omega)
        clear hf hN hs
        go_wp2_with fail
        go_roundw
        case rel => exact ⟨k + 1, by go_num, by omega, HN, trivial⟩
        case measure => simp [intOf]; omega
    · have hkz : ¬ (k : Int) < (n : Int) := by omega
      have HR := Lib.hid (HT.out fun j hj => HZ.out j (by rw [← hn.out] at hj; omega))
      cases x1
      · go_wp2_with (first | (go_at_call 14; (with_reducible refine (C1.out _ HP.out).mono ?_); rintro e w' ⟨rfl, hb⟩) | fail)
        go_ret
        exact ⟨ret_bool (by rw [HR.out]; rfl), below_next bw hb⟩
      · cases x2
        · go_wp2_with (first | (go_at_call 14; (with_reducible refine (C1.out _ HP.out).mono ?_); rintro e w' ⟨rfl, hb⟩) | (go_at_call 15; (with_reducible refine (C2.out _ (HL.out.below hb)).mono ?_); rintro e w2 ⟨rfl, hb2⟩) | fail)
          go_ret
          exact ⟨ret_bool (by rw [HR.out]; rfl), below_next bw (below_next hb hb2)⟩
        · cases x3
          all_goals cases x4
          all_goals
            go_wp2_with (first | (go_at_call 14; (with_reducible refine (C1.out _ HP.out).mono ?_); rintro e w' ⟨rfl, hb⟩) | (go_at_call 15; (with_reducible refine (C2.out _ (HL.out.below hb)).mono ?_); rintro e w2 ⟨rfl, hb2⟩) | fail)
            go_ret
            exact ⟨ret_bool (by rw [HR.out]; rfl), below_next bw (below_next hb hb2)⟩
theorem nodesB_more (its : List It) (k : Nat) : nodesB its (k + 1) = nodesB its k ++ [nodeS (k : Int) its] := by
  unfold nodesB
  rw [List.range_succ, List.map_append]
  rfl
theorem nodeS_more {l : List Sp} {sd : List Sd} {j : Nat} (h : j < sd.length) (k : Int) : nodeS k ((itsB l sd).take (j + 1)) = nodeS k ((itsB l sd).take j) + (if sd[j]!.2.2.2 = k then sumK l sd[j]!.2.1 sd[j]!.2.2.1 else 0) := by
  rw [take_moreG (by rw [itsB_len]; exact h), nodeS_append, itsB_get h]
  simp [nodeS]
set_option maxRecDepth 100000 in
set_option maxHeartbeats 4000000 in
theorem rnodes_any (ep nx : Int) (a : Option Addr) (n c : Nat) (sd : List Sd) (a2 : Option Addr) (n2 cp2 : Nat) (l : List Sp) (m : Nat) (w : World) (h : RArg encS 4 w a n c sd) (hL : Arg w a2 n2 cp2 l) (hl : loadB l = true) (h24 : sd.length ≤ 24) (hm : m ≤ 5) :
    Calls Try.prog 19 #[.agg #[.int .i64 ep, .int .i64 nx, .slice a n c], .slice a2 n2 cp2, .int .i64 (m : Int)] w fun e w' => ∃ v, e = .returned v ∧ OwnsI w' w.heap.size v (nodesB (itsB l sd) m) ∧ Below w.heap.size w w' := by
  obtain ⟨i0, hi0, hz0, hz1, hz2⟩ := info_parts Try.infoInt
  obtain ⟨W1, hW1⟩ : ∃ W1, w.alloc (.cells #[.int .i64 ep, .int .i64 nx, .slice a n c] 34) = W1 := ⟨_, rfl⟩
  have bw : Below w.heap.size w W1 := by rw [← hW1]; exact (Below.refl _ _).alloc (Nat.le_refl _) _
  have KX := Lib.hid (fun W (h : Below W1.heap.size W1 W) => box3D (w := w) (t := 34) (x := .int .i64 ep) (y := .int .i64 nx) (z := .slice a n c) (w' := W) (by rw [hW1]; exact h))
  have HP := Lib.hid (h.below bw)
  have HL := Lib.hid (hL.below bw)
  have hn := h.1
  have hnz : (n : Int) ≤ 9223372036854775807 := by omega
  have hn24 : n ≤ 24 := by omega
  have HSM := Lib.hid (fun lo hi W (hA : Arg W a2 n2 cp2 l) q => ((refSum_any a2 n2 cp2 l lo hi (W.drewN q) (hA.below (below_drewN (Below.refl _ _) q)) hl).mono fun e w' (hh : e = .returned (.int .i64 (sumK l lo hi)) ∧ W.drewN q = w') => (show e = .returned (.int .i64 (sumK l lo hi)) ∧ w' = W.drewN q from ⟨hh.1, hh.2.symm⟩)))
  have HBD := Lib.hid (fun lo hi => sumK_bd hl lo hi)
  have HNB := Lib.hid (fun j (k : Int) => nodeS_bd (M := 4503599627370496) k ((itsB l sd).take j) (fun x hx => its_bd hl x (List.mem_of_mem_take hx)) (by omega))
  replace hn := Lib.hid hn
  clear h hL hl h24
  obtain ⟨q0, q1, q2⟩ := KX.out _ (Below.refl _ _)
  go_enter Try.func19, Try.ntmps19
  go_wp2_with fail
  replace hW1 := Lib.hid hW1
  go_loopw [7, 8] (fun v i wr => ∃ (k : Nat), i = .int .i64 (k : Int) ∧ k ≤ m ∧ Hid (OwnsI wr W1.heap.size v (nodesB (itsB l sd) k)) ∧ Below W1.heap.size W1 wr)
    (fun _ i _ => m - (intOf i).toNat)
  case atStart => exact ⟨0, rfl, Nat.zero_le _, Lib.hid (OwnsI.nil _ _), Below.refl _ _⟩
  case round =>
    obtain ⟨k, rfl, hk, HO, hbl⟩ := hrel
    obtain ⟨wo, hwo⟩ : ∃ wo, wo = wr := ⟨_, rfl⟩
    by_cases hlt : k < m
    · have hkz : (k : Int) < (m : Int) := by omega
      obtain ⟨q0, q1, q2⟩ := KX.out _ hbl
      have hmore := nodesB_more (itsB l sd) k
      obtain ⟨O, hO⟩ : ∃ O, nodesB (itsB l sd) k = O := ⟨_, rfl⟩
      have hOl : O.length = k := by rw [← hO, nodesB_len]
      rw [hO] at HO hmore
      have HN := Lib.hid hmore
      have HOL := Lib.hid hOl
      clear hO hmore hOl
      subst hwo
      go_wp2_with fail
      go_loopw [9, 10] (fun z i wj => ∃ (j : Nat) (s : Int), i = .int .i64 (j : Int) ∧ z = .int .i64 s ∧ j ≤ n ∧ Hid (s = nodeS (k : Int) ((itsB l sd).take j)) ∧ Below wo.heap.size wo wj)
        (fun _ i _ => n - (intOf i).toNat)
      case atStart => exact ⟨0, 0, rfl, rfl, Nat.zero_le _, Lib.hid rfl, Below.refl _ _⟩
      case round =>
        obtain ⟨j, s, rfl, rfl, hj, HZ, hbj⟩ := hrel
        have BJ := below_next hbl hbj
        obtain ⟨q0, q1, q2⟩ := KX.out _ BJ
        by_cases hjt : j < n
        · have hjl : j < sd.length := by rw [← hn.out]; exact hjt
          have hjz : (j : Int) < (n : Int) := by omega
          have hj0 : (0 : Int) ≤ (j : Int) := by omega
          obtain ⟨b, off, e, hb9, d0, d1, d2, d3⟩ := (HP.out.below BJ).2.2.2.2.shard j hjl
          subst e
          have hmore := nodeS_more (l := l) hjl (k : Int)
          have hb0 := HNB.out j (k : Int)
          rw [← HZ.out] at hmore hb0
          have hbt : ((itsB l sd).take j).length ≤ 24 := by rw [List.length_take]; omega
          obtain ⟨⟨i, lo, hi, nd⟩, hs⟩ : ∃ s, sd[j]! = s := ⟨_, rfl⟩
          rw [hs] at d0 d1 d2 d3 hmore
          dsimp only at d0 d1 d2 d3 hmore
          have hsb := HBD.out lo hi
          have SQ := Lib.hid (HSM.out lo hi _ (HL.out.below BJ))
          obtain ⟨q, hq⟩ : ∃ q, sumK l lo hi = q := ⟨_, rfl⟩
          rw [hq] at SQ hmore hsb
          have hw : IntKind.i64.wrap (s + q) = s + q := IntWalk.i64_in _ (by omega)
          clear hs hq hb0 hbt
          by_cases hnd : nd = (k : Int)
          · have e1 : (nd == (k : Int)) = true := by simpa using hnd
            rw [if_pos hnd] at hmore
            have HM := Lib.hid hmore
            clear hmore hnd
            go_wp2_with fail
            go_quiet ((first | (go_at_call 29; with_reducible exact Calls.quiet_of_same (SQ.out _)) | fail))
            go_wp2_with fail
            go_roundw
            case rel => exact ⟨j + 1, s + q, by go_num, rfl, by omega, Lib.hid HM.out.symm, below_drewN hbj _⟩
            case measure => simp [intOf]; omega
          · have e1 : (nd == (k : Int)) = false := by simpa using hnd
            rw [if_neg hnd, Int.add_zero] at hmore
            have HM := Lib.hid hmore
            clear hmore hnd
            go_wp2_with fail
            go_roundw
            case rel => exact ⟨j + 1, s, by go_num, rfl, by omega, Lib.hid HM.out.symm, hbj⟩
            case measure => simp [intOf]; omega
        · have hjz : ¬ (j : Int) < (n : Int) := by omega
          have hz := HZ.out
          rw [List.take_of_length_le (by rw [itsB_len, ← hn.out]; omega)] at hz
          have HN2 := Lib.hid (show nodesB (itsB l sd) (k + 1) = O ++ [s] by rw [HN.out, hz])
          have HO6 := Lib.hid (show wr.ownsRow W1.heap.size 3 1 _ O.length (O.map (Value.int .i64)) from HO.out.below hbj)
          have hO24 : O.length ≤ 5 := by rw [HOL.out]; omega
          clear hz
          go_wp2_with (at_builtin; refine wpList_append_own _ rfl _ _ 38 rfl W1.heap.size 3 i0 (.int .i64 0) 1 8 Try.underlying38 hi0 hz0 hz1 hz2 rfl (by decide) _ _ _ rfl (HO6.out.alloc _) ⟨wr.heap.size, 0, none⟩ 1 1 [.int .i64 s] rfl rfl ?c1 ?c2 ?c3 ?c4 ?c5 ?_)
          case c2 => first | rfl | (intro x hx; simp at hx; subst hx; rfl)
          case c3 => unfold maxLen; omega
          case c4 => omega
          case c5 => have := BJ.size; simp; omega
          intro v' w7 hown hgrow _
          have hb17 := (BJ.alloc BJ.size (.cells #[.int .i64 s] 3)).grown hgrow (by have := BJ.size; simp; omega) (fun j hj => (HO6.out.lt j hj).1)
          have HO7 := Lib.hid (OwnsI.push hown)
          clear hown hgrow
          go_wp2
          go_roundw
          case rel => exact ⟨k + 1, by go_num, by omega, Lib.hid (by rw [HN2.out]; exact HO7.out), hb17⟩
          case measure => simp [intOf]; omega
    · have hkz : ¬ (k : Int) < (m : Int) := by omega
      have hkm : k = m := by omega
      have ho := HO.out
      rw [hkm] at ho
      have HF := Lib.hid (ho.low bw.size)
      clear ho hkm
      go_wp2_with fail
      go_ret
      exact ⟨_, rfl, HF.out, below_next bw hbl⟩
end Go.Proofs.Ytjllaadoffgjpaa
