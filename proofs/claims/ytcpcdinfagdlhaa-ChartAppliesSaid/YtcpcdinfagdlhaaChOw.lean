/-
  CONTRACT of the document's Owners.
-/
import Derived.Test.YtcpcdinfagdlhaaChU
namespace Go.Proofs.Ytcpcdinfagdlhaa
open Go.RowKit Go.Shelf Go.ChangeShapes Go.WideShapes Go.Deep

def qB (lo hi : Int) (q : Sp) : Bool := decide (q.1 < hi) && decide (lo < q.2)
theorem canB_one : ∀ (l : List Sp) (e : Int), canB e l = true → ∀ q ∈ l, oneB q = true
  | [], _, _, q, hq => absurd hq (by simp)
  | s :: t, e, h, q, hq => by
    obtain ⟨h1, _, h3⟩ := (canB_cons e s t).1 h
    rcases List.mem_cons.1 hq with rfl | hq
    · exact (oneB_iff _).2 h1
    · exact canB_one t _ h3 q hq
theorem touch_q {lo hi : Int} {K : List Sp} (hK : chkB K = true) (ho : oneB (lo, hi) = true) : touchB [(lo, hi)] K = K.any (qB lo hi) := by
  have ho2 := (oneB_iff _).1 ho
  dsimp only at ho2
  rw [Bool.eq_iff_iff]
  constructor
  · intro h
    obtain ⟨q, hq, h1, _, h3, h4⟩ := touch_has h
    refine List.any_eq_true.2 ⟨q, hq, ?_⟩
    unfold qB
    rw [Bool.and_eq_true, decide_eq_true_iff, decide_eq_true_iff]
    omega
  · intro h
    obtain ⟨q, hq, h1⟩ := List.any_eq_true.1 h
    unfold qB at h1
    rw [Bool.and_eq_true, decide_eq_true_iff, decide_eq_true_iff] at h1
    have hc : canB (-1) K = true := by
      unfold chkB at hK
      rw [Bool.and_eq_true] at hK
      exact hK.1
    have hq1 := (oneB_iff _).1 (canB_one K _ hc q hq)
    refine touch_of (key := max q.1 lo) ho hK ((hasB_iff _ _).2 ⟨q, hq, (inB_iff _ _).2 ?_⟩) (by omega) (by omega)
    omega
def ownQ (K : List Sp) (l : List Sd) : List Int := (l.filter fun s => K.any (qB s.2.1 s.2.2.1)).map fun s => s.1
theorem ownQ_is {ep nx : Int} {l : List Sd} {K : List Sp} (hc : chkC ep nx l = true) (hK : chkB K = true) : ownersC ep nx l K = ownQ K l := by
  unfold ownersC ownL ownQ
  rw [if_pos hc]
  congr 1
  apply List.filter_congr
  intro s hs
  exact touch_q hK (chk_one hc hs)
theorem ownersC_bad {ep nx : Int} {l : List Sd} {K : List Sp} (hK : chkB K = false) : ownersC ep nx l K = [] := by
  unfold ownersC ownL
  split
  · rw [List.filter_eq_nil_iff.2 (fun s _ => by unfold touchB; rw [hK]; simp)]
    rfl
  · rfl
theorem ownQ_more {K : List Sp} {l : List Sd} {k : Nat} (h : k < l.length) {i lo hi nd : Int} (hs : l[k]! = (i, lo, hi, nd)) (ht : K.any (qB lo hi) = true) : ownQ K (l.take (k + 1)) = ownQ K (l.take k) ++ [i] := by
  rw [take_moreG h, hs]
  unfold ownQ
  rw [List.filter_append, List.map_append]
  simp [ht]
theorem ownQ_skip {K : List Sp} {l : List Sd} {k : Nat} (h : k < l.length) {i lo hi nd : Int} (hs : l[k]! = (i, lo, hi, nd)) (ht : K.any (qB lo hi) = false) : ownQ K (l.take (k + 1)) = ownQ K (l.take k) := by
  rw [take_moreG h, hs]
  unfold ownQ
  rw [List.filter_append, List.map_append]
  simp [ht]
theorem ownQ_len (K : List Sp) (l : List Sd) : (ownQ K l).length ≤ l.length := by
  unfold ownQ
  rw [List.length_map]
  exact List.length_filter_le _ _
set_option maxRecDepth 100000 in
set_option maxHeartbeats 4000000 in
theorem rowners8_any (ep nx : Int) (a : Option Addr) (n c : Nat) (l : List Sd) (a3 : Option Addr) (n3 c3 : Nat) (K : List Sp) (w : World) (h : RArg encS 4 w a n c l) (hK : Arg w a3 n3 c3 K) :
    Calls Try.prog 23 #[.agg #[.int .i64 ep, .int .i64 nx, .slice a n c], .slice a3 n3 c3] w (IntsRet (ownersC ep nx l K) w) := by
  obtain ⟨i0, hi0, hz0, hz1, hz2⟩ := info_parts Try.infoInt
  obtain ⟨R, hR⟩ : ∃ R, ownersC ep nx l K = R := ⟨_, rfl⟩
  rw [hR]
  have hn := Lib.hid h.1
  have hnz : (n : Int) ≤ 9223372036854775807 := by have := h.2.1; have := hn.out; omega
  have hn3 := Lib.hid hK.1
  have hn3z : (n3 : Int) ≤ 9223372036854775807 := by have := hK.2.1; have := hn3.out; omega
  obtain ⟨W1, hW1⟩ : ∃ W1, w.alloc (.cells #[.int .i64 ep, .int .i64 nx, .slice a n c] 30) = W1 := ⟨_, rfl⟩
  have bw : Below w.heap.size w W1 := by rw [← hW1]; exact (Below.refl _ _).alloc (Nat.le_refl _) _
  have g1 : w.heap.size < W1.heap.size := by rw [← hW1]; simp
  have hr1 : W1.heap[w.heap.size]? = some (.cells #[.int .i64 ep, .int .i64 nx, .slice a n c] 30) := by rw [← hW1]; exact heap_alloc_new _ _
  have K3 := Lib.hid (fun W (h : Below W1.heap.size W1 W) => c3K ((h.block _ g1).trans hr1))
  have HP := Lib.hid (fun W (hb : Below W1.heap.size W1 W) => ((h.below bw).below hb).2.2.2.2)
  have HK := Lib.hid (fun W (hb : Below W1.heap.size W1 W) => ((hK.below bw).below hb).2.2.2.2)
  have CC := Lib.hid (fun W (hb : Below W1.heap.size W1 W) => rcheck8_any ep nx a n c l W ((h.below bw).below hb))
  have CS := Lib.hid (fun W (hb : Below W1.heap.size W1 W) => rcheck_any a3 n3 c3 K W ((hK.below bw).below hb))
  obtain ⟨q0, q1, q2⟩ := K3.out _ (Below.refl _ _)
  cases hc : chkC ep nx l with
  | false =>
    have HR := Lib.hid (show R = [] by rw [← hR]; unfold ownersC; rw [hc]; rfl)
    rw [hc] at CC
    clear h hK hr1 hR hc
    go_enter Try.func23, Try.ntmps23
    go_wp2_with (go_at_call 20; (with_reducible refine (CC.out _ (Below.refl _ _)).mono ?_); rintro e w2 ⟨rfl, hb⟩)
    go_ret
    exact ⟨_, rfl, by rw [HR.out]; exact OwnsI.nil _ _, below_next bw hb⟩
  | true =>
    rw [hc] at CC
    cases hk3 : chkB K with
    | false =>
      have HR := Lib.hid (show R = [] by rw [← hR]; exact ownersC_bad hk3)
      rw [hk3] at CS
      clear h hK hr1 hR hc hk3
      go_enter Try.func23, Try.ntmps23
      go_wp2_with (first
        | (go_at_call 20; (with_reducible refine (CC.out _ (Below.refl _ _)).mono ?_); rintro e w2 ⟨rfl, hb⟩)
        | (go_at_call 52; (with_reducible refine (CS.out _ hb).mono ?_); rintro e w3 ⟨rfl, hb3⟩))
      go_ret
      exact ⟨_, rfl, by rw [HR.out]; exact OwnsI.nil _ _, below_next bw (below_next hb hb3)⟩
    | true =>
      have HR := Lib.hid (show R = ownQ K l by rw [← hR]; exact ownQ_is hc hk3)
      have hn24 := (chkC_parts hc).2.2.1.2
      rw [← hn.out] at hn24
      have hk64 : n3 ≤ 64 := by
        have := hk3
        unfold chkB at this
        rw [Bool.and_eq_true, decide_eq_true_iff] at this
        have := hn3.out
        omega
      rw [hk3] at CS
      clear h hK hr1 hR hc hk3
      go_enter Try.func23, Try.ntmps23
      go_wp2_with (first
        | (go_at_call 20; (with_reducible refine (CC.out _ (Below.refl _ _)).mono ?_); rintro e w2 ⟨rfl, hb⟩)
        | (go_at_call 52; (with_reducible refine (CS.out _ hb).mono ?_); rintro e w3 ⟨rfl, hb3⟩; have B3 := below_next hb hb3; obtain ⟨q0, q1, q2⟩ := K3.out _ B3))
      replace hW1 := Lib.hid hW1
      clear q0 q1 q2
      go_loopw [5, 6, 7, 8] (fun v i _ _ wr => ∃ (k : Nat), i = .int .i64 (k : Int) ∧ k ≤ n ∧ Hid (OwnsI wr W1.heap.size v (ownQ K (l.take k))) ∧ Below W1.heap.size W1 wr)
        (fun _ i _ _ _ => n - (intOf i).toNat)
      case atStart => exact ⟨0, rfl, by omega, Lib.hid (OwnsI.nil _ _), B3⟩
      case round =>
        obtain ⟨k, rfl, hk, HO, hbl⟩ := hrel
        obtain ⟨q0, q1, q2⟩ := K3.out _ hbl
        by_cases hlt : k < n
        · have hkl : k < l.length := by rw [← hn.out]; exact hlt
          have hkz : (k : Int) < (n : Int) := by omega
          have hk0 : (0 : Int) ≤ (k : Int) := by omega
          obtain ⟨⟨i, lo, hi, nd⟩, hs⟩ : ∃ s, l[k]! = s := ⟨_, rfl⟩
          have HRW := Lib.hid (fun W (hb : Below W1.heap.size W1 W) => (show ∃ b off, a = some ⟨b, off, none⟩ ∧ W.cell? ⟨b, off + k * 4, none⟩ = some (.int .i64 i) ∧ W.cell? ⟨b, off + k * 4 + 1, none⟩ = some (.int .i64 lo) ∧ W.cell? ⟨b, off + k * 4 + 2, none⟩ = some (.int .i64 hi) by
            obtain ⟨b, off, e, hb9, c0, c1, c2, _⟩ := (HP.out _ hb).shard k hkl
            rw [hs] at c0 c1 c2
            exact ⟨b, off, e, c0, c1, c2⟩))
          have HSK := Lib.hid (ownQ_skip (K := K) hkl hs)
          have HMO := Lib.hid (ownQ_more (K := K) hkl hs)
          have hol := ownQ_len K (l.take k)
          have holk : (ownQ K (l.take k)).length ≤ 24 := by rw [List.length_take] at hol; omega
          obtain ⟨O, hO⟩ : ∃ O, ownQ K (l.take k) = O := ⟨_, rfl⟩
          rw [hO] at HSK HMO HO holk
          clear hol hO hs
          go_wp2_with fail
          clear q0 q1 q2
          go_loopw [7, 8] (fun sv kv wj => ∃ (j : Nat) (sb : Bool), kv = .int .i64 (j : Int) ∧ sv = .bool sb ∧ j ≤ n3 ∧ Hid ((K.take j).any (qB lo hi) = sb) ∧ Below wr.heap.size wr wj)
            (fun _ kv _ => n3 - (intOf kv).toNat)
          case atStart => exact ⟨0, false, rfl, rfl, by omega, Lib.hid rfl, Below.refl _ _⟩
          case round =>
            obtain ⟨j, sb, rfl, rfl, hj, HA, hbj⟩ := hrel
            have BJ := below_next hbl hbj
            obtain ⟨q0, q1, q2⟩ := K3.out _ BJ
            obtain ⟨b, off, e, c0, c1, c2⟩ := HRW.out _ BJ
            subst e
            by_cases hjn : j < n3
            · have hjk : j < K.length := by rw [← hn3.out]; exact hjn
              have hjz : (j : Int) < (n3 : Int) := by omega
              have hj0 : (0 : Int) ≤ (j : Int) := by omega
              obtain ⟨b2, off2, e2, _, d0, d1⟩ := (HK.out _ BJ) j hjk
              subst e2
              have hm := any_more (p := qB lo hi) hjk
              rw [HA.out, show K[j]! = K.getD j (0, 0) from (getD_bang hjk).symm] at hm
              generalize K.getD j (0, 0) = q at d0 d1 hm
              obtain ⟨x, y⟩ := q
              dsimp only at d0 d1
              cases sb with
              | true =>
                have HN := Lib.hid (show (K.take (j + 1)).any (qB lo hi) = true by rw [hm]; rfl)
                clear hm
                go_wp2_with fail
                go_quiet (fail)
                go_wp2_with fail
                go_roundw
                case rel => exact ⟨j + 1, true, by go_num, rfl, by omega, HN, below_drewN hbj _⟩
                case measure => simp [intOf]; omega
              | false =>
                by_cases h1 : x < hi
                · by_cases h2 : lo < y
                  · have e1 : decide (x < hi) = true := decide_eq_true h1
                    have e2 : decide (lo < y) = true := decide_eq_true h2
                    have HN := Lib.hid (show (K.take (j + 1)).any (qB lo hi) = true by rw [hm]; unfold qB; dsimp only; rw [e1, e2]; rfl)
                    clear hm
                    go_wp2_with fail
                    go_quiet (fail)
                    go_wp2_with fail
                    go_roundw
                    case rel => exact ⟨j + 1, true, by go_num, rfl, by omega, HN, below_drewN hbj _⟩
                    case measure => simp [intOf]; omega
                  · have e1 : decide (x < hi) = true := decide_eq_true h1
                    have e2 : decide (lo < y) = false := decide_eq_false h2
                    have HN := Lib.hid (show (K.take (j + 1)).any (qB lo hi) = false by rw [hm]; unfold qB; dsimp only; rw [e1, e2]; rfl)
                    clear hm
                    go_wp2_with fail
                    go_quiet (fail)
                    go_wp2_with fail
                    go_roundw
                    case rel => exact ⟨j + 1, false, by go_num, rfl, by omega, HN, below_drewN hbj _⟩
                    case measure => simp [intOf]; omega
                · have e1 : decide (x < hi) = false := decide_eq_false h1
                  have HN := Lib.hid (show (K.take (j + 1)).any (qB lo hi) = false by rw [hm]; unfold qB; dsimp only; rw [e1]; rfl)
                  clear hm
                  go_wp2_with fail
                  go_quiet (fail)
                  go_wp2_with fail
                  go_roundw
                  case rel => exact ⟨j + 1, false, by go_num, rfl, by omega, HN, below_drewN hbj _⟩
                  case measure => simp [intOf]; omega
            · have hjz : ¬ (j : Int) < (n3 : Int) := by omega
              have ha := HA.out
              rw [List.take_of_length_le (by have := hn3.out; omega)] at ha
              cases sb with
              | false =>
                have HN := Lib.hid (HSK.out ha)
                clear ha
                go_wp2_with fail
                go_roundw
                case rel => exact ⟨k + 1, by go_num, by omega, Lib.hid (by rw [HN.out]; exact HO.out.below hbj), BJ⟩
                case measure => simp [intOf]; omega
              | true =>
                have HN := Lib.hid (HMO.out ha)
                clear ha
                have hO' := HO.out.below hbj
                have HO6 := Lib.hid (show wr.ownsRow W1.heap.size 3 1 _ O.length (O.map (Value.int .i64)) from hO')
                clear hO'
                go_wp2_with (at_builtin; refine wpList_append_own _ rfl _ _ 42 rfl W1.heap.size 3 i0 (.int .i64 0) 1 8 Try.underlying42 hi0 hz0 hz1 hz2 rfl (by decide) _ _ _ rfl (HO6.out.alloc _) ⟨wr.heap.size, 0, none⟩ 1 1 [.int .i64 i] rfl rfl ?c1 ?c2 ?c3 ?c4 ?c5 ?_)
                case c2 => first | rfl | (intro x hx; simp at hx; subst hx; rfl)
                case c3 => unfold maxLen; omega
                case c4 => omega
                case c5 => have := BJ.size; simp; omega
                intro v' w7 hown hgrow _
                have hb17 := (BJ.alloc BJ.size (.cells #[.int .i64 i] 3)).grown hgrow (by have := BJ.size; simp; omega) (fun j hj => (HO6.out.lt j hj).1)
                have HO7 := Lib.hid (OwnsI.push hown)
                clear hown hgrow
                go_wp2
                go_roundw
                case rel => exact ⟨k + 1, by go_num, by omega, Lib.hid (by rw [HN.out]; exact HO7.out), hb17⟩
                case measure => simp [intOf]; omega
        · have hkz : ¬ (k : Int) < (n : Int) := by omega
          have ho := HO.out
          rw [List.take_of_length_le (by rw [← hn.out]; omega)] at ho
          have HF := Lib.hid ho
          clear ho
          go_wp2
          go_ret
          exact ⟨_, rfl, by rw [HR.out]; exact HF.out.low bw.size, below_next bw hbl⟩
end Go.Proofs.Ytcpcdinfagdlhaa
