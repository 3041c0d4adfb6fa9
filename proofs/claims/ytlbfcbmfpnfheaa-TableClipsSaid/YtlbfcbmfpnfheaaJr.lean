/-
  CONTRACT: the document's Join.
-/
import Derived.Test.YtlbfcbmfpnfheaaJq
import Derived.BigQuiet
namespace Go.Proofs.Ytlbfcbmfpnfheaa
open Go.RowKit Go.Shelf

/-- Two tables, partly merged: O is what was taken of them, a and b what is left. -/
def Mg (A B O a b : List Sp) : Prop := ∃ ca cb, A = ca ++ a ∧ B = cb ++ b ∧ O.Perm (ca ++ cb) ∧ (∀ x ∈ O, ∀ y ∈ a ++ b, x.1 < y.1) ∧ O.Pairwise fun x y => x.1 < y.1
theorem Mg.start (A B : List Sp) : Mg A B [] A B := ⟨[], [], rfl, rfl, List.Perm.refl _, fun _ h => by simp at h, List.Pairwise.nil⟩
theorem Mg.left {A B O a b : List Sp} {x : Sp} (h : Mg A B O (x :: a) b) (hA : tblB A = true) (hx : ∀ y ∈ b, x.1 < y.1) : Mg A B (O ++ [x]) a b := by
  obtain ⟨ca, cb, e1, e2, hp, hl, hw⟩ := h
  have h2 := ((tblF_iff A (-1)).1 hA).2
  rw [e1, List.pairwise_append] at h2
  have hxa := (List.pairwise_cons.1 h2.2.1).1
  refine ⟨ca ++ [x], cb, by rw [e1]; simp, e2, ?_, ?_, ?_⟩
  · refine (hp.append_right [x]).trans ?_
    rw [List.append_assoc, List.append_assoc]
    exact List.Perm.append_left ca List.perm_append_comm
  · intro u hu y hy
    rcases List.mem_append.1 hu with hu | hu
    · refine hl u hu y ?_
      rcases List.mem_append.1 hy with hy | hy
      · exact List.mem_append.2 (.inl (List.mem_cons_of_mem _ hy))
      · exact List.mem_append.2 (.inr hy)
    · rw [List.mem_singleton.1 hu]
      rcases List.mem_append.1 hy with hy | hy
      · exact hxa y hy
      · exact hx y hy
  · rw [List.pairwise_append]
    refine ⟨hw, List.pairwise_singleton _ _, fun u hu y hy => ?_⟩
    rw [List.mem_singleton.1 hy]
    exact hl u hu x (by simp)
theorem Mg.right {A B O a b : List Sp} {x : Sp} (h : Mg A B O a (x :: b)) (hB : tblB B = true) (hx : ∀ y ∈ a, x.1 < y.1) : Mg A B (O ++ [x]) a b := by
  obtain ⟨ca, cb, e1, e2, hp, hl, hw⟩ := h
  have h2 := ((tblF_iff B (-1)).1 hB).2
  rw [e2, List.pairwise_append] at h2
  have hxa := (List.pairwise_cons.1 h2.2.1).1
  refine ⟨ca, cb ++ [x], e1, by rw [e2]; simp, ?_, ?_, ?_⟩
  · refine (hp.append_right [x]).trans ?_
    rw [List.append_assoc]
  · intro u hu y hy
    rcases List.mem_append.1 hu with hu | hu
    · refine hl u hu y ?_
      rcases List.mem_append.1 hy with hy | hy
      · exact List.mem_append.2 (.inl hy)
      · exact List.mem_append.2 (.inr (List.mem_cons_of_mem _ hy))
    · rw [List.mem_singleton.1 hu]
      rcases List.mem_append.1 hy with hy | hy
      · exact hx y hy
      · exact hxa y hy
  · rw [List.pairwise_append]
    refine ⟨hw, List.pairwise_singleton _ _, fun u hu y hy => ?_⟩
    rw [List.mem_singleton.1 hy]
    exact hl u hu x (by simp)
theorem Mg.done {A B O : List Sp} (h : Mg A B O [] []) (hA : tblB A = true) (hB : tblB B = true) : joinT A B = (O, 0) := by
  obtain ⟨ca, cb, e1, e2, hp, _, hw⟩ := h
  rw [List.append_nil] at e1 e2
  rw [← e1, ← e2] at hp
  obtain ⟨_, h1, h2⟩ := jn_of hA hB hp hw
  unfold joinT
  rw [if_pos ⟨hA, hB⟩, h2, if_neg (by simp), h1]
theorem Mg.both {A B O a b : List Sp} {x y : Sp} (h : Mg A B O (x :: a) (y :: b)) (hA : tblB A = true) (hB : tblB B = true) (e : x.1 = y.1) : joinT A B = ([], 7) := by
  obtain ⟨ca, cb, e1, e2, _⟩ := h
  unfold joinT
  rw [if_pos ⟨hA, hB⟩, (share_iff hB).2 ⟨x, by rw [e1]; simp, y, by rw [e2]; simp, e⟩, if_pos rfl]
theorem Mg.lenO {A B O a b : List Sp} (h : Mg A B O a b) : O.length ≤ A.length + B.length := by
  obtain ⟨ca, cb, e1, e2, hp, _⟩ := h
  have := hp.length_eq
  rw [e1, e2]
  simp at this ⊢
  omega
theorem Mg.ltL {A B O a b : List Sp} {x y : Sp} (h : Mg A B O a (y :: b)) (hB : tblB B = true) (e : x.1 < y.1) : ∀ z ∈ y :: b, x.1 < z.1 := by
  obtain ⟨ca, cb, _, e2, _⟩ := h
  have h2 := ((tblF_iff B (-1)).1 hB).2
  rw [e2, List.pairwise_append] at h2
  have := (List.pairwise_cons.1 h2.2.1).1
  intro z hz
  rcases List.mem_cons.1 hz with rfl | hz
  · exact e
  · have := this z hz; omega
theorem Mg.ltR {A B O a b : List Sp} {x y : Sp} (h : Mg A B O (x :: a) b) (hA : tblB A = true) (e : y.1 < x.1) : ∀ z ∈ x :: a, y.1 < z.1 := by
  obtain ⟨ca, cb, e1, _, _⟩ := h
  have h2 := ((tblF_iff A (-1)).1 hA).2
  rw [e1, List.pairwise_append] at h2
  have := (List.pairwise_cons.1 h2.2.1).1
  intro z hz
  rcases List.mem_cons.1 hz with rfl | hz
  · exact e
  · have := this z hz; omega

set_option maxRecDepth 100000 in
set_option maxHeartbeats 4000000 in
theorem rtjoin_any (a : Option Addr) (n c : Nat) (A : List Sp) (b : Option Addr) (m d : Nat) (B : List Sp) (w : World) (hA : Arg w a n c A) (hB : Arg w b m d B) :
    Calls Try.prog 30 #[.slice a n c, .slice b m d] w (SetArg w (joinT A B)) := by
  have CA := Lib.hid (rtcheck_any a n c A w hA)
  have CB := Lib.hid (fun W (h : Below w.heap.size w W) => rtcheck_any b m d B W (hB.below h))
  cases hta : tblB A
  · rw [show joinT A B = ([], 1) from if_neg (by rw [hta]; simp)]
    have h1 := Lib.hid hta
    clear hA hB
    go_enter Try.func30, Try.ntmps30
    go_wp2_with (go_at_call 50; (with_reducible refine CA.out.mono ?_); rw [h1.out]; rintro e w2 ⟨rfl, b2⟩)
    go_ret2
    exact (SetPost.nil b2).arg
  · cases htb : tblB B
    · rw [show joinT A B = ([], 1) from if_neg (by rw [htb]; simp)]
      have h1 := Lib.hid hta
      have h2 := Lib.hid htb
      clear hA hB
      go_enter Try.func30, Try.ntmps30
      go_wp2_with (first | (go_at_call 50; (with_reducible refine CA.out.mono ?_); rw [h1.out]; rintro e w2 ⟨rfl, b2⟩) | (go_at_call 50; (with_reducible refine (CB.out _ b2).mono ?_); rw [h2.out]; rintro e w3 ⟨rfl, b3⟩))
      go_ret2
      exact (SetPost.nil (below_next b2 b3)).arg
    · have mixed : Try.prog.follows .mixedOrders = true := by kernel_rfl
      obtain ⟨i0, hi, hz0, hz1, hz2⟩ := info_parts Try.infoRPair
      have hla := tbl_le hta
      have hlb := tbl_le htb
      have h1 := Lib.hid hta
      have h2 := Lib.hid htb
      have HAp := Lib.hid hA
      have HBp := Lib.hid hB
      have hn1 : n ≤ 4096 := by have := hA.1; omega
      have hm1 : m ≤ 4096 := by have := hB.1; omega
      have hn := Lib.hid hA.1
      have hm := Lib.hid hB.1
      have hlab := Lib.hid (show A.length + B.length ≤ 8192 by omega)
      clear hA hB hta htb hla hlb
      go_enter Try.func30, Try.ntmps30
      go_wp2_with (first | (go_at_call 50; (with_reducible refine CA.out.mono ?_); rw [h1.out]; rintro e w2 ⟨rfl, b2⟩) | (go_at_call 50; (with_reducible refine (CB.out _ b2).mono ?_); rw [h2.out]; rintro e w3 ⟨rfl, b3⟩; have b03 := below_next b2 b3))
      go_loopw [6, 7, 8] (fun v i j wr => ∃ (k g : Nat) (O : List Sp), i = .int .i64 (k : Int) ∧ j = .int .i64 (g : Int) ∧ k ≤ n ∧ g ≤ m ∧ Hid (OwnsP 76 wr w.heap.size v O) ∧ Hid (Mg A B O (A.drop k) (B.drop g)) ∧ Below w.heap.size w wr)
        (fun _ i j _ => n + m - (intOf i).toNat - (intOf j).toNat)
      case atStart => exact ⟨0, 0, [], rfl, rfl, Nat.zero_le _, Nat.zero_le _, Lib.hid (OwnsP.nil _ _ _), Lib.hid (Mg.start A B), b03⟩
      case round =>
        obtain ⟨k, g, O, rfl, rfl, hk, hg, HO, HM, hbl⟩ := hrel
        have HZ := Lib.hid (show O.length ≤ 8192 from Nat.le_trans HM.out.lenO hlab.out)
        by_cases hkn : k < n
        · have zk : (k : Int) < (n : Int) := by omega
          have hknl : k < A.length := by rw [← hn.out]; exact hkn
          obtain ⟨p, po, e1, hp, c0, c1⟩ := (HAp.out.below hbl).2.2.2.2 k hknl
          subst e1
          obtain ⟨s, hs⟩ : ∃ s, A.getD k (0, 0) = s := ⟨_, rfl⟩
          rw [hs] at c0 c1
          have hsd := drop_more hknl
          rw [hs] at hsd
          obtain ⟨x, y⟩ := s
          dsimp only at c0 c1
          replace hs := Lib.hid hs
          by_cases hgm : g < m
          · have zg : (g : Int) < (m : Int) := by omega
            have zq : ((g : Int) == (m : Int)) = false := by simp; omega
            have hgml : g < B.length := by rw [← hm.out]; exact hgm
            obtain ⟨q, qo, e2, hq, d0, d1⟩ := (HBp.out.below hbl).2.2.2.2 g hgml
            subst e2
            obtain ⟨t, ht⟩ : ∃ s, B.getD g (0, 0) = s := ⟨_, rfl⟩
            rw [ht] at d0 d1
            have htd := drop_more hgml
            rw [ht] at htd
            obtain ⟨u, v⟩ := t
            dsimp only at d0 d1
            replace ht := Lib.hid ht
            have hM := HM.out
            rw [hsd, htd] at hM
            by_cases hxu : x = u
            · have hxb : (x == u) = true := by simpa using hxu
              have HJ := Lib.hid (hM.both h1.out h2.out hxu)
              rw [HJ.out]
              clear hM hsd htd hxu
              go_wp2_with fail
              go_quiet (fail)
              go_wp2
              go_ret2
              exact ⟨none, 0, 0, rfl, ⟨rfl, by simp, Nat.le_refl _, Nat.zero_le _, PIn.nil _ _ _⟩, below_drewN hbl _⟩
            · have hxb : (x == u) = false := by simpa using hxu
              by_cases hlt : x < u
              · have zl : decide (x < u) = true := decide_eq_true hlt
                have HN := Lib.hid (show Mg A B (O ++ [(x, y)]) (A.drop (k + 1)) (B.drop g) by rw [htd]; exact hM.left h1.out (hM.ltL h2.out hlt))
                clear hM hsd htd hxu hlt
                go_wp2_with fail
                go_quiet (fail)
                go_wp2
                go_quiet (fail)
                go_wp2_with ((at_builtin; refine wpList_append_own _ rfl _ _ 32 rfl w.heap.size 76 i0 (.agg #[.int .i64 0, .int .i64 0]) 2 16 Try.underlying32 hi hz0 hz1 hz2 rfl (by decide) _ _ _ rfl (World.ownsRow.alloc (HO.out.below (below_drewN (Below.refl _ wr) _)) _) ⟨wr.heap.size, 0, none⟩ 1 1 [.int .i64 x, .int .i64 y] rfl rfl ?jaa ?jab ?jac ?jad ?jae ?_))
                case jaa =>
                  intro j u hj
                  match j, hj with
                  | 0, hj => simp at hj; subst hj; simp [Addr.add]; exact cell_of_row _ _ _ _ _ _ (heap_alloc_new (wr.drewN _) _)
                  | 1, hj => simp at hj; subst hj; simp [Addr.add]; exact cell_of_row _ _ _ _ _ _ (heap_alloc_new (wr.drewN _) _)
                case jab => intro u hu; simp at hu; rcases hu with rfl | rfl <;> rfl
                case jac => have := HZ.out; unfold maxLen; omega
                case jad => have := HZ.out; omega
                case jae => have := hbl.size; simp; omega
                intro v' w9 hown' hgrow _
                have hb9 := ((below_drewN hbl _).alloc (below_drewN hbl _).size (.cells #[.int .i64 x, .int .i64 y] 76)).grown hgrow (by have := hbl.size; simp; omega) (fun j hj => (World.ownsRow.lt HO.out j hj).1)
                replace hown' := Lib.hid hown'
                clear hgrow
                go_wp2
                go_roundw
                case rel =>
                  exact ⟨k + 1, g, O ++ [(x, y)], by go_num, by go_num, by omega, by omega, Lib.hid (OwnsP.snoc rfl hown'.out), HN, hb9⟩
                case measure => simp [intOf]; omega
              · have zl : decide (x < u) = false := decide_eq_false hlt
                have hlt2 : u < x := by omega
                have HN := Lib.hid (show Mg A B (O ++ [(u, v)]) (A.drop k) (B.drop (g + 1)) by rw [hsd]; exact hM.right h2.out (hM.ltR h1.out hlt2))
                clear hM hsd htd hxu hlt hlt2
                go_wp2_with fail
                go_quiet (fail)
                go_wp2
                go_quiet (fail)
                go_wp2_with ((at_builtin; refine wpList_append_own _ rfl _ _ 32 rfl w.heap.size 76 i0 (.agg #[.int .i64 0, .int .i64 0]) 2 16 Try.underlying32 hi hz0 hz1 hz2 rfl (by decide) _ _ _ rfl (World.ownsRow.alloc (HO.out.below (below_drewN (Below.refl _ wr) _)) _) ⟨wr.heap.size, 0, none⟩ 1 1 [.int .i64 u, .int .i64 v] rfl rfl ?jba ?jbb ?jbc ?jbd ?jbe ?_))
                case jba =>
                  intro j u hj
                  match j, hj with
                  | 0, hj => simp at hj; subst hj; simp [Addr.add]; exact cell_of_row _ _ _ _ _ _ (heap_alloc_new (wr.drewN _) _)
                  | 1, hj => simp at hj; subst hj; simp [Addr.add]; exact cell_of_row _ _ _ _ _ _ (heap_alloc_new (wr.drewN _) _)
                case jbb => intro u hu; simp at hu; rcases hu with rfl | rfl <;> rfl
                case jbc => have := HZ.out; unfold maxLen; omega
                case jbd => have := HZ.out; omega
                case jbe => have := hbl.size; simp; omega
                intro v' w9 hown' hgrow _
                have hb9 := ((below_drewN hbl _).alloc (below_drewN hbl _).size (.cells #[.int .i64 u, .int .i64 v] 76)).grown hgrow (by have := hbl.size; simp; omega) (fun j hj => (World.ownsRow.lt HO.out j hj).1)
                replace hown' := Lib.hid hown'
                clear hgrow
                go_wp2
                go_roundw
                case rel =>
                  exact ⟨k, g + 1, O ++ [(u, v)], by go_num, by go_num, by omega, by omega, Lib.hid (OwnsP.snoc rfl hown'.out), HN, hb9⟩
                case measure => simp [intOf]; omega
          · have zg : decide ((g : Int) < (m : Int)) = false := decide_eq_false (by omega)
            have zq : ((g : Int) == (m : Int)) = true := by simp; omega
            have hBd : B.drop g = [] := List.drop_eq_nil_of_le (by rw [← hm.out]; omega)
            have hM := HM.out
            rw [hsd, hBd] at hM
            have HN := Lib.hid (show Mg A B (O ++ [(x, y)]) (A.drop (k + 1)) (B.drop g) by rw [hBd]; exact hM.left h1.out (fun _ h => by simp at h))
            clear hM hsd hBd
            go_wp2_with fail
            go_quiet (fail)
            go_wp2
            go_quiet (fail)
            go_wp2_with ((at_builtin; refine wpList_append_own _ rfl _ _ 32 rfl w.heap.size 76 i0 (.agg #[.int .i64 0, .int .i64 0]) 2 16 Try.underlying32 hi hz0 hz1 hz2 rfl (by decide) _ _ _ rfl (World.ownsRow.alloc (HO.out.below (below_drewN (Below.refl _ wr) _)) _) ⟨wr.heap.size, 0, none⟩ 1 1 [.int .i64 x, .int .i64 y] rfl rfl ?jca ?jcb ?jcc ?jcd ?jce ?_))
            case jca =>
              intro j u hj
              match j, hj with
              | 0, hj => simp at hj; subst hj; simp [Addr.add]; exact cell_of_row _ _ _ _ _ _ (heap_alloc_new (wr.drewN _) _)
              | 1, hj => simp at hj; subst hj; simp [Addr.add]; exact cell_of_row _ _ _ _ _ _ (heap_alloc_new (wr.drewN _) _)
            case jcb => intro u hu; simp at hu; rcases hu with rfl | rfl <;> rfl
            case jcc => have := HZ.out; unfold maxLen; omega
            case jcd => have := HZ.out; omega
            case jce => have := hbl.size; simp; omega
            intro v' w9 hown' hgrow _
            have hb9 := ((below_drewN hbl _).alloc (below_drewN hbl _).size (.cells #[.int .i64 x, .int .i64 y] 76)).grown hgrow (by have := hbl.size; simp; omega) (fun j hj => (World.ownsRow.lt HO.out j hj).1)
            replace hown' := Lib.hid hown'
            clear hgrow
            go_wp2
            go_roundw
            case rel =>
              exact ⟨k + 1, g, O ++ [(x, y)], by go_num, by go_num, by omega, by omega, Lib.hid (OwnsP.snoc rfl hown'.out), HN, hb9⟩
            case measure => simp [intOf]; omega
        · have zk : decide ((k : Int) < (n : Int)) = false := decide_eq_false (by omega)
          have hAd : A.drop k = [] := List.drop_eq_nil_of_le (by rw [← hn.out]; omega)
          by_cases hgm : g < m
          · have zg : (g : Int) < (m : Int) := by omega
            have zq : ((g : Int) == (m : Int)) = false := by simp; omega
            have hgml : g < B.length := by rw [← hm.out]; exact hgm
            obtain ⟨q, qo, e2, hq, d0, d1⟩ := (HBp.out.below hbl).2.2.2.2 g hgml
            subst e2
            obtain ⟨t, ht⟩ : ∃ s, B.getD g (0, 0) = s := ⟨_, rfl⟩
            rw [ht] at d0 d1
            have htd := drop_more hgml
            rw [ht] at htd
            obtain ⟨u, v⟩ := t
            dsimp only at d0 d1
            replace ht := Lib.hid ht
            have hM := HM.out
            rw [hAd, htd] at hM
            have HN := Lib.hid (show Mg A B (O ++ [(u, v)]) (A.drop k) (B.drop (g + 1)) by rw [hAd]; exact hM.right h2.out (fun _ h => by simp at h))
            clear hM hAd htd
            go_wp2_with fail
            go_quiet (fail)
            go_wp2
            go_quiet (fail)
            go_wp2_with ((at_builtin; refine wpList_append_own _ rfl _ _ 32 rfl w.heap.size 76 i0 (.agg #[.int .i64 0, .int .i64 0]) 2 16 Try.underlying32 hi hz0 hz1 hz2 rfl (by decide) _ _ _ rfl (World.ownsRow.alloc (HO.out.below (below_drewN (Below.refl _ wr) _)) _) ⟨wr.heap.size, 0, none⟩ 1 1 [.int .i64 u, .int .i64 v] rfl rfl ?jda ?jdb ?jdc ?jdd ?jde ?_))
            case jda =>
              intro j u hj
              match j, hj with
              | 0, hj => simp at hj; subst hj; simp [Addr.add]; exact cell_of_row _ _ _ _ _ _ (heap_alloc_new (wr.drewN _) _)
              | 1, hj => simp at hj; subst hj; simp [Addr.add]; exact cell_of_row _ _ _ _ _ _ (heap_alloc_new (wr.drewN _) _)
            case jdb => intro u hu; simp at hu; rcases hu with rfl | rfl <;> rfl
            case jdc => have := HZ.out; unfold maxLen; omega
            case jdd => have := HZ.out; omega
            case jde => have := hbl.size; simp; omega
            intro v' w9 hown' hgrow _
            have hb9 := ((below_drewN hbl _).alloc (below_drewN hbl _).size (.cells #[.int .i64 u, .int .i64 v] 76)).grown hgrow (by have := hbl.size; simp; omega) (fun j hj => (World.ownsRow.lt HO.out j hj).1)
            replace hown' := Lib.hid hown'
            clear hgrow
            go_wp2
            go_roundw
            case rel =>
              exact ⟨k, g + 1, O ++ [(u, v)], by go_num, by go_num, by omega, by omega, Lib.hid (OwnsP.snoc rfl hown'.out), HN, hb9⟩
            case measure => simp [intOf]; omega
          · have zg : decide ((g : Int) < (m : Int)) = false := decide_eq_false (by omega)
            have hBd : B.drop g = [] := List.drop_eq_nil_of_le (by rw [← hm.out]; omega)
            have hM := HM.out
            rw [hAd, hBd] at hM
            have HJ := Lib.hid (hM.done h1.out h2.out)
            obtain ⟨aO, nO, cO, eO, HA9⟩ := HO.out.ready
            replace HA9 := Lib.hid HA9
            clear hM hAd hBd HO
            subst eO
            go_wp2_with fail
            go_ret2
            rw [HJ.out]
            exact ⟨_, _, _, rfl, HA9.out, hbl⟩
end Go.Proofs.Ytlbfcbmfpnfheaa
