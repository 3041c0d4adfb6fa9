/-
  CONTRACT: the document's Clip.
-/
import Derived.Test.YtbpekloodjimoaaJp
namespace Go.Proofs.Ytbpekloodjimoaa
open Go.RowKit Go.Shelf

theorem take_filter {l : List Sp} {k : Nat} {q : Sp → Bool} (h : k < l.length) : (l.take (k + 1)).filter q = (l.take k).filter q ++ (if q (l.getD k (0, 0)) = true then [l.getD k (0, 0)] else []) := by
  rw [take_more h, List.filter_append]
  congr 1
  generalize l.getD k (0, 0) = s
  cases hq : q s <;> simp [hq]
theorem filter_take_len (l : List Sp) (k : Nat) (q : Sp → Bool) : ((l.take k).filter q).length ≤ k := Nat.le_trans (List.length_filter_le _ _) (List.length_take_le _ _)

set_option maxRecDepth 100000 in
set_option maxHeartbeats 4000000 in
theorem rtclip_any (a : Option Addr) (n c : Nat) (l : List Sp) (a3 : Option Addr) (n3 c3 : Nat) (on : List Sp) (w : World) (hL : Arg w a n c l) (hO : Arg w a3 n3 c3 on) (hz : l.length ≤ 100000) :
    Calls Try.prog 39 #[.slice a n c, .slice a3 n3 c3] w (ListArg w (clipP l on)) := by
  obtain ⟨i0, hi, hz0, hz1, hz2⟩ := info_parts Try.infoRPair
  have RT := Lib.hid (fun W (h : Below w.heap.size w W) => rtcheck_any a n c l W (hL.below h))
  have RC := Lib.hid (fun W (h : Below w.heap.size w W) => rcheck_any a3 n3 c3 on W (hO.below h))
  have RH := Lib.hid (fun W x (h : Below w.heap.size w W) => rhas_any a3 n3 c3 on x W (hO.below h))
  have hn1 : n ≤ 100000 := by have := hL.1; omega
  have hn := Lib.hid hL.1
  have HP := Lib.hid hL
  obtain ⟨q, hq⟩ : ∃ q : Sp → Bool, (fun p => tblB l && chkB on && hasB on p.1) = q := ⟨_, rfl⟩
  have hcl : clipP l on = l.filter q := by
    rw [← hq]
    unfold clipP
    cases tblB l
    · rw [if_neg (by simp)]; exact (filter_none fun x _ => rfl).symm
    · cases chkB on
      · rw [if_neg (by simp)]; exact (filter_none fun x _ => rfl).symm
      · rw [if_pos ⟨rfl, rfl⟩]; rfl
  rw [hcl]
  have HQ := Lib.hid (fun p : Sp => show q p = (tblB l && chkB on && hasB on p.1) by rw [← hq])
  clear hL hO hcl hq
  obtain ⟨tb, htb⟩ : ∃ t, tblB l = t := ⟨_, rfl⟩
  obtain ⟨cb, hcb⟩ : ∃ t, chkB on = t := ⟨_, rfl⟩
  rw [htb, hcb] at HQ
  rw [htb] at RT
  rw [hcb] at RC
  clear htb hcb
  go_enter Try.func39, Try.ntmps39
  go_wp2_with fail
  go_loopw [5, 6] (fun v i wr => ∃ (k : Nat), i = .int .i64 (k : Int) ∧ k ≤ n ∧ Hid (OwnsP 75 wr w.heap.size v ((l.take k).filter q)) ∧ Below w.heap.size w wr)
    (fun _ i _ => n - (intOf i).toNat)
  case atStart => exact ⟨0, rfl, by omega, Lib.hid (OwnsP.nil _ _ _), Below.refl _ _⟩
  case round =>
    obtain ⟨k, rfl, hk, HO, hbl⟩ := hrel
    by_cases hlt : k < n
    · have hkl : k < l.length := by rw [← hn.out]; exact hlt
      have hkz : (k : Int) < (n : Int) := by omega
      obtain ⟨b, off, e, hb, c0, c1⟩ := (HP.out.below hbl).2.2.2.2 k hkl
      subst e
      have HF := Lib.hid (take_filter (q := q) hkl)
      have HZ := Lib.hid (filter_take_len l k q)
      obtain ⟨s, hs⟩ : ∃ s, l.getD k (0, 0) = s := ⟨_, rfl⟩
      rw [hs] at c0 c1 HF
      obtain ⟨x, y⟩ := s
      dsimp only at c0 c1
      replace HQ := Lib.hid (HQ.out (x, y))
      replace hs := Lib.hid hs
      have hqq := HQ.out
      dsimp only at hqq
      cases tb
      · have HT : Hid (OwnsP 75 wr w.heap.size _ ((l.take (k + 1)).filter q)) := Lib.hid (by rw [HF.out, hqq]; simp; exact HO.out)
        clear hqq HQ
        go_wp2_with (go_at_call 28; (with_reducible refine (RT.out _ hbl).mono ?_); rintro e w2 ⟨rfl, b2⟩)
        go_roundw
        case rel => exact ⟨k + 1, by go_num, by omega, Lib.hid (HT.out.below b2), below_next hbl b2⟩
        case measure => simp [intOf]; omega
      · cases cb
        · have HT : Hid (OwnsP 75 wr w.heap.size _ ((l.take (k + 1)).filter q)) := Lib.hid (by rw [HF.out, hqq]; simp; exact HO.out)
          clear hqq HQ
          go_wp2_with (first | (go_at_call 28; (with_reducible refine (RT.out _ hbl).mono ?_); rintro e w2 ⟨rfl, b2⟩; have hb2 := below_next hbl b2) | (go_at_call 37; (with_reducible refine (RC.out _ hb2).mono ?_); rintro e w3 ⟨rfl, b3⟩))
          go_roundw
          case rel => exact ⟨k + 1, by go_num, by omega, Lib.hid ((HT.out.below b2).below b3), below_next hb2 b3⟩
          case measure => simp [intOf]; omega
        · cases hh : hasB on x
          · have HT : Hid (OwnsP 75 wr w.heap.size _ ((l.take (k + 1)).filter q)) := Lib.hid (by rw [HF.out, hqq, hh]; simp; exact HO.out)
            replace hh := Lib.hid hh
            clear hqq HQ
            go_wp2_with (first | (go_at_call 28; (with_reducible refine (RT.out _ hbl).mono ?_); rintro e w2 ⟨rfl, b2⟩; have hb2 := below_next hbl b2) | (go_at_call 37; (with_reducible refine (RC.out _ hb2).mono ?_); rintro e w3 ⟨rfl, b3⟩; have hb3 := below_next hb2 b3; have c0 := (b3.cell (Nat.lt_of_lt_of_le hb b2.size)).trans ((b2.cell hb).trans c0)) | (go_at_call 30; (with_reducible refine (RH.out _ _ hb3).mono ?_); rw [hh.out]; rintro e w4 ⟨rfl, b4⟩))
            go_roundw
            case rel => exact ⟨k + 1, by go_num, by omega, Lib.hid (((HT.out.below b2).below b3).below b4), below_next hb3 b4⟩
            case measure => simp [intOf]; omega
          · have HT := Lib.hid (show (l.take (k + 1)).filter q = (l.take k).filter q ++ [(x, y)] by rw [HF.out, hqq, hh]; rfl)
            replace hh := Lib.hid hh
            clear hqq HQ
            go_wp2_with (first | (go_at_call 28; (with_reducible refine (RT.out _ hbl).mono ?_); rintro e w2 ⟨rfl, b2⟩; have hb2 := below_next hbl b2) | (go_at_call 37; (with_reducible refine (RC.out _ hb2).mono ?_); rintro e w3 ⟨rfl, b3⟩; have hb3 := below_next hb2 b3; have c0 := (b3.cell (Nat.lt_of_lt_of_le hb b2.size)).trans ((b2.cell hb).trans c0)) | (go_at_call 30; (with_reducible refine (RH.out _ _ hb3).mono ?_); rw [hh.out]; rintro e w4 ⟨rfl, b4⟩; have hb4 := below_next hb3 b4; have d0 := (b4.cell (Nat.lt_of_lt_of_le (Nat.lt_of_lt_of_le hb b2.size) b3.size)).trans c0; have d1 := (b4.cell (Nat.lt_of_lt_of_le (Nat.lt_of_lt_of_le hb b2.size) b3.size)).trans ((b3.cell (Nat.lt_of_lt_of_le hb b2.size)).trans ((b2.cell hb).trans c1)); replace HO := Lib.hid (((HO.out.below b2).below b3).below b4)) | (at_builtin; refine wpList_append_own _ rfl _ _ 32 rfl w.heap.size 75 i0 (.agg #[.int .i64 0, .int .i64 0]) 2 16 Try.underlying32 hi hz0 hz1 hz2 rfl (by decide) _ _ _ rfl (World.ownsRow.alloc HO.out _) ⟨w4.heap.size, 0, none⟩ 1 1 [.int .i64 x, .int .i64 y] rfl rfl ?da ?db ?dc ?dd ?de ?_))
            case da =>
              intro j u hj
              match j, hj with
              | 0, hj => simp at hj; subst hj; simp [Addr.add]
              | 1, hj => simp at hj; subst hj; simp [Addr.add]
            case db => intro u hu; simp at hu; rcases hu with rfl | rfl <;> rfl
            case dc => have := HZ.out; unfold maxLen; omega
            case dd => have := HZ.out; omega
            case de => have := (hb4).size; simp; omega
            intro v' w9 hown' hgrow _
            have hb9 := ((hb4).alloc (hb4).size (.cells #[.int .i64 x, .int .i64 y] 75)).grown hgrow (by have := (hb4).size; simp; omega) (fun j hj => (World.ownsRow.lt HO.out j hj).1)
            replace hown' := Lib.hid hown'
            clear hgrow
            go_wp2
            go_roundw
            case rel =>
              refine ⟨k + 1, by go_num, by omega, Lib.hid ?_, hb9⟩
              rw [HT.out]
              exact OwnsP.snoc rfl hown'.out
            case measure => simp [intOf]; omega
    · have hk' : l.take k = l := List.take_of_length_le (by rw [← hn.out]; omega)
      have hkn : k = n := by omega
      subst hkn
      have ho := HO.out
      rw [hk'] at ho
      obtain ⟨a6, n6, c6, rfl, HA⟩ := ho.ready
      replace HA := Lib.hid HA
      replace hk' := Lib.hid hk'
      clear ho HO
      go_wp2
      go_ret
      exact ⟨_, _, _, rfl, HA.out, hbl⟩
end Go.Proofs.Ytbpekloodjimoaa
