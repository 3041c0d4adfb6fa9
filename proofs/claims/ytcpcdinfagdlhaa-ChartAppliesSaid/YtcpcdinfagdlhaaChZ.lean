/-
  CONTRACTS of readShards, Read.
-/
import Derived.Test.YtcpcdinfagdlhaaChY
namespace Go.Proofs.Ytcpcdinfagdlhaa
open Go.RowKit Go.Shelf Go.ChangeShapes Go.WideShapes Go.Deep

def ShsPost (w : World) (g : Nat) (l : List Sd) (r : ByteArray × Int) (e : Ending) (w' : World) : Prop :=
  ∃ v, e = .returned v ∧ OwnsR encS 4 35 w' w.heap.size v l ∧ Rd w' g r.1 r.2 ∧ w.grownBy w' (some g)
set_option maxRecDepth 100000 in
set_option maxHeartbeats 4000000 in
theorem rshards_any {w : World} {g : Nat} {s : ByteArray} {e : Int} (h : Rd w g s e) (hs : (s.size : Int) ≤ 1000000000000) :
    Calls Try.prog 75 #[.pointer (some ⟨g, 0, none⟩)] w (ShsPost w g (rShards s e).1 (rShards s e).2) := by
  obtain ⟨v0, v1⟩ := rNum_val s e
  have hz := rNum_size s e
  have hg := h.lt
  obtain ⟨n, hn⟩ : ∃ n : Nat, (rNum s e).1 = (n : Int) := ⟨(rNum s e).1.toNat, by omega⟩
  obtain ⟨u, hu⟩ : ∃ u, (rNum s e).2.1 = u := ⟨_, rfl⟩
  obtain ⟨e1, he1⟩ : ∃ e1, (rNum s e).2.2 = e1 := ⟨_, rfl⟩
  have HL := Lib.hid (show rShards s e = rSs n [] 0 u e1 by unfold rShards; rw [hn, hu, he1]; rfl)
  have HC : Hid (∀ w : World, Rd w g s e → Calls Try.prog 74 #[.pointer (some ⟨g, 0, none⟩)] w (RdPost w g (.int .i64 (n : Int)) (u, e1))) :=
    Lib.hid fun w h => (rnum_any h (by omega)).mono fun e w' h => by rw [hn] at h; rw [← hu, ← he1]; exact h
  rw [hu] at hz
  rw [hn] at v1
  have hn1 : (n : Int) ≤ 9223372036854775807 := v1
  clear hn hu he1 v0 v1
  obtain ⟨i0, hi, hz0, hz1, hz2⟩ := info_parts Try.infoShard
  go_enter Try.func75, Try.ntmps75
  go_wp2_with (go_at_call 74; refine (HC.out _ h).mono ?_; rintro en w0 ⟨rfl, R0, G0⟩)
  go_loopw [3, 4, 5, 8] (fun v zo _ i wr => ∃ (k : Nat) (acc : List Sd) (lo : Int) (t : ByteArray) (e2 : Int), i = .int .i64 (k : Int) ∧ zo = .int .i64 lo ∧ k ≤ n ∧ acc.length ≤ 25 ∧ t.size ≤ s.size ∧ OwnsR encS 4 35 wr w.heap.size v acc ∧ Rd wr g t e2 ∧ w.grownBy wr (some g) ∧ Hid (rSs (n - k) acc lo t e2 = rSs n [] 0 u e1))
    (fun _ _ _ i _ => n - (intOf i).toNat)
  case atStart => exact ⟨0, [], 0, u, e1, rfl, rfl, by omega, by simp, hz, OwnsR.nil _ _ _ _ _, R0, G0, Lib.hid rfl⟩
  case round =>
    obtain ⟨k, acc, lo, t, e2, rfl, rfl, hk, hac, hsum, hown, R, G, HE⟩ := hrel
    have hsz := G.size
    by_cases hlt : k < n
    · have hkz : (k : Int) < (n : Int) := by omega
      obtain ⟨x, s1, e3, hA⟩ : ∃ x s1 e3, rNum t e2 = (x, s1, e3) := ⟨_, _, _, rfl⟩
      obtain ⟨y, s2, e4, hB⟩ : ∃ y s2 e4, rNum s1 e3 = (y, s2, e4) := ⟨_, _, _, rfl⟩
      obtain ⟨q, s3, e5, hC⟩ : ∃ yy ss ee, rNum s2 e4 = (yy, ss, ee) := ⟨_, _, _, rfl⟩
      have hs1 : s1.size ≤ t.size := by have := rNum_size t e2; rw [hA] at this; exact this
      have hs2 : s2.size ≤ s1.size := by have := rNum_size s1 e3; rw [hB] at this; exact this
      have hs3 : s3.size ≤ s2.size := by have := rNum_size s2 e4; rw [hC] at this; exact this
      have CN : Hid (∀ W, Rd W g t e2 → Calls Try.prog 74 #[.pointer (some ⟨g, 0, none⟩)] W (RdPost W g (.int .i64 x) (s1, e3))) :=
        Lib.hid fun W hR => (rnum_any hR (by omega)).mono fun e w' h => by rw [hA] at h; exact h
      have CM : Hid (∀ W, Rd W g s1 e3 → Calls Try.prog 74 #[.pointer (some ⟨g, 0, none⟩)] W (RdPost W g (.int .i64 y) (s2, e4))) :=
        Lib.hid fun W hR => (rnum_any hR (by omega)).mono fun e w' h => by rw [hB] at h; exact h
      have CO : Hid (∀ W, Rd W g s2 e4 → Calls Try.prog 74 #[.pointer (some ⟨g, 0, none⟩)] W (RdPost W g (.int .i64 q) (s3, e5))) :=
        Lib.hid fun W hR => (rnum_any hR (by omega)).mono fun e w' h => by rw [hC] at h; exact h
      by_cases he : e5 = 0
      · have hd : (e5 == 0) = true := by simpa using he
        have hd2 : (e5 != 0) = false := by simpa using he
        have HG := Lib.hid (rSs_go (n := n - (k + 1)) (acc := acc) (lo := lo) hA hB hC he)
        clear he hA hB hC
        obtain ⟨a6, cap6, hv6, hA6⟩ := OwnsR.arg encS_len hown
        subst hv6
        obtain ⟨m, hm⟩ : ∃ m, acc.length = m := ⟨_, rfl⟩
        have hrow : wr.ownsRow w.heap.size 35 4 (.slice a6 m cap6) m (flatR encS acc) := by rw [← hm]; exact hown
        rw [hm] at hac ⊢
        have hkm : (m : Int) ≤ 25 := by omega
        replace hm := Lib.hid hm
        have hne : (Value.slice a6 m cap6).ownBlock = none ∨ (Value.slice a6 m cap6).ownBlock ≠ some g := by right; intro hv; have := (hrow.lt g hv).1; omega
        have hlo : ∀ k, (Value.slice a6 m cap6).ownBlock = some k → w.heap.size ≤ k ∧ k < wr.heap.size := fun k hk => hrow.lt k hk
        have HRW : Hid (∀ w1 w2 w3, wr.grownBy w1 (some g) → w1.grownBy w2 (some g) → w2.grownBy w3 (some g) → w3.ownsRow w.heap.size 35 4 (.slice a6 m cap6) m (flatR encS acc)) := Lib.hid fun w1 w2 w3 g1 g2 g3 => ((hrow.kept g1 hne).kept g2 hne).kept g3 hne
        replace hne := Lib.hid hne
        replace hlo := Lib.hid hlo
        clear hown hrow hA6
        by_cases hl : m ≤ 24
        · have hlz : (m : Int) ≤ 24 := by omega
          go_wp2_with (first
            | (go_at_call 74; refine (CN.out _ R).mono ?_; rintro en w1 ⟨rfl, R1, G1⟩)
            | (go_at_call 74; refine (CM.out _ R1).mono ?_; rintro en w2 ⟨rfl, R2, G2⟩)
            | (go_at_call 74; refine (CO.out _ R2).mono ?_; rintro en w3 ⟨rfl, R3, G3⟩)
            | (go_at_call 107; refine (err_any (rd_grown R3 (World.grownBy_alloc w3 (Obj.cells #[.int .i64 x, .int .i64 lo, .int .i64 y, .int .i64 q] 35) none) (by simp))).mono ?_; rintro e w' ⟨rfl, rfl⟩)
            | (at_builtin; refine wpList_append_own _ rfl _ _ 22 rfl w.heap.size 35 i0 (.agg #[.int .i64 0, .int .i64 0, .int .i64 0, .int .i64 0]) 4 32 Try.underlying22 hi hz0 hz1 hz2 rfl (by decide) _ _ _ rfl (((HRW.out w1 w2 w3 G1 G2 G3).alloc _).alloc _) ⟨w3.heap.size + 1, 0, none⟩ 1 1 [.int .i64 x, .int .i64 lo, .int .i64 y, .int .i64 q] rfl ?c1 ?c2 ?c3 ?c4 ?c5 ?c6 ?_))
          all_goals first
            | rfl
            | (intro j u hj
               match j, hj with
               | 0, hj => simp at hj; subst hj; simp [Addr.add]
               | 1, hj => simp at hj; subst hj; simp [Addr.add]
               | 2, hj => simp at hj; subst hj; simp [Addr.add]
               | 3, hj => simp at hj; subst hj; simp [Addr.add])
            | (intro u hu; simp at hu; rcases hu with rfl | rfl | rfl | rfl <;> rfl)
            | (unfold maxLen; omega)
            | omega
            | (have := G1.size; have := G2.size; have := G3.size; simp; omega)
            | skip
          intro v' w5 hown' hgrow _
          have hlo' := hlo.out
          have z123 : wr.heap.size ≤ w3.heap.size := by have := G1.size; have := G2.size; have := G3.size; omega
          have hX3 : (w3.alloc (Obj.cells #[.int .i64 x, .int .i64 lo, .int .i64 y, .int .i64 q] 35)).heap[w3.heap.size]? = some (Obj.cells #[.int .i64 x, .int .i64 lo, .int .i64 y, .int .i64 q] 35) := heap_alloc_new w3 _
          have hX4 : ((w3.alloc (Obj.cells #[.int .i64 x, .int .i64 lo, .int .i64 y, .int .i64 q] 35)).alloc (Obj.cells #[.int .i64 x, .int .i64 lo, .int .i64 y, .int .i64 q] 35)).heap[w3.heap.size]? = some (Obj.cells #[.int .i64 x, .int .i64 lo, .int .i64 y, .int .i64 q] 35) := (World.grownBy_alloc (w3.alloc (Obj.cells #[.int .i64 x, .int .i64 lo, .int .i64 y, .int .i64 q] 35)) (Obj.cells #[.int .i64 x, .int .i64 lo, .int .i64 y, .int .i64 q] 35) none).block _ (by simp) (by simp) |>.trans hX3
          have hX5 := (hgrow.block w3.heap.size (by simp; omega) (by intro hv; have := (hlo' _ hv.symm).2; omega)).trans hX4
          have y2 := cell_of_row _ _ 2 _ _ _ hX5
          have G5 := grown_over (grown_over (grown_over (grown_trans (grown_trans (grown_trans G G1) G2) G3) (World.grownBy_alloc w3 (Obj.cells #[.int .i64 x, .int .i64 lo, .int .i64 y, .int .i64 q] 35) none) (by intro k hk; cases hk)) (World.grownBy_alloc _ (Obj.cells #[.int .i64 x, .int .i64 lo, .int .i64 y, .int .i64 q] 35) none) (by intro k hk; cases hk)) hgrow (fun k hk => (hlo' k hk).1)
          have R5 := rd_grown (rd_grown (rd_grown R3 (World.grownBy_alloc w3 (Obj.cells #[.int .i64 x, .int .i64 lo, .int .i64 y, .int .i64 q] 35) none) (by simp)) (World.grownBy_alloc _ (Obj.cells #[.int .i64 x, .int .i64 lo, .int .i64 y, .int .i64 q] 35) none) (by simp)) hgrow (by intro hv; have := (hlo' g hv.symm).1; omega)
          have ho := OwnsR.snoc (enc := encS) (l := acc) (x := ((x, lo, y, q) : Sd)) hm.out hown'
          clear hown' hgrow hlo' hX3 hX4 hX5
          go_wp2
          go_roundw
          case rel => exact ⟨k + 1, acc ++ [(x, lo, y, q)], y, s3, e5, by go_num, rfl, by omega, by rw [List.length_append, hm.out]; simp; omega, by omega, ho, R5, G5, Lib.hid (by rw [← HE.out, show n - k = n - (k + 1) + 1 by omega, HG.out, if_pos (by rw [hm.out]; exact hl)])⟩
          case measure => simp [intOf]; omega
        · have hlz : ¬ (m : Int) ≤ 24 := by omega
          go_wp2_with (first
            | (go_at_call 74; refine (CN.out _ R).mono ?_; rintro en w1 ⟨rfl, R1, G1⟩)
            | (go_at_call 74; refine (CM.out _ R1).mono ?_; rintro en w2 ⟨rfl, R2, G2⟩)
            | (go_at_call 74; refine (CO.out _ R2).mono ?_; rintro en w3 ⟨rfl, R3, G3⟩)
            | (go_at_call 107; refine (err_any (rd_grown R3 (World.grownBy_alloc w3 (Obj.cells #[.int .i64 x, .int .i64 lo, .int .i64 y, .int .i64 q] 35) none) (by simp))).mono ?_; rintro e w' ⟨rfl, rfl⟩))
          have G5 := grown_over (grown_trans (grown_trans (grown_trans G G1) G2) G3) (World.grownBy_alloc w3 (Obj.cells #[.int .i64 x, .int .i64 lo, .int .i64 y, .int .i64 q] 35) none) (by intro k hk; cases hk)
          have R5 := rd_grown R3 (World.grownBy_alloc w3 (Obj.cells #[.int .i64 x, .int .i64 lo, .int .i64 y, .int .i64 q] 35) none) (by simp)
          have ho : OwnsR encS 4 35 (w3.alloc (Obj.cells #[.int .i64 x, .int .i64 lo, .int .i64 y, .int .i64 q] 35)) w.heap.size (.slice a6 m cap6) acc := by unfold OwnsR; rw [hm.out]; exact (HRW.out w1 w2 w3 G1 G2 G3).alloc _
          go_roundw
          case rel => exact ⟨k + 1, acc, y, s3, e5, by go_num, rfl, by omega, by rw [hm.out]; omega, by omega, ho, R5, G5, Lib.hid (by rw [← HE.out, show n - k = n - (k + 1) + 1 by omega, HG.out, if_neg (by rw [hm.out]; exact hl)])⟩
          case measure => simp [intOf]; omega
      · have hd : (e5 == 0) = false := by simpa using he
        have hd2 : (e5 != 0) = true := by simpa using he
        have HG := Lib.hid (rSs_stop (n := n - (k + 1)) (acc := acc) (lo := lo) hA hB hC he)
        clear he hA hB hC
        go_wp2_with (first
          | (go_at_call 74; refine (CN.out _ R).mono ?_; rintro en w1 ⟨rfl, R1, G1⟩)
          | (go_at_call 74; refine (CM.out _ R1).mono ?_; rintro en w2 ⟨rfl, R2, G2⟩)
          | (go_at_call 74; refine (CO.out _ R2).mono ?_; rintro en w3 ⟨rfl, R3, G3⟩)
          | (go_at_call 107; refine (err_any (rd_grown R3 (World.grownBy_alloc w3 (Obj.cells #[.int .i64 x, .int .i64 lo, .int .i64 y, .int .i64 q] 35) none) (by simp))).mono ?_; rintro e w' ⟨rfl, rfl⟩))
        go_ret
        have G5 := grown_over (grown_trans (grown_trans (grown_trans G G1) G2) G3) (World.grownBy_alloc w3 (Obj.cells #[.int .i64 x, .int .i64 lo, .int .i64 y, .int .i64 q] 35) none) (by intro k hk; cases hk)
        have R5 := rd_grown R3 (World.grownBy_alloc w3 (Obj.cells #[.int .i64 x, .int .i64 lo, .int .i64 y, .int .i64 q] 35) none) (by simp)
        have HR : rShards s e = ([], s3, e5) := by rw [HL.out, ← HE.out, show n - k = n - (k + 1) + 1 by omega, HG.out]
        rw [HR]
        exact ⟨_, rfl, OwnsR.nil _ _ _ _ _, R5, G5⟩
    · have hkn : n - k = 0 := by omega
      have hkz : ¬ (k : Int) < (n : Int) := by omega
      have HK := Lib.hid hkn
      clear hkn
      go_wp2
      go_ret
      have HR : rShards s e = (acc, t, e2) := by rw [HL.out, ← HE.out, HK.out]; rfl
      rw [HR]
      exact ⟨_, rfl, hown, R, G⟩
def ReadPost (r : Int × Int × List Sd × Int) (w : World) (e : Ending) (w' : World) : Prop := ∃ a n c,
  e = .returned (.tuple #[.agg #[.int .i64 r.1, .int .i64 r.2.1, .slice a n c], .int .i64 r.2.2.2]) ∧ RArg encS 4 w' a n c r.2.2.1 ∧ Below w.heap.size w w'
theorem OwnsR.arg' {t : TypeId} {w : World} {base : Nat} {va : Option Addr} {vc : Nat} {l : List Sd} (h : OwnsR encS 4 t w base (.slice va l.length vc) l) : RArg encS 4 w va l.length vc l := by
  obtain ⟨a, c, e, hA⟩ := OwnsR.arg encS_len h
  cases e
  exact hA
set_option maxRecDepth 100000 in
set_option maxHeartbeats 4000000 in
theorem cread_any (s : ByteArray) (w : World) (hs : (s.size : Int) ≤ 1000000000000) : Calls Try.prog 30 #[.string s] w (ReadPost (readC s) w) := by
  obtain ⟨ep, s1, e1, hA⟩ : ∃ x s1 e3, rNum s 0 = (x, s1, e3) := ⟨_, _, _, rfl⟩
  obtain ⟨nx, s2, e2, hB⟩ : ∃ y s2 e4, rNum s1 e1 = (y, s2, e4) := ⟨_, _, _, rfl⟩
  obtain ⟨l, t, e, hC⟩ : ∃ yy ss ee, rShards s2 e2 = (yy, ss, ee) := ⟨_, _, _, rfl⟩
  have hs1 : s1.size ≤ s.size := by have := rNum_size s 0; rw [hA] at this; exact this
  have hs2 : s2.size ≤ s1.size := by have := rNum_size s1 e1; rw [hB] at this; exact this
  obtain ⟨R, hR⟩ : ∃ R, readC s = R := ⟨_, rfl⟩
  have HR := Lib.hid (show R = if rEnd t e = 0 then (if chkC ep nx l = true then (ep, nx, l, 0) else (0, 0, [], 3)) else (0, 0, [], rEnd t e) from hR ▸ readC_eq hA hB hC)
  rw [hR]
  obtain ⟨W1, hW1⟩ : ∃ W1, w.alloc (.cells #[.int .i64 0, .int .i64 0, .slice none 0 0] 24) = W1 := ⟨_, rfl⟩
  obtain ⟨W2, hW2⟩ : ∃ W2, W1.alloc (.cells #[.string s, .int .i64 0] 177) = W2 := ⟨_, rfl⟩
  obtain ⟨g, hg⟩ : ∃ g, W1.heap.size = g := ⟨_, rfl⟩
  have C0 : Hid (Calls Try.prog 73 #[.string s] W1 fun e w' => e = .returned (.pointer (some ⟨g, 0, none⟩)) ∧ W2 = w') := Lib.hid (by rw [← hW2, ← hg]; exact from_any s W1)
  have R0 : Rd W2 g s 0 := by rw [← hW2, ← hg]; exact Rd.new W1 s 0
  have b2 : Below w.heap.size w W2 := by rw [← hW2, ← hW1]; exact ((Below.refl _ _).alloc (Nat.le_refl _) _).alloc (by simp) _
  have k2 : W2.heap[w.heap.size]? = some (.cells #[.int .i64 0, .int .i64 0, .slice none 0 0] 24) := by
    rw [← hW2]
    exact ((World.grownBy_alloc W1 _ none).block _ (by rw [← hW1]; simp) (by simp)).trans (by rw [← hW1]; exact heap_alloc_new w _)
  have hgw : w.heap.size < g := by rw [← hg, ← hW1]; simp
  have hg2 : g < W2.heap.size := R0.lt
  have CN : Hid (∀ W, Rd W g s 0 → Calls Try.prog 74 #[.pointer (some ⟨g, 0, none⟩)] W (RdPost W g (.int .i64 ep) (s1, e1))) :=
    Lib.hid fun W hR => (rnum_any hR (by omega)).mono fun e w' h => by rw [hA] at h; exact h
  have CM : Hid (∀ W, Rd W g s1 e1 → Calls Try.prog 74 #[.pointer (some ⟨g, 0, none⟩)] W (RdPost W g (.int .i64 nx) (s2, e2))) :=
    Lib.hid fun W hR => (rnum_any hR (by omega)).mono fun e w' h => by rw [hB] at h; exact h
  have CS : Hid (∀ W, Rd W g s2 e2 → Calls Try.prog 75 #[.pointer (some ⟨g, 0, none⟩)] W (ShsPost W g l (t, e))) :=
    Lib.hid fun W hR => by have := rshards_any hR (by omega); rwa [hC] at this
  have CE := Lib.hid (fun W (h : Rd W g t e) => end_any h)
  obtain ⟨xe, hxe⟩ : ∃ xe, rEnd t e = xe := ⟨_, rfl⟩
  rw [hxe] at HR CE
  replace hW2 := Lib.hid hW2
  replace hg := Lib.hid hg
  replace k2 := Lib.hid k2
  replace hxe := Lib.hid hxe
  clear hA hB hC hR
  by_cases h0 : xe = 0
  · have d1 : (xe == 0) = true := by simpa using h0
    have d2 : (xe != 0) = false := by simpa using h0
    replace h0 := Lib.hid h0
    cases ht : chkC ep nx l with
    | false =>
      have HR2 := Lib.hid (show R = (0, 0, [], 3) by rw [HR.out, if_pos h0.out, if_neg (by rw [ht]; simp)])
      have CK := Lib.hid (fun a n c W (h : RArg encS 4 W a n c l) => ht ▸ chk_any ep nx a n c l W h)
      replace ht := Lib.hid ht
      clear HR
      go_enter Try.func30, Try.ntmps30
      go_wp2_with (first
        | (go_at_call 73; (with_reducible refine C0.out.mono ?_); rintro en w0 ⟨rfl, rfl⟩)
        | (go_at_call 74; (with_reducible refine (CN.out _ R0).mono ?_); rintro en w3 ⟨rfl, R3, G3⟩)
        | (go_at_call 74; (with_reducible refine (CM.out _ R3).mono ?_); rintro en w4 ⟨rfl, R4, G4⟩; have R5 := rd_grown R4 (World.grownBy_alloc w4 (.cells #[.int .i64 ep, .int .i64 nx, .slice none 0 0] 24) none) (by simp))
        | (go_at_call 75; (with_reducible refine (CS.out _ R5).mono ?_); rintro en w6 ⟨v, rfl, hO, R6, G6⟩;
            obtain ⟨va, vc, rfl, hA6⟩ := OwnsR.arg encS_len hO;
            have z23 : W2.heap.size ≤ w3.heap.size := G3.size; have z24 : W2.heap.size ≤ w4.heap.size := (by have := G4.size; omega);
            have zx : w4.heap.size < w6.heap.size := (by have := G6.size; simp at this; omega);
            have hgx : g ≠ w4.heap.size := (by omega);
            have x6 : w6.heap[w4.heap.size]? = some (.cells #[.int .i64 ep, .int .i64 nx, .slice none 0 0] 24) := (G6.block w4.heap.size (by simp) (by simp; omega)).trans (heap_alloc_new w4 _);
            have k6 : w6.heap[w.heap.size]? = some (.cells #[.int .i64 0, .int .i64 0, .slice none 0 0] 24) := (G6.block w.heap.size (by simp; omega) (by simp; omega)).trans (((World.grownBy_alloc w4 _ none).block w.heap.size (by omega) (by simp)).trans ((G4.block w.heap.size (by have := G3.size; omega) (by simp; omega)).trans ((G3.block w.heap.size (by omega) (by simp; omega)).trans k2.out)));
            have x62 : w6.cell? ⟨w4.heap.size, 2, none⟩ = some (.slice none 0 0) := cell_of_row _ _ 2 _ _ _ x6;
            have f62 : w6.frozen? ⟨w4.heap.size, 2, none⟩ = false := frozen_of_row _ _ 2 _ _ x6;
            obtain ⟨W7, hW7⟩ : ∃ W7, w6.setCell ⟨w4.heap.size, 2, none⟩ (.slice va l.length vc) = W7 := ⟨_, rfl⟩;
            have x7 : W7.heap[w4.heap.size]? = some (.cells #[.int .i64 ep, .int .i64 nx, .slice va l.length vc] 24) := (by rw [← hW7]; exact heap_setCell_same _ _ 2 _ _ _ x6);
            have k7 : W7.heap[w.heap.size]? = some (.cells #[.int .i64 0, .int .i64 0, .slice none 0 0] 24) := (by rw [← hW7, heap_setCell_other _ _ _ _ (by show w.heap.size ≠ w4.heap.size; omega)]; exact k6);
            have R7 : Rd W7 g t e := (by rw [← hW7]; exact rd_grown R6 (grown_setCell w6 ⟨w4.heap.size, 2, none⟩ _) (by simp; omega));
            have hO7 : OwnsR encS 4 35 W7 (w4.alloc (.cells #[.int .i64 ep, .int .i64 nx, .slice none 0 0] 24)).heap.size (.slice va l.length vc) l := (by rw [← hW7]; exact World.ownsRow.kept hO (grown_setCell w6 ⟨w4.heap.size, 2, none⟩ _) (.inr (fun he => by have := (World.ownsRow.lt hO _ he).1; rw [World.size_alloc] at this; dsimp only at this; omega)));
            have hne : l ≠ [] → ∃ b o, va = some ⟨b, o, none⟩ ∧ b ≠ w.heap.size := (fun hl => by
              obtain ⟨b, off, e, _⟩ := hA6.2.2.2.2 0 (List.length_pos_iff.2 hl)
              subst e
              exact ⟨b, off, rfl, by have := (World.ownsRow.lt hO b rfl).1; simp at this; omega⟩);
            have b7 : Below w.heap.size w W7 := (by rw [← hW7]; exact ((((b2.grown G3 b2.size (fun k hk => by cases hk; omega)).grown G4 (by omega) (fun k hk => by cases hk; omega)).alloc (by omega) _).grown G6 (by simp; omega) (fun k hk => by cases hk; omega)).setCell (p := ⟨w4.heap.size, 2, none⟩) (by show w.heap.size ≤ w4.heap.size; omega) _);
            obtain ⟨z0, z1, z2⟩ := c3K k7; obtain ⟨f0, f1, f2⟩ := f3K k7; obtain ⟨x0, x1, x2⟩ := c3K x7; have HA7 := Lib.hid (OwnsR.arg' hO7); replace k7 := Lib.hid k7; replace x7 := Lib.hid x7; clear x6 k6)
        | (go_at_call 76; (with_reducible refine (CE.out _ R7).mono ?_); rintro en w' ⟨rfl, rfl⟩)
        | (go_at_call 19; (with_reducible refine (CK.out _ _ _ _ HA7.out).mono ?_); rintro en w8 ⟨rfl, b8⟩; have k8 := (b8.block w.heap.size (by have := b7.size; have := heap_lt k7.out; omega)).trans k7.out; obtain ⟨z0, z1, z2⟩ := c3K k8; obtain ⟨f0, f1, f2⟩ := f3K k8; replace k8 := Lib.hid k8))
      exact bodyPost_ret (v := .tuple #[.agg #[.int .i64 0, .int .i64 0, .slice none 0 0], .int .i64 3]) (by simp [results, Try.results30, go_sem, z0, z1, z2]) rfl ⟨none, 0, 0, by rw [HR2.out], by rw [HR2.out]; exact RArg.nil _ _ _, (by repeat (first | with_reducible exact below_next b7 b8 | with_reducible refine toDK ?_ | with_reducible refine Below.setCell ?_ (by first | with_reducible exact Nat.le_refl _ | (dsimp only; omega)) _))⟩
    | true =>
      have HR2 := Lib.hid (show R = (ep, nx, l, 0) by rw [HR.out, if_pos h0.out, if_pos ht])
      have CK := Lib.hid (fun a n c W (h : RArg encS 4 W a n c l) => ht ▸ chk_any ep nx a n c l W h)
      replace ht := Lib.hid ht
      clear HR
      go_enter Try.func30, Try.ntmps30
      go_wp2_with (first
        | (go_at_call 73; (with_reducible refine C0.out.mono ?_); rintro en w0 ⟨rfl, rfl⟩)
        | (go_at_call 74; (with_reducible refine (CN.out _ R0).mono ?_); rintro en w3 ⟨rfl, R3, G3⟩)
        | (go_at_call 74; (with_reducible refine (CM.out _ R3).mono ?_); rintro en w4 ⟨rfl, R4, G4⟩; have R5 := rd_grown R4 (World.grownBy_alloc w4 (.cells #[.int .i64 ep, .int .i64 nx, .slice none 0 0] 24) none) (by simp))
        | (go_at_call 75; (with_reducible refine (CS.out _ R5).mono ?_); rintro en w6 ⟨v, rfl, hO, R6, G6⟩;
            obtain ⟨va, vc, rfl, hA6⟩ := OwnsR.arg encS_len hO;
            have z23 : W2.heap.size ≤ w3.heap.size := G3.size; have z24 : W2.heap.size ≤ w4.heap.size := (by have := G4.size; omega);
            have zx : w4.heap.size < w6.heap.size := (by have := G6.size; simp at this; omega);
            have hgx : g ≠ w4.heap.size := (by omega);
            have x6 : w6.heap[w4.heap.size]? = some (.cells #[.int .i64 ep, .int .i64 nx, .slice none 0 0] 24) := (G6.block w4.heap.size (by simp) (by simp; omega)).trans (heap_alloc_new w4 _);
            have k6 : w6.heap[w.heap.size]? = some (.cells #[.int .i64 0, .int .i64 0, .slice none 0 0] 24) := (G6.block w.heap.size (by simp; omega) (by simp; omega)).trans (((World.grownBy_alloc w4 _ none).block w.heap.size (by omega) (by simp)).trans ((G4.block w.heap.size (by have := G3.size; omega) (by simp; omega)).trans ((G3.block w.heap.size (by omega) (by simp; omega)).trans k2.out)));
            have x62 : w6.cell? ⟨w4.heap.size, 2, none⟩ = some (.slice none 0 0) := cell_of_row _ _ 2 _ _ _ x6;
            have f62 : w6.frozen? ⟨w4.heap.size, 2, none⟩ = false := frozen_of_row _ _ 2 _ _ x6;
            obtain ⟨W7, hW7⟩ : ∃ W7, w6.setCell ⟨w4.heap.size, 2, none⟩ (.slice va l.length vc) = W7 := ⟨_, rfl⟩;
            have x7 : W7.heap[w4.heap.size]? = some (.cells #[.int .i64 ep, .int .i64 nx, .slice va l.length vc] 24) := (by rw [← hW7]; exact heap_setCell_same _ _ 2 _ _ _ x6);
            have k7 : W7.heap[w.heap.size]? = some (.cells #[.int .i64 0, .int .i64 0, .slice none 0 0] 24) := (by rw [← hW7, heap_setCell_other _ _ _ _ (by show w.heap.size ≠ w4.heap.size; omega)]; exact k6);
            have R7 : Rd W7 g t e := (by rw [← hW7]; exact rd_grown R6 (grown_setCell w6 ⟨w4.heap.size, 2, none⟩ _) (by simp; omega));
            have hO7 : OwnsR encS 4 35 W7 (w4.alloc (.cells #[.int .i64 ep, .int .i64 nx, .slice none 0 0] 24)).heap.size (.slice va l.length vc) l := (by rw [← hW7]; exact World.ownsRow.kept hO (grown_setCell w6 ⟨w4.heap.size, 2, none⟩ _) (.inr (fun he => by have := (World.ownsRow.lt hO _ he).1; rw [World.size_alloc] at this; dsimp only at this; omega)));
            have hne : l ≠ [] → ∃ b o, va = some ⟨b, o, none⟩ ∧ b ≠ w.heap.size := (fun hl => by
              obtain ⟨b, off, e, _⟩ := hA6.2.2.2.2 0 (List.length_pos_iff.2 hl)
              subst e
              exact ⟨b, off, rfl, by have := (World.ownsRow.lt hO b rfl).1; simp at this; omega⟩);
            have b7 : Below w.heap.size w W7 := (by rw [← hW7]; exact ((((b2.grown G3 b2.size (fun k hk => by cases hk; omega)).grown G4 (by omega) (fun k hk => by cases hk; omega)).alloc (by omega) _).grown G6 (by simp; omega) (fun k hk => by cases hk; omega)).setCell (p := ⟨w4.heap.size, 2, none⟩) (by show w.heap.size ≤ w4.heap.size; omega) _);
            obtain ⟨z0, z1, z2⟩ := c3K k7; obtain ⟨f0, f1, f2⟩ := f3K k7; obtain ⟨x0, x1, x2⟩ := c3K x7; have HA7 := Lib.hid (OwnsR.arg' hO7); replace k7 := Lib.hid k7; replace x7 := Lib.hid x7; clear x6 k6)
        | (go_at_call 76; (with_reducible refine (CE.out _ R7).mono ?_); rintro en w' ⟨rfl, rfl⟩)
        | (go_at_call 19; (with_reducible refine (CK.out _ _ _ _ HA7.out).mono ?_); rintro en w8 ⟨rfl, b8⟩; have k8 := (b8.block w.heap.size (by have := b7.size; have := heap_lt k7.out; omega)).trans k7.out; have x8 := (b8.block w4.heap.size (heap_lt x7.out)).trans x7.out; obtain ⟨z0, z1, z2⟩ := c3K k8; obtain ⟨f0, f1, f2⟩ := f3K k8; obtain ⟨x0, x1, x2⟩ := c3K x8; have HA8 := Lib.hid (HA7.out.below b8); replace k8 := Lib.hid k8; replace x8 := Lib.hid x8))
      exact bodyPost_ret (v := .tuple #[.agg #[.int .i64 ep, .int .i64 nx, .slice va l.length vc], .int .i64 0]) (by simp [results, Try.results30, go_sem, z0, z1, z2]) rfl ⟨va, l.length, vc, by rw [HR2.out], by rw [HR2.out]; exact HA8.out.onlyN (g := w.heap.size) (by repeat (first | with_reducible exact Only.refl _ _ | with_reducible refine Only.drewR ?_ | with_reducible refine Only.set ?_ _ _)) hne, (by repeat (first | with_reducible exact below_next b7 b8 | with_reducible refine toDK ?_ | with_reducible refine Below.setCell ?_ (by first | with_reducible exact Nat.le_refl _ | (dsimp only; omega)) _))⟩
  · have d1 : (xe == 0) = false := by simpa using h0
    have d2 : (xe != 0) = true := by simpa using h0
    have HR2 := Lib.hid (show R = (0, 0, [], xe) by rw [HR.out, if_neg h0])
    replace h0 := Lib.hid h0
    clear HR
    go_enter Try.func30, Try.ntmps30
    go_wp2_with (first
      | (go_at_call 73; (with_reducible refine C0.out.mono ?_); rintro en w0 ⟨rfl, rfl⟩)
      | (go_at_call 74; (with_reducible refine (CN.out _ R0).mono ?_); rintro en w3 ⟨rfl, R3, G3⟩)
      | (go_at_call 74; (with_reducible refine (CM.out _ R3).mono ?_); rintro en w4 ⟨rfl, R4, G4⟩; have R5 := rd_grown R4 (World.grownBy_alloc w4 (.cells #[.int .i64 ep, .int .i64 nx, .slice none 0 0] 24) none) (by simp))
      | (go_at_call 75; (with_reducible refine (CS.out _ R5).mono ?_); rintro en w6 ⟨v, rfl, hO, R6, G6⟩;
          obtain ⟨va, vc, rfl, hA6⟩ := OwnsR.arg encS_len hO;
          have z23 : W2.heap.size ≤ w3.heap.size := G3.size; have z24 : W2.heap.size ≤ w4.heap.size := (by have := G4.size; omega);
          have zx : w4.heap.size < w6.heap.size := (by have := G6.size; simp at this; omega);
          have hgx : g ≠ w4.heap.size := (by omega);
          have x6 : w6.heap[w4.heap.size]? = some (.cells #[.int .i64 ep, .int .i64 nx, .slice none 0 0] 24) := (G6.block w4.heap.size (by simp) (by simp; omega)).trans (heap_alloc_new w4 _);
          have k6 : w6.heap[w.heap.size]? = some (.cells #[.int .i64 0, .int .i64 0, .slice none 0 0] 24) := (G6.block w.heap.size (by simp; omega) (by simp; omega)).trans (((World.grownBy_alloc w4 _ none).block w.heap.size (by omega) (by simp)).trans ((G4.block w.heap.size (by have := G3.size; omega) (by simp; omega)).trans ((G3.block w.heap.size (by omega) (by simp; omega)).trans k2.out)));
          have x62 : w6.cell? ⟨w4.heap.size, 2, none⟩ = some (.slice none 0 0) := cell_of_row _ _ 2 _ _ _ x6;
          have f62 : w6.frozen? ⟨w4.heap.size, 2, none⟩ = false := frozen_of_row _ _ 2 _ _ x6;
          obtain ⟨W7, hW7⟩ : ∃ W7, w6.setCell ⟨w4.heap.size, 2, none⟩ (.slice va l.length vc) = W7 := ⟨_, rfl⟩;
          have x7 : W7.heap[w4.heap.size]? = some (.cells #[.int .i64 ep, .int .i64 nx, .slice va l.length vc] 24) := (by rw [← hW7]; exact heap_setCell_same _ _ 2 _ _ _ x6);
          have k7 : W7.heap[w.heap.size]? = some (.cells #[.int .i64 0, .int .i64 0, .slice none 0 0] 24) := (by rw [← hW7, heap_setCell_other _ _ _ _ (by show w.heap.size ≠ w4.heap.size; omega)]; exact k6);
          have R7 : Rd W7 g t e := (by rw [← hW7]; exact rd_grown R6 (grown_setCell w6 ⟨w4.heap.size, 2, none⟩ _) (by simp; omega));
          have hO7 : OwnsR encS 4 35 W7 (w4.alloc (.cells #[.int .i64 ep, .int .i64 nx, .slice none 0 0] 24)).heap.size (.slice va l.length vc) l := (by rw [← hW7]; exact World.ownsRow.kept hO (grown_setCell w6 ⟨w4.heap.size, 2, none⟩ _) (.inr (fun he => by have := (World.ownsRow.lt hO _ he).1; rw [World.size_alloc] at this; dsimp only at this; omega)));
          have hne : l ≠ [] → ∃ b o, va = some ⟨b, o, none⟩ ∧ b ≠ w.heap.size := (fun hl => by
            obtain ⟨b, off, e, _⟩ := hA6.2.2.2.2 0 (List.length_pos_iff.2 hl)
            subst e
            exact ⟨b, off, rfl, by have := (World.ownsRow.lt hO b rfl).1; simp at this; omega⟩);
          have b7 : Below w.heap.size w W7 := (by rw [← hW7]; exact ((((b2.grown G3 b2.size (fun k hk => by cases hk; omega)).grown G4 (by omega) (fun k hk => by cases hk; omega)).alloc (by omega) _).grown G6 (by simp; omega) (fun k hk => by cases hk; omega)).setCell (p := ⟨w4.heap.size, 2, none⟩) (by show w.heap.size ≤ w4.heap.size; omega) _);
          obtain ⟨z0, z1, z2⟩ := c3K k7; obtain ⟨f0, f1, f2⟩ := f3K k7; obtain ⟨x0, x1, x2⟩ := c3K x7; have HA7 := Lib.hid (OwnsR.arg' hO7); replace k7 := Lib.hid k7; replace x7 := Lib.hid x7; clear x6 k6)
      | (go_at_call 76; (with_reducible refine (CE.out _ R7).mono ?_); rintro en w' ⟨rfl, rfl⟩))
    exact bodyPost_ret (v := .tuple #[.agg #[.int .i64 0, .int .i64 0, .slice none 0 0], .int .i64 xe]) (by simp [results, Try.results30, go_sem, z0, z1, z2]) rfl ⟨none, 0, 0, by rw [HR2.out], by rw [HR2.out]; exact RArg.nil _ _ _, (by repeat (first | with_reducible exact b7 | with_reducible refine toDK ?_ | with_reducible refine Below.setCell ?_ (by first | with_reducible exact Nat.le_refl _ | (dsimp only; omega)) _))⟩
end Go.Proofs.Ytcpcdinfagdlhaa
