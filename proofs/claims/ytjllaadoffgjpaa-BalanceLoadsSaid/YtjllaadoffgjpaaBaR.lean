/-
  THE LAW BalanceLoads: its walk.
-/
import Derived.Test.YtjllaadoffgjpaaBaQ
namespace Go.Proofs.Ytjllaadoffgjpaa
open Go.RowKit Go.Shelf

theorem cells8B {W : World} {b : Nat} {x y z u v s t r : Value} {T : TypeId} (h : W.heap[b]? = some (.cells #[x, y, z, u, v, s, t, r] T)) :
    W.cell? ⟨b, 0, none⟩ = some x ∧ W.cell? ⟨b, 1, none⟩ = some y ∧ W.cell? ⟨b, 2, none⟩ = some z ∧ W.cell? ⟨b, 3, none⟩ = some u ∧ W.cell? ⟨b, 4, none⟩ = some v ∧ W.cell? ⟨b, 5, none⟩ = some s ∧ W.cell? ⟨b, 6, none⟩ = some t ∧ W.cell? ⟨b, 7, none⟩ = some r :=
  ⟨cell_of_row _ _ 0 _ _ _ h, cell_of_row _ _ 1 _ _ _ h, cell_of_row _ _ 2 _ _ _ h, cell_of_row _ _ 3 _ _ _ h, cell_of_row _ _ 4 _ _ _ h, cell_of_row _ _ 5 _ _ _ h, cell_of_row _ _ 6 _ _ _ h, cell_of_row _ _ 7 _ _ _ h⟩
set_option maxRecDepth 100000 in
set_option maxHeartbeats 1000000 in
theorem refs5O_any (a : Option Addr) (n c : Nat) (l : List Sp) (w : World) (hz : l.length ≤ 100000) (h : Arg w a n c l) :
    Calls Try.prog 11 #[.slice a n c] w fun e w' => ∃ v, e = .returned v ∧ OwnsP 79 w' w.heap.size v l ∧ Below w.heap.size w w' := by
  obtain ⟨i0, hi, hz0, hz1, hz2⟩ := info_parts Try.infoRPair
  obtain ⟨hn, _, hc1, hc2, hp⟩ := h
  have hn1 : n ≤ 100000 := by omega
  replace hn := Lib.hid hn
  replace hp := Lib.hid hp
  go_enter Try.func11, Try.ntmps11
  go_wp2_with fail
  go_loopw [3, 4] (fun v i wr => ∃ (k : Nat), i = .int .i64 (k : Int) ∧ k ≤ n ∧ Hid (wr.ownsRow w.heap.size 79 2 v k (flatP (l.take k))) ∧ Below w.heap.size w wr)
    (fun _ i _ => n - (intOf i).toNat)
  case atStart => exact ⟨0, rfl, by omega, Lib.hid ⟨rfl, .inl ⟨rfl, rfl⟩⟩, Below.refl _ _⟩
  case round =>
    obtain ⟨k, rfl, hk, HO, hbl⟩ := hrel
    have hsz := hbl.size
    by_cases hlt : k < n
    · obtain ⟨b, off, e, hb, d0, d1⟩ := (hp.out.below hbl) k (by rw [← hn.out]; exact hlt)
      subst e
      obtain ⟨s, hs⟩ : ∃ s, l.getD k (0, 0) = s := ⟨_, rfl⟩
      rw [hs] at d0 d1
      replace hs := Lib.hid hs
      obtain ⟨x, y⟩ := s
      dsimp only at d0 d1
      go_wp2_with (at_builtin; refine wpList_append_own _ rfl _ _ 36 rfl w.heap.size 79 i0 (.agg #[.int .i64 0, .int .i64 0]) 2 16 Try.underlying36 hi hz0 hz1 hz2 rfl (by decide) _ _ _ rfl (HO.out.alloc _) ⟨wr.heap.size, 0, none⟩ 1 1 [.int .i64 x, .int .i64 y] rfl rfl ?c1 ?c2 ?c3 ?c4 ?c5 ?_)
      case c1 =>
        intro j u hj
        match j, hj with
        | 0, hj => simp at hj; subst hj; simp [Addr.add]
        | 1, hj => simp at hj; subst hj; simp [Addr.add]
      case c2 => intro u hu; simp at hu; rcases hu with rfl | rfl <;> rfl
      case c3 => unfold maxLen; omega
      case c4 => omega
      case c5 => simp; omega
      · intro v' w1 hown' hgrow _
        have hb1 := (hbl.alloc hsz (.cells #[.int .i64 x, .int .i64 y] 79)).grown hgrow (by simp; omega) (fun j hj => (HO.out.lt j hj).1)
        replace hown' := Lib.hid hown'
        go_wp2
        go_roundw
        case rel =>
          refine ⟨k + 1, by go_num, by omega, Lib.hid ?_, hb1⟩
          rw [take_more (by rw [← hn.out]; exact hlt), flatP_append, hs.out]
          exact hown'.out
        case measure => simp [intOf]; omega
    · have hk' : l.take k = l := List.take_of_length_le (by rw [← hn.out]; omega)
      have hkn : k = n := by omega
      subst hkn
      have ho := HO.out
      rw [hk'] at ho
      have HA := Lib.hid (ownsP_of_row ho hn.out)
      replace hk' := Lib.hid hk'
      clear ho HO
      go_wp2
      go_ret
      exact ⟨_, rfl, HA.out, hbl⟩
theorem RArg.grownN {α : Type} [Inhabited α] {enc : α → List Value} {k : Nat} {W W' : World} {row : Option Nat} {a : Option Addr} {n c : Nat} {l : List α} (h : RArg enc k W a n c l) (hg : W.grownBy W' row) (ho : l ≠ [] → ∀ p, a = some p → some p.block ≠ row) : RArg enc k W' a n c l := by
  by_cases hl : l = []
  · subst hl
    exact ⟨h.1, h.2.1, h.2.2.1, h.2.2.2.1, RIn.nil _ _ _ _ _⟩
  · exact h.grownG hg (ho hl)
theorem set3R {W : World} {b : Nat} {x y z x' y' z' : Value} {t : TypeId} (h : W.heap[b]? = some (.cells #[x, y, z] t)) :
    (((W.setCell ⟨b, 0, none⟩ x').setCell ⟨b, 1, none⟩ y').setCell ⟨b, 2, none⟩ z').heap[b]? = some (.cells #[x', y', z'] t) ∧ W.grownBy (((W.setCell ⟨b, 0, none⟩ x').setCell ⟨b, 1, none⟩ y').setCell ⟨b, 2, none⟩ z') (some b) := ⟨set3B h, grow3B W b x' y' z'⟩
set_option maxRecDepth 100000 in
set_option maxHeartbeats 4000000 in
theorem balanceLoads_walk (ep nx : Int) (a : Option Addr) (n c : Nat) (sd : List Sd) (a2 : Option Addr) (n2 cp2 : Nat) (l : List Sp) (p1 p2 p3 z : Int) (w : World) (hh : RArg encS 4 w a n c sd ∧ Arg w a2 n2 cp2 l) :
    Calls Try.prog 3 #[.agg #[.int .i64 ep, .int .i64 nx, .slice a n c, .slice a2 n2 cp2, .int .i64 p1, .int .i64 p2, .int .i64 p3, .int .i64 z]] w (TruePost w) := by
  obtain ⟨h, hL⟩ := hh
  have hnz : (n : Int) ≤ 9223372036854775807 := by have := h.1; have := h.2.1; omega
  have hnz2 : (n2 : Int) ≤ 9223372036854775807 := by have := hL.1; have := hL.2.1; omega
  obtain ⟨W1, hW1⟩ : ∃ W1, w.alloc (.cells #[.int .i64 ep, .int .i64 nx, .slice a n c, .slice a2 n2 cp2, .int .i64 p1, .int .i64 p2, .int .i64 p3, .int .i64 z] 29) = W1 := ⟨_, rfl⟩
  have bw : Below w.heap.size w W1 := by rw [← hW1]; exact (Below.refl _ _).alloc (Nat.le_refl _) _
  have g1 : w.heap.size < W1.heap.size := by rw [← hW1]; simp
  have r1 : W1.heap[w.heap.size]? = some (.cells #[.int .i64 ep, .int .i64 nx, .slice a n c, .slice a2 n2 cp2, .int .i64 p1, .int .i64 p2, .int .i64 p3, .int .i64 z] 29) := by rw [← hW1]; exact heap_alloc_new _ _
  have KX := Lib.hid (fun W (hb : Below W1.heap.size W1 W) => cells8B ((hb.block _ g1).trans r1))
  have HP := Lib.hid (h.below bw)
  have HL := Lib.hid (hL.below bw)
  obtain ⟨q0, q1, q2, q3, q4, q5, q6, q7⟩ := KX.out _ (Below.refl _ _)
  obtain ⟨fw, hfw⟩ : ∃ r, (decide (n ≤ 60) && decide (n2 ≤ 60)) = r := ⟨_, rfl⟩
  have FW := Lib.hid (few25_any ep nx a n c a2 n2 cp2 p1 p2 p3 z W1 hnz hnz2 hfw)
  have hfw2 := hfw
  clear r1
  cases fw
  · clear hfw hfw2 h hL
    go_enter Try.func3, Try.ntmps3
    go_wp2_with (first | (go_at_call 8; (with_reducible refine FW.out.mono ?_); rintro e w2 ⟨rfl, hb2⟩) | (go_at_call 9; (with_reducible refine (awake25_any _).mono ?_); rintro e w3 ⟨rfl, hb3⟩) | fail)
    go_ret
    exact ⟨rfl, below_next bw (below_next hb2 hb3)⟩
  · rw [Bool.and_eq_true, decide_eq_true_iff, decide_eq_true_iff] at hfw2
    have zl : sd.length ≤ 100000 := by have := h.1; omega
    have zl2 : l.length ≤ 100000 := by have := hL.1; omega
    clear hfw hfw2 h hL
    go_enter Try.func3, Try.ntmps3
    go_upto_region 3 with (first | (go_at_call 8; (with_reducible refine FW.out.mono ?_); rintro e w2 ⟨rfl, hb2⟩; obtain ⟨q0, q1, q2, q3, q4, q5, q6, q7⟩ := KX.out _ hb2) | fail)
    replace hW1 := Lib.hid hW1
    have HB2 := Lib.hid hb2
    go_cut [3, 4] from 15 to 20 (fun p s wx => ∃ (g : Nat) (ar : Option Addr) (nr cr : Nat) (as_ : Option Addr) (ns cs : Nat), p = .pointer (some ⟨g, 0, none⟩) ∧ s = .slice as_ ns cs ∧ wx.heap[g]? = some (.cells #[.int .i64 ep, .int .i64 nx, .slice ar nr cr] 34) ∧ Hid (RArg encS 4 wx ar nr cr sd ∧ Arg wx as_ ns cs l) ∧ Below W1.heap.size W1 wx)
    case first =>
      have HBD : Below w2.heap.size w2 w2 := Below.refl _ _
      have KS := Lib.hid (fun W (hb : Below w2.heap.size w2 W) => (show W.cell? ⟨w.heap.size, 0, none⟩ = some (.int .i64 ep) ∧ W.cell? ⟨w.heap.size, 1, none⟩ = some (.int .i64 nx) ∧ W.cell? ⟨w.heap.size, 2, none⟩ = some (.slice a n c) ∧ W.cell? ⟨w.heap.size, 3, none⟩ = some (.slice a2 n2 cp2) from
        have k := KX.out _ (below_next HB2.out hb)
        ⟨k.1, k.2.1, k.2.2.1, k.2.2.2.1⟩))
      have HP2 := Lib.hid (HP.out.below HB2.out)
      have HL2 := Lib.hid (HL.out.below HB2.out)
      go_region_held3 (fun W => W.cell? ⟨w.heap.size, 0, none⟩ = some (.int .i64 ep) ∧ W.cell? ⟨w.heap.size, 1, none⟩ = some (.int .i64 nx) ∧ W.cell? ⟨w.heap.size, 2, none⟩ = some (.slice a n c) ∧ W.cell? ⟨w.heap.size, 3, none⟩ = some (.slice a2 n2 cp2)) (exact KS.out _ (by repeat (first | with_reducible exact HBD | with_reducible refine toDB ?_ | with_reducible refine Below.alloc ?_ (by first | exact Nat.le_refl _ | omega | (simp; done) | (simp; omega)) _ | with_reducible refine Below.setCell ?_ (by first | with_reducible exact Nat.le_refl _ | (dsimp only; omega)) _))) ((first | (go_at_call 10; (with_reducible refine (ref8_any ep nx a n c sd _ (HP2.out.below (by repeat (first | with_reducible exact HBD | with_reducible refine toDB ?_ | with_reducible refine Below.alloc ?_ (by first | exact Nat.le_refl _ | omega | (simp; done) | (simp; omega)) _ | with_reducible refine Below.setCell ?_ (by first | with_reducible exact Nat.le_refl _ | (dsimp only; omega)) _))) zl).mono ?_); rintro e wa ⟨ar, nr, cr, rfl, hAr, hNr, hba⟩; replace hAr := Lib.hid hAr; replace hNr := Lib.hid hNr; have HBD := below_next (w := w2) (by repeat (first | with_reducible exact HBD | with_reducible refine toDB ?_ | with_reducible refine Below.alloc ?_ (by first | exact Nat.le_refl _ | omega | (simp; done) | (simp; omega)) _ | with_reducible refine Below.setCell ?_ (by first | with_reducible exact Nat.le_refl _ | (dsimp only; omega)) _)) hba; have HBA := HBD.size; (try have kas : w2.heap.size < wa.heap.size := (by have kk := hba.size; simp at kk; omega)); have kab := (fun k hk => hba.block k hk); have kac := (fun (i : Nat) h => hba.cell (p := ⟨w2.heap.size, i, none⟩) h); have kaf := (fun (i : Nat) h => hba.frozen (p := ⟨w2.heap.size, i, none⟩) h); replace hba := Lib.hid hba) | (go_at_call 11; (with_reducible refine (refs5O_any a2 n2 cp2 l _ zl2 (HL2.out.below (by repeat (first | with_reducible exact HBD | with_reducible refine toDB ?_ | with_reducible refine Below.alloc ?_ (by first | exact Nat.le_refl _ | omega | (simp; done) | (simp; omega)) _ | with_reducible refine Below.setCell ?_ (by first | with_reducible exact Nat.le_refl _ | (dsimp only; omega)) _)))).mono ?_); rintro e wb ⟨v, rfl, hv, hbb⟩; obtain ⟨as_, ns, cs, rfl, hAs, hNs⟩ := OwnsP.fresh hv; replace hAs := Lib.hid hAs; replace hNs := Lib.hid hNs; have HBD := below_next (w := w2) (by repeat (first | with_reducible exact HBD | with_reducible refine toDB ?_ | with_reducible refine Below.alloc ?_ (by first | exact Nat.le_refl _ | omega | (simp; done) | (simp; omega)) _ | with_reducible refine Below.setCell ?_ (by first | with_reducible exact Nat.le_refl _ | (dsimp only; omega)) _)) hbb; have HBB := HBD.size; (try have kbs : wa.heap.size < wb.heap.size := (by have kk := hbb.size; simp at kk; omega)); (try have kb2 : w2.heap.size < wb.heap.size := (by omega)); have kbb := (fun k hk => hbb.block k hk); have kbc := (fun (i : Nat) h => hbb.cell (p := ⟨w2.heap.size, i, none⟩) h); have kbf := (fun (i : Nat) h => hbb.frozen (p := ⟨w2.heap.size, i, none⟩) h); have kcc := (fun (i : Nat) h => hbb.cell (p := ⟨wa.heap.size, i, none⟩) h); have kcf := (fun (i : Nat) h => hbb.frozen (p := ⟨wa.heap.size, i, none⟩) h); replace hbb := Lib.hid hbb) | fail))
      · go_wp2_with fail
        go_meet
        have ba := (Below.refl wb.heap.size wb).alloc (Nat.le_refl _) (.cells #[.int .i64 ep, .int .i64 nx, .slice ar nr cr] 34)
        exact ⟨wb.heap.size, ar, nr, cr, as_, ns, cs, rfl, rfl, heap_alloc_new _ _, Lib.hid ⟨(hAr.out.below hbb.out).below ba, hAs.out.below ba⟩, below_next HB2.out (below_next HBD ba)⟩
      · go_wp2_with fail
        go_meet
        have hz : wb.heap[wa.heap.size]? = some (.cells #[.int .i64 0, .int .i64 0, .slice none 0 0] 34) := (kbb _ (by simp)).trans (heap_alloc_new _ _)
        have hs := set3R (x' := .int .i64 ep) (y' := .int .i64 nx) (z' := .slice ar nr cr) hz
        have ba := (Below.refl wa.heap.size wa).alloc (Nat.le_refl _) (.cells #[.int .i64 0, .int .i64 0, .slice none 0 0] 34)
        have hf := below_next HB2.out HBD
        refine ⟨wa.heap.size, ar, nr, cr, as_, ns, cs, rfl, rfl, (by with_reducible exact hs.1), Lib.hid ⟨((hAr.out.below ba).below hbb.out).grownN hs.2 (fun q p hp e => by have h1 := hAr.out.spotW q p hp; injection e with e; omega), hAs.out.grownA hs.2 (fun p hp e => by have h1 : wa.heap.size < p.block := Nat.lt_of_lt_of_le (by simp) (hNs.out p hp).1; injection e with e; omega)⟩, hf.grown hs.2 hf.size (fun q hq => by injection hq with hq; have := HB2.out.size; omega)⟩
      · go_wp2_with fail
        go_meet
        have hz : wb.heap[w2.heap.size]? = some (.cells #[.int .i64 0, .int .i64 0, .slice none 0 0] 34) := (kbb _ (by omega)).trans ((kab _ (by simp)).trans (heap_alloc_new _ _))
        have hs := set3R (x' := .int .i64 ep) (y' := .int .i64 nx) (z' := .slice ar nr cr) hz
        have hf := below_next HB2.out HBD
        refine ⟨w2.heap.size, ar, nr, cr, as_, ns, cs, rfl, rfl, (by with_reducible exact hs.1), Lib.hid ⟨(hAr.out.below hbb.out).grownN hs.2 (fun q p hp e => by obtain ⟨g', o', e', hg'⟩ := hNr.out q; rw [hp] at e'; cases e'; simp at hg'; injection e with e; have e2 : g' = w2.heap.size := e; omega), hAs.out.grownA hs.2 (fun p hp e => by have h1 := (hNs.out p hp).1; injection e with e; omega)⟩, hf.grown hs.2 hf.size (fun q hq => by injection hq with hq; have := HB2.out.size; omega)⟩
    case rest =>
      obtain ⟨g, ar, nr, cr, as_, ns, cs, rfl, rfl, hgc, HA, hbc⟩ := hcut
      have hgl := heap_lt hgc
      have KG := Lib.hid (fun W (hb : Below wc.heap.size wc W) => (cells3B ((hb.block _ hgl).trans hgc)).1)
      obtain ⟨d0, d1, d2⟩ := KG.out _ (Below.refl _ _)
      obtain ⟨q0, q1, q2, q3, q4, q5, q6, q7⟩ := KX.out _ hbc
      have HPW := Lib.hid (fun W (hb : Below wc.heap.size wc W) => HP.out.below (below_next hbc hb))
      have HLW := Lib.hid (fun W (hb : Below wc.heap.size wc W) => HL.out.below (below_next hbc hb))
      have HRW := Lib.hid (fun W (hb : Below wc.heap.size wc W) => HA.out.1.below hb)
      have HSW := Lib.hid (fun W (hb : Below wc.heap.size wc W) => HA.out.2.below hb)
      have SHA := Lib.hid (fun W hh hl => shards_any ep nx a n c sd a2 n2 cp2 l W hh hl)
      have NDA := Lib.hid (fun W hh hl => nodes_any ep nx a n c sd a2 n2 cp2 l z W hh hl)
      have RCK := Lib.hid (fun W hh => rcheck8_any ep nx ar nr cr sd W hh)
      have RLD := Lib.hid (fun W hh => rloads_any as_ ns cs l W hh)
      have RMY := Lib.hid (fun W hh hl => rmay_any ep nx ar nr cr sd as_ ns cs l z W hh hl)
      have BW := Lib.hid (below_next bw hbc)
      clear hgc
      have h0 : Below wc.heap.size wc wc := Below.refl _ _
      have P25 := Lib.hid (fun W => pcheck_any p1 p2 p3 W)
      have R25 := Lib.hid (fun W => rpcheck_any p1 p2 p3 W)
      obtain ⟨pb, hpb⟩ : ∃ b, polB (p1, p2, p3) = b := ⟨_, rfl⟩
      rw [hpb] at P25 R25
      clear hpb
      obtain ⟨x1, h1⟩ : ∃ x, chkC ep nx sd = x := ⟨_, rfl⟩
      obtain ⟨x2, h2⟩ : ∃ x, loadB l = x := ⟨_, rfl⟩
      rw [h1] at RCK
      rw [h2] at RLD
      have TAIL := Lib.hid (True.intro)
      cases x1
      · have hg : (chkC ep nx sd && loadB l) = false := by rw [h1]; rfl
        have hm : mayB ep nx sd l z = false := by unfold mayB; rw [hg]; rfl
        have LEN5 := Lib.hid (show (([] : List Int)).length = 0 from rfl)
        have LEN7 := Lib.hid (show (([] : List Int)).length = 0 from rfl)
        have SH0 := Lib.hid (fun W hh hl => (SHA.out W hh hl).mono fun e w' (q : IntsErr (shardsC ep nx sd l) W e w') => (show ∃ v, e = .returned (.tuple #[v, .int .i64 1]) ∧ OwnsI w' W.heap.size v [] ∧ Below W.heap.size W w' by unfold shardsC at q; rw [hg] at q; exact q))
        have ND0 := Lib.hid (fun W hh hl => (NDA.out W hh hl).mono fun e w' (q : IntsErr (nodesC ep nx sd l z) W e w') => (show ∃ v, e = .returned (.tuple #[v, .int .i64 1]) ∧ OwnsI w' W.heap.size v [] ∧ Below W.heap.size W w' by rw [nodes_bad hm] at q; exact q))
        rw [hm] at RMY
        clear hg hm SHA NDA h1 h2
        go_upto_region 12 with (first | (go_at_call 12; (with_reducible refine (SH0.out _ (HPW.out _ h0) (HLW.out _ h0)).mono ?_); rintro e x1 ⟨v5, rfl, hv5, hb5⟩; obtain ⟨a5, c5, rfl, hA5⟩ := hv5.rargN LEN5.out; replace hA5 := Lib.hid hA5; have hb9 := hb5; clear hv5; obtain ⟨d0, d1, d2⟩ := KG.out _ hb9; obtain ⟨q0, q1, q2, q3, q4, q5, q6, q7⟩ := KX.out _ (below_next hbc hb9)) | (go_at_call 13; (with_reducible refine (ND0.out _ (HPW.out _ hb9) (HLW.out _ hb9)).mono ?_); rintro e x2 ⟨v7, rfl, hv7, hb7⟩; obtain ⟨a7, c7, rfl, hA7⟩ := hv7.rargN LEN7.out; replace hA7 := Lib.hid hA7; replace hA5 := Lib.hid (hA5.out.below hb7); clear hv7; replace hb9 := below_next hb9 hb7; obtain ⟨d0, d1, d2⟩ := KG.out _ hb9; obtain ⟨q0, q1, q2, q3, q4, q5, q6, q7⟩ := KX.out _ (below_next hbc hb9)) | (go_at_call 14; (with_reducible refine (RCK.out _ (HRW.out _ hb9)).mono ?_); rintro e x3 ⟨rfl, hb3⟩; replace hA5 := Lib.hid (hA5.out.below hb3); replace hA7 := Lib.hid (hA7.out.below hb3); replace hb9 := below_next hb9 hb3; obtain ⟨d0, d1, d2⟩ := KG.out _ hb9; obtain ⟨q0, q1, q2, q3, q4, q5, q6, q7⟩ := KX.out _ (below_next hbc hb9)) | (go_at_call 18; (with_reducible refine (RMY.out _ (HRW.out _ hb9) (HSW.out _ hb9)).mono ?_); rintro e y3 ⟨rfl, hc7⟩; replace hA7 := Lib.hid (hA7.out.below hc7); replace hb9 := below_next hb9 hc7; obtain ⟨d0, d1, d2⟩ := KG.out _ hb9; obtain ⟨q0, q1, q2, q3, q4, q5, q6, q7⟩ := KX.out _ (below_next hbc hb9)) | fail)
        have HBD := hb9
        have KP := Lib.hid (fun W (hb : Below wc.heap.size wc W) => (show W.cell? ⟨w.heap.size, 4, none⟩ = some (.int .i64 p1) ∧ W.cell? ⟨w.heap.size, 5, none⟩ = some (.int .i64 p2) ∧ W.cell? ⟨w.heap.size, 6, none⟩ = some (.int .i64 p3) from
          have k := KX.out _ (below_next hbc hb)
          ⟨k.2.2.2.2.1, k.2.2.2.2.2.1, k.2.2.2.2.2.2.1⟩))
        go_region_held3 (fun W => W.cell? ⟨w.heap.size, 4, none⟩ = some (.int .i64 p1) ∧ W.cell? ⟨w.heap.size, 5, none⟩ = some (.int .i64 p2) ∧ W.cell? ⟨w.heap.size, 6, none⟩ = some (.int .i64 p3)) (exact KP.out _ (by repeat (first | with_reducible exact HBD | with_reducible refine toDB ?_ | with_reducible refine Below.alloc ?_ (by first | exact Nat.le_refl _ | omega | (simp; done) | (simp; omega)) _))) ((first | (go_at_call 9; (with_reducible refine (awake25_any _).mono ?_); rintro e za ⟨rfl, hza⟩; have HBD := below_next (w := wc) (by repeat (first | with_reducible exact HBD | with_reducible refine toDB ?_ | with_reducible refine Below.alloc ?_ (by first | exact Nat.le_refl _ | omega | (simp; done) | (simp; omega)) _)) hza) | (go_at_call 20; (with_reducible refine (P25.out _).mono ?_); rintro e zb ⟨rfl, hzb⟩; have HBD := below_next (w := wc) (by repeat (first | with_reducible exact HBD | with_reducible refine toDB ?_ | with_reducible refine Below.alloc ?_ (by first | exact Nat.le_refl _ | omega | (simp; done) | (simp; omega)) _)) hzb) | (go_at_call 22; (with_reducible refine (ref25_any p1 p2 p3 _).mono ?_); rintro e zc ⟨rfl, hzc⟩; have HBD := below_next (w := wc) (by repeat (first | with_reducible exact HBD | with_reducible refine toDB ?_ | with_reducible refine Below.alloc ?_ (by first | exact Nat.le_refl _ | omega | (simp; done) | (simp; omega)) _)) hzc) | (go_at_call 21; (with_reducible refine (R25.out _).mono ?_); rintro e zd ⟨rfl, hzd⟩; have HBD := below_next (w := wc) (by repeat (first | with_reducible exact HBD | with_reducible refine toDB ?_ | with_reducible refine Below.alloc ?_ (by first | exact Nat.le_refl _ | omega | (simp; done) | (simp; omega)) _)) hzd) | fail))
        all_goals
          go_wp2_with fail
          go_ret
          exact ⟨by first | rfl | simp, below_next BW.out HBD⟩
      · cases x2
        · have hg : (chkC ep nx sd && loadB l) = false := by rw [h1, h2]; rfl
          have hm : mayB ep nx sd l z = false := by unfold mayB; rw [hg]; rfl
          have LEN5 := Lib.hid (show (([] : List Int)).length = 0 from rfl)
          have LEN7 := Lib.hid (show (([] : List Int)).length = 0 from rfl)
          have SH0 := Lib.hid (fun W hh hl => (SHA.out W hh hl).mono fun e w' (q : IntsErr (shardsC ep nx sd l) W e w') => (show ∃ v, e = .returned (.tuple #[v, .int .i64 1]) ∧ OwnsI w' W.heap.size v [] ∧ Below W.heap.size W w' by unfold shardsC at q; rw [hg] at q; exact q))
          have ND0 := Lib.hid (fun W hh hl => (NDA.out W hh hl).mono fun e w' (q : IntsErr (nodesC ep nx sd l z) W e w') => (show ∃ v, e = .returned (.tuple #[v, .int .i64 1]) ∧ OwnsI w' W.heap.size v [] ∧ Below W.heap.size W w' by rw [nodes_bad hm] at q; exact q))
          rw [hm] at RMY
          clear hg hm SHA NDA h1 h2
          go_upto_region 12 with (first | (go_at_call 12; (with_reducible refine (SH0.out _ (HPW.out _ h0) (HLW.out _ h0)).mono ?_); rintro e x1 ⟨v5, rfl, hv5, hb5⟩; obtain ⟨a5, c5, rfl, hA5⟩ := hv5.rargN LEN5.out; replace hA5 := Lib.hid hA5; have hb9 := hb5; clear hv5; obtain ⟨d0, d1, d2⟩ := KG.out _ hb9; obtain ⟨q0, q1, q2, q3, q4, q5, q6, q7⟩ := KX.out _ (below_next hbc hb9)) | (go_at_call 13; (with_reducible refine (ND0.out _ (HPW.out _ hb9) (HLW.out _ hb9)).mono ?_); rintro e x2 ⟨v7, rfl, hv7, hb7⟩; obtain ⟨a7, c7, rfl, hA7⟩ := hv7.rargN LEN7.out; replace hA7 := Lib.hid hA7; replace hA5 := Lib.hid (hA5.out.below hb7); clear hv7; replace hb9 := below_next hb9 hb7; obtain ⟨d0, d1, d2⟩ := KG.out _ hb9; obtain ⟨q0, q1, q2, q3, q4, q5, q6, q7⟩ := KX.out _ (below_next hbc hb9)) | (go_at_call 14; (with_reducible refine (RCK.out _ (HRW.out _ hb9)).mono ?_); rintro e x3 ⟨rfl, hb3⟩; replace hA5 := Lib.hid (hA5.out.below hb3); replace hA7 := Lib.hid (hA7.out.below hb3); replace hb9 := below_next hb9 hb3; obtain ⟨d0, d1, d2⟩ := KG.out _ hb9; obtain ⟨q0, q1, q2, q3, q4, q5, q6, q7⟩ := KX.out _ (below_next hbc hb9)) | (go_at_call 15; (with_reducible refine (RLD.out _ (HSW.out _ hb9)).mono ?_); rintro e x4 ⟨rfl, hb4⟩; replace hA5 := Lib.hid (hA5.out.below hb4); replace hA7 := Lib.hid (hA7.out.below hb4); replace hb9 := below_next hb9 hb4; obtain ⟨d0, d1, d2⟩ := KG.out _ hb9; obtain ⟨q0, q1, q2, q3, q4, q5, q6, q7⟩ := KX.out _ (below_next hbc hb9)) | (go_at_call 18; (with_reducible refine (RMY.out _ (HRW.out _ hb9) (HSW.out _ hb9)).mono ?_); rintro e y3 ⟨rfl, hc7⟩; replace hA7 := Lib.hid (hA7.out.below hc7); replace hb9 := below_next hb9 hc7; obtain ⟨d0, d1, d2⟩ := KG.out _ hb9; obtain ⟨q0, q1, q2, q3, q4, q5, q6, q7⟩ := KX.out _ (below_next hbc hb9)) | fail)
          have HBD := hb9
          have KP := Lib.hid (fun W (hb : Below wc.heap.size wc W) => (show W.cell? ⟨w.heap.size, 4, none⟩ = some (.int .i64 p1) ∧ W.cell? ⟨w.heap.size, 5, none⟩ = some (.int .i64 p2) ∧ W.cell? ⟨w.heap.size, 6, none⟩ = some (.int .i64 p3) from
            have k := KX.out _ (below_next hbc hb)
            ⟨k.2.2.2.2.1, k.2.2.2.2.2.1, k.2.2.2.2.2.2.1⟩))
          go_region_held3 (fun W => W.cell? ⟨w.heap.size, 4, none⟩ = some (.int .i64 p1) ∧ W.cell? ⟨w.heap.size, 5, none⟩ = some (.int .i64 p2) ∧ W.cell? ⟨w.heap.size, 6, none⟩ = some (.int .i64 p3)) (exact KP.out _ (by repeat (first | with_reducible exact HBD | with_reducible refine toDB ?_ | with_reducible refine Below.alloc ?_ (by first | exact Nat.le_refl _ | omega | (simp; done) | (simp; omega)) _))) ((first | (go_at_call 9; (with_reducible refine (awake25_any _).mono ?_); rintro e za ⟨rfl, hza⟩; have HBD := below_next (w := wc) (by repeat (first | with_reducible exact HBD | with_reducible refine toDB ?_ | with_reducible refine Below.alloc ?_ (by first | exact Nat.le_refl _ | omega | (simp; done) | (simp; omega)) _)) hza) | (go_at_call 20; (with_reducible refine (P25.out _).mono ?_); rintro e zb ⟨rfl, hzb⟩; have HBD := below_next (w := wc) (by repeat (first | with_reducible exact HBD | with_reducible refine toDB ?_ | with_reducible refine Below.alloc ?_ (by first | exact Nat.le_refl _ | omega | (simp; done) | (simp; omega)) _)) hzb) | (go_at_call 22; (with_reducible refine (ref25_any p1 p2 p3 _).mono ?_); rintro e zc ⟨rfl, hzc⟩; have HBD := below_next (w := wc) (by repeat (first | with_reducible exact HBD | with_reducible refine toDB ?_ | with_reducible refine Below.alloc ?_ (by first | exact Nat.le_refl _ | omega | (simp; done) | (simp; omega)) _)) hzc) | (go_at_call 21; (with_reducible refine (R25.out _).mono ?_); rintro e zd ⟨rfl, hzd⟩; have HBD := below_next (w := wc) (by repeat (first | with_reducible exact HBD | with_reducible refine toDB ?_ | with_reducible refine Below.alloc ?_ (by first | exact Nat.le_refl _ | omega | (simp; done) | (simp; omega)) _)) hzd) | fail))
          all_goals
            go_wp2_with fail
            go_ret
            exact ⟨by first | rfl | simp, below_next BW.out HBD⟩
        · have hg : (chkC ep nx sd && loadB l) = true := by rw [h1, h2]; rfl
          have h24 := (chkC_parts h1).2.2.1
          obtain ⟨L, hL⟩ : ∃ L, (itsB l sd).map (fun x => x.2) = L := ⟨_, rfl⟩
          have LEN5 := Lib.hid (show L.length = sd.length by rw [← hL, List.length_map, itsB_len])
          have SH0 := Lib.hid (fun W hh hl => (SHA.out W hh hl).mono fun e w' (q : IntsErr (shardsC ep nx sd l) W e w') => (show ∃ v, e = .returned (.tuple #[v, .int .i64 0]) ∧ OwnsI w' W.heap.size v L ∧ Below W.heap.size W w' by unfold shardsC at q; rw [hg, hL] at q; exact q))
          have RS0 := Lib.hid (fun W hh hl => hL ▸ dshardsB_any ep nx ar nr cr sd as_ ns cs l W hh hl h2 h24.2)
          have hlz : (sd.length : Int) ≤ 9223372036854775807 := by omega
          cases hm : mayB ep nx sd l z with
          | false =>
            have LEN7 := Lib.hid (show (([] : List Int)).length = 0 from rfl)
            have ND0 := Lib.hid (fun W hh hl => (NDA.out W hh hl).mono fun e w' (q : IntsErr (nodesC ep nx sd l z) W e w') => (show ∃ v, e = .returned (.tuple #[v, .int .i64 1]) ∧ OwnsI w' W.heap.size v [] ∧ Below W.heap.size W w' by rw [nodes_bad hm] at q; exact q))
            rw [hm] at RMY
            clear hg hm SHA NDA h1 h2 hL h24
            go_upto_region 12 with (first | (go_at_call 12; (with_reducible refine (SH0.out _ (HPW.out _ h0) (HLW.out _ h0)).mono ?_); rintro e x1 ⟨v5, rfl, hv5, hb5⟩; obtain ⟨a5, c5, rfl, hA5⟩ := hv5.rargN LEN5.out; replace hA5 := Lib.hid hA5; have hb9 := hb5; clear hv5; obtain ⟨d0, d1, d2⟩ := KG.out _ hb9; obtain ⟨q0, q1, q2, q3, q4, q5, q6, q7⟩ := KX.out _ (below_next hbc hb9)) | (go_at_call 13; (with_reducible refine (ND0.out _ (HPW.out _ hb9) (HLW.out _ hb9)).mono ?_); rintro e x2 ⟨v7, rfl, hv7, hb7⟩; obtain ⟨a7, c7, rfl, hA7⟩ := hv7.rargN LEN7.out; replace hA7 := Lib.hid hA7; replace hA5 := Lib.hid (hA5.out.below hb7); clear hv7; replace hb9 := below_next hb9 hb7; obtain ⟨d0, d1, d2⟩ := KG.out _ hb9; obtain ⟨q0, q1, q2, q3, q4, q5, q6, q7⟩ := KX.out _ (below_next hbc hb9)) | (go_at_call 14; (with_reducible refine (RCK.out _ (HRW.out _ hb9)).mono ?_); rintro e x3 ⟨rfl, hb3⟩; replace hA5 := Lib.hid (hA5.out.below hb3); replace hA7 := Lib.hid (hA7.out.below hb3); replace hb9 := below_next hb9 hb3; obtain ⟨d0, d1, d2⟩ := KG.out _ hb9; obtain ⟨q0, q1, q2, q3, q4, q5, q6, q7⟩ := KX.out _ (below_next hbc hb9)) | (go_at_call 15; (with_reducible refine (RLD.out _ (HSW.out _ hb9)).mono ?_); rintro e x4 ⟨rfl, hb4⟩; replace hA5 := Lib.hid (hA5.out.below hb4); replace hA7 := Lib.hid (hA7.out.below hb4); replace hb9 := below_next hb9 hb4; obtain ⟨d0, d1, d2⟩ := KG.out _ hb9; obtain ⟨q0, q1, q2, q3, q4, q5, q6, q7⟩ := KX.out _ (below_next hbc hb9)) | (go_at_call 17; (with_reducible refine (RS0.out _ (HRW.out _ hb9) (HSW.out _ hb9)).mono ?_); rintro e y1 ⟨u5, rfl, hu5, hc5⟩; obtain ⟨f5, k5, rfl, hF5⟩ := hu5.rargN LEN5.out; replace hF5 := Lib.hid hF5; clear hu5; replace hA5 := Lib.hid (hA5.out.below hc5); replace hA7 := Lib.hid (hA7.out.below hc5); replace hb9 := below_next hb9 hc5; obtain ⟨d0, d1, d2⟩ := KG.out _ hb9; obtain ⟨q0, q1, q2, q3, q4, q5, q6, q7⟩ := KX.out _ (below_next hbc hb9)) | (go_at_call 16; (with_reducible refine (sameZ_any _ _ _ _ _ _ _ _ hA5.out hF5.out).mono ?_); rintro e y2 ⟨rfl, hc6⟩; replace hA7 := Lib.hid (hA7.out.below hc6); replace hb9 := below_next hb9 hc6; obtain ⟨d0, d1, d2⟩ := KG.out _ hb9; obtain ⟨q0, q1, q2, q3, q4, q5, q6, q7⟩ := KX.out _ (below_next hbc hb9)) | (go_at_call 18; (with_reducible refine (RMY.out _ (HRW.out _ hb9) (HSW.out _ hb9)).mono ?_); rintro e y3 ⟨rfl, hc7⟩; replace hA7 := Lib.hid (hA7.out.below hc7); replace hb9 := below_next hb9 hc7; obtain ⟨d0, d1, d2⟩ := KG.out _ hb9; obtain ⟨q0, q1, q2, q3, q4, q5, q6, q7⟩ := KX.out _ (below_next hbc hb9)) | fail)
            have HBD := hb9
            have KP := Lib.hid (fun W (hb : Below wc.heap.size wc W) => (show W.cell? ⟨w.heap.size, 4, none⟩ = some (.int .i64 p1) ∧ W.cell? ⟨w.heap.size, 5, none⟩ = some (.int .i64 p2) ∧ W.cell? ⟨w.heap.size, 6, none⟩ = some (.int .i64 p3) from
              have k := KX.out _ (below_next hbc hb)
              ⟨k.2.2.2.2.1, k.2.2.2.2.2.1, k.2.2.2.2.2.2.1⟩))
            go_region_held3 (fun W => W.cell? ⟨w.heap.size, 4, none⟩ = some (.int .i64 p1) ∧ W.cell? ⟨w.heap.size, 5, none⟩ = some (.int .i64 p2) ∧ W.cell? ⟨w.heap.size, 6, none⟩ = some (.int .i64 p3)) (exact KP.out _ (by repeat (first | with_reducible exact HBD | with_reducible refine toDB ?_ | with_reducible refine Below.alloc ?_ (by first | exact Nat.le_refl _ | omega | (simp; done) | (simp; omega)) _))) ((first | (go_at_call 9; (with_reducible refine (awake25_any _).mono ?_); rintro e za ⟨rfl, hza⟩; have HBD := below_next (w := wc) (by repeat (first | with_reducible exact HBD | with_reducible refine toDB ?_ | with_reducible refine Below.alloc ?_ (by first | exact Nat.le_refl _ | omega | (simp; done) | (simp; omega)) _)) hza) | (go_at_call 20; (with_reducible refine (P25.out _).mono ?_); rintro e zb ⟨rfl, hzb⟩; have HBD := below_next (w := wc) (by repeat (first | with_reducible exact HBD | with_reducible refine toDB ?_ | with_reducible refine Below.alloc ?_ (by first | exact Nat.le_refl _ | omega | (simp; done) | (simp; omega)) _)) hzb) | (go_at_call 22; (with_reducible refine (ref25_any p1 p2 p3 _).mono ?_); rintro e zc ⟨rfl, hzc⟩; have HBD := below_next (w := wc) (by repeat (first | with_reducible exact HBD | with_reducible refine toDB ?_ | with_reducible refine Below.alloc ?_ (by first | exact Nat.le_refl _ | omega | (simp; done) | (simp; omega)) _)) hzc) | (go_at_call 21; (with_reducible refine (R25.out _).mono ?_); rintro e zd ⟨rfl, hzd⟩; have HBD := below_next (w := wc) (by repeat (first | with_reducible exact HBD | with_reducible refine toDB ?_ | with_reducible refine Below.alloc ?_ (by first | exact Nat.le_refl _ | omega | (simp; done) | (simp; omega)) _)) hzd) | fail))
            all_goals
              go_wp2_with fail
              go_ret
              exact ⟨by first | rfl | simp, below_next BW.out HBD⟩
          | true =>
            have hmm := hm
            unfold mayB at hmm
            rw [Bool.and_eq_true, Bool.and_eq_true, Bool.and_eq_true, Bool.and_eq_true, decide_eq_true_iff, decide_eq_true_iff] at hmm
            obtain ⟨m, hz⟩ : ∃ m : Nat, z = (m : Int) := ⟨z.toNat, by omega⟩
            have hm5 : m ≤ 5 := by omega
            obtain ⟨N, hN⟩ : ∃ N, nodesB (itsB l sd) m = N := ⟨_, rfl⟩
            have LEN7 := Lib.hid (show N.length = m by rw [← hN, nodesB_len])
            have ND0 := Lib.hid (fun W hh hl => (NDA.out W hh hl).mono fun e w' (q : IntsErr (nodesC ep nx sd l z) W e w') => (show ∃ v, e = .returned (.tuple #[v, .int .i64 0]) ∧ OwnsI w' W.heap.size v N ∧ Below W.heap.size W w' by unfold nodesC at q; rw [hm, hz, Int.toNat_natCast, hN] at q; exact q))
            rw [hm] at RMY
            subst hz
            have RN0 := Lib.hid (fun W hh hl => hN ▸ rnodes_any ep nx ar nr cr sd as_ ns cs l m W hh hl h2 h24.2 hm5)
            clear hg hm SHA NDA h1 h2 hL h24 hmm hN
            go_upto_region 12 with (first | (go_at_call 12; (with_reducible refine (SH0.out _ (HPW.out _ h0) (HLW.out _ h0)).mono ?_); rintro e x1 ⟨v5, rfl, hv5, hb5⟩; obtain ⟨a5, c5, rfl, hA5⟩ := hv5.rargN LEN5.out; replace hA5 := Lib.hid hA5; have hb9 := hb5; clear hv5; obtain ⟨d0, d1, d2⟩ := KG.out _ hb9; obtain ⟨q0, q1, q2, q3, q4, q5, q6, q7⟩ := KX.out _ (below_next hbc hb9)) | (go_at_call 13; (with_reducible refine (ND0.out _ (HPW.out _ hb9) (HLW.out _ hb9)).mono ?_); rintro e x2 ⟨v7, rfl, hv7, hb7⟩; obtain ⟨a7, c7, rfl, hA7⟩ := hv7.rargN LEN7.out; replace hA7 := Lib.hid hA7; replace hA5 := Lib.hid (hA5.out.below hb7); clear hv7; replace hb9 := below_next hb9 hb7; obtain ⟨d0, d1, d2⟩ := KG.out _ hb9; obtain ⟨q0, q1, q2, q3, q4, q5, q6, q7⟩ := KX.out _ (below_next hbc hb9)) | (go_at_call 14; (with_reducible refine (RCK.out _ (HRW.out _ hb9)).mono ?_); rintro e x3 ⟨rfl, hb3⟩; replace hA5 := Lib.hid (hA5.out.below hb3); replace hA7 := Lib.hid (hA7.out.below hb3); replace hb9 := below_next hb9 hb3; obtain ⟨d0, d1, d2⟩ := KG.out _ hb9; obtain ⟨q0, q1, q2, q3, q4, q5, q6, q7⟩ := KX.out _ (below_next hbc hb9)) | (go_at_call 15; (with_reducible refine (RLD.out _ (HSW.out _ hb9)).mono ?_); rintro e x4 ⟨rfl, hb4⟩; replace hA5 := Lib.hid (hA5.out.below hb4); replace hA7 := Lib.hid (hA7.out.below hb4); replace hb9 := below_next hb9 hb4; obtain ⟨d0, d1, d2⟩ := KG.out _ hb9; obtain ⟨q0, q1, q2, q3, q4, q5, q6, q7⟩ := KX.out _ (below_next hbc hb9)) | (go_at_call 17; (with_reducible refine (RS0.out _ (HRW.out _ hb9) (HSW.out _ hb9)).mono ?_); rintro e y1 ⟨u5, rfl, hu5, hc5⟩; obtain ⟨f5, k5, rfl, hF5⟩ := hu5.rargN LEN5.out; replace hF5 := Lib.hid hF5; clear hu5; replace hA5 := Lib.hid (hA5.out.below hc5); replace hA7 := Lib.hid (hA7.out.below hc5); replace hb9 := below_next hb9 hc5; obtain ⟨d0, d1, d2⟩ := KG.out _ hb9; obtain ⟨q0, q1, q2, q3, q4, q5, q6, q7⟩ := KX.out _ (below_next hbc hb9)) | (go_at_call 16; (with_reducible refine (sameZ_any _ _ _ _ _ _ _ _ hA5.out hF5.out).mono ?_); rintro e y2 ⟨rfl, hc6⟩; replace hA7 := Lib.hid (hA7.out.below hc6); replace hb9 := below_next hb9 hc6; obtain ⟨d0, d1, d2⟩ := KG.out _ hb9; obtain ⟨q0, q1, q2, q3, q4, q5, q6, q7⟩ := KX.out _ (below_next hbc hb9)) | (go_at_call 18; (with_reducible refine (RMY.out _ (HRW.out _ hb9) (HSW.out _ hb9)).mono ?_); rintro e y3 ⟨rfl, hc7⟩; replace hA7 := Lib.hid (hA7.out.below hc7); replace hb9 := below_next hb9 hc7; obtain ⟨d0, d1, d2⟩ := KG.out _ hb9; obtain ⟨q0, q1, q2, q3, q4, q5, q6, q7⟩ := KX.out _ (below_next hbc hb9)) | (go_at_call 19; (with_reducible refine (RN0.out _ (HRW.out _ hb9) (HSW.out _ hb9)).mono ?_); rintro e y4 ⟨u7, rfl, hu7, hc8⟩; obtain ⟨f7, k7, rfl, hF7⟩ := hu7.rargN LEN7.out; replace hF7 := Lib.hid hF7; clear hu7; replace hA7 := Lib.hid (hA7.out.below hc8); replace hb9 := below_next hb9 hc8; obtain ⟨d0, d1, d2⟩ := KG.out _ hb9; obtain ⟨q0, q1, q2, q3, q4, q5, q6, q7⟩ := KX.out _ (below_next hbc hb9)) | (go_at_call 16; (with_reducible refine (sameZ_any _ _ _ _ _ _ _ _ hA7.out hF7.out).mono ?_); rintro e y5 ⟨rfl, hc9⟩; replace hb9 := below_next hb9 hc9; obtain ⟨d0, d1, d2⟩ := KG.out _ hb9; obtain ⟨q0, q1, q2, q3, q4, q5, q6, q7⟩ := KX.out _ (below_next hbc hb9)) | fail)
            have HBD := hb9
            have KP := Lib.hid (fun W (hb : Below wc.heap.size wc W) => (show W.cell? ⟨w.heap.size, 4, none⟩ = some (.int .i64 p1) ∧ W.cell? ⟨w.heap.size, 5, none⟩ = some (.int .i64 p2) ∧ W.cell? ⟨w.heap.size, 6, none⟩ = some (.int .i64 p3) from
              have k := KX.out _ (below_next hbc hb)
              ⟨k.2.2.2.2.1, k.2.2.2.2.2.1, k.2.2.2.2.2.2.1⟩))
            go_region_held3 (fun W => W.cell? ⟨w.heap.size, 4, none⟩ = some (.int .i64 p1) ∧ W.cell? ⟨w.heap.size, 5, none⟩ = some (.int .i64 p2) ∧ W.cell? ⟨w.heap.size, 6, none⟩ = some (.int .i64 p3)) (exact KP.out _ (by repeat (first | with_reducible exact HBD | with_reducible refine toDB ?_ | with_reducible refine Below.alloc ?_ (by first | exact Nat.le_refl _ | omega | (simp; done) | (simp; omega)) _))) ((first | (go_at_call 9; (with_reducible refine (awake25_any _).mono ?_); rintro e za ⟨rfl, hza⟩; have HBD := below_next (w := wc) (by repeat (first | with_reducible exact HBD | with_reducible refine toDB ?_ | with_reducible refine Below.alloc ?_ (by first | exact Nat.le_refl _ | omega | (simp; done) | (simp; omega)) _)) hza) | (go_at_call 20; (with_reducible refine (P25.out _).mono ?_); rintro e zb ⟨rfl, hzb⟩; have HBD := below_next (w := wc) (by repeat (first | with_reducible exact HBD | with_reducible refine toDB ?_ | with_reducible refine Below.alloc ?_ (by first | exact Nat.le_refl _ | omega | (simp; done) | (simp; omega)) _)) hzb) | (go_at_call 22; (with_reducible refine (ref25_any p1 p2 p3 _).mono ?_); rintro e zc ⟨rfl, hzc⟩; have HBD := below_next (w := wc) (by repeat (first | with_reducible exact HBD | with_reducible refine toDB ?_ | with_reducible refine Below.alloc ?_ (by first | exact Nat.le_refl _ | omega | (simp; done) | (simp; omega)) _)) hzc) | (go_at_call 21; (with_reducible refine (R25.out _).mono ?_); rintro e zd ⟨rfl, hzd⟩; have HBD := below_next (w := wc) (by repeat (first | with_reducible exact HBD | with_reducible refine toDB ?_ | with_reducible refine Below.alloc ?_ (by first | exact Nat.le_refl _ | omega | (simp; done) | (simp; omega)) _)) hzd) | fail))
            all_goals
              go_wp2_with fail
              go_ret
              exact ⟨by first | rfl | simp, below_next BW.out HBD⟩
end Go.Proofs.Ytjllaadoffgjpaa
