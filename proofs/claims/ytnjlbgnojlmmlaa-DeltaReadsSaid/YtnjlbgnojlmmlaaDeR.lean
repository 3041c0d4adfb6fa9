/-
  DELTA: the document's Read.
-/
import Derived.Test.YtnjlbgnojlmmlaaDeQ
import Derived.Deep.RegionHeld3
import Derived.Deep.Cut
import Derived.Deep.CutRange
namespace Go.Proofs.Ytnjlbgnojlmmlaa
open Go.RowKit Go.Deep Go.Shelf Go.ChangeShapes Go.WideShapes

theorem within_any (n : Int) (w : World) : Calls Try.prog 20 #[.int .i64 n] w fun e w' => e = .returned (.int .i64 (wiN n)) ∧ w = w' := by
  by_cases h1 : 4398046511104 < n
  · have H := Lib.hid (show wiN n = 4398046511104 from if_pos h1)
    go_enter Try.func20, Try.ntmps20
    go_wp2
    go_ret
    exact ⟨by rw [H.out]; rfl, rfl⟩
  · by_cases h2 : n < -4398046511104
    · have H := Lib.hid (show wiN n = -4398046511104 by unfold wiN; rw [if_neg h1, if_pos h2])
      go_enter Try.func20, Try.ntmps20
      go_wp2
      go_ret
      exact ⟨by rw [H.out]; rfl, rfl⟩
    · have H := Lib.hid (show wiN n = n by unfold wiN; rw [if_neg h1, if_neg h2])
      go_enter Try.func20, Try.ntmps20
      go_wp2
      go_ret
      exact ⟨by rw [H.out]; rfl, rfl⟩
theorem XB.far {t : TypeId} {w : World} {x : Nat} {cs : List Value} (h : XB t w x cs) (p : Addr) (u : Value) (hp : p.block ≠ x) : XB t (w.setCell p u) x cs := XB.kept h (grown_setCell w p u) (by simp; omega)
theorem XB.more {t : TypeId} {w : World} {x : Nat} {cs : List Value} (h : XB t w x cs) (ob : Obj) : XB t (w.alloc ob) x cs := XB.kept h (World.grownBy_alloc w ob none) (by simp)
theorem OwnsR.far {α : Type} {enc : α → List Value} {k : Nat} {t : TypeId} {w : World} {base : Nat} {v : Value} {l : List α} (h : OwnsR enc k t w base v l) (p : Addr) (u : Value) (hp : some p.block ≠ v.ownBlock) : OwnsR enc k t (w.setCell p u) base v l := World.ownsRow.kept h (grown_setCell w p u) (.inr (fun e => hp e.symm))
theorem OwnsR.more {α : Type} {enc : α → List Value} {k : Nat} {t : TypeId} {w : World} {base : Nat} {v : Value} {l : List α} (h : OwnsR enc k t w base v l) (ob : Obj) : OwnsR enc k t (w.alloc ob) base v l := World.ownsRow.alloc h ob
theorem dCell_size (b : Bool) (s : ByteArray) (e : Int) : (dCell b s e).2.1.size ≤ s.size := by
  unfold dCell
  split
  · exact rWhole_size s e
  · exact Nat.le_refl _
theorem dCell_err {b : Bool} {s : ByteArray} {e : Int} (h : (dCell b s e).2.2 = 0) : e = 0 := by
  unfold dCell at h
  split at h
  · exact whole_err0 (s := s) h
  · exact h
/-- Between two statements of a round: what is left, the turn, the turns ahead of it. -/
def St (T M : Nat) (w : World) (base : Nat) (v : Value) (acc : List Tn) (t : ByteArray) (e : Int) (tc : List Value) (W : World) : Prop :=
  XB 52 W T [.string t, .int .i64 e] ∧ XB 57 W M tc ∧ OwnsR encT 5 57 W base v acc ∧ Below base w W
def DPost (w : World) (r : List Tn × Int) (e : Ending) (w' : World) : Prop := ∃ a n c, e = .returned (.tuple #[.slice a n c, .int .i64 r.2]) ∧ RArg encT 5 w' a n c r.1 ∧ Below w.heap.size w w'
set_option maxRecDepth 100000 in
set_option maxHeartbeats 8000000 in
theorem read23_any (s : ByteArray) (w : World) (hs : s.size ≤ 2000) : Calls Try.prog 7 #[.string s] w (DPost w (docD s)) := by
  obtain ⟨i0, hi, hz0, hz1, hz2⟩ := info_parts Try.infoRTurn
  obtain ⟨x, u, e1, hN⟩ : ∃ x u e1, rNum s 0 = (x, u, e1) := ⟨_, _, _, rfl⟩
  have hx := rNum_val s 0
  have hz := rNum_size s 0
  have hl0 := rNum_less (s := s) (e := 0)
  rw [hN] at hx hz hl0
  dsimp only at hx hz hl0
  obtain ⟨n, rfl⟩ : ∃ n : Nat, x = (n : Int) := ⟨x.toNat, by omega⟩
  have hn1 : (n : Int) ≤ 9223372036854775807 := hx.2
  have HDE := Lib.hid (fun l t e (h : dTs n [] (-1) u e1 = (l, t, e)) => docD_eq (l := l) (t := t) (e := e) hN (by rw [Int.toNat_natCast]; exact h))
  obtain ⟨R, hR⟩ : ∃ R, docD s = R := ⟨_, rfl⟩
  rw [hR] at HDE ⊢
  have CN0 := Lib.hid (fun W => (show Calls Try.prog 18 #[rdV s 0] W (RdNumPost ((n : Int), u, e1) W) by have := refNumR_any s 0 W (by omega); rwa [hN] at this))
  replace hl0 := Lib.hid hl0
  replace hR := Lib.hid hR
  clear hN hx
  go_enter Try.func7, Try.ntmps7
  go_wp2_with (go_at_call 18; (with_reducible refine (CN0.out _).mono ?_); rintro en w1 ⟨rfl, B1⟩)
  have R0 : XB 52 (w1.alloc (.cells #[.string u, .int .i64 e1] 52)) w1.heap.size [.string u, .int .i64 e1] := heap_alloc_new _ _
  have C0 : Below w.heap.size w (w1.alloc (.cells #[.string u, .int .i64 e1] 52)) := B1.alloc B1.size _
  have hzT := B1.size
  obtain ⟨T, hT⟩ : ∃ T, w1.heap.size = T := ⟨_, rfl⟩
  rw [hT] at R0 hzT ⊢
  replace hT := Lib.hid hT
  clear B1 CN0
  go_loopw [6, 7, 8, 9, 10, 11, 12, 13, 14, 15, 16, 17] (fun vo zo i q9 q10 q11 q12 q13 q14 q15 q16 q17 wr => ∃ (k : Nat) (acc : List Tn) (z : Int) (t : ByteArray) (e2 : Int) (v : Value), v = vo ∧ i = .int .i64 (k : Int) ∧ zo = .int .i64 z ∧ k ≤ n ∧ Hid (acc.length = k) ∧ 2 * k ≤ s.size + 1 ∧ Hid (e2 = 0 → 2 * k + t.size + 1 ≤ s.size) ∧ t.size ≤ s.size ∧ -1 ≤ z ∧ z ≤ 4096 ∧ Hid (OwnsR encT 5 57 wr w.heap.size v acc) ∧ Hid (XB 52 wr T [.string t, .int .i64 e2]) ∧ Below w.heap.size w wr ∧ Hid (dTs (n - k) acc z t e2 = dTs n [] (-1) u e1))
    (fun _ _ i _ _ _ _ _ _ _ _ _ _ => n - (intOf i).toNat)
  case atStart => exact ⟨0, [], -1, u, e1, _, rfl, rfl, rfl, by omega, Lib.hid rfl, by omega, Lib.hid (fun h => by have := hl0.out h; omega), hz, by omega, by omega, Lib.hid (OwnsR.nil _ _ _ _ _), Lib.hid R0, C0, Lib.hid rfl⟩
  case round =>
    obtain ⟨k, acc, z, t, e2, v, rfl, rfl, rfl, hk, HLn, h2k, HL, hts, hz0', hz1', HO, HX, hbl, HE⟩ := hrel
    clear R0 C0
    have c0 := HX.out.at 0 _ rfl
    have c1 := HX.out.at 1 _ rfl
    have hsz := hbl.size
    by_cases hgo : k < n ∧ e2 = 0
    · obtain ⟨hlt, rfl⟩ := hgo
      have hkz : (k : Int) < (n : Int) := by omega
      have hk4 : (k : Int) ≤ 4096 := by omega
      have hsum := HL.out rfl
      obtain ⟨x, a1, e3, hA⟩ : ∃ x a1 e3, rNum t 0 = (x, a1, e3) := ⟨_, _, _, rfl⟩
      obtain ⟨y, a2, e4, hB⟩ : ∃ y a2 e4, rNum a1 e3 = (y, a2, e4) := ⟨_, _, _, rfl⟩
      obtain ⟨b0, hb0⟩ : ∃ b0, decide (y % 2 = 1) = b0 := ⟨_, rfl⟩
      obtain ⟨b1, hb1⟩ : ∃ b1, decide (y / 2 % 2 = 1) = b1 := ⟨_, rfl⟩
      obtain ⟨vv, a3, e5, hC⟩ : ∃ vv a3 e5, dCell b0 a2 e4 = (vv, a3, e5) := ⟨_, _, _, rfl⟩
      obtain ⟨uu, a4, e6, hD⟩ : ∃ uu a4 e6, dCell b1 a3 e5 = (uu, a4, e6) := ⟨_, _, _, rfl⟩
      have HG := dTs_go (n := n - (k + 1)) (acc := acc) (dTurn_eq (z := z) hA hB hb0 hb1 hC hD)
      have s1 : a1.size ≤ t.size := by have := rNum_size t 0; rw [hA] at this; exact this
      have s2 : a2.size ≤ a1.size := by have := rNum_size a1 e3; rw [hB] at this; exact this
      have s3 : a3.size ≤ a2.size := by have := dCell_size b0 a2 e4; rw [hC] at this; exact this
      have s4 : a4.size ≤ a3.size := by have := dCell_size b1 a3 e5; rw [hD] at this; exact this
      have hx0 := rNum_val t 0
      rw [hA] at hx0
      have hy0 := rNum_val a1 e3
      rw [hB] at hy0
      dsimp only at hx0 hy0
      have hlN : Hid (e6 = 0 → 2 * (k + 1) + a4.size + 1 ≤ s.size) := Lib.hid fun h => by
        have h5 : e5 = 0 := dCell_err (b := b1) (s := a3) (by rw [hD]; exact h)
        have h4 : e4 = 0 := dCell_err (b := b0) (s := a2) (by rw [hC]; exact h5)
        have g2 := rNum_less (s := a1) (e := e3) (by rw [hB]; exact h4)
        rw [hB] at g2
        have h3 : e3 = 0 := num_err0 (s := a1) (by rw [hB]; exact h4)
        have g1 := rNum_less (s := t) (e := 0) (by rw [hA]; exact h3)
        rw [hA] at g1
        dsimp only at g1 g2
        omega
      have CN := Lib.hid (fun W => (show Calls Try.prog 18 #[rdV t 0] W (RdNumPost (x, a1, e3) W) by have := refNumR_any t 0 W (by omega); rwa [hA] at this))
      have CM := Lib.hid (fun W => (show Calls Try.prog 18 #[rdV a1 e3] W (RdNumPost (y, a2, e4) W) by have := refNumR_any a1 e3 W (by omega); rwa [hB] at this))
      have CV : Hid (b0 = true → ∀ W, Calls Try.prog 19 #[rdV a2 e4] W (RdNumPost (vv, a3, e5) W)) := Lib.hid (fun hb W => by have := refWholeR_any a2 e4 W (by omega); rwa [show rWhole a2 e4 = (vv, a3, e5) by rw [← hC, hb]; rfl] at this)
      have CU : Hid (b1 = true → ∀ W, Calls Try.prog 19 #[rdV a3 e5] W (RdNumPost (uu, a4, e6) W)) := Lib.hid (fun hb W => by have := refWholeR_any a3 e5 W (by omega); rwa [show rWhole a3 e5 = (uu, a4, e6) by rw [← hD, hb]; rfl] at this)
      have CV0 : Hid (b0 = false → vv = 0 ∧ a3 = a2 ∧ e5 = e4) := Lib.hid (fun hb => by rw [hb] at hC; cases hC; exact ⟨rfl, rfl, rfl⟩)
      have CU0 : Hid (b1 = false → a4 = a3 ∧ e6 = e5) := Lib.hid (fun hb => by rw [hb] at hD; cases hD; exact ⟨rfl, rfl⟩)
      have HN := Lib.hid (show dTs (n - (k + 1)) (acc ++ [((z + 1 + mo4 x, (vv, b0), (if b1 = true then wiN uu + wiN vv else 0, b1)) : Tn)]) (mo4 (z + 1 + mo4 x)) a4 e6 = dTs n [] (-1) u e1 by rw [← HE.out, show n - k = n - (k + 1) + 1 by omega, HG])
      clear hA hB hC hD HE HL HG
      obtain ⟨q, hq⟩ : ∃ q, mo4 x = q := ⟨_, rfl⟩
      have hqb := mo4_bd hx0.1
      rw [hq] at hqb HN
      obtain ⟨hq0, hq1⟩ := hqb
      obtain ⟨z9, hz9⟩ : ∃ z9, mo4 (z + 1 + q) = z9 := ⟨_, rfl⟩
      have hz9b := mo4_bd2 (x := z + 1 + q) (by omega)
      rw [hz9] at hz9b HN
      obtain ⟨hz90, hz91⟩ := hz9b
      obtain ⟨hx0, hx1⟩ := hx0
      obtain ⟨hy0, hy1⟩ := hy0
      obtain ⟨a6, p6, rfl, _⟩ := OwnsR.arg encT_len HO.out
      rw [HLn.out] at HO ⊢
      replace hq := Lib.hid hq
      replace hz9 := Lib.hid hz9
      replace hb0 := Lib.hid hb0
      replace hb1 := Lib.hid hb1
      have hgv : Hid (some T ≠ (Value.slice a6 k p6).ownBlock) := Lib.hid (XB.not_row (by decide) HX.out HO.out)
      have f0 := HX.out.free 0
      have f1 := HX.out.free 1
      have hTlt := HX.out.lt
      go_upto_if 50 with (first
        | (go_at_call 18; (with_reducible refine (CN.out _).mono ?_); rintro en w5 ⟨rfl, B5⟩; have hX5 := Lib.hid ((HX.out.below B5).more (.cells #[.string a1, .int .i64 e3] 52)); have hO5 := Lib.hid ((HO.out.below B5).more (.cells #[.string a1, .int .i64 e3] 52)); have hB5 := Lib.hid ((below_next hbl B5).alloc (Nat.le_trans hsz B5.size) (.cells #[.string a1, .int .i64 e3] 52)))
        | (go_at_call 18; (with_reducible refine (CM.out _).mono ?_); rintro en w6 ⟨rfl, B6⟩; have hX6 := (hX5.out.below B6).more (.cells #[.string a2, .int .i64 e4] 52); have g0 := hX6.at 0 _ rfl; have g1 := hX6.at 1 _ rfl; have g2 := hX6.free 0; have g3 := hX6.free 1; obtain ⟨WA, hWA⟩ : ∃ WA, ((w6.alloc (.cells #[.string a2, .int .i64 e4] 52)).setCell ⟨T, 0, none⟩ (.string a2)).setCell ⟨T, 1, none⟩ (.int .i64 e4) = WA := ⟨_, rfl⟩; have hXA := Lib.hid (show XB 52 WA T [.string a2, .int .i64 e4] by rw [← hWA]; exact (hX6.set 0 (.string a2)).set 1 (.int .i64 e4)); have hOA := Lib.hid (show OwnsR encT 5 57 WA w.heap.size (.slice a6 k p6) acc by rw [← hWA]; exact ((((hO5.out.below B6).more (.cells #[.string a2, .int .i64 e4] 52)).far ⟨T, 0, none⟩ (.string a2) hgv.out).far ⟨T, 1, none⟩ (.int .i64 e4) hgv.out)); have hBA := Lib.hid (show Below w.heap.size w WA by rw [← hWA]; exact ((((below_next hB5.out B6).alloc (Nat.le_trans hB5.out.size B6.size) (.cells #[.string a2, .int .i64 e4] 52)).setCell (p := ⟨T, 0, none⟩) hzT (.string a2)).setCell (p := ⟨T, 1, none⟩) hzT (.int .i64 e4))); replace hX6 := Lib.hid hX6))
      have hS0 : Hid (St T WA.heap.size w w.heap.size (.slice a6 k p6) acc a2 e4 [.int .i64 (0), .int .i64 (0), .bool false, .int .i64 (0), .bool false] (WA.alloc (.cells #[.int .i64 0, .int .i64 0, .bool false, .int .i64 0, .bool false] 57))) := Lib.hid ⟨hXA.out.more _, heap_alloc_new _ _, hOA.out.more _, hBA.out.alloc hBA.out.size _⟩
      have hMT : Hid (WA.heap.size ≠ T) := Lib.hid (by have := hXA.out.lt; omega)
      have hMv : Hid (some WA.heap.size ≠ (Value.slice a6 k p6).ownBlock) := Lib.hid (fun e => by have := (World.ownsRow.lt hOA.out _ e.symm).2; omega)
      have hMw : Hid (w.heap.size ≤ WA.heap.size) := Lib.hid hBA.out.size
      generalize hM : WA.heap.size = M at hS0 hMT hMv hMw ⊢
      generalize hW2 : WA.alloc (.cells #[.int .i64 0, .int .i64 0, .bool false, .int .i64 0, .bool false] 57) = W2 at hS0 ⊢
      replace hM := Lib.hid hM
      replace hW2 := Lib.hid hW2
      replace hWA := Lib.hid hWA
      clear c0 c1 f0 f1 g0 g1 g2 g3 hX5 hO5 hB5 hX6 hXA hOA hBA B5 B6 CN CM HO HX hbl
      go_cut [10] from 24 to 93 (fun m wx => m = .int .i64 q ∧ wx = W2)
      case first =>
        by_cases hm : 4096 < x
        · have H9 := Lib.hid (show q = 4096 by rw [← hq.out]; exact if_pos hm)
          go_wp2_with fail
          go_meet
          exact ⟨by rw [H9.out], rfl⟩
        · have H9 := Lib.hid (show q = x by rw [← hq.out]; exact if_neg hm)
          go_wp2_with fail
          go_meet
          exact ⟨by rw [H9.out], rfl⟩
      case rest =>
        obtain ⟨rfl, rfl⟩ := hcut
        have fM := hS0.out.2.1.free 0
        have cM := hS0.out.2.1.at 0 _ rfl
        go_upto_if 58 with fail
        obtain ⟨x1, x2, x3, x4⟩ := hS0.out
        have hS1 : Hid (St T M w w.heap.size (.slice a6 k p6) acc a2 e4 [.int .i64 (z + 1 + q), .int .i64 (0), .bool false, .int .i64 (0), .bool false] (wc.setCell ⟨M, 0, none⟩ (.int .i64 (z + 1 + q)))) := Lib.hid ⟨x1.far _ _ hMT.out, x2.set 0 _, x3.far _ _ hMv.out, x4.setCell hMw.out _⟩
        clear x1 x2 x3 x4 fM cM
        generalize hW3 : wc.setCell ⟨M, 0, none⟩ (.int .i64 (z + 1 + q)) = W3 at hS1 ⊢
        replace hW3 := Lib.hid hW3
        clear hS0
        go_cut [7] from 24 to 93 (fun m wx => m = .int .i64 z9 ∧ wx = W3)
        case first =>
          by_cases hm : 4096 < z + 1 + q
          · have H9 := Lib.hid (show z9 = 4096 by rw [← hz9.out]; exact if_pos hm)
            go_wp2_with fail
            go_meet
            exact ⟨by rw [H9.out], rfl⟩
          · have H9 := Lib.hid (show z9 = z + 1 + q by rw [← hz9.out]; exact if_neg hm)
            go_wp2_with fail
            go_meet
            exact ⟨by rw [H9.out], rfl⟩
        case rest =>
          obtain ⟨rfl, rfl⟩ := hcut
          obtain ⟨x1, x2, x3, x4⟩ := hS1.out
          have c0 := x1.at 0 _ rfl
          have c1 := x1.at 1 _ rfl
          have f0 := x1.free 0
          have f1 := x1.free 1
          have hY0 : (y.tmod 2 == 1) = b0 := by
            rw [← hb0.out, Int.tmod_eq_emod_of_nonneg hy0]
            rw [Bool.eq_iff_iff]; simp
          have hY1 : ((y.tdiv 2).tmod 2 == 1) = b1 := by
            rw [← hb1.out, Int.tdiv_eq_ediv_of_nonneg hy0, Int.tmod_eq_emod_of_nonneg (by omega)]
            rw [Bool.eq_iff_iff]; simp
          have hY2 : (y % 2 == 1) = b0 := by
            rw [← hb0.out]
            rw [Bool.eq_iff_iff]; simp
          have hY3 : (y / 2 % 2 == 1) = b1 := by
            rw [← hb1.out]
            rw [Bool.eq_iff_iff]; simp
          replace x1 := Lib.hid x1
          replace x2 := Lib.hid x2
          replace x3 := Lib.hid x3
          replace x4 := Lib.hid x4
          go_upto_if 61 with fail
          go_cut [14, 15] from 24 to 93 (fun _ _ wx => St T M w w.heap.size (.slice a6 k p6) acc a3 e5 [.int .i64 (z + 1 + q), .int .i64 (vv), .bool b0, .int .i64 (0), .bool false] wx)
          case first =>
            cases b0 with
            | true =>
              go_wp2_with (go_at_call 19; (with_reducible refine (CV.out rfl _).mono ?_); rintro en w7 ⟨rfl, B7⟩; have hX7 := (x1.out.below B7).more (.cells #[.string a3, .int .i64 e5] 52); have hM7 := (x2.out.below B7).more (.cells #[.string a3, .int .i64 e5] 52); have g0 := hX7.at 0 _ rfl; have g1 := hX7.at 1 _ rfl; have g2 := hX7.free 0; have g3 := hX7.free 1; obtain ⟨WB, hWB⟩ : ∃ WB, ((w7.alloc (.cells #[.string a3, .int .i64 e5] 52)).setCell ⟨T, 0, none⟩ (.string a3)).setCell ⟨T, 1, none⟩ (.int .i64 e5) = WB := ⟨_, rfl⟩; have hXB := Lib.hid (show XB 52 WB T [.string a3, .int .i64 e5] by rw [← hWB]; exact (hX7.set 0 (.string a3)).set 1 (.int .i64 e5)); have hMB0 := (show XB 57 WB M _ by rw [← hWB]; exact (hM7.far ⟨T, 0, none⟩ (.string a3) hMT.out.symm).far ⟨T, 1, none⟩ (.int .i64 e5) hMT.out.symm); have hMB := Lib.hid hMB0; have hOB := Lib.hid (show OwnsR encT 5 57 WB w.heap.size (.slice a6 k p6) acc by rw [← hWB]; exact ((((x3.out.below B7).more (.cells #[.string a3, .int .i64 e5] 52)).far ⟨T, 0, none⟩ (.string a3) hgv.out).far ⟨T, 1, none⟩ (.int .i64 e5) hgv.out)); have hBB := Lib.hid (show Below w.heap.size w WB by rw [← hWB]; exact ((((below_next x4.out B7).alloc (Nat.le_trans x4.out.size B7.size) (.cells #[.string a3, .int .i64 e5] 52)).setCell (p := ⟨T, 0, none⟩) hzT (.string a3)).setCell (p := ⟨T, 1, none⟩) hzT (.int .i64 e5))); have m1 := hMB0.at 1 _ rfl; have m2 := hMB0.at 2 _ rfl; have n1 := hMB0.free 1; have n2 := hMB0.free 2; clear hX7 hM7 hMB0)
              go_meet
              exact ⟨(hXB.out.far _ _ hMT.out).far _ _ hMT.out, (hMB.out.set 1 _).set 2 _, (hOB.out.far _ _ hMv.out).far _ _ hMv.out, (hBB.out.setCell hMw.out _).setCell hMw.out _⟩
            | false =>
              obtain ⟨rfl, rfl, rfl⟩ := CV0.out rfl
              go_wp2_with fail
              go_meet
              exact hS1.out
          case rest =>
            replace hcut := Lib.hid hcut
            clear x1 x2 x3 x4 c0 c1 f0 f1 hS1 CV CV0 hY0 hY2
            obtain ⟨x1, x2, x3, x4⟩ := hcut.out
            cases b1 with
            | true =>
              have c0 := x1.at 0 _ rfl
              have c1 := x1.at 1 _ rfl
              have f0 := x1.free 0
              have f1 := x1.free 1
              replace x1 := Lib.hid x1
              replace x2 := Lib.hid x2
              replace x3 := Lib.hid x3
              replace x4 := Lib.hid x4
              go_upto_region 24 with (go_at_call 19; (with_reducible refine (CU.out rfl _).mono ?_); rintro en w7 ⟨rfl, B7⟩; have hX7 := (x1.out.below B7).more (.cells #[.string a4, .int .i64 e6] 52); have hM7 := (x2.out.below B7).more (.cells #[.string a4, .int .i64 e6] 52); have g0 := hX7.at 0 _ rfl; have g1 := hX7.at 1 _ rfl; have g2 := hX7.free 0; have g3 := hX7.free 1; obtain ⟨WB, hWB⟩ : ∃ WB, ((w7.alloc (.cells #[.string a4, .int .i64 e6] 52)).setCell ⟨T, 0, none⟩ (.string a4)).setCell ⟨T, 1, none⟩ (.int .i64 e6) = WB := ⟨_, rfl⟩; have hXB := Lib.hid (show XB 52 WB T [.string a4, .int .i64 e6] by rw [← hWB]; exact (hX7.set 0 (.string a4)).set 1 (.int .i64 e6)); have hMB0 := (show XB 57 WB M _ by rw [← hWB]; exact (hM7.far ⟨T, 0, none⟩ (.string a4) hMT.out.symm).far ⟨T, 1, none⟩ (.int .i64 e6) hMT.out.symm); have hMB := Lib.hid hMB0; have hOB := Lib.hid (show OwnsR encT 5 57 WB w.heap.size (.slice a6 k p6) acc by rw [← hWB]; exact ((((x3.out.below B7).more (.cells #[.string a4, .int .i64 e6] 52)).far ⟨T, 0, none⟩ (.string a4) hgv.out).far ⟨T, 1, none⟩ (.int .i64 e6) hgv.out)); have hBB := Lib.hid (show Below w.heap.size w WB by rw [← hWB]; exact ((((below_next x4.out B7).alloc (Nat.le_trans x4.out.size B7.size) (.cells #[.string a4, .int .i64 e6] 52)).setCell (p := ⟨T, 0, none⟩) hzT (.string a4)).setCell (p := ⟨T, 1, none⟩) hzT (.int .i64 e6))); have m1 := hMB0.at 1 _ rfl; have m2 := hMB0.at 2 _ rfl; have n1 := hMB0.free 1; have n2 := hMB0.free 2; clear hX7 hM7 hMB0)
              have CI1 := Lib.hid (within_any uu)
              have CI2 := Lib.hid (within_any vv)
              obtain ⟨d1, d2⟩ := wiN_bd uu
              obtain ⟨d3, d4⟩ := wiN_bd vv
              generalize hp1 : wiN uu = p1 at CI1 HN d1 d2 ⊢
              generalize hp2 : wiN vv = p2 at CI2 HN d3 d4 ⊢
              replace hp1 := Lib.hid hp1
              replace hp2 := Lib.hid hp2
              (first | rw [if_pos rfl] at HN | rw [if_pos trivial] at HN)
              have hwr : IntKind.i64.wrap (p1 + p2) = p1 + p2 := IntWalk.i64_in _ (by omega)
              have m1 := hMB.out.at 1 _ rfl
              have m3 := hMB.out.at 3 _ rfl
              have m4 := hMB.out.at 4 _ rfl
              have n3 := hMB.out.free 3
              have n4 := hMB.out.free 4
              have KA := Lib.hid (show (WB.setCell ⟨M, 3, none⟩ (.int .i64 (p1 + p2))).cell? ⟨M, 1, none⟩ = some (.int .i64 vv) from (hMB.out.set 3 _).at 1 _ rfl)
              have KB := Lib.hid (show ((WB.setCell ⟨M, 3, none⟩ (.int .i64 (p1 + p2))).setCell ⟨M, 4, none⟩ (.bool true)).cell? ⟨M, 1, none⟩ = some (.int .i64 vv) from ((hMB.out.set 3 _).set 4 _).at 1 _ rfl)
              have KC := Lib.hid m1
              (first | go_region_held3 (fun W => W.cell? ⟨M, 1, none⟩ = some (.int .i64 vv)) (first | with_reducible exact KC.out | with_reducible exact KA.out | with_reducible exact KB.out | exact KC.out | exact KA.out | exact KB.out) ((first
                | (go_at_call 20; (with_reducible refine (CI1.out _).mono ?_); rintro e w9 ⟨rfl, rfl⟩)
                | (go_at_call 20; (with_reducible refine (CI2.out _).mono ?_); rintro e w9 ⟨rfl, rfl⟩))) | fail)
              clear m1 m3 m4 n3 n4 KA KB KC CI1 CI2 hwr x1 x2 x3 x4 c0 c1 f0 f1 hcut CU CU0
              have hSq : Hid (St T M w w.heap.size (.slice a6 k p6) acc a4 e6 [.int .i64 (z + 1 + q), .int .i64 (vv), .bool b0, .int .i64 (p1 + p2), .bool true] (((WB.setCell ⟨M, 3, none⟩ (.int .i64 (p1 + p2))).setCell ⟨M, 4, none⟩ (.bool true)).drew)) := Lib.hid ⟨(hXB.out.far _ _ hMT.out).far _ _ hMT.out, (hMB.out.set 3 _).set 4 _, (hOB.out.far _ _ hMv.out).far _ _ hMv.out, ((hBB.out.setCell hMw.out _).setCell hMw.out _).drew⟩
              clear hXB hMB hOB hBB
              generalize hWq : ((WB.setCell ⟨M, 3, none⟩ (.int .i64 (p1 + p2))).setCell ⟨M, 4, none⟩ (.bool true)).drew = Wq at hSq ⊢
              replace hWq := Lib.hid hWq
              obtain ⟨y1, y2, y3, y4⟩ := hSq.out
              have t0 := y2.at 0 _ rfl
              have t1 := y2.at 1 _ rfl
              have t2 := y2.at 2 _ rfl
              have t3 := y2.at 3 _ rfl
              have t4 := y2.at 4 _ rfl
              have hY3' := Lib.hid (World.ownsRow.alloc y3 (.cells #[.int .i64 (z + 1 + q), .int .i64 vv, .bool b0, .int .i64 (p1 + p2), .bool true] 57))
              rw [HLn.out] at hY3'
              replace y1 := Lib.hid y1
              replace y2 := Lib.hid y2
              replace y3 := Lib.hid y3
              replace y4 := Lib.hid y4
              replace hSq := Lib.hid hSq
              go_wp2_with (at_builtin; refine wpList_append_own _ rfl _ _ 28 rfl w.heap.size 57 i0 (.agg #[.int .i64 0, .int .i64 0, .bool false, .int .i64 0, .bool false]) 5 40 Try.underlying28 hi hz0 hz1 hz2 rfl (by decide) _ _ _ rfl hY3'.out ⟨Wq.heap.size, 0, none⟩ 1 1 [.int .i64 (z + 1 + q), .int .i64 vv, .bool b0, .int .i64 (p1 + p2), .bool true] rfl rfl ?a1 ?a2 ?a3 ?a4 ?a5 ?_)
              case a1 => exact cells_one_new5 Wq _ _ _ _ _ _ _ rfl
              case a2 => exact (fun ww hww => by simp at hww; rcases hww with rfl | rfl | rfl | rfl | rfl <;> rfl)
              case a3 => unfold maxLen; omega
              case a4 => omega
              case a5 => have := y4.out.size; simp; omega
              intro v' w9 hown hgrow _
              have hb9 := Lib.hid ((y4.out.alloc y4.out.size (.cells #[.int .i64 (z + 1 + q), .int .i64 vv, .bool b0, .int .i64 (p1 + p2), .bool true] 57)).grown hgrow (by have := y4.out.size; simp; omega) (fun j hj => (World.ownsRow.lt hY3'.out j hj).1))
              have hX9 := Lib.hid (XB.kept (y1.out.more (.cells #[.int .i64 (z + 1 + q), .int .i64 vv, .bool b0, .int .i64 (p1 + p2), .bool true] 57)) hgrow hgv.out)
              have hO9 := Lib.hid (OwnsR.snoc (enc := encT) (l := acc) (x := ((z + 1 + q, (vv, b0), (p1 + p2, true)) : Tn)) HLn.out hown)
              have hL9 := Lib.hid (show (acc ++ [((z + 1 + q, (vv, b0), (p1 + p2, true)) : Tn)]).length = k + 1 by rw [List.length_append, HLn.out]; rfl)
              clear t0 t1 t2 t3 t4 hown hgrow y1 y2 y3 y4 hSq hY3'
              go_wp2_with fail
              go_roundw
              case rel => exact ⟨k + 1, _, z9, a4, e6, _, rfl, by go_num, rfl, by omega, hL9, by omega, hlN, by omega, by omega, by omega, hO9, hX9, hb9.out, HN⟩
              case measure => simp [intOf]; omega
            | false =>
              obtain ⟨rfl, rfl⟩ := CU0.out rfl
              (first | rw [if_neg (by decide)] at HN | rw [if_neg (by simp)] at HN)
              clear x1 x2 x3 x4 CU CU0
              have hSq : Hid (St T M w w.heap.size (.slice a6 k p6) acc a4 e6 [.int .i64 (z + 1 + q), .int .i64 (vv), .bool b0, .int .i64 (0), .bool false] wc) := Lib.hid hcut.out
              clear hcut
              generalize hWq : wc = Wq at hSq ⊢
              replace hWq := Lib.hid hWq
              obtain ⟨y1, y2, y3, y4⟩ := hSq.out
              have t0 := y2.at 0 _ rfl
              have t1 := y2.at 1 _ rfl
              have t2 := y2.at 2 _ rfl
              have t3 := y2.at 3 _ rfl
              have t4 := y2.at 4 _ rfl
              have hY3' := Lib.hid (World.ownsRow.alloc y3 (.cells #[.int .i64 (z + 1 + q), .int .i64 vv, .bool b0, .int .i64 (0), .bool false] 57))
              rw [HLn.out] at hY3'
              replace y1 := Lib.hid y1
              replace y2 := Lib.hid y2
              replace y3 := Lib.hid y3
              replace y4 := Lib.hid y4
              replace hSq := Lib.hid hSq
              go_wp2_with (at_builtin; refine wpList_append_own _ rfl _ _ 28 rfl w.heap.size 57 i0 (.agg #[.int .i64 0, .int .i64 0, .bool false, .int .i64 0, .bool false]) 5 40 Try.underlying28 hi hz0 hz1 hz2 rfl (by decide) _ _ _ rfl hY3'.out ⟨Wq.heap.size, 0, none⟩ 1 1 [.int .i64 (z + 1 + q), .int .i64 vv, .bool b0, .int .i64 (0), .bool false] rfl rfl ?b1 ?b2 ?b3 ?b4 ?b5 ?_)
              case b1 => exact cells_one_new5 Wq _ _ _ _ _ _ _ rfl
              case b2 => exact (fun ww hww => by simp at hww; rcases hww with rfl | rfl | rfl | rfl | rfl <;> rfl)
              case b3 => unfold maxLen; omega
              case b4 => omega
              case b5 => have := y4.out.size; simp; omega
              intro v' w9 hown hgrow _
              have hb9 := Lib.hid ((y4.out.alloc y4.out.size (.cells #[.int .i64 (z + 1 + q), .int .i64 vv, .bool b0, .int .i64 (0), .bool false] 57)).grown hgrow (by have := y4.out.size; simp; omega) (fun j hj => (World.ownsRow.lt hY3'.out j hj).1))
              have hX9 := Lib.hid (XB.kept (y1.out.more (.cells #[.int .i64 (z + 1 + q), .int .i64 vv, .bool b0, .int .i64 (0), .bool false] 57)) hgrow hgv.out)
              have hO9 := Lib.hid (OwnsR.snoc (enc := encT) (l := acc) (x := ((z + 1 + q, (vv, b0), (0, false)) : Tn)) HLn.out hown)
              have hL9 := Lib.hid (show (acc ++ [((z + 1 + q, (vv, b0), (0, false)) : Tn)]).length = k + 1 by rw [List.length_append, HLn.out]; rfl)
              clear t0 t1 t2 t3 t4 hown hgrow y1 y2 y3 y4 hSq hY3'
              go_wp2_with fail
              go_roundw
              case rel => exact ⟨k + 1, _, z9, a4, e6, _, rfl, by go_num, rfl, by omega, hL9, by omega, hlN, by omega, by omega, by omega, hO9, hX9, hb9.out, HN⟩
              case measure => simp [intOf]; omega
    · have hfin : dTs (n - k) acc z t e2 = (acc, t, e2) := by
        by_cases hlt : k < n
        · exact dTs_err _ _ _ _ (fun h => hgo ⟨hlt, h⟩)
        · rw [show n - k = 0 by omega]; rfl
      have hDD := HE.out
      rw [hfin] at hDD
      have HF := Lib.hid (HDE.out _ _ _ hDD.symm)
      have hk4 : (k : Int) ≤ 4096 := by omega
      have hcase : ((k : Int) < (n : Int) ∧ (e2 == 0) = false) ∨ ¬ (k : Int) < (n : Int) := by
        by_cases hlt : k < n
        · exact .inl ⟨by omega, by simpa using fun h => hgo ⟨hlt, h⟩⟩
        · exact .inr (by omega)
      obtain ⟨a6, p6, rfl, hA⟩ := OwnsR.arg encT_len HO.out
      have hln : acc.length ≤ 2000 := by have := HLn.out; omega
      have CT := Lib.hid (fun W (h : Below wr.heap.size wr W) => rtext23_any a6 acc.length p6 acc W (hA.below h) hln)
      have CE := Lib.hid (fun W => refEndR_any t e2 W)
      obtain ⟨xe, hxe⟩ : ∃ xe, rEnd t e2 = xe := ⟨_, rfl⟩
      rw [hxe] at HF CE
      replace hxe := Lib.hid hxe
      replace hA := Lib.hid hA
      clear hgo hfin hDD HE HDE HL hln
      by_cases h0 : xe = 0
      · have d1 : (xe != 0) = false := by simpa using h0
        have d2 : (xe == 0) = true := by simpa using h0
        obtain ⟨X, hX⟩ : ∃ X, ofL (textD acc) = X := ⟨_, rfl⟩
        rw [hX] at HF CT
        replace hX := Lib.hid hX
        by_cases hq : X = s
        · have HF2 := Lib.hid (show R = (acc, 0) by rw [HF.out, if_pos ⟨h0, hq⟩])
          replace h0 := Lib.hid h0
          subst hq
          rcases hcase with ⟨hkz, d⟩ | hkz
          all_goals
            go_wp2_with (first | (go_at_call 21; (with_reducible refine (CE.out wr).mono ?_); rintro en w5 ⟨rfl, b5⟩) | (go_at_call 9; (with_reducible refine (CT.out _ b5).mono ?_); rintro en w6 ⟨rfl, b6⟩))
            go_ret2
            exact ⟨_, _, _, by rw [HF2.out]; rfl, by rw [HF2.out]; exact hA.out.below (below_next b5 b6), below_next hbl (below_next b5 b6)⟩
        · have HF2 := Lib.hid (show R = ([], 3) by rw [HF.out, if_neg (fun h => hq h.2)])
          have d3 : (X.toList == s.toList) = false := by
            rw [Bool.eq_false_iff]
            intro h
            exact hq (by have h2 : X.toList = s.toList := by simpa using h
                         rw [ByteArray.toList_eq, ByteArray.toList_eq] at h2
                         exact ba_ext h2)
          replace h0 := Lib.hid h0
          rcases hcase with ⟨hkz, d⟩ | hkz
          all_goals
            go_wp2_with (first | (go_at_call 21; (with_reducible refine (CE.out wr).mono ?_); rintro en w5 ⟨rfl, b5⟩) | (go_at_call 9; (with_reducible refine (CT.out _ b5).mono ?_); rintro en w6 ⟨rfl, b6⟩))
            go_ret2
            exact ⟨_, _, _, by rw [HF2.out]; rfl, by rw [HF2.out]; exact RArg.nil _ _ _, below_next hbl (below_next b5 b6)⟩
      · have d1 : (xe != 0) = true := by simpa using h0
        have d2 : (xe == 0) = false := by simpa using h0
        have HF2 := Lib.hid (show R = ([], 3) by rw [HF.out, if_neg (fun h => h0 h.1)])
        replace h0 := Lib.hid h0
        rcases hcase with ⟨hkz, d⟩ | hkz
        all_goals
          go_wp2_with (first | (go_at_call 21; (with_reducible refine (CE.out wr).mono ?_); rintro en w5 ⟨rfl, b5⟩) | (go_at_call 9; (with_reducible refine (CT.out _ b5).mono ?_); rintro en w6 ⟨rfl, b6⟩))
          go_ret2
          exact ⟨_, _, _, by rw [HF2.out]; rfl, by rw [HF2.out]; exact RArg.nil _ _ _, below_next hbl b5⟩
end Go.Proofs.Ytnjlbgnojlmmlaa
