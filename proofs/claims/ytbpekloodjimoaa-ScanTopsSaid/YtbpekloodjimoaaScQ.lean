/-
  SCAN: contract of the document's Page.
-/
import Derived.Test.YtbpekloodjimoaaScP
import Derived.Deep.RegionLaw
import Derived.Deep.AppendLies
import Derived.BigQuiet
import Derived.Deep.QuietTactic
namespace Go.Proofs.Ytbpekloodjimoaa
open Go.RowKit Go.Shelf

theorem drop_plc : ∀ (l : List Sp) (e k : Int), tblF e l = true → l.drop (plc l k) = l.filter (fun p => decide (k ≤ p.1))
  | [], _, _, _ => rfl
  | p :: t, e, k, h => by
    rw [tblF_cons] at h
    unfold plc
    by_cases hp : p.1 < k
    · rw [if_pos hp, List.filter_cons, if_neg (by simp; omega), ← drop_plc t p.1 k h.2.2]
      rfl
    · rw [if_neg hp]
      show p :: t = _
      symm
      rw [List.filter_eq_self]
      intro q hq
      rcases List.mem_cons.1 hq with rfl | hq
      · simp; omega
      · have := (tblF_pw t p.1 h.2.2).1 q hq
        simp; omega
def passB (on : List Sp) (af : Int) (p : Sp) : Bool := decide (af < p.1) && hasB on p.1
theorem behP_filter {l on : List Sp} {af : Int} (h1 : tblB l = true) (h2 : chkB on = true) : behP l on af = l.filter (passB on af) := by
  unfold behP
  rw [drop_plc _ (-1) _ (clip_tbl l on)]
  unfold clipP
  rw [if_pos ⟨h1, h2⟩, List.filter_filter]
  congr 1
def PagedPost (a3 : Option Addr) (r : PageR) (w : World) (e : Ending) (w' : World) : Prop := ∃ (a : Option Addr) (n c : Nat) (a2 : Option Addr) (n2 c2 : Nat),
  e = .returned (.agg #[.slice a n c, .slice a2 n2 c2, .int .i64 r.af, .int .i64 r.lim, .bool r.more, .int .i64 r.e]) ∧ Arg w' a n c r.L ∧ Arg w' a2 n2 c2 r.on ∧ (r.L ≠ [] → ∃ g o, a = some ⟨g, o, none⟩ ∧ w.heap.size ≤ g) ∧ (a2 = a3 ∨ r.on = []) ∧ Below w.heap.size w w'
theorem pgd_ret {r r' : PageR} {x y : Value} (h : r = r') : Ending.returned (.agg #[x, y, .int .i64 r'.af, .int .i64 r'.lim, .bool r'.more, .int .i64 r'.e]) = .returned (.agg #[x, y, .int .i64 r.af, .int .i64 r.lim, .bool r.more, .int .i64 r.e]) := by rw [h]
theorem cell6 {W : World} {b : Nat} {x y z u v s : Value} {t : TypeId} (h : W.heap[b]? = some (.cells #[x, y, z, u, v, s] t)) :
    W.cell? ⟨b, 0, none⟩ = some x ∧ W.cell? ⟨b, 1, none⟩ = some y ∧ W.cell? ⟨b, 2, none⟩ = some z ∧ W.cell? ⟨b, 3, none⟩ = some u ∧ W.cell? ⟨b, 4, none⟩ = some v ∧ W.cell? ⟨b, 5, none⟩ = some s :=
  ⟨cell_of_row _ _ 0 _ _ _ h, cell_of_row _ _ 1 _ _ _ h, cell_of_row _ _ 2 _ _ _ h, cell_of_row _ _ 3 _ _ _ h, cell_of_row _ _ 4 _ _ _ h, cell_of_row _ _ 5 _ _ _ h⟩
theorem froz6 {W : World} {b : Nat} {x y z u v s : Value} {t : TypeId} (h : W.heap[b]? = some (.cells #[x, y, z, u, v, s] t)) :
    W.frozen? ⟨b, 0, none⟩ = false ∧ W.frozen? ⟨b, 1, none⟩ = false ∧ W.frozen? ⟨b, 2, none⟩ = false ∧ W.frozen? ⟨b, 3, none⟩ = false ∧ W.frozen? ⟨b, 4, none⟩ = false ∧ W.frozen? ⟨b, 5, none⟩ = false :=
  ⟨frozen_of_row _ _ 0 _ _ h, frozen_of_row _ _ 1 _ _ h, frozen_of_row _ _ 2 _ _ h, frozen_of_row _ _ 3 _ _ h, frozen_of_row _ _ 4 _ _ h, frozen_of_row _ _ 5 _ _ h⟩
theorem cellD2S (w : World) (x y : Value) (t : TypeId) : ∀ j u, [x, y][j]? = some u → ((w.alloc (.cells #[x, y] t)).drew).cell? ((⟨w.heap.size, 0, none⟩ : Addr).add j) = some u := by
  intro j u hj
  have hA : ∀ i, ((w.alloc (.cells #[x, y] t)).drew).cell? ⟨w.heap.size, i, none⟩ = #[x, y][i]? := fun i => cell_of_row _ _ _ _ _ _ (heap_alloc_new w _)
  match j, hj with
  | 0, hj => simp at hj; subst hj; simp [Addr.add]
  | 1, hj => simp at hj; subst hj; simp [Addr.add]
theorem two_i64S (x y : Int) : ∀ u ∈ [Value.int .i64 x, Value.int .i64 y], u.oneCell' = true := by
  intro u hu
  simp at hu
  rcases hu with rfl | rfl <;> rfl

theorem nextAf_snoc (af : Int) (O : List Sp) (x y : Int) : nextAf af (O ++ [(x, y)]) = x := by
  unfold nextAf
  rw [if_neg (by simp), List.getD_eq_getElem?_getD]
  simp
set_option maxRecDepth 100000 in
set_option maxHeartbeats 2000000 in
theorem rpage_good (a : Option Addr) (n c : Nat) (l : List Sp) (a3 : Option Addr) (n3 c3 : Nat) (on : List Sp) (af : Int) (k : Nat) (w : World) (hL : Arg w a n c l) (hO : Arg w a3 n3 c3 on) (zl : l.length ≤ 100000) (h1 : tblB l = true) (h2 : curB on af (k : Int) = true) :
    Calls Try.prog 9 #[.slice a n c, .agg #[.slice a3 n3 c3, .int .i64 af, .int .i64 (k : Int)]] w (PagedPost a3 ⟨(l.filter (passB on af)).take k, on, nextAf af ((l.filter (passB on af)).take k), (k : Int), decide (k < (l.filter (passB on af)).length), 0⟩ w) := by
  obtain ⟨i0, hi0, hz0, hz1, hz2⟩ := info_parts Try.infoRPair
  obtain ⟨W1, hW1⟩ : ∃ W1, w.alloc (.cells #[.slice a3 n3 c3, .int .i64 af, .int .i64 (k : Int)] 35) = W1 := ⟨_, rfl⟩
  have bw : Below w.heap.size w W1 := by rw [← hW1]; exact (Below.refl _ _).alloc (Nat.le_refl _) _
  have g1 : w.heap.size < W1.heap.size := by rw [← hW1]; simp
  have hr1 : W1.heap[w.heap.size]? = some (.cells #[.slice a3 n3 c3, .int .i64 af, .int .i64 (k : Int)] 35) := by rw [← hW1]; exact heap_alloc_new _ _
  obtain ⟨W2, hW2⟩ : ∃ W2, W1.alloc (.cells #[.slice none 0 0, .slice none 0 0, .int .i64 0, .int .i64 0, .bool false, .int .i64 0] 37) = W2 := ⟨_, rfl⟩
  have b2 : Below W1.heap.size W1 W2 := by rw [← hW2]; exact (Below.refl _ _).alloc (Nat.le_refl _) _
  have g2 : W1.heap.size < W2.heap.size := by rw [← hW2]; simp
  have hr2 : W2.heap[W1.heap.size]? = some (.cells #[.slice none 0 0, .slice none 0 0, .int .i64 0, .int .i64 0, .bool false, .int .i64 0] 37) := by rw [← hW2]; exact heap_alloc_new _ _
  have hr12 := (b2.block _ g1).trans hr1
  have KX := Lib.hid (fun W (h : Below W2.heap.size W2 W) => (h.block _ (Nat.lt_trans g1 g2)).trans hr12)
  have KR := Lib.hid (fun W (h : Below W2.heap.size W2 W) => (h.block _ g2).trans hr2)
  obtain ⟨q0, q1, q2⟩ := cell3 hr12
  have HL := Lib.hid ((hL.below bw).below b2)
  have HO := Lib.hid ((hO.below bw).below b2)
  have TC := Lib.hid (fun W (h : Below W2.heap.size W2 W) => h1 ▸ rtcheck_any a n c l W (HL.out.below h))
  have IC := Lib.hid (fun W (h : Below W2.heap.size W2 W) => h2 ▸ rcur_any a3 n3 c3 on af (k : Int) W (HO.out.below h))
  have HB := Lib.hid (Below.refl W2.heap.size W2)
  have hk500 := (curB_iff _ _ _).1 h2
  have hk5 : k ≤ 500 ∧ 1 ≤ k := by omega
  have hn := Lib.hid hL.1
  have hn1 : n ≤ 100000 := by have := hL.1; omega
  have hnz : (n : Int) ≤ 100000 := by omega
  have B12 := Lib.hid (below_next bw b2)
  have HO0 := Lib.hid hO
  obtain ⟨f, hf⟩ : ∃ f, passB on af = f := ⟨_, rfl⟩
  rw [hf]
  have HF := Lib.hid (fun (x y : Int) => (show f (x, y) = (decide (af < x) && hasB on x) by rw [← hf]; rfl))
  clear hf
  clear hL hO hr1 hr2 hr12 h1 h2 hk500
  go_enter Try.func9, Try.ntmps9
  go_upto_region 3 with (first | (go_at_call 28; (with_reducible refine (TC.out _ HB.out).mono ?_); rintro e wf ⟨rfl, hbf⟩; replace HB := Lib.hid (below_next HB.out hbf); clear hbf; obtain ⟨q0, q1, q2⟩ := cell3 (KX.out _ HB.out)) | (go_at_call 29; (with_reducible refine (IC.out _ HB.out).mono ?_); rintro e wf ⟨rfl, hbf⟩; replace HB := Lib.hid (below_next HB.out hbf); clear hbf; obtain ⟨q0, q1, q2⟩ := cell3 (KX.out _ HB.out)))
  obtain ⟨W3, hW3⟩ : ∃ W3, wf = W3 := ⟨_, rfl⟩
  rw [hW3] at HB q0 q1 q2 ⊢
  clear hW3
  have hs3 := HB.out.size
  go_wp2_with fail
  generalize hW4 : W3.alloc (.cells #[.slice none 0 0, .slice a3 n3 c3, .int .i64 af, .int .i64 (k : Int), .bool false, .int .i64 0] 37) = W4
  have b4 : Below W3.heap.size W3 W4 := by rw [← hW4]; exact (Below.refl _ _).alloc (Nat.le_refl _) _
  have g4 : W4.heap.size = W3.heap.size + 1 := by rw [← hW4]; simp
  have hr4 : W4.heap[W3.heap.size]? = some (.cells #[.slice none 0 0, .slice a3 n3 c3, .int .i64 af, .int .i64 (k : Int), .bool false, .int .i64 0] 37) := by rw [← hW4]; exact heap_alloc_new _ _
  have G4 := Lib.hid g4
  have hg4 : W3.heap.size < W4.heap.size := by omega
  clear g4
  have HR4 := Lib.hid hr4
  have B24 := Lib.hid (below_next HB.out b4)
  clear hr4
  replace hW4 := Lib.hid hW4
  replace hW1 := Lib.hid hW1
  replace hW2 := Lib.hid hW2
  go_loopw [6] (fun i wr => ∃ (j : Nat), i = .int .i64 (j : Int) ∧ j ≤ n ∧ Hid (∃ v, wr.ownsRow W4.heap.size 75 2 v ((l.take j).filter f).length (flatP ((l.take j).filter f)) ∧ wr.heap[W3.heap.size]? = some (.cells #[v, .slice a3 n3 c3, .int .i64 (nextAf af ((l.take j).filter f)), .int .i64 (k : Int), .bool false, .int .i64 0] 37) ∧ Below W3.heap.size W4 wr ∧ W4.heap.size ≤ wr.heap.size ∧ ((l.take j).filter f).length ≤ k))
    (fun i _ => n - (intOf i).toNat)
  case atStart => exact ⟨0, rfl, Nat.zero_le _, Lib.hid ⟨_, ⟨rfl, .inl ⟨rfl, rfl⟩⟩, HR4.out, Below.refl _ _, Nat.le_refl _, Nat.zero_le _⟩⟩
  case round =>
    obtain ⟨j, rfl, hj, HI⟩ := hrel
    obtain ⟨v, ho, hb2, hbl, hsz, hOk⟩ := HI.out
    clear HI
    have hb24 : Below W2.heap.size W2 wr := B24.out.trans (hbl.mono (by omega))
    obtain ⟨q0, q1, q2⟩ := cell3 (KX.out _ hb24)
    have hOr := Lib.hid (HO.out.below hb24)
    have hgw : w.heap.size < wr.heap.size := by omega
    by_cases hlt : j < n
    · have hjl : j < l.length := by rw [← hn.out]; exact hlt
      have hjz : (j : Int) < (n : Int) := by omega
      obtain ⟨b, off, e, hb0, d0', d1'⟩ := HL.out.2.2.2.2 j hjl
      subst e
      have d0 := (hb24.cell (p := ⟨b, off + j * 2, none⟩) hb0).trans d0'
      have d1 := (hb24.cell (p := ⟨b, off + j * 2 + 1, none⟩) hb0).trans d1'
      have hb : b < wr.heap.size := by omega
      have hbg : b < W3.heap.size := by omega
      have d4 := (B24.out.cell (p := ⟨b, off + j * 2, none⟩) hb0).trans d0'
      clear d0' d1'
      have HTF := Lib.hid (take_filter (q := f) hjl)
      obtain ⟨s, hs⟩ : ∃ s, l.getD j (0, 0) = s := ⟨_, rfl⟩
      rw [hs] at d0 d1 d4 HTF
      have HS := Lib.hid hs
      clear hs
      obtain ⟨x, y⟩ := s
      dsimp only at d0 d1 d4
      have hfx := HF.out x y
      obtain ⟨O, hO⟩ : ∃ O, (l.take j).filter f = O := ⟨_, rfl⟩
      rw [hO] at ho hb2 hOk HTF
      have HOO := Lib.hid ho
      have HB2 := Lib.hid hb2
      have HOE := Lib.hid hO
      clear ho hb2 hO
      by_cases hx : x ≤ af
      · have hN := Lib.hid (show (l.take (j + 1)).filter f = O by
          rw [HTF.out, hfx, decide_eq_false (by omega)]; simp)
        clear hfx
        go_wp2_with fail
        go_quiet (fail)
        go_wp2_with fail
        go_roundw
        case rel => exact ⟨j + 1, by go_num, by omega, Lib.hid (by rw [hN.out]; exact ⟨v, row_below HOO.out (below_drewN (Below.refl _ _) _), HB2.out, below_drewN hbl _, hsz, hOk⟩)⟩
        case measure => simp [intOf]; omega
      · cases hhas : hasB on x
        · have hN := Lib.hid (show (l.take (j + 1)).filter f = O by
            rw [HTF.out, hfx, hhas]; simp)
          clear hfx
          go_upto_region 7 with fail
          go_cut [42] from 24 to 41 (fun tv wx => tv = .bool true ∧ Below wr.heap.size wr wx)
          case first =>
            have RHX := Lib.hid (fun W (hb : Below wr.heap.size wr W) => (show Calls Try.prog 30 #[.slice a3 n3 c3, .int .i64 x] W (Gives W (.bool false)) from by
              have := rhas_any a3 n3 c3 on x W (hOr.out.below hb)
              rwa [hhas] at this))
            have HBD : Below wr.heap.size wr wr := Below.refl _ _
            have KK := Lib.hid (fun W (h : Below wr.heap.size wr W) => (show W.cell? ⟨w.heap.size, 0, none⟩ = some (.slice a3 n3 c3) ∧ W.cell? ⟨w.heap.size, 1, none⟩ = some (.int .i64 af) ∧ W.cell? ⟨b, off + j * 2, none⟩ = some (.int .i64 x) from ⟨(h.cell (p := ⟨w.heap.size, 0, none⟩) hgw).trans q0, (h.cell (p := ⟨w.heap.size, 1, none⟩) hgw).trans q1, (h.cell (p := ⟨b, off + j * 2, none⟩) hb).trans d0⟩))
            go_region_held3 (fun W => W.cell? ⟨w.heap.size, 0, none⟩ = some (.slice a3 n3 c3) ∧ W.cell? ⟨w.heap.size, 1, none⟩ = some (.int .i64 af) ∧ W.cell? ⟨b, off + j * 2, none⟩ = some (.int .i64 x)) (exact KK.out _ (by repeat (first | with_reducible exact HBD | with_reducible refine toDS ?_ | with_reducible refine Below.alloc ?_ (by first | omega | (simp; omega)) _))) ((first | (go_at_call 30; (with_reducible refine (RHX.out _ (by repeat (first | with_reducible exact HBD | with_reducible refine toDS ?_ | with_reducible refine Below.alloc ?_ (by first | omega | (simp; omega)) _))).mono ?_); rintro e wz ⟨rfl, hbz⟩; have HBD := below_next (w := wr) (by repeat (first | with_reducible exact HBD | with_reducible refine toDS ?_ | with_reducible refine Below.alloc ?_ (by first | omega | (simp; omega)) _)) hbz) | fail))
            all_goals
              go_wp2_with fail
              go_meet
              exact ⟨rfl, (by repeat (first | with_reducible exact HBD | with_reducible refine toDS ?_ | with_reducible refine Below.alloc ?_ (by first | omega | (simp; omega)) _))⟩
          case rest =>
            obtain ⟨rfl, hbc⟩ := hcut
            have hs2 := hbc.size
            have hgpw : W3.heap.size < wr.heap.size := by omega
            obtain ⟨ho', hb2'⟩ : wc.ownsRow W4.heap.size 75 2 v O.length (flatP O) ∧ wc.heap[W3.heap.size]? = some (.cells #[v, .slice a3 n3 c3, .int .i64 (nextAf af O), .int .i64 (k : Int), .bool false, .int .i64 0] 37) := ⟨row_below HOO.out hbc, (hbc.block _ hgpw).trans HB2.out⟩
            have hbl' : Below W3.heap.size W4 wc := hbl.trans (hbc.mono (by omega))
            have hsz' : W4.heap.size ≤ wc.heap.size := by omega
            clear hhas
            go_wp2_with fail
            go_roundw
            case rel => exact ⟨j + 1, by go_num, by omega, Lib.hid (by rw [hN.out]; exact ⟨v, ho', hb2', hbl', hsz', hOk⟩)⟩
            case measure => simp [intOf]; omega
        · have hN := Lib.hid (show (l.take (j + 1)).filter f = O ++ [(x, y)] by
            rw [HTF.out, hfx, hhas, decide_eq_true (show af < x by omega)]; simp)
          have hfxy : f (x, y) = true := by rw [hfx, hhas, decide_eq_true (show af < x by omega)]; rfl
          clear hfx
          go_upto_region 7 with fail
          go_cut [42] from 24 to 41 (fun tv wx => tv = .bool false ∧ Below wr.heap.size wr wx)
          case first =>
            have RHX := Lib.hid (fun W (hb : Below wr.heap.size wr W) => (show Calls Try.prog 30 #[.slice a3 n3 c3, .int .i64 x] W (Gives W (.bool true)) from by
              have := rhas_any a3 n3 c3 on x W (hOr.out.below hb)
              rwa [hhas] at this))
            have HBD : Below wr.heap.size wr wr := Below.refl _ _
            have KK := Lib.hid (fun W (h : Below wr.heap.size wr W) => (show W.cell? ⟨w.heap.size, 0, none⟩ = some (.slice a3 n3 c3) ∧ W.cell? ⟨w.heap.size, 1, none⟩ = some (.int .i64 af) ∧ W.cell? ⟨b, off + j * 2, none⟩ = some (.int .i64 x) from ⟨(h.cell (p := ⟨w.heap.size, 0, none⟩) hgw).trans q0, (h.cell (p := ⟨w.heap.size, 1, none⟩) hgw).trans q1, (h.cell (p := ⟨b, off + j * 2, none⟩) hb).trans d0⟩))
            go_region_held3 (fun W => W.cell? ⟨w.heap.size, 0, none⟩ = some (.slice a3 n3 c3) ∧ W.cell? ⟨w.heap.size, 1, none⟩ = some (.int .i64 af) ∧ W.cell? ⟨b, off + j * 2, none⟩ = some (.int .i64 x)) (exact KK.out _ (by repeat (first | with_reducible exact HBD | with_reducible refine toDS ?_ | with_reducible refine Below.alloc ?_ (by first | omega | (simp; omega)) _))) ((first | (go_at_call 30; (with_reducible refine (RHX.out _ (by repeat (first | with_reducible exact HBD | with_reducible refine toDS ?_ | with_reducible refine Below.alloc ?_ (by first | omega | (simp; omega)) _))).mono ?_); rintro e wz ⟨rfl, hbz⟩; have HBD := below_next (w := wr) (by repeat (first | with_reducible exact HBD | with_reducible refine toDS ?_ | with_reducible refine Below.alloc ?_ (by first | omega | (simp; omega)) _)) hbz) | fail))
            all_goals
              go_wp2_with fail
              go_meet
              exact ⟨rfl, (by repeat (first | with_reducible exact HBD | with_reducible refine toDS ?_ | with_reducible refine Below.alloc ?_ (by first | omega | (simp; omega)) _))⟩
          case rest =>
            obtain ⟨rfl, hbc⟩ := hcut
            have hs2 := hbc.size
            have hgpw : W3.heap.size < wr.heap.size := by omega
            obtain ⟨ho', hb2'⟩ : wc.ownsRow W4.heap.size 75 2 v O.length (flatP O) ∧ wc.heap[W3.heap.size]? = some (.cells #[v, .slice a3 n3 c3, .int .i64 (nextAf af O), .int .i64 (k : Int), .bool false, .int .i64 0] 37) := ⟨row_below HOO.out hbc, (hbc.block _ hgpw).trans HB2.out⟩
            have hbl' : Below W3.heap.size W4 wc := hbl.trans (hbc.mono (by omega))
            have hsz' : W4.heap.size ≤ wc.heap.size := by omega
            clear hhas
            have HBF := Lib.hid (show Below w.heap.size w wc from below_next B12.out (hb24.trans (hbc.mono (by omega))))
            by_cases hlen : O.length = k
            · have HFIN := Lib.hid (show (⟨(l.filter f).take k, on, nextAf af ((l.filter f).take k), (k : Int), decide (k < (l.filter f).length), 0⟩ : PageR) = ⟨O, on, nextAf af O, (k : Int), true, 0⟩ by
                have e1 : l.filter f = O ++ (l.drop j).filter f := by
                  rw [← HOE.out, ← List.filter_append, List.take_append_drop]
                have e2 : 0 < ((l.drop j).filter f).length := by
                  have hd : l.drop j = l.getD j (0, 0) :: l.drop (j + 1) := by
                    rw [List.drop_eq_getElem_cons hjl, List.getD_eq_getElem?_getD, List.getElem?_eq_getElem hjl]
                    rfl
                  rw [hd, HS.out, List.filter_cons, if_pos hfxy]
                  simp
                have e3 : (l.filter f).take k = O := by rw [e1, ← hlen, List.take_left']; rfl
                have e4 : k < (l.filter f).length := by rw [e1, List.length_append]; omega
                rw [e3, decide_eq_true e4])
              have HLEN := Lib.hid hlen
              obtain ⟨aO, cO, hv, _, _, _, hnw⟩ := (ownsP_of_row ho' rfl).arg
              have HNW := Lib.hid (show O ≠ [] → ∃ g o, aO = some ⟨g, o, none⟩ ∧ w.heap.size ≤ g from fun q => by obtain ⟨g, e, hg, _⟩ := hnw q; exact ⟨g, 0, e, by omega⟩)
              clear hnw
              rw [hlen] at hv ho'
              subst hv
              have HROW := Lib.hid ho'
              obtain ⟨z0, z1, z2, z3, z4, z5⟩ := cell6 hb2'
              obtain ⟨f0, f1, f2, f3, f4, f5⟩ := froz6 hb2'
              have hkr := KR.out _ (hb24.trans (hbc.mono (by omega)))
              obtain ⟨y0, y1, y2, y3, y4, y5⟩ := cell6 hkr
              obtain ⟨e0, e1, e2, e3, e4, e5⟩ := froz6 hkr
              have hq := cell3 (KX.out _ (hb24.trans (hbc.mono (by omega))))
              obtain ⟨u0, u1, u2⟩ := hq
              have hne1 : ¬ W1.heap.size = W3.heap.size := by omega
              have hne2 : ¬ W3.heap.size = W1.heap.size := by omega
              clear ho' hb2' hkr hlen hfxy
              go_wp2_with fail
              exact bodyPost_ret (v := .agg #[.slice aO k cO, .slice a3 n3 c3, .int .i64 (nextAf af O), .int .i64 (k : Int), .bool true, .int .i64 0]) (by simp [results, Try.results9, go_sem, y0, y1, y2, y3, y4, y5]) rfl ⟨aO, _, cO, a3, n3, c3, pgd_ret (r' := ⟨O, on, nextAf af O, (k : Int), true, 0⟩) HFIN.out, (by rw [HFIN.out]; exact (show Arg _ aO k cO O from Arg.of_own (ownsP_of_row (t := 75) (base := W4.heap.size) (n := k) (l := O) (by repeat (first | with_reducible exact HROW.out | with_reducible refine ownsRow_setCell_below ?_ (by dsimp only; omega) _)) HLEN.out.symm) HLEN.out.symm)), (by rw [HFIN.out]; exact HO0.out.below (by repeat (first | with_reducible exact HBF.out | with_reducible refine Below.setCell ?_ (by dsimp only; omega) _))), (by rw [HFIN.out]; exact HNW.out), .inl rfl, (by repeat (first | with_reducible exact HBF.out | with_reducible refine Below.setCell ?_ (by dsimp only; omega) _))⟩
            · have hlenz : ((O.length : Int) == (k : Int)) = false := by simp; omega
              obtain ⟨aO, cO, hv, _⟩ := (ownsP_of_row ho' rfl).arg
              subst hv
              obtain ⟨z0, z1, z2, z3, z4, z5⟩ := cell6 hb2'
              obtain ⟨u0, u1, u2⟩ := cell3 (KX.out _ (hb24.trans (hbc.mono (by omega))))
              have dc := (hbc.cell (p := ⟨b, off + j * 2, none⟩) hb).trans d0
              have dd := (hbc.cell (p := ⟨b, off + j * 2 + 1, none⟩) hb).trans d1
              have hbwc : b < wc.heap.size := by omega
              have A0 : ∀ o, (wc.alloc o).cell? ⟨b, off + j * 2, none⟩ = some (.int .i64 x) := fun o => (World.cell?_alloc_lt _ _ ⟨b, off + j * 2, none⟩ hbwc).trans dc
              have A1 : ∀ o, (wc.alloc o).cell? ⟨b, off + j * 2 + 1, none⟩ = some (.int .i64 y) := fun o => (World.cell?_alloc_lt _ _ ⟨b, off + j * 2 + 1, none⟩ hbwc).trans dd
              have A3 : ∀ o, (wc.alloc o).cell? ⟨W3.heap.size, 0, none⟩ = some (.slice aO O.length cO) := fun o => (World.cell?_alloc_lt _ _ ⟨W3.heap.size, 0, none⟩ (show W3.heap.size < _ by omega)).trans z0
              have HD := Lib.hid (fun o => (ho'.alloc o).drew)
              have HG := Lib.hid (fun o w1 (hg : ((wc.alloc o).drew).grownBy w1 (Value.slice aO O.length cO).ownBlock) => (show w1.heap[W3.heap.size]? = some (.cells #[.slice aO O.length cO, .slice a3 n3 c3, .int .i64 (nextAf af O), .int .i64 (k : Int), .bool false, .int .i64 0] 37) ∧ Below W3.heap.size W4 w1 ∧ W4.heap.size ≤ w1.heap.size from by
                have hlt2 := ho'.lt
                have z : ((wc.alloc o).drew).heap.size = wc.heap.size + 1 := by simp
                refine ⟨(hg.block W3.heap.size (by rw [z]; omega) (fun e => by have := (hlt2 _ e.symm).1; omega)).trans ((heap_alloc_old wc o (by omega)).trans hb2'), ?_, Nat.le_trans (by rw [z]; omega) hg.size⟩
                exact ((hbl'.alloc (by omega) o).drew).grown hg (by rw [z]; omega) (fun g e => by have := (hlt2 g e).1; omega)))
              have B63 := Lib.hid (show O.length + 1 ≤ maxLen by unfold maxLen; omega)
              have BBY := Lib.hid (show (O.length + 1) * 16 ≤ 140737488355328 by omega)
              have HBS := Lib.hid (fun o => (show W4.heap.size ≤ ((wc.alloc o).drew).heap.size from by simp; omega))
              have HH := Lib.hid (fun o => (show ((wc.alloc o).drew).heap.size = wc.heap.size + 1 from by simp))
              clear ho' hb2' hbl' hsz' hfxy
              go_wp2_with fail
              go_region_law (first | (refine step_append_lies _ rfl (.tmp 52) (.tmp 57) 32 rfl W4.heap.size 75 i0 (.agg #[.int .i64 0, .int .i64 0]) 2 16 Try.underlying32 hi0 hz0 hz1 hz2 rfl (by decide) _ _ _ rfl (HD.out _) ⟨wc.heap.size, 0, none⟩ 1 1 [.int .i64 x, .int .i64 y] rfl rfl (cellD2S wc _ _ _) (two_i64S _ _) (by decide) B63.out BBY.out (HBS.out _) (wc.heap.size + 1) (HH.out _) ?_; intro g cap w1 hown1 hgrow1 _ _; obtain ⟨g1, g2, g3⟩ := HG.out _ _ hgrow1; obtain ⟨v0, v1, v2, v3, v4, v5⟩ := cell6 g1; obtain ⟨f0, f1, f2, f3, f4, f5⟩ := froz6 g1; have D0 := (g2.cell (p := ⟨b, off + j * 2, none⟩) hbg).trans d4; replace g1 := Lib.hid g1; replace hown1 := Lib.hid hown1; clear hgrow1))
              all_goals
                have hbne : ¬ b = W3.heap.size := by omega
                have hbne2 : ¬ W3.heap.size = b := by omega
                go_wp2_with fail
                go_roundw
                case rel =>
                  refine ⟨j + 1, by go_num, by omega, Lib.hid ?_⟩
                  rw [hN.out]
                  refine ⟨.slice (some ⟨g, 0, none⟩) (O.length + 1) cap, ?_, ?_, ?_, ?_, ?_⟩
                  · rw [flatP_append, List.length_append]
                    exact ownsRow_setCell_below (a := ⟨W3.heap.size, 2, none⟩) (ownsRow_setCell_below (a := ⟨W3.heap.size, 0, none⟩) hown1.out (by dsimp only; omega) _) (by dsimp only; omega) _
                  · rw [nextAf_snoc]
                    exact heap_setCell_same _ _ 2 _ _ (.int .i64 x) (heap_setCell_same _ _ 0 _ _ (.slice (some ⟨g, 0, none⟩) (O.length + 1) cap) g1.out)
                  · exact (g2.setCell (by dsimp only; omega) _).setCell (by dsimp only; omega) _
                  · simpa using g3
                  · rw [List.length_append]
                    show O.length + 1 ≤ k
                    omega
                case measure => simp [intOf]; omega
    · have hjn : j = n := by omega
      have hjz : ¬ (j : Int) < (n : Int) := by omega
      have hkt : l.take j = l := List.take_of_length_le (by rw [← hn.out]; omega)
      rw [hkt] at ho hb2 hOk
      obtain ⟨O, hO⟩ : ∃ O, l.filter f = O := ⟨_, rfl⟩
      rw [hO] at ho hb2 hOk
      have HFIN := Lib.hid (show (⟨(l.filter f).take k, on, nextAf af ((l.filter f).take k), (k : Int), decide (k < (l.filter f).length), 0⟩ : PageR) = ⟨O, on, nextAf af O, (k : Int), false, 0⟩ by
        rw [hO, List.take_of_length_le hOk, decide_eq_false (by omega)])
      obtain ⟨aO, cO, hv, _, _, _, hnw⟩ := (ownsP_of_row ho rfl).arg
      have HNW := Lib.hid (show O ≠ [] → ∃ g o, aO = some ⟨g, o, none⟩ ∧ w.heap.size ≤ g from fun q => by obtain ⟨g, e, hg, _⟩ := hnw q; exact ⟨g, 0, e, by omega⟩)
      clear hnw
      subst hv
      have HROW := Lib.hid ho
      obtain ⟨z0, z1, z2, z3, z4, z5⟩ := cell6 hb2
      have hkr := KR.out _ hb24
      obtain ⟨y0, y1, y2, y3, y4, y5⟩ := cell6 hkr
      obtain ⟨e0, e1, e2, e3, e4, e5⟩ := froz6 hkr
      have HBF := Lib.hid (show Below w.heap.size w wr from below_next B12.out hb24)
      clear ho hb2 hkr hO hkt hOk
      go_wp2_with fail
      exact bodyPost_ret (v := .agg #[.slice aO O.length cO, .slice a3 n3 c3, .int .i64 (nextAf af O), .int .i64 (k : Int), .bool false, .int .i64 0]) (by simp [results, Try.results9, go_sem, y0, y1, y2, y3, y4, y5]) rfl ⟨aO, _, cO, a3, n3, c3, pgd_ret (r' := ⟨O, on, nextAf af O, (k : Int), false, 0⟩) HFIN.out, (by rw [HFIN.out]; exact (show Arg _ aO O.length cO O from Arg.of_own (ownsP_of_row (t := 75) (base := W4.heap.size) (n := O.length) (l := O) (by repeat (first | with_reducible exact HROW.out | with_reducible refine ownsRow_setCell_below ?_ (by dsimp only; omega) _)) rfl) rfl)), (by rw [HFIN.out]; exact HO0.out.below (by repeat (first | with_reducible exact HBF.out | with_reducible refine Below.setCell ?_ (by dsimp only; omega) _))), (by rw [HFIN.out]; exact HNW.out), .inl rfl, (by repeat (first | with_reducible exact HBF.out | with_reducible refine Below.setCell ?_ (by dsimp only; omega) _))⟩
end Go.Proofs.Ytbpekloodjimoaa
