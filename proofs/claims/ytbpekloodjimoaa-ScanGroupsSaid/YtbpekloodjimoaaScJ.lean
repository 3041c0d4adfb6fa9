/-
  SCAN: contract of Page.
-/
import Derived.Test.YtbpekloodjimoaaScI
import Derived.BigRegion
namespace Go.Proofs.Ytbpekloodjimoaa
open Go.RowKit Go.Shelf

structure PageR where
  L : List Sp
  on : List Sp
  af : Int
  lim : Int
  more : Bool
  e : Int
def nextAf (af : Int) (O : List Sp) : Int := if O = [] then af else (O.getD (O.length - 1) (0, 0)).1
def pageP (l on : List Sp) (af lim : Int) : PageR :=
  if tblB l = true ∧ curB on af lim = true then ⟨(behP l on af).take lim.toNat, on, nextAf af ((behP l on af).take lim.toNat), lim, decide (lim.toNat < (behP l on af).length), 0⟩ else ⟨[], [], 0, 0, false, 1⟩
def PagePost (r : PageR) (w : World) (e : Ending) (w' : World) : Prop := ∃ (a : Option Addr) (n c : Nat) (a2 : Option Addr) (n2 c2 : Nat),
  e = .returned (.tuple #[.slice a n c, .agg #[.slice a2 n2 c2, .int .i64 r.af, .int .i64 r.lim], .bool r.more, .int .i64 r.e]) ∧ Arg w' a n c r.L ∧ Arg w' a2 n2 c2 r.on ∧ Below w.heap.size w w'
theorem pg_ret {r r' : PageR} {x y : Value} (h : r = r') : Ending.returned (.tuple #[x, .agg #[y, .int .i64 r'.af, .int .i64 r'.lim], .bool r'.more, .int .i64 r'.e]) = .returned (.tuple #[x, .agg #[y, .int .i64 r.af, .int .i64 r.lim], .bool r.more, .int .i64 r.e]) := by rw [h]
theorem cell3 {W : World} {b : Nat} {x y z : Value} {t : TypeId} (h : W.heap[b]? = some (.cells #[x, y, z] t)) : W.cell? ⟨b, 0, none⟩ = some x ∧ W.cell? ⟨b, 1, none⟩ = some y ∧ W.cell? ⟨b, 2, none⟩ = some z :=
  ⟨cell_of_row _ _ 0 _ _ _ h, cell_of_row _ _ 1 _ _ _ h, cell_of_row _ _ 2 _ _ _ h⟩
theorem froz3 {W : World} {b : Nat} {x y z : Value} {t : TypeId} (h : W.heap[b]? = some (.cells #[x, y, z] t)) : W.frozen? ⟨b, 0, none⟩ = false ∧ W.frozen? ⟨b, 1, none⟩ = false ∧ W.frozen? ⟨b, 2, none⟩ = false :=
  ⟨frozen_of_row _ _ 0 _ _ h, frozen_of_row _ _ 1 _ _ h, frozen_of_row _ _ 2 _ _ h⟩
theorem set3R {W : World} {b : Nat} {x y z x' y' z' : Value} {t : TypeId} (h : W.heap[b]? = some (.cells #[x, y, z] t)) : (((W.setCell ⟨b, 0, none⟩ x').setCell ⟨b, 1, none⟩ y').setCell ⟨b, 2, none⟩ z').heap[b]? = some (.cells #[x', y', z'] t) := by
  have h0 := heap_setCell_same _ _ 0 _ _ x' h
  have h1 := heap_setCell_same _ _ 1 _ _ y' h0
  exact heap_setCell_same _ _ 2 _ _ z' h1
/-- Worlds that differ in one block at most. -/
def OnlyS (g : Nat) (W W' : World) : Prop := W'.heap.size = W.heap.size ∧ ∀ k, k ≠ g → W'.heap[k]? = W.heap[k]?
theorem OnlyS.refl (g : Nat) (W : World) : OnlyS g W W := ⟨rfl, fun _ _ => rfl⟩
theorem OnlyS.set {g : Nat} {W W' : World} (h : OnlyS g W W') (i : Nat) (v : Value) : OnlyS g W (W'.setCell ⟨g, i, none⟩ v) := ⟨by rw [← h.1]; simp, fun k hk => (Below.heap_setCell W' ⟨g, i, none⟩ v k hk).trans (h.2 k hk)⟩
theorem OnlyS.drewR {g : Nat} {W W' : World} (h : OnlyS g W W') : OnlyS g W W'.drew := h
theorem OnlyS.cell {g : Nat} {W W' : World} (h : OnlyS g W W') {p : Addr} (hp : p.block ≠ g) : W'.cell? p = W.cell? p := World.cell?_of_block (w := W) (h.2 p.block hp)
theorem Arg.only {g : Nat} {W W' : World} {a : Option Addr} {n c : Nat} {l : List Sp} (h : Arg W a n c l) (ho : OnlyS g W W') (hne : l ≠ [] → ∃ b o, a = some ⟨b, o, none⟩ ∧ b ≠ g) : Arg W' a n c l := by
  obtain ⟨h1, h2, h3, h4, h5⟩ := h
  refine ⟨h1, h2, h3, h4, fun j hj => ?_⟩
  obtain ⟨b, off, e, hb, c0, c1⟩ := h5 j hj
  obtain ⟨b', o', e', hg⟩ := hne (fun q => by rw [q] at hj; simp at hj)
  subst e
  cases e'
  exact ⟨b, off, rfl, by rw [ho.1]; exact hb, (ho.cell hg).trans c0, (ho.cell hg).trans c1⟩
set_option maxRecDepth 100000 in
set_option maxHeartbeats 1000000 in
theorem page_any (a : Option Addr) (n c : Nat) (l : List Sp) (a3 : Option Addr) (n3 c3 : Nat) (on : List Sp) (af lim : Int) (w : World) (hL : Arg w a n c l) (hO : Arg w a3 n3 c3 on) :
    Calls Try.prog 22 #[.slice a n c, .agg #[.slice a3 n3 c3, .int .i64 af, .int .i64 lim]] w (PagePost (pageP l on af lim) w) := by
  obtain ⟨R, hR⟩ : ∃ R, pageP l on af lim = R := ⟨_, rfl⟩
  rw [hR]
  obtain ⟨W1, hW1⟩ : ∃ W1, w.alloc (.cells #[.slice a3 n3 c3, .int .i64 af, .int .i64 lim] 25) = W1 := ⟨_, rfl⟩
  have bw : Below w.heap.size w W1 := by rw [← hW1]; exact (Below.refl _ _).alloc (Nat.le_refl _) _
  have g1 : w.heap.size < W1.heap.size := by rw [← hW1]; simp
  obtain ⟨W2, hW2⟩ : ∃ W2, W1.alloc (.cells #[.slice none 0 0, .int .i64 0, .int .i64 0] 25) = W2 := ⟨_, rfl⟩
  have hb12 : Below W1.heap.size W1 W2 := by rw [← hW2]; exact (Below.refl _ _).alloc (Nat.le_refl _) _
  have g2 : W1.heap.size < W2.heap.size := by rw [← hW2]; simp
  have hrr : W2.heap[W1.heap.size]? = some (.cells #[.slice none 0 0, .int .i64 0, .int .i64 0] 25) := by rw [← hW2]; exact heap_alloc_new _ _
  have KX := Lib.hid (fun W (h : Below W1.heap.size W1 W) => box3C (w := w) (t := 25) (x := .slice a3 n3 c3) (y := .int .i64 af) (z := .int .i64 lim) (W := W) (by rw [hW1]; exact h))
  have KR := Lib.hid (fun W (h : Below W2.heap.size W2 W) => (h.block _ g2).trans hrr)
  have HB := Lib.hid (Below.refl W2.heap.size W2)
  obtain ⟨q0, q1, q2⟩ := KX.out _ (below_next hb12 HB.out)
  obtain ⟨z0, z1, z2⟩ := cell3 hrr
  obtain ⟨f0, f1, f2⟩ := froz3 hrr
  have hLA := (hL.below bw).below hb12
  have hOA := (hO.below bw).below hb12
  obtain ⟨r1, hr1⟩ : ∃ r, tblB l = r := ⟨_, rfl⟩
  obtain ⟨r2, hr2⟩ : ∃ r, curB on af lim = r := ⟨_, rfl⟩
  have TC := Lib.hid (fun W (h : Below W2.heap.size W2 W) => hr1 ▸ tcheck_any a n c l W (hLA.below h))
  have IC := Lib.hid (fun W (h : Below W2.heap.size W2 W) => hr2 ▸ isCursor_any a3 n3 c3 on af lim W (hOA.below h))
  by_cases hgood : r1 = true ∧ r2 = true
  · obtain ⟨rfl, rfl⟩ := hgood
    obtain ⟨hon, ha1, ha2, hl1, hl2⟩ := (curB_iff _ _ _).1 hr2
    obtain ⟨k, rfl⟩ : ∃ k : Nat, lim = (k : Int) := ⟨lim.toNat, by omega⟩
    have hR' : R = ⟨(behP l on af).take k, on, nextAf af ((behP l on af).take k), (k : Int), decide (k < (behP l on af).length), 0⟩ := by rw [← hR]; exact if_pos ⟨hr1, hr2⟩
    have hbl : (behP l on af).length ≤ 4096 := by
      unfold behP
      rw [List.length_drop]
      have := tbl_le (clip_tbl l on)
      omega
    have BH := Lib.hid (fun W (h : Below W2.heap.size W2 W) => behind_any a n c l a3 n3 c3 on af (k : Int) W (hLA.below h) (hOA.below h) ha1 ha2)
    generalize behP l on af = M at BH hbl hR'
    obtain ⟨m, hm⟩ : ∃ m, min k M.length = m := ⟨_, rfl⟩
    have hmz : min (k : Int) (M.length : Int) = (m : Int) := by omega
    have hmM : m ≤ M.length := by omega
    have htk : M.take k = M.take m := by rw [← hm, List.take_eq_take_iff]; omega
    have hlz : decide ((m : Int) < (M.length : Int)) = decide (k < M.length) := by rw [decide_eq_decide]; omega
    rw [htk] at hR'
    have hol : (M.take m).length = m := by rw [List.length_take]; omega
    have CO := Lib.hid (fun W (h : Below W2.heap.size W2 W) => (show Calls Try.prog 44 #[.slice a3 n3 c3] W (ClonePost W on) from by
      obtain ⟨e1, _, _, _, e5⟩ := hOA.below h
      rw [e1]
      exact clone_any a3 c3 on W (by have := (chkB_can hon).2; omega) e5))
    have HR := Lib.hid hR'
    have HNX : Hid (nextAf af (M.take m) = if m = 0 then af else (M.getD (m - 1) (0, 0)).1) := Lib.hid (by
      unfold nextAf
      by_cases h0 : m = 0
      · rw [if_pos h0, if_pos (by rw [h0]; rfl)]
      · rw [if_neg h0, if_neg (fun e => h0 (by rw [← hol, e]; rfl)), hol, List.getD_eq_getElem?_getD, List.getD_eq_getElem?_getD, List.getElem?_take, if_pos (by omega)])
    obtain ⟨mo, hmo⟩ : ∃ b, decide (k < M.length) = b := ⟨_, rfl⟩
    have HMO := Lib.hid hmo
    rw [hmo] at hlz
    clear hL hO hLA hOA hr1 hr2 hR hR' hm htk hmo hon hol
    have hk500 : (k : Int) ≤ 500 := by omega
    have HBL := Lib.hid hbl
    go_enter Try.func22, Try.ntmps22
    go_upto_region 5 with (first | (go_at_call 23; (with_reducible refine (TC.out _ HB.out).mono ?_); rintro e wf ⟨rfl, hbf⟩; replace HB := Lib.hid (below_next HB.out hbf); clear hbf; obtain ⟨q0, q1, q2⟩ := KX.out _ (below_next hb12 HB.out); have hrw := KR.out _ HB.out; obtain ⟨z0, z1, z2⟩ := cell3 hrw; obtain ⟨f0, f1, f2⟩ := froz3 hrw) | (go_at_call 24; (with_reducible refine (IC.out _ HB.out).mono ?_); rintro e wf ⟨rfl, hbf⟩; replace HB := Lib.hid (below_next HB.out hbf); clear hbf; obtain ⟨q0, q1, q2⟩ := KX.out _ (below_next hb12 HB.out); have hrw := KR.out _ HB.out; obtain ⟨z0, z1, z2⟩ := cell3 hrw; obtain ⟨f0, f1, f2⟩ := froz3 hrw) | (go_at_call 25; (with_reducible refine (BH.out _ HB.out).mono ?_); rintro e wf ⟨a8, n8, c8, rfl, h8, hnw, hbf⟩; obtain rfl : n8 = _ := h8.1; have H8 := Lib.hid h8; have HNW := Lib.hid (show M ≠ [] → ∃ g o, a8 = some ⟨g, o, none⟩ ∧ W2.heap.size ≤ g from fun q => (by obtain ⟨g, o, e, h⟩ := hnw q; exact ⟨g, o, e, Nat.le_trans HB.out.size h⟩)); clear hnw; have hc8 := h8.2.2.1; have hc9 := h8.2.2.2.1; clear h8; replace HB := Lib.hid (below_next HB.out hbf); clear hbf; obtain ⟨q0, q1, q2⟩ := KX.out _ (below_next hb12 HB.out); have hrw := KR.out _ HB.out; obtain ⟨z0, z1, z2⟩ := cell3 hrw; obtain ⟨f0, f1, f2⟩ := froz3 hrw))
    obtain ⟨W5, hW5⟩ : ∃ W5, wf = W5 := ⟨_, rfl⟩
    rw [hW5] at HB H8 q0 q1 q2 hrw z0 z1 z2 f0 f1 f2 ⊢
    clear hW5
    have HBD : Below W5.heap.size W5 W5 := Below.refl _ _
    have hs5 := HB.out.size
    have g5 : W1.heap.size < W5.heap.size := by omega
    have KK := Lib.hid (fun W (h : Below W5.heap.size W5 W) => KX.out _ (below_next hb12 (below_next HB.out h)))
    have KS := Lib.hid (fun W (h : Below W1.heap.size W5 W) => (show W.cell? ⟨w.heap.size, 0, none⟩ = some (.slice a3 n3 c3) ∧ W.cell? ⟨w.heap.size, 1, none⟩ = some (.int .i64 af) ∧ W.cell? ⟨w.heap.size, 2, none⟩ = some (.int .i64 (k : Int)) from ⟨(h.cell (p := ⟨w.heap.size, 0, none⟩) g1).trans q0, (h.cell (p := ⟨w.heap.size, 1, none⟩) g1).trans q1, (h.cell (p := ⟨w.heap.size, 2, none⟩) g1).trans q2⟩))
    have HBS : Below W1.heap.size W5 W5 := Below.refl _ _
    go_region_held3 (fun W => W.cell? ⟨w.heap.size, 0, none⟩ = some (.slice a3 n3 c3) ∧ W.cell? ⟨w.heap.size, 1, none⟩ = some (.int .i64 af) ∧ W.cell? ⟨w.heap.size, 2, none⟩ = some (.int .i64 (k : Int))) (exact KS.out _ (by repeat (first | with_reducible exact HBS | with_reducible refine toDS ?_ | with_reducible refine Below.alloc ?_ (by first | omega | (simp; omega)) _ | with_reducible refine Below.setCell ?_ (by first | with_reducible exact Nat.le_refl _ | (dsimp only; omega) | (simp; omega)) _))) ((first | (go_at_call 44; (with_reducible refine (CO.out _ (below_next HB.out (by repeat (first | with_reducible exact HBD | with_reducible refine toDS ?_ | with_reducible refine Below.alloc ?_ (by first | omega | (simp; omega)) _ | with_reducible refine Below.setCell ?_ (by first | with_reducible exact Nat.le_refl _ | (dsimp only; omega) | (simp; omega)) _)))).mono ?_); rintro e wz ⟨v9, rfl, ho9, hbz⟩; obtain ⟨a9, c9, hv9, hn9'⟩ := ho9.arg; have hn9 := hn9'.2.2.2; subst hv9; have HBD := below_next (w := W5) (by repeat (first | with_reducible exact HBD | with_reducible refine toDS ?_ | with_reducible refine Below.alloc ?_ (by first | omega | (simp; omega)) _ | with_reducible refine Below.setCell ?_ (by first | with_reducible exact Nat.le_refl _ | (dsimp only; omega) | (simp; omega)) _)) hbz; have HBS := HBD.mono (Nat.le_of_lt g5); have hrz := (HBD.block _ g5).trans hrw; obtain ⟨y0, y1, y2⟩ := cell3 hrz; obtain ⟨e0, e1, e2⟩ := froz3 hrz; have HA9 := Lib.hid (Arg.of_own ho9 rfl); have HNE9 := Lib.hid (show on ≠ [] → ∃ b o, a9 = some ⟨b, o, none⟩ ∧ b ≠ W1.heap.size from fun q => (by obtain ⟨g, e, h, _⟩ := hn9 q; refine ⟨g, 0, e, ?_⟩; have h' : W5.heap.size ≤ g := h; omega))) | fail))
    all_goals
      have HNE8 := Lib.hid (show M ≠ [] → ∃ b o, a8 = some ⟨b, o, none⟩ ∧ b ≠ W1.heap.size from fun q => by obtain ⟨g, o, e, h⟩ := HNW.out q; exact ⟨g, o, e, by omega⟩)
      have HBW := Lib.hid (show Below w.heap.size w wz from below_next bw (below_next hb12 (below_next HB.out HBD)))
      have h6 := set3R (x' := .slice a9 on.length c9) (y' := .int .i64 af) (z' := .int .i64 (k : Int)) hrz
      obtain ⟨x0, x1, x2⟩ := cell3 h6
      obtain ⟨v0, v1, v2⟩ := froz3 h6
      by_cases hm0 : m = 0
      · subst hm0
        have HRF := Lib.hid (show R = ⟨M.take 0, on, af, (k : Int), mo, 0⟩ by rw [HR.out, HNX.out, HMO.out]; rfl)
        have hl0 : decide (0 < M.length) = mo := by rw [← hlz, decide_eq_decide]; omega
        clear hmz h6
        go_wp2_with fail
        go_region
        all_goals
          go_wp2_with fail
          exact bodyPost_ret (v := .tuple #[.slice a8 0 c8, .agg #[.slice a9 on.length c9, .int .i64 af, .int .i64 (k : Int)], .bool mo, .int .i64 0]) (by simp [results, Try.results22, go_sem, x0, x1, x2]) rfl ⟨a8, _, c8, a9, on.length, c9, (pg_ret (r := R) (r' := ⟨M.take 0, on, af, (k : Int), mo, 0⟩) (HRF.out)), by rw [HRF.out]; exact ((H8.out.below HBD).only (g := W1.heap.size) (by repeat (first | with_reducible exact OnlyS.refl _ _ | with_reducible refine OnlyS.drewR ?_ | with_reducible refine OnlyS.set ?_ _ _)) HNE8.out).takeA _ hmM, by rw [HRF.out]; exact HA9.out.only (g := W1.heap.size) (by repeat (first | with_reducible exact OnlyS.refl _ _ | with_reducible refine OnlyS.drewR ?_ | with_reducible refine OnlyS.set ?_ _ _)) HNE9.out, (by repeat (first | with_reducible exact HBW.out | with_reducible refine toDS ?_ | with_reducible refine Below.setCell ?_ (by first | with_reducible exact Nat.le_refl _ | (dsimp only; omega) | (simp; omega)) _))⟩
      · obtain ⟨j, hj⟩ : ∃ j, m = j + 1 := ⟨m - 1, by omega⟩
        have hjM : j < M.length := by omega
        obtain ⟨b8, o8, e8, hb8, d0, d1⟩ := (H8.out.below HBD).2.2.2.2 j hjM
        have hne8 : b8 ≠ W1.heap.size := by
          obtain ⟨b', o', e', h'⟩ := HNE8.out (fun q => by rw [q] at hjM; simp at hjM)
          rw [e8] at e'
          cases e'
          exact h'
        subst e8
        have D0 := Lib.hid (fun W (h : OnlyS W1.heap.size wz W) => (h.cell (p := ⟨b8, o8 + j * 2, none⟩) hne8).trans d0)
        have dd := D0.out _ (((OnlyS.refl W1.heap.size wz).set 0 (.slice a9 on.length c9)).set 1 (.int .i64 af) |>.set 2 (.int .i64 (k : Int)))
        obtain ⟨kk, hkk⟩ : ∃ x, (M.getD j (0, 0)).1 = x := ⟨_, rfl⟩
        rw [hkk] at dd
        have HRF := Lib.hid (show R = ⟨M.take m, on, kk, (k : Int), mo, 0⟩ by rw [HR.out, HNX.out, HMO.out, if_neg hm0, show m - 1 = j by omega, hkk])
        have hwj : IntKind.i64.wrap ((m : Int) - 1) = (j : Int) := by rw [IntWalk.i64_in _ (by omega)]; omega
        have hjz : (j : Int) < (m : Int) := by omega
        have hj0 : (0 : Int) ≤ (j : Int) := by omega
        have hm0z : (0 : Int) < (m : Int) := by omega
        have hmc : m ≤ c8 := by omega
        have hj' := Lib.hid hj
        have hl0 : decide (m < M.length) = mo := by rw [← hlz, decide_eq_decide]; omega
        have h7 := heap_setCell_same _ _ 1 _ _ (.int .i64 kk) h6
        obtain ⟨x0', x1', x2'⟩ := cell3 h7
        clear hj d0 d1 hkk h6 h7
        go_wp2_with fail
        go_region
        all_goals
          go_wp2_with fail
          exact bodyPost_ret (v := .tuple #[.slice (some ⟨b8, o8, none⟩) m c8, .agg #[.slice a9 on.length c9, .int .i64 kk, .int .i64 (k : Int)], .bool mo, .int .i64 0]) (by simp [results, Try.results22, go_sem, x0, x1, x2]) rfl ⟨some ⟨b8, o8, none⟩, _, c8, a9, on.length, c9, (pg_ret (r := R) (r' := ⟨M.take m, on, kk, (k : Int), mo, 0⟩) (HRF.out)), by rw [HRF.out]; exact ((H8.out.below HBD).only (g := W1.heap.size) (by repeat (first | with_reducible exact OnlyS.refl _ _ | with_reducible refine OnlyS.drewR ?_ | with_reducible refine OnlyS.set ?_ _ _)) HNE8.out).takeA _ hmM, by rw [HRF.out]; exact HA9.out.only (g := W1.heap.size) (by repeat (first | with_reducible exact OnlyS.refl _ _ | with_reducible refine OnlyS.drewR ?_ | with_reducible refine OnlyS.set ?_ _ _)) HNE9.out, (by repeat (first | with_reducible exact HBW.out | with_reducible refine toDS ?_ | with_reducible refine Below.setCell ?_ (by first | with_reducible exact Nat.le_refl _ | (dsimp only; omega) | (simp; omega)) _))⟩
  · have HR := Lib.hid (show R = ⟨[], [], 0, 0, false, 1⟩ by
      rw [← hR]
      exact if_neg fun q => hgood ⟨hr1.symm.trans q.1, hr2.symm.trans q.2⟩)
    have BH := Lib.hid (show ∀ W, Below W2.heap.size W2 W → Calls Try.prog 25 #[] W (fun _ _ => True) → True from fun _ _ _ => trivial)
    clear hL hO hLA hOA hR
    cases r1
    · clear hgood
      go_enter Try.func22, Try.ntmps22
      go_wp2_with (first | (go_at_call 23; (with_reducible refine (TC.out _ HB.out).mono ?_); rintro e wf ⟨rfl, hbf⟩; replace HB := Lib.hid (below_next HB.out hbf); clear hbf; obtain ⟨q0, q1, q2⟩ := KX.out _ (below_next hb12 HB.out); have hrw := KR.out _ HB.out; obtain ⟨z0, z1, z2⟩ := cell3 hrw; obtain ⟨f0, f1, f2⟩ := froz3 hrw) | (go_at_call 24; (with_reducible refine (IC.out _ HB.out).mono ?_); rintro e wf ⟨rfl, hbf⟩; replace HB := Lib.hid (below_next HB.out hbf); clear hbf; obtain ⟨q0, q1, q2⟩ := KX.out _ (below_next hb12 HB.out); have hrw := KR.out _ HB.out; obtain ⟨z0, z1, z2⟩ := cell3 hrw; obtain ⟨f0, f1, f2⟩ := froz3 hrw) | (go_at_call 25; (with_reducible refine (BH.out _ HB.out).mono ?_); rintro e wf ⟨a8, n8, c8, rfl, h8, hnw, hbf⟩; obtain rfl : n8 = _ := h8.1; have H8 := Lib.hid h8; have HNW := Lib.hid (show M ≠ [] → ∃ g o, a8 = some ⟨g, o, none⟩ ∧ W2.heap.size ≤ g from fun q => (by obtain ⟨g, o, e, h⟩ := hnw q; exact ⟨g, o, e, Nat.le_trans HB.out.size h⟩)); clear hnw; have hc8 := h8.2.2.1; have hc9 := h8.2.2.2.1; clear h8; replace HB := Lib.hid (below_next HB.out hbf); clear hbf; obtain ⟨q0, q1, q2⟩ := KX.out _ (below_next hb12 HB.out); have hrw := KR.out _ HB.out; obtain ⟨z0, z1, z2⟩ := cell3 hrw; obtain ⟨f0, f1, f2⟩ := froz3 hrw))
      exact bodyPost_ret (v := .tuple #[.slice none 0 0, .agg #[.slice none 0 0, .int .i64 0, .int .i64 0], .bool false, .int .i64 1]) (by simp [results, Try.results22, go_sem, z0, z1, z2]) rfl ⟨none, 0, 0, none, 0, 0, pg_ret (r := R) (r' := ⟨[], [], 0, 0, false, 1⟩) HR.out, by rw [HR.out]; exact Arg.none_nil (by unfold maxLen; omega), by rw [HR.out]; exact Arg.none_nil (by unfold maxLen; omega), (by repeat (first | with_reducible exact below_next bw (below_next hb12 HB.out) | with_reducible refine toDS ?_ | with_reducible refine Below.setCell ?_ (by first | with_reducible exact Nat.le_refl _ | (dsimp only; omega) | (simp; omega)) _))⟩
    · cases r2
      · clear hgood
        go_enter Try.func22, Try.ntmps22
        go_wp2_with (first | (go_at_call 23; (with_reducible refine (TC.out _ HB.out).mono ?_); rintro e wf ⟨rfl, hbf⟩; replace HB := Lib.hid (below_next HB.out hbf); clear hbf; obtain ⟨q0, q1, q2⟩ := KX.out _ (below_next hb12 HB.out); have hrw := KR.out _ HB.out; obtain ⟨z0, z1, z2⟩ := cell3 hrw; obtain ⟨f0, f1, f2⟩ := froz3 hrw) | (go_at_call 24; (with_reducible refine (IC.out _ HB.out).mono ?_); rintro e wf ⟨rfl, hbf⟩; replace HB := Lib.hid (below_next HB.out hbf); clear hbf; obtain ⟨q0, q1, q2⟩ := KX.out _ (below_next hb12 HB.out); have hrw := KR.out _ HB.out; obtain ⟨z0, z1, z2⟩ := cell3 hrw; obtain ⟨f0, f1, f2⟩ := froz3 hrw) | (go_at_call 25; (with_reducible refine (BH.out _ HB.out).mono ?_); rintro e wf ⟨a8, n8, c8, rfl, h8, hnw, hbf⟩; obtain rfl : n8 = _ := h8.1; have H8 := Lib.hid h8; have HNW := Lib.hid (show M ≠ [] → ∃ g o, a8 = some ⟨g, o, none⟩ ∧ W2.heap.size ≤ g from fun q => (by obtain ⟨g, o, e, h⟩ := hnw q; exact ⟨g, o, e, Nat.le_trans HB.out.size h⟩)); clear hnw; have hc8 := h8.2.2.1; have hc9 := h8.2.2.2.1; clear h8; replace HB := Lib.hid (below_next HB.out hbf); clear hbf; obtain ⟨q0, q1, q2⟩ := KX.out _ (below_next hb12 HB.out); have hrw := KR.out _ HB.out; obtain ⟨z0, z1, z2⟩ := cell3 hrw; obtain ⟨f0, f1, f2⟩ := froz3 hrw))
        exact bodyPost_ret (v := .tuple #[.slice none 0 0, .agg #[.slice none 0 0, .int .i64 0, .int .i64 0], .bool false, .int .i64 1]) (by simp [results, Try.results22, go_sem, z0, z1, z2]) rfl ⟨none, 0, 0, none, 0, 0, pg_ret (r := R) (r' := ⟨[], [], 0, 0, false, 1⟩) HR.out, by rw [HR.out]; exact Arg.none_nil (by unfold maxLen; omega), by rw [HR.out]; exact Arg.none_nil (by unfold maxLen; omega), (by repeat (first | with_reducible exact below_next bw (below_next hb12 HB.out) | with_reducible refine toDS ?_ | with_reducible refine Below.setCell ?_ (by first | with_reducible exact Nat.le_refl _ | (dsimp only; omega) | (simp; omega)) _))⟩
      · exact absurd ⟨rfl, rfl⟩ hgood
end Go.Proofs.Ytbpekloodjimoaa
