/-
  DELTA: Text.
-/
import Derived.Test.YtnjlbgnojlmmlaaDlU
namespace Go.Proofs.Ytnjlbgnojlmmlaa
open Go.RowKit Go.Deep Go.Shelf

def turnT (z : Int) (t : Tn) : List UInt8 := bl (numS (t.1 - z - 1)) ++ bl (numS (kindT t)) ++ (if t.2.1.2 then bl (wholeS t.2.1.1) else []) ++ (if t.2.2.2 then bl (wholeS (t.2.2.1 - t.2.1.1)) else [])
def turnsT (z : Int) : List Tn → List UInt8
  | [] => []
  | t :: r => turnT z t ++ turnsT t.1 r
def textD (l : List Tn) : List UInt8 := if chkB l then bl (numS (l.length : Int)) ++ turnsT (-1) l else []
theorem cells5 {W4 W : World} {g : Nat} {a b c d e : Value} {t : TypeId} (h : KeptO W4 W) (k : W4.heap[g]? = some (.cells #[a, b, c, d, e] t (0, 0))) (h1 : t ≠ 5) (h2 : t ≠ 62) :
    W.cell? ⟨g, 0, none⟩ = some a ∧ W.cell? ⟨g, 1, none⟩ = some b ∧ W.cell? ⟨g, 2, none⟩ = some c ∧ W.cell? ⟨g, 3, none⟩ = some d ∧ W.cell? ⟨g, 4, none⟩ = some e :=
  ⟨cellsKept (i := 0) h k h1 h2, cellsKept (i := 1) h k h1 h2, cellsKept (i := 2) h k h1 h2, cellsKept (i := 3) h k h1 h2, cellsKept (i := 4) h k h1 h2⟩
theorem cellB_bd {v : Int} {s : Bool} (h : cellB (v, s) = true) : -1099511627776 ≤ v ∧ v ≤ 1099511627776 := by
  unfold cellB at h
  cases s
  · simp at h; omega
  · simp at h; omega
theorem chkF_cons {z : Int} {t : Tn} {r : List Tn} (h : chkF z (t :: r) = true) : z < t.1 ∧ t.1 < 4096 ∧ cellB t.2.1 = true ∧ cellB t.2.2 = true ∧ t.2.1 ≠ t.2.2 ∧ chkF t.1 r = true := by
  unfold chkF at h
  simp only [Bool.and_eq_true, decide_eq_true_iff, Bool.not_eq_true', decide_eq_false_iff_not] at h
  exact ⟨h.1.1.1.1.1, h.1.1.1.1.2, h.1.1.1.2, h.1.1.2, h.1.2, h.2⟩
set_option maxRecDepth 100000 in
set_option maxHeartbeats 4000000 in
theorem dtext_any (a : Option Addr) (n c : Nat) (l : List Tn) (w : World) (hA : RArg encT 5 w a n c l) (hl : l.length ≤ 2000) :
    Calls Try.prog 8 #[.slice a n c] w (Gives w (.string ⟨(textD l).toArray⟩)) := by
  have CT := Lib.hid (fun W (h : Below w.heap.size w W) => dcheck_any a n c l W (hA.below h))
  cases ht : chkB l
  · rw [show textD l = [] from if_neg (by rw [ht]; simp)]
    have h1 := Lib.hid ht
    clear hA
    go_enter Try.func8, Try.ntmps8
    go_wp2_with (go_at_call 17; (with_reducible refine (CT.out _ (Below.refl _ _)).mono ?_); rw [h1.out]; rintro e w2 ⟨rfl, b2⟩)
    go_ret
    exact ⟨rfl, b2⟩
  · obtain rfl := hA.1
    have hnb : (l.length : Int) ≤ 9223372036854775807 := by omega
    have HA := Lib.hid hA
    have h1 := Lib.hid ht
    obtain ⟨R, hR⟩ : ∃ R, textD l = R := ⟨_, rfl⟩
    have HT := Lib.hid (show bl (numS (l.length : Int)) ++ turnsT (-1) l = R by rw [← hR]; exact (if_pos ht).symm)
    have H0 := Lib.hid (show chkF (-1) (l.drop 0) = true from ht)
    rw [hR]
    clear hA ht hR
    go_enter Try.func8, Try.ntmps8
    go_wp2_with (go_at_call 17; (with_reducible refine (CT.out _ (Below.refl _ _)).mono ?_); rw [h1.out]; rintro e w2 ⟨rfl, b2⟩; obtain ⟨W3, hW3⟩ : ∃ W3, w2.alloc (.cells #[.pointer none, .slice none 0 0] 62) = W3 := ⟨_, rfl⟩; have b23 : Below w2.heap.size w2 W3 := (by rw [← hW3]; exact (Below.refl _ _).alloc (Nat.le_refl _) _); have hB3 : w2.heap.size < W3.heap.size := (by rw [← hW3]; simp); have bB0 : Bld w2.heap.size w2.heap.size [] W3 := (by rw [← hW3]; exact bld_new w2); have HB := Lib.hid (TS.mk (w0 := W3) (B := w2.heap.size) (L := []) (m := 0) (W := W3) bB0 (Nat.le_refl _) (Below.refl _ _) (KeptO.refl _) hB3); have b03 := below_next b2 b23; have hgB := b2.size; clear bB0 b23)
    replace hW3 := Lib.hid hW3
    generalize w2.heap.size = B at *
    go_wp2_with (first | (go_at_call 23; (with_reducible refine (num_ts HB.out (l.length : Int) hnb).mono ?_); rintro e w' ⟨rfl, hh⟩; replace HB := Lib.hid hh) | (go_at_call 22; (with_reducible refine (write_ts HB.out (numS (l.length : Int)) (numS_size hnb) (by omega)).mono ?_); rintro e w' ⟨rfl, hh⟩; replace HB := Lib.hid hh))
    go_loopw [4, 6, 16] (fun last _ i wr => ∃ (j : Nat) (z : Int) (p : List UInt8), i = .int .i64 (j : Int) ∧ last = .int .i64 z ∧ j ≤ l.length ∧ -1 ≤ z ∧ z < 4096 ∧ Hid (chkF z (l.drop j) = true) ∧ Hid (p ++ turnsT z (l.drop j) = R) ∧ Hid (TS W3 B p (9 + 36 * j) wr))
      (fun _ _ i _ => l.length - (intOf i).toNat)
    case atStart => exact ⟨0, -1, _, rfl, rfl, by omega, by decide, by decide, H0, HT, Lib.hid (HB.out.cast (by simp) (by omega))⟩
    case round =>
      obtain ⟨j, z, p, rfl, rfl, hj, hz1, hz2, HC, HP, HS⟩ := hrel
      have bw : Below w.heap.size w wr := b03.trans (HS.out.low.mono hgB)
      by_cases hlt : j < l.length
      · have hjz : (j : Int) < (l.length : Int) := by omega
        obtain ⟨b, off, e, hb, c0, c1, c2, c3, c4⟩ := (HA.out.below bw).tns hlt
        subst e
        have hc := HC.out
        have hp := HP.out
        rw [drop_moreG hlt] at hc hp
        generalize l[j]! = s at c0 c1 c2 c3 c4 hc hp
        obtain ⟨x, ⟨y, s1⟩, ⟨u, s2⟩⟩ := s
        dsimp only at c0 c1 c2 c3 c4
        obtain ⟨k1, k2, k3, k4, _, k6⟩ := chkF_cons hc
        dsimp only at k1 k2 k3 k4 k6
        have y1 := cellB_bd k3
        have u1 := cellB_bd k4
        have hw1 : IntKind.i64.wrap (x - z) = x - z := IntWalk.i64_in _ (by omega)
        have hw2 : IntKind.i64.wrap (x - z - 1) = x - z - 1 := IntWalk.i64_in _ (by omega)
        have hw3 : IntKind.i64.wrap (u - y) = u - y := IntWalk.i64_in _ (by omega)
        have hb1 : x - z - 1 ≤ 9223372036854775807 := by omega
        have HP2 := Lib.hid (show p ++ (turnT z (x, (y, s1), (u, s2)) ++ turnsT x (l.drop (j + 1))) = R from hp)
        have HC2 := Lib.hid k6
        clear hc hp k3 k4 k6 HC HP
        obtain ⟨Wp, hWp⟩ : ∃ Wp, wr.alloc (.cells #[.int .i64 x, .int .i64 y, .bool s1, .int .i64 u, .bool s2] 46) = Wp := ⟨_, rfl⟩
        have hgp : Wp.heap[wr.heap.size]? = some (.cells #[.int .i64 x, .int .i64 y, .bool s1, .int .i64 u, .bool s2] 46 (0, 0)) := by rw [← hWp]; exact heap_alloc_new wr _
        have HPs := Lib.hid (HS.out.below (W' := Wp) (by rw [← hWp]; exact (Below.refl _ _).alloc (Nat.le_refl _) _))
        have HB := Lib.hid HPs.out.base
        have e0 : Wp.cell? ⟨wr.heap.size, 0, none⟩ = some (.int .i64 x) := cell_of_row _ _ 0 _ _ _ hgp
        replace hgp := Lib.hid hgp
        obtain ⟨r1, hs1⟩ : ∃ r, s1 = r := ⟨_, rfl⟩
        obtain ⟨r2, hs2⟩ : ∃ r, s2 = r := ⟨_, rfl⟩
        obtain ⟨K, hK⟩ : ∃ K, kindT (x, (y, r1), (u, r2)) = K := ⟨_, rfl⟩
        have hKb : K ≤ 9223372036854775807 := by rw [← hK]; unfold kindT; dsimp only; split <;> split <;> omega
        have HT2 := Lib.hid (show turnT z (x, (y, s1), (u, s2)) = bl (numS (x - z - 1)) ++ bl (numS K) ++ (if r1 then bl (wholeS y) else []) ++ (if r2 then bl (wholeS (u - y)) else []) by rw [← hK, ← hs1, ← hs2]; rfl)
        replace hs1 := Lib.hid hs1
        replace hs2 := Lib.hid hs2
        replace hK := Lib.hid hK
        cases r1 <;> cases r2
        all_goals
          go_wp2_with (first
            | (go_at_call 23; (with_reducible refine (num_ts HB.out (x - z - 1) hb1).mono ?_); rintro e w' ⟨rfl, hh⟩; replace HB := Lib.hid hh)
            | (go_at_call 22; (with_reducible refine (write_ts HB.out (numS (x - z - 1)) (numS_size hb1) (by omega)).mono ?_); rintro e w' ⟨rfl, hh⟩; replace HB := Lib.hid hh; obtain ⟨e0, e1, e2, e3, e4⟩ := cells5 HB.out.kept hgp.out (by decide) (by decide); rw [hs1.out] at e2; rw [hs2.out] at e4)
            | (go_at_call 24; (with_reducible refine (kind_h hK.out _).mono ?_); rintro e w' ⟨rfl, bk⟩; (have hh := HB.out.below bk); replace HB := Lib.hid hh)
            | (go_at_call 23; (with_reducible refine (num_ts HB.out K hKb).mono ?_); rintro e w' ⟨rfl, hh⟩; replace HB := Lib.hid hh)
            | (go_at_call 22; (with_reducible refine (write_ts HB.out (numS K) (numS_size hKb) (by omega)).mono ?_); rintro e w' ⟨rfl, hh⟩; replace HB := Lib.hid hh; obtain ⟨e0, e1, e2, e3, e4⟩ := cells5 HB.out.kept hgp.out (by decide) (by decide); rw [hs1.out] at e2; rw [hs2.out] at e4)
            | (go_at_call 25; (with_reducible refine (whole_ts HB.out y).mono ?_); rintro e w' ⟨rfl, hh⟩; replace HB := Lib.hid hh)
            | (go_at_call 22; (with_reducible refine (write_ts HB.out (wholeS y) (wholeS_size y) (by omega)).mono ?_); rintro e w' ⟨rfl, hh⟩; replace HB := Lib.hid hh; obtain ⟨e0, e1, e2, e3, e4⟩ := cells5 HB.out.kept hgp.out (by decide) (by decide); rw [hs1.out] at e2; rw [hs2.out] at e4)
            | (go_at_call 25; (with_reducible refine (whole_ts HB.out (u - y)).mono ?_); rintro e w' ⟨rfl, hh⟩; replace HB := Lib.hid hh)
            | (go_at_call 22; (with_reducible refine (write_ts HB.out (wholeS (u - y)) (wholeS_size (u - y)) (by omega)).mono ?_); rintro e w' ⟨rfl, hh⟩; replace HB := Lib.hid hh; obtain ⟨e0, e1, e2, e3, e4⟩ := cells5 HB.out.kept hgp.out (by decide) (by decide)))
          go_roundw
          case rel => exact ⟨j + 1, x, p ++ turnT z (x, (y, s1), (u, s2)), by go_num, rfl, by omega, by omega, k2, HC2, Lib.hid (by rw [← HP2.out, List.append_assoc]), Lib.hid ((HPs.out.comp HB.out).cast (by rw [HT2.out]; simp [List.append_assoc]) (by omega))⟩
          case measure => simp [intOf]; omega
      · have hjn : j = l.length := by omega
        subst hjn
        have hpr : p = R := by have := HP.out; rw [List.drop_length] at this; simpa [turnsT] using this
        subst hpr
        have hjz : ¬ (l.length : Int) < (l.length : Int) := by omega
        go_wp2_with (go_at_call 26; (with_reducible refine (string_ts HS.out).mono ?_); rintro e w' ⟨rfl, bs⟩)
        go_ret
        exact ⟨rfl, b03.trans (bs.mono hgB)⟩
end Go.Proofs.Ytnjlbgnojlmmlaa
