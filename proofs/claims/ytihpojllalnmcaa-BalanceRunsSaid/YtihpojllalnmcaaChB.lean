/-
  CONTRACTS: chart.distinct, Check, search, Owner, Find.
-/
import Derived.Test.YtihpojllalnmcaaChA
namespace Go.Proofs.Ytihpojllalnmcaa
open Go.RowKit Go.Shelf

theorem dist1 (z : Int) (g : Nat) (w : World) (hg : g < w.heap.size) (hc : w.cell? ⟨g, 0, none⟩ = some (.int .i64 z)) : PredBelow Try.prog 85 #[.pointer (some ⟨g, 0, none⟩)] (fun x => .agg (encS x).toArray) (fun x => x.1 == z) w := fun W x hb => by
  obtain ⟨i, lo, hi, nd⟩ := x
  show Calls Try.prog 85 #[.agg #[.int .i64 i, .int .i64 lo, .int .i64 hi, .int .i64 nd], .pointer (some ⟨g, 0, none⟩)] W fun e w' => e = .returned (.bool (i == z)) ∧ Below w.heap.size w w'
  have hgW : g < W.heap.size := Nat.lt_of_lt_of_le hg hb.size
  have hcW : W.cell? ⟨g, 0, none⟩ = some (.int .i64 z) := (hb.cell (p := ⟨g, 0, none⟩) hg).trans hc
  have b1 : Below w.heap.size w (W.alloc (.cells #[.int .i64 i, .int .i64 lo, .int .i64 hi, .int .i64 nd] 61)) := hb.alloc hb.size _
  obtain ⟨r, hr⟩ : ∃ r, (i == z) = r := ⟨_, rfl⟩
  rw [hr]
  cases r
  all_goals
    go_enter Try.func85, Try.ntmps85
    go_wp2
    go_ret
    exact ⟨rfl, b1⟩
theorem apply1 (z : Int) (g : Nat) (w : World) (hg : g < w.heap.size) (hc : w.cell? ⟨g, 1, none⟩ = some (.int .i64 z)) : PredBelow Try.prog 36 #[.pointer (some ⟨g, 0, none⟩)] (fun x => .agg (encS x).toArray) (fun x => x.1 == z) w := fun W x hb => by
  obtain ⟨i, lo, hi, nd⟩ := x
  show Calls Try.prog 36 #[.agg #[.int .i64 i, .int .i64 lo, .int .i64 hi, .int .i64 nd], .pointer (some ⟨g, 0, none⟩)] W fun e w' => e = .returned (.bool (i == z)) ∧ Below w.heap.size w w'
  have hgW : g < W.heap.size := Nat.lt_of_lt_of_le hg hb.size
  have hcW : W.cell? ⟨g, 1, none⟩ = some (.int .i64 z) := (hb.cell (p := ⟨g, 1, none⟩) hg).trans hc
  have b1 : Below w.heap.size w (W.alloc (.cells #[.int .i64 i, .int .i64 lo, .int .i64 hi, .int .i64 nd] 61)) := hb.alloc hb.size _
  obtain ⟨r, hr⟩ : ∃ r, (i == z) = r := ⟨_, rfl⟩
  rw [hr]
  cases r
  all_goals
    go_enter Try.func36, Try.ntmps36
    go_wp2
    go_ret
    exact ⟨rfl, b1⟩
set_option maxHeartbeats 1000000 in
theorem check1 (z : Int) (hz : 1 ≤ z ∧ z ≤ 65537) (g : Nat) (w : World) (hg : g < w.heap.size) (hc : w.cell? ⟨g, 1, none⟩ = some (.int .i64 z)) : PredBelow Try.prog 57 #[.pointer (some ⟨g, 0, none⟩)] (fun x => .agg (encS x).toArray) (fun x => !okS z x) w := fun W x hb => by
  obtain ⟨i, lo, hi, nd⟩ := x
  show Calls Try.prog 57 #[.agg #[.int .i64 i, .int .i64 lo, .int .i64 hi, .int .i64 nd], .pointer (some ⟨g, 0, none⟩)] W fun e w' => e = .returned (.bool (!okS z (i, lo, hi, nd))) ∧ Below w.heap.size w w'
  have hgW : g < W.heap.size := Nat.lt_of_lt_of_le hg hb.size
  have hcW : W.cell? ⟨g, 1, none⟩ = some (.int .i64 z) := (hb.cell (p := ⟨g, 1, none⟩) hg).trans hc
  have b1 : Below w.heap.size w (W.alloc (.cells #[.int .i64 i, .int .i64 lo, .int .i64 hi, .int .i64 nd] 61)) := hb.alloc hb.size _
  have hw : IntKind.i64.wrap (z - 1) = z - 1 := IntWalk.i64_in _ (by omega)
  have H := Lib.hid (show okS z (i, lo, hi, nd) = (btwC 1 i (z - 1) && btwC 0 nd 4) from rfl)
  obtain ⟨r, hr⟩ : ∃ r, btwC 1 i (z - 1) = r := ⟨_, rfl⟩
  obtain ⟨q, hq⟩ : ∃ q, btwC 0 nd 4 = q := ⟨_, rfl⟩
  have B1 := Lib.hid (fun W => hr ▸ betweenC_any 1 i (z - 1) W)
  have B2 := Lib.hid (fun W => hq ▸ isNode_any nd W)
  rw [hr, hq] at H
  generalize okS z (i, lo, hi, nd) = o at H
  clear hr hq hz
  cases r <;> cases q
  all_goals
    go_enter Try.func57, Try.ntmps57
    go_wp2_with (first | (go_at_call 44; (with_reducible refine (B1.out _).mono ?_); rintro e w' ⟨rfl, rfl⟩) | (go_at_call 58; (with_reducible refine (B2.out _).mono ?_); rintro e w' ⟨rfl, rfl⟩))
    go_ret
    exact ⟨ret_bool (by rw [H.out]; rfl), b1⟩

theorem hasN_def (l : List Sd) (z : Int) : (l.any fun x => x.1 == z) = hasN l z := rfl
set_option maxRecDepth 100000 in
set_option maxHeartbeats 2000000 in
theorem distinct_any (a : Option Addr) (n c : Nat) (l : List Sd) (w : World) (h : RArg encS 4 w a n c l) :
    Calls Try.prog 56 #[.slice a n c] w (Gives w (.bool (distF l l.length))) := by
  obtain ⟨hn, hz, hc1, hc2, hp⟩ := h
  have hnz : (n : Int) ≤ 9223372036854775807 := by omega
  have hnc : n ≤ c := by omega
  obtain ⟨r, hr⟩ : ∃ r, distF l l.length = r := ⟨_, rfl⟩
  rw [hr]
  have HF := Lib.hid (show ∀ k, k ≤ l.length → distF l k = false → r = false by
    intro k hk hf
    rw [← hr]
    have : ∀ d, distF l (k + d) = false := fun d => by
      induction d with
      | zero => exact hf
      | succ d ih => show (distF l (k + d) && !hasN (l.take (k + d)) l[k + d]!.1) = false; rw [ih]; rfl
    have := this (l.length - k)
    rwa [show k + (l.length - k) = l.length by omega] at this)
  have HE := Lib.hid hr
  clear hr
  replace hn := Lib.hid hn
  replace hp := Lib.hid hp
  replace hz := Lib.hid hz
  go_enter Try.func56, Try.ntmps56
  go_wp2_with fail
  go_loopw [7] (fun i wr => ∃ (k : Nat), i = .int .i64 (k : Int) ∧ k ≤ n ∧ Hid (distF l k = true) ∧ Below w.heap.size w wr)
    (fun i _ => n - (intOf i).toNat)
  case atStart => exact ⟨0, rfl, by omega, Lib.hid rfl, Below.refl _ _⟩
  case round =>
    obtain ⟨k, rfl, hk, HC, hbl⟩ := hrel
    by_cases hlt : k < n
    · have hkl : k < l.length := by rw [← hn.out]; exact hlt
      have hkz : (k : Int) < (n : Int) := by omega
      have hpr := hp.out.below hbl
      obtain ⟨b, off, e, hb, c0, c1, c2, c3⟩ := hpr.shard k hkl
      subst e
      obtain ⟨s, hs⟩ : ∃ s, l[k]! = s := ⟨_, rfl⟩
      rw [hs] at c0 c1 c2 c3
      have hnext : distF l (k + 1) = !hasN (l.take k) s.1 := by show (distF l k && !hasN (l.take k) l[k]!.1) = _; rw [HC.out, hs]; rfl
      replace hs := Lib.hid hs
      obtain ⟨i, lo, hi, nd⟩ := s
      dsimp only at c0 c1 c2 c3 hnext
      obtain ⟨W2, hW2⟩ : ∃ W2, wr.alloc (.cells #[.int .i64 i, .int .i64 lo, .int .i64 hi, .int .i64 nd] 61) = W2 := ⟨_, rfl⟩
      have b2 : Below wr.heap.size wr W2 := by rw [← hW2]; exact (Below.refl _ _).alloc (Nat.le_refl _) _
      have g2 : wr.heap.size < W2.heap.size := by rw [← hW2]; simp
      have d0 : W2.cell? ⟨wr.heap.size, 0, none⟩ = some (.int .i64 i) := by rw [← hW2]; exact cell_of_row _ _ 0 _ _ _ (heap_alloc_new _ _)
      have bb := below_next hbl b2
      have CF := containsShard_any (fun x => x.1 == i) 85 #[.pointer (some ⟨wr.heap.size, 0, none⟩)] (enters_of Try.func85 (by kernel_rfl) rfl) (some ⟨b, off, none⟩) k c (l.take k) W2 (dist1 i wr.heap.size W2 g2 d0) (by rw [List.length_take]; omega) (by have := hz.out; rw [List.length_take]; omega) ((hpr.below b2).take k)
      rw [hasN_def] at CF
      obtain ⟨x, hx⟩ : ∃ x, hasN (l.take k) i = x := ⟨_, rfl⟩
      rw [hx] at CF hnext
      replace CF := Lib.hid CF
      clear hx hpr d0
      cases x
      · have HN := Lib.hid (show distF l (k + 1) = true from hnext)
        clear hnext
        go_wp2_with (go_at_call 42; (with_reducible refine CF.out.mono ?_); rintro e w' ⟨rfl, hb⟩)
        go_roundw
        case rel => exact ⟨k + 1, by go_num, by omega, HN, below_next bb hb⟩
        case measure => simp [intOf]; omega
      · have HR := Lib.hid (HF.out (k + 1) (by omega) hnext)
        clear hnext
        go_wp2_with (go_at_call 42; (with_reducible refine CF.out.mono ?_); rintro e w' ⟨rfl, hb⟩)
        go_ret
        exact ⟨ret_bool HR.out.symm, below_next bb hb⟩
    · have hkz : ¬ (k : Int) < (n : Int) := by omega
      have HR := Lib.hid (show r = true by rw [← HE.out, ← HC.out, show k = l.length by rw [← hn.out]; omega])
      go_wp2
      go_ret
      exact ⟨ret_bool HR.out.symm, hbl⟩
theorem box3D {w w' : World} {t : TypeId} {x y z : Value} (hb : Below (w.alloc (.cells #[x, y, z] t)).heap.size (w.alloc (.cells #[x, y, z] t)) w') :
    w'.cell? ⟨w.heap.size, 0, none⟩ = some x ∧ w'.cell? ⟨w.heap.size, 1, none⟩ = some y ∧ w'.cell? ⟨w.heap.size, 2, none⟩ = some z := by
  have hs : w.heap.size < (w.alloc (.cells #[x, y, z] t)).heap.size := by simp
  have c := fun i => hb.cell (p := ⟨w.heap.size, i, none⟩) hs
  exact ⟨(c 0).trans (cell_of_row _ _ 0 _ _ _ (heap_alloc_new _ _)), (c 1).trans (cell_of_row _ _ 1 _ _ _ (heap_alloc_new _ _)), (c 2).trans (cell_of_row _ _ 2 _ _ _ (heap_alloc_new _ _))⟩
set_option maxRecDepth 100000 in
set_option maxHeartbeats 2000000 in
theorem chk_any (ep nx : Int) (a : Option Addr) (n c : Nat) (l : List Sd) (w : World) (h : RArg encS 4 w a n c l) :
    Calls Try.prog 33 #[.agg #[.int .i64 ep, .int .i64 nx, .slice a n c]] w (Gives w (.bool (chkC ep nx l))) := by
  obtain ⟨R, hR⟩ : ∃ R, chkC ep nx l = R := ⟨_, rfl⟩
  rw [hR]
  have hnz : (n : Int) ≤ 9223372036854775807 := by have := h.1; have := h.2.1; omega
  obtain ⟨W1, hW1⟩ : ∃ W1, w.alloc (.cells #[.int .i64 ep, .int .i64 nx, .slice a n c] 24) = W1 := ⟨_, rfl⟩
  have bw : Below w.heap.size w W1 := by rw [← hW1]; exact (Below.refl _ _).alloc (Nat.le_refl _) _
  have g1 : w.heap.size < W1.heap.size := by rw [← hW1]; simp
  have K := Lib.hid (fun W (h : Below W1.heap.size W1 W) => box3D (w := w) (t := 24) (x := .int .i64 ep) (y := .int .i64 nx) (z := .slice a n c) (w' := W) (by rw [hW1]; exact h))
  have HP := Lib.hid (h.below bw)
  have HB := Lib.hid (Below.refl W1.heap.size W1)
  obtain ⟨q0, q1, q2⟩ := K.out _ HB.out
  have hln : (n : Int) = (l.length : Int) := by have := h.1; omega
  have e6 : (l.any fun x => !okS nx x) = !(l.all (okS nx)) := (List.not_all_eq_any_not ..).symm
  have hE : R = (((((btwC 1 ep 1073741824 && btwC 1 nx 65537) && btwC 1 (n : Int) 24) && covF 0 l) && distF l l.length) && l.all (okS nx)) := by rw [← hR, hln]; rfl
  obtain ⟨b1, h1⟩ : ∃ b, btwC 1 ep 1073741824 = b := ⟨_, rfl⟩
  obtain ⟨b2, h2⟩ : ∃ b, btwC 1 nx 65537 = b := ⟨_, rfl⟩
  obtain ⟨b3, h3⟩ : ∃ b, btwC 1 (n : Int) 24 = b := ⟨_, rfl⟩
  obtain ⟨b4, h4⟩ : ∃ b, covF 0 l = b := ⟨_, rfl⟩
  obtain ⟨b5, h5⟩ : ∃ b, distF l l.length = b := ⟨_, rfl⟩
  obtain ⟨b6, h6⟩ : ∃ b, l.all (okS nx) = b := ⟨_, rfl⟩
  rw [h1, h2, h3, h4, h5, h6] at hE
  have B1 := Lib.hid (fun W => h1 ▸ betweenC_any 1 ep 1073741824 W)
  have B2 := Lib.hid (fun W => h2 ▸ betweenC_any 1 nx 65537 W)
  have B3 := Lib.hid (fun W => h3 ▸ betweenC_any 1 (n : Int) 24 W)
  have B4 := Lib.hid (fun W hh => h4 ▸ cover_any a n c l W hh)
  have B5 := Lib.hid (fun W hh => h5 ▸ distinct_any a n c l W hh)
  have B6 := Lib.hid (fun (hb2 : b2 = true) W (hb : Below W1.heap.size W1 W) => (show Calls Try.prog 42 #[.slice a n c, .func (.func 57) #[] #[.pointer (some ⟨w.heap.size, 0, none⟩)]] W (Gives W (.bool (!b6))) by
    have := containsShard_any (fun x => !okS nx x) 57 #[.pointer (some ⟨w.heap.size, 0, none⟩)] (enters_of Try.func57 (by kernel_rfl) rfl) a n c l W (check1 nx ((btwC_iff _ _ _).1 (h2.trans hb2)) w.heap.size W (Nat.lt_of_lt_of_le g1 hb.size) (K.out _ hb).2.1) h.1 h.2.1 (HP.out.below hb).2.2.2.2
    rw [e6, h6] at this
    exact this))
  clear h h1 h2 h3 h4 h5 h6 e6 hR hln
  cases b1
  · have HR := Lib.hid hE
    clear hE
    go_enter Try.func33, Try.ntmps33
    go_wp2_with (first | (go_at_call 44; (with_reducible refine (B1.out _).mono ?_); rintro e w' ⟨rfl, rfl⟩))
    go_ret
    exact ⟨ret_bool (by rw [HR.out]; rfl), below_next bw HB.out⟩
  · cases b2
    · have HR := Lib.hid hE
      clear hE
      go_enter Try.func33, Try.ntmps33
      go_wp2_with (first | (go_at_call 44; (with_reducible refine (B1.out _).mono ?_); rintro e w' ⟨rfl, rfl⟩) | (go_at_call 44; (with_reducible refine (B2.out _).mono ?_); rintro e w' ⟨rfl, rfl⟩))
      go_ret
      exact ⟨ret_bool (by rw [HR.out]; rfl), below_next bw HB.out⟩
    · replace B6 := Lib.hid (B6.out rfl)
      cases b3
      · have HR := Lib.hid hE
        clear hE
        go_enter Try.func33, Try.ntmps33
        go_wp2_with (first | (go_at_call 44; (with_reducible refine (B1.out _).mono ?_); rintro e w' ⟨rfl, rfl⟩) | (go_at_call 44; (with_reducible refine (B2.out _).mono ?_); rintro e w' ⟨rfl, rfl⟩) | (go_at_call 44; (with_reducible refine (B3.out _).mono ?_); rintro e w' ⟨rfl, rfl⟩))
        go_ret
        exact ⟨ret_bool (by rw [HR.out]; rfl), below_next bw HB.out⟩
      · cases b4
        · have HR := Lib.hid hE
          clear hE
          go_enter Try.func33, Try.ntmps33
          go_wp2_with (first | (go_at_call 44; (with_reducible refine (B1.out _).mono ?_); rintro e w' ⟨rfl, rfl⟩) | (go_at_call 44; (with_reducible refine (B2.out _).mono ?_); rintro e w' ⟨rfl, rfl⟩) | (go_at_call 44; (with_reducible refine (B3.out _).mono ?_); rintro e w' ⟨rfl, rfl⟩) | (go_at_call 55; (with_reducible refine (B4.out _ (HP.out.below HB.out)).mono ?_); rintro e w' ⟨rfl, hb⟩; replace HB := Lib.hid (below_next HB.out hb); clear hb; obtain ⟨q0, q1, q2⟩ := K.out _ HB.out))
          go_ret
          exact ⟨ret_bool (by rw [HR.out]; rfl), below_next bw HB.out⟩
        · cases b5
          · have HR := Lib.hid hE
            clear hE
            go_enter Try.func33, Try.ntmps33
            go_wp2_with (first | (go_at_call 44; (with_reducible refine (B1.out _).mono ?_); rintro e w' ⟨rfl, rfl⟩) | (go_at_call 44; (with_reducible refine (B2.out _).mono ?_); rintro e w' ⟨rfl, rfl⟩) | (go_at_call 44; (with_reducible refine (B3.out _).mono ?_); rintro e w' ⟨rfl, rfl⟩) | (go_at_call 55; (with_reducible refine (B4.out _ (HP.out.below HB.out)).mono ?_); rintro e w' ⟨rfl, hb⟩; replace HB := Lib.hid (below_next HB.out hb); clear hb; obtain ⟨q0, q1, q2⟩ := K.out _ HB.out) | (go_at_call 56; (with_reducible refine (B5.out _ (HP.out.below HB.out)).mono ?_); rintro e w' ⟨rfl, hb⟩; replace HB := Lib.hid (below_next HB.out hb); clear hb; obtain ⟨q0, q1, q2⟩ := K.out _ HB.out))
            go_ret
            exact ⟨ret_bool (by rw [HR.out]; rfl), below_next bw HB.out⟩
          · cases b6
            all_goals
              have HR := Lib.hid hE
              clear hE
              go_enter Try.func33, Try.ntmps33
              go_wp2_with (first | (go_at_call 44; (with_reducible refine (B1.out _).mono ?_); rintro e w' ⟨rfl, rfl⟩) | (go_at_call 44; (with_reducible refine (B2.out _).mono ?_); rintro e w' ⟨rfl, rfl⟩) | (go_at_call 44; (with_reducible refine (B3.out _).mono ?_); rintro e w' ⟨rfl, rfl⟩) | (go_at_call 55; (with_reducible refine (B4.out _ (HP.out.below HB.out)).mono ?_); rintro e w' ⟨rfl, hb⟩; replace HB := Lib.hid (below_next HB.out hb); clear hb; obtain ⟨q0, q1, q2⟩ := K.out _ HB.out) | (go_at_call 56; (with_reducible refine (B5.out _ (HP.out.below HB.out)).mono ?_); rintro e w' ⟨rfl, hb⟩; replace HB := Lib.hid (below_next HB.out hb); clear hb; obtain ⟨q0, q1, q2⟩ := K.out _ HB.out) | (go_at_call 42; (with_reducible refine (B6.out _ HB.out).mono ?_); rintro e w' ⟨rfl, hb⟩; replace HB := Lib.hid (below_next HB.out hb); clear hb))
              go_ret
              exact ⟨ret_bool (by rw [HR.out]; rfl), below_next bw HB.out⟩
end Go.Proofs.Ytihpojllalnmcaa
