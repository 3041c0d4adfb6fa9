/-
  MutNear walked.
-/
import Derived.Test.YtlbfcbmfpnfheaaMB1
import Derived.Deep.RegionHeld3
import Derived.Deep.DeepCutAuto
namespace Go.Proofs.Ytlbfcbmfpnfheaa
open Go.RowKit Go.Shelf Go.ChangeShapes Go.WideShapes Go.Deep

theorem stampX_any (t c s k : Int) (a : Option Addr) (n cp : Nat) (lo hi old : Int) (w : World) :
    Calls Try.prog 21 #[.int .i64 t, .agg #[.int .i64 c, .int .i64 s, .int .i64 k, .slice a n cp, .int .i64 lo, .int .i64 hi, .int .i64 old]] w fun e w' => e = .returned (.agg #[.int .i64 t, .int .i64 c, .int .i64 s]) ∧ (w.alloc (.cells #[.int .i64 c, .int .i64 s, .int .i64 k, .slice a n cp, .int .i64 lo, .int .i64 hi, .int .i64 old] 26)).alloc (.cells #[.int .i64 t, .int .i64 c, .int .i64 s] 47) = w' := by
  go_enter Try.func21, Try.ntmps21
  go_wp2
  exact bodyPost_ret (v := .agg #[.int .i64 t, .int .i64 c, .int .i64 s]) (by simp [results, Try.results21, go_sem]) rfl ⟨rfl, rfl⟩
/-- Two boxes of any cells, behind calls. -/
theorem bxN {w W : World} {ta tb : TypeId} {x y : Array Value} (h : Below ((w.alloc (.cells x ta)).alloc (.cells y tb)).heap.size ((w.alloc (.cells x ta)).alloc (.cells y tb)) W) :
    (∀ i, W.cell? ⟨w.heap.size, i, none⟩ = x[i]?) ∧ (∀ i, W.cell? ⟨w.heap.size + 1, i, none⟩ = y[i]?) := by
  have A := fun i => h.cell (p := ⟨w.heap.size, i, none⟩) (by simp; omega)
  have B := fun i => h.cell (p := ⟨w.heap.size + 1, i, none⟩) (by simp)
  have z1 : (w.alloc (.cells x ta)).heap.size = w.heap.size + 1 := by simp
  refine ⟨fun i => (A i).trans ?_, fun i => (B i).trans ?_⟩
  · rw [World.cell?_alloc_lt _ _ ⟨w.heap.size, i, none⟩ (by rw [z1]; show w.heap.size < _; omega)]
    exact cell_of_row _ _ _ _ _ _ (heap_alloc_new _ _)
  · rw [← z1]
    exact cell_of_row _ _ _ _ _ _ (heap_alloc_new _ _)
theorem cellN {W : World} {x : Array Value} {t : TypeId} {b i : Nat} (hb : b = W.heap.size) : (W.alloc (.cells x t)).cell? ⟨b, i, none⟩ = x[i]? := by subst hb; exact cell_of_row _ _ _ _ _ _ (heap_alloc_new _ _)
theorem unD {B : Nat} {a X : World} (h : Below B a X.drew) : Below B a X := ⟨h.os, h.tape, h.output, h.size, h.block⟩
theorem toD {B : Nat} {a X : World} (h : Below B a X) : Below B a X.drew := ⟨h.os, h.tape, h.output, h.size, h.block⟩
theorem belN_alloc {B : Nat} {a X : World} (h : Below B a X.drew) (hs : B ≤ X.heap.size) (o : Obj) : Below B a (X.alloc o).drew := toD (Below.alloc (unD h) hs o)
theorem belN_set {B : Nat} {a X : World} (h : Below B a X.drew) {p : Addr} (hp : B ≤ p.block) (u : Value) : Below B a (X.setCell p u).drew := toD (Below.setCell (unD h) hp u)
theorem cmp_next (t c s c2 s2 : Int) : cmpS t c s (t + 1) c2 s2 = -1 := by
  unfold cmpS befB
  have h1 : (t == t + 1) = false := by simp; omega
  have h2 : t ≠ t + 1 := by omega
  have h3 : t < t + 1 := by omega
  rw [h1, if_neg h2, decide_eq_true h3]
  rfl
theorem cmp_near (t c s c2 s2 : Int) : cmpS t c s t c2 s2 = if c < c2 ∨ (c = c2 ∧ s < s2) then -1 else if c ≠ c2 ∨ s ≠ s2 then 1 else 0 := by
  unfold cmpS befB
  by_cases h1 : c = c2
  · by_cases h2 : s = s2
    · simp [h1, h2]
    · by_cases h3 : s < s2 <;> simp [h1, h2, h3]
  · by_cases h3 : c < c2 <;> simp [h1, h3]
set_option maxRecDepth 100000 in
set_option maxHeartbeats 8000000 in
theorem mutNear_walk (t c s k : Int) (a : Option Addr) (n cp : Nat) (l : List Sp) (lo hi old c2 s2 k2 : Int) (a2 : Option Addr) (n2 cp2 : Nat) (l2 : List Sp) (lo2 hi2 old2 : Int) (w : World) (_ht : (Lit.int .i64 t).wf = true) (hA : Arg w a n cp l) (hB : Arg w a2 n2 cp2 l2) :
    Calls Try.prog 4 #[.int .i64 t, .agg #[.int .i64 c, .int .i64 s, .int .i64 k, .slice a n cp, .int .i64 lo, .int .i64 hi, .int .i64 old], .agg #[.int .i64 c2, .int .i64 s2, .int .i64 k2, .slice a2 n2 cp2, .int .i64 lo2, .int .i64 hi2, .int .i64 old2]] w (TruePost w) := by
  have z1 : (n : Int) ≤ 9223372036854775807 := by have := hA.1; have := hA.2.1; omega
  have z2 : (n2 : Int) ≤ 9223372036854775807 := by have := hB.1; have := hB.2.1; omega
  clear hA hB
  have mixed : Try.prog.follows .mixedOrders = true := by kernel_rfl
  obtain ⟨W1, hW1⟩ : ∃ W1, (w.alloc (.cells #[.int .i64 c, .int .i64 s, .int .i64 k, .slice a n cp, .int .i64 lo, .int .i64 hi, .int .i64 old] 26)).alloc (.cells #[.int .i64 c2, .int .i64 s2, .int .i64 k2, .slice a2 n2 cp2, .int .i64 lo2, .int .i64 hi2, .int .i64 old2] 26) = W1 := ⟨_, rfl⟩
  have bw : Below w.heap.size w W1 := by rw [← hW1]; exact ((Below.refl _ _).alloc (Nat.le_refl _) _).alloc (by simp) _
  have sw : w.heap.size + 2 ≤ W1.heap.size := by rw [← hW1]; simp
  have K := Lib.hid (fun W (h : Below W1.heap.size W1 W) => (show W.cell? ⟨w.heap.size, 0, none⟩ = some (.int .i64 c) ∧ W.cell? ⟨w.heap.size, 1, none⟩ = some (.int .i64 s) ∧ W.cell? ⟨w.heap.size, 2, none⟩ = some (.int .i64 k) ∧ W.cell? ⟨w.heap.size, 3, none⟩ = some (.slice a n cp) ∧ W.cell? ⟨w.heap.size, 4, none⟩ = some (.int .i64 lo) ∧ W.cell? ⟨w.heap.size, 5, none⟩ = some (.int .i64 hi) ∧ W.cell? ⟨w.heap.size, 6, none⟩ = some (.int .i64 old) ∧ W.cell? ⟨w.heap.size + 1, 0, none⟩ = some (.int .i64 c2) ∧ W.cell? ⟨w.heap.size + 1, 1, none⟩ = some (.int .i64 s2) ∧ W.cell? ⟨w.heap.size + 1, 2, none⟩ = some (.int .i64 k2) ∧ W.cell? ⟨w.heap.size + 1, 3, none⟩ = some (.slice a2 n2 cp2) ∧ W.cell? ⟨w.heap.size + 1, 4, none⟩ = some (.int .i64 lo2) ∧ W.cell? ⟨w.heap.size + 1, 5, none⟩ = some (.int .i64 hi2) ∧ W.cell? ⟨w.heap.size + 1, 6, none⟩ = some (.int .i64 old2) by
    rw [← hW1] at h
    have h1 := (bxN h).1
    have h2 := (bxN h).2
    exact ⟨h1 0, h1 1, h1 2, h1 3, h1 4, h1 5, h1 6, h2 0, h2 1, h2 2, h2 3, h2 4, h2 5, h2 6⟩))
  have HS := Lib.hid (Env.mk (L := []) (Below.refl W1.heap.size W1) (by simp))
  obtain ⟨q0, q1, q2, q3, q4, q5, q6, q7, q8, q9, q10, q11, q12, q13⟩ := K.out _ HS.out.low
  have FA := Lib.hid (fun W => few4_any c s k a n cp lo hi old W z1)
  have FB := Lib.hid (fun W => few4_any c2 s2 k2 a2 n2 cp2 lo2 hi2 old2 W z2)
  obtain ⟨f1, hf1⟩ : ∃ f, decide (n ≤ 100) = f := ⟨_, rfl⟩
  obtain ⟨f2, hf2⟩ : ∃ f, decide (n2 ≤ 100) = f := ⟨_, rfl⟩
  rw [hf1] at FA
  rw [hf2] at FB
  clear hf1 hf2
  cases f1
  · go_enter Try.func4, Try.ntmps4
    go_wp2_with (first | (go_at_call 8; (with_reducible refine (FA.out _).mono ?_); rintro e w' ⟨rfl, hb⟩; replace HS := Lib.hid (HS.out.step hb); clear hb; obtain ⟨q0, q1, q2, q3, q4, q5, q6, q7, q8, q9, q10, q11, q12, q13⟩ := K.out _ HS.out.low) | (go_at_call 9; (with_reducible refine (awake4_any _).mono ?_); rintro e w' ⟨rfl, hb⟩; replace HS := Lib.hid (HS.out.step hb); clear hb; obtain ⟨q0, q1, q2, q3, q4, q5, q6, q7, q8, q9, q10, q11, q12, q13⟩ := K.out _ HS.out.low))
    go_ret
    exact ⟨rfl, bw.trans (HS.out.low.mono bw.size)⟩
  cases f2
  · go_enter Try.func4, Try.ntmps4
    go_wp2_with (first | (go_at_call 8; (with_reducible refine (FA.out _).mono ?_); rintro e w' ⟨rfl, hb⟩; replace HS := Lib.hid (HS.out.step hb); clear hb; obtain ⟨q0, q1, q2, q3, q4, q5, q6, q7, q8, q9, q10, q11, q12, q13⟩ := K.out _ HS.out.low) | (go_at_call 8; (with_reducible refine (FB.out _).mono ?_); rintro e w' ⟨rfl, hb⟩; replace HS := Lib.hid (HS.out.step hb); clear hb; obtain ⟨q0, q1, q2, q3, q4, q5, q6, q7, q8, q9, q10, q11, q12, q13⟩ := K.out _ HS.out.low) | (go_at_call 9; (with_reducible refine (awake4_any _).mono ?_); rintro e w' ⟨rfl, hb⟩; replace HS := Lib.hid (HS.out.step hb); clear hb; obtain ⟨q0, q1, q2, q3, q4, q5, q6, q7, q8, q9, q10, q11, q12, q13⟩ := K.out _ HS.out.low))
    go_ret
    exact ⟨rfl, bw.trans (HS.out.low.mono bw.size)⟩
  by_cases ht0 : t < 0
  · go_enter Try.func4, Try.ntmps4
    go_wp2_with (first | (go_at_call 8; (with_reducible refine (FA.out _).mono ?_); rintro e w' ⟨rfl, hb⟩; replace HS := Lib.hid (HS.out.step hb); clear hb; obtain ⟨q0, q1, q2, q3, q4, q5, q6, q7, q8, q9, q10, q11, q12, q13⟩ := K.out _ HS.out.low) | (go_at_call 8; (with_reducible refine (FB.out _).mono ?_); rintro e w' ⟨rfl, hb⟩; replace HS := Lib.hid (HS.out.step hb); clear hb; obtain ⟨q0, q1, q2, q3, q4, q5, q6, q7, q8, q9, q10, q11, q12, q13⟩ := K.out _ HS.out.low) | (go_at_call 9; (with_reducible refine (awake4_any _).mono ?_); rintro e w' ⟨rfl, hb⟩; replace HS := Lib.hid (HS.out.step hb); clear hb; obtain ⟨q0, q1, q2, q3, q4, q5, q6, q7, q8, q9, q10, q11, q12, q13⟩ := K.out _ HS.out.low))
    go_ret
    exact ⟨rfl, bw.trans (HS.out.low.mono bw.size)⟩
  by_cases ht1 : (1099511627775 : Int) ≤ t
  · have hd : decide (t ≥ 1099511627775) = true := decide_eq_true ht1
    go_enter Try.func4, Try.ntmps4
    go_wp2_with (first | (go_at_call 8; (with_reducible refine (FA.out _).mono ?_); rintro e w' ⟨rfl, hb⟩; replace HS := Lib.hid (HS.out.step hb); clear hb; obtain ⟨q0, q1, q2, q3, q4, q5, q6, q7, q8, q9, q10, q11, q12, q13⟩ := K.out _ HS.out.low) | (go_at_call 8; (with_reducible refine (FB.out _).mono ?_); rintro e w' ⟨rfl, hb⟩; replace HS := Lib.hid (HS.out.step hb); clear hb; obtain ⟨q0, q1, q2, q3, q4, q5, q6, q7, q8, q9, q10, q11, q12, q13⟩ := K.out _ HS.out.low) | (go_at_call 9; (with_reducible refine (awake4_any _).mono ?_); rintro e w' ⟨rfl, hb⟩; replace HS := Lib.hid (HS.out.step hb); clear hb; obtain ⟨q0, q1, q2, q3, q4, q5, q6, q7, q8, q9, q10, q11, q12, q13⟩ := K.out _ HS.out.low))
    go_ret
    exact ⟨rfl, bw.trans (HS.out.low.mono bw.size)⟩
  have hd : decide (t ≥ 1099511627775) = false := decide_eq_false ht1
  have hd0 : decide (t < 0) = false := decide_eq_false ht0
  have hkw : IntKind.i64.wrap (t + 1) = t + 1 := IntWalk.i64_in _ (by omega)
  go_enter Try.func4, Try.ntmps4
  go_upto_region 3 with (first | (go_at_call 8; (with_reducible refine (FA.out _).mono ?_); rintro e w' ⟨rfl, hb⟩; replace HS := Lib.hid (HS.out.step hb); clear hb; obtain ⟨q0, q1, q2, q3, q4, q5, q6, q7, q8, q9, q10, q11, q12, q13⟩ := K.out _ HS.out.low) | (go_at_call 8; (with_reducible refine (FB.out _).mono ?_); rintro e w' ⟨rfl, hb⟩; replace HS := Lib.hid (HS.out.step hb); clear hb; obtain ⟨q0, q1, q2, q3, q4, q5, q6, q7, q8, q9, q10, q11, q12, q13⟩ := K.out _ HS.out.low))
  go_cut [7, 8] (fun x y wx => ∃ g h : Nat, x = .pointer (some ⟨g, 0, none⟩) ∧ y = .pointer (some ⟨h, 0, none⟩) ∧ g < wx.heap.size ∧ h < wx.heap.size ∧ wx.cell? ⟨g, 0, none⟩ = some (.int .i64 t) ∧ wx.cell? ⟨g, 1, none⟩ = some (.int .i64 c) ∧ wx.cell? ⟨g, 2, none⟩ = some (.int .i64 s) ∧ wx.cell? ⟨h, 0, none⟩ = some (.int .i64 t) ∧ wx.cell? ⟨h, 1, none⟩ = some (.int .i64 c2) ∧ wx.cell? ⟨h, 2, none⟩ = some (.int .i64 s2) ∧ Below W1.heap.size W1 wx)
  case first =>
    have HB := HS.out.low
    have hsz := HB.size
    have HBD : Below W1.heap.size W1 w'.drew := toD HB
    go_region_held3 (fun w' => w'.cell? ⟨w.heap.size, 0, none⟩ = some (.int .i64 c) ∧ w'.cell? ⟨w.heap.size, 1, none⟩ = some (.int .i64 s) ∧ w'.cell? ⟨w.heap.size, 2, none⟩ = some (.int .i64 k) ∧ w'.cell? ⟨w.heap.size, 3, none⟩ = some (.slice a n cp) ∧ w'.cell? ⟨w.heap.size, 4, none⟩ = some (.int .i64 lo) ∧ w'.cell? ⟨w.heap.size, 5, none⟩ = some (.int .i64 hi) ∧ w'.cell? ⟨w.heap.size, 6, none⟩ = some (.int .i64 old) ∧ w'.cell? ⟨w.heap.size + 1, 0, none⟩ = some (.int .i64 c2) ∧ w'.cell? ⟨w.heap.size + 1, 1, none⟩ = some (.int .i64 s2) ∧ w'.cell? ⟨w.heap.size + 1, 2, none⟩ = some (.int .i64 k2) ∧ w'.cell? ⟨w.heap.size + 1, 3, none⟩ = some (.slice a2 n2 cp2) ∧ w'.cell? ⟨w.heap.size + 1, 4, none⟩ = some (.int .i64 lo2) ∧ w'.cell? ⟨w.heap.size + 1, 5, none⟩ = some (.int .i64 hi2) ∧ w'.cell? ⟨w.heap.size + 1, 6, none⟩ = some (.int .i64 old2)) (exact K.out _ (by repeat (first | exact HBD | refine belN_alloc ?_ (by first | omega | (simp; omega)) _ | refine belN_set ?_ (by first | omega | (simp; omega)) _))) ((first | (go_at_call 21; (with_reducible refine (stampX_any t c s k a n cp lo hi old _).mono ?_); rintro e w' ⟨rfl, rfl⟩) | (go_at_call 21; (with_reducible refine (stampX_any t c2 s2 k2 a2 n2 cp2 lo2 hi2 old2 _).mono ?_); rintro e w' ⟨rfl, rfl⟩) | fail))
    all_goals
      go_wp2_with fail
      go_meet
      exact ⟨_, _, rfl, rfl, (by first | (simp; done) | (simp; omega)), (by first | (simp; done) | (simp; omega)), (by (repeat (refine (World.cell?_alloc_lt _ _ _ (by first | (simp; done) | (simp; omega))).trans ?_)); exact (cellN (by first | rfl | (simp; done) | (simp; omega))).trans rfl), (by (repeat (refine (World.cell?_alloc_lt _ _ _ (by first | (simp; done) | (simp; omega))).trans ?_)); exact (cellN (by first | rfl | (simp; done) | (simp; omega))).trans rfl), (by (repeat (refine (World.cell?_alloc_lt _ _ _ (by first | (simp; done) | (simp; omega))).trans ?_)); exact (cellN (by first | rfl | (simp; done) | (simp; omega))).trans rfl), (by (repeat (refine (World.cell?_alloc_lt _ _ _ (by first | (simp; done) | (simp; omega))).trans ?_)); exact (cellN (by first | rfl | (simp; done) | (simp; omega))).trans rfl), (by (repeat (refine (World.cell?_alloc_lt _ _ _ (by first | (simp; done) | (simp; omega))).trans ?_)); exact (cellN (by first | rfl | (simp; done) | (simp; omega))).trans rfl), (by (repeat (refine (World.cell?_alloc_lt _ _ _ (by first | (simp; done) | (simp; omega))).trans ?_)); exact (cellN (by first | rfl | (simp; done) | (simp; omega))).trans rfl), (by repeat (first | exact HBD | refine belN_alloc ?_ (by first | omega | (simp; omega)) _ | refine belN_set ?_ (by first | omega | (simp; omega)) _))⟩
  case rest =>
    obtain ⟨g, h, rfl, rfl, hg, hh, x0, x1, x2, y0, y1, y2, hb⟩ := hcut
    obtain ⟨q0, q1, q2, q3, q4, q5, q6, q7, q8, q9, q10, q11, q12, q13⟩ := K.out _ hb
    have hne : Nonempty (EnvW wc []) := ⟨⟨_, Env.mk (L := []) (Below.refl _ _) (by simp)⟩⟩
    have hbw := bw.trans (hb.mono bw.size)
    have CN := Lib.hid (cmp_next t c s c2 s2)
    obtain ⟨v, hv⟩ : ∃ v, cmpS t c s t c2 s2 = v := ⟨_, rfl⟩
    have hnear := cmp_near t c s c2 s2
    rw [hv] at hnear
    have hcase : (v = -1 ∧ c < c2) ∨ (v = -1 ∧ c = c2 ∧ s < s2) ∨ (v = 0 ∧ c = c2 ∧ s = s2) ∨ (v = 1 ∧ c = c2 ∧ s2 < s) ∨ (v = 1 ∧ c2 < c) := by
      by_cases a1 : c < c2
      · rw [if_pos (.inl a1)] at hnear; exact .inl ⟨hnear, a1⟩
      · by_cases a2 : c = c2
        · by_cases a3 : s < s2
          · rw [if_pos (.inr ⟨a2, a3⟩)] at hnear; exact .inr (.inl ⟨hnear, a2, a3⟩)
          · by_cases a4 : s = s2
            · rw [if_neg (by omega), if_neg (by omega)] at hnear; exact .inr (.inr (.inl ⟨hnear, a2, a4⟩))
            · rw [if_neg (by omega), if_pos (by omega)] at hnear; exact .inr (.inr (.inr (.inl ⟨hnear, a2, by omega⟩)))
        · rw [if_neg (by omega), if_pos (by omega)] at hnear; exact .inr (.inr (.inr (.inr ⟨hnear, by omega⟩)))
    replace hv := Lib.hid hv
    clear hnear HS
    have hfacts : ∃ (b1 b2 b3 b4 b5 : Bool), decide (c < c2) = b1 ∧ (c == c2) = b2 ∧ decide (s < s2) = b3 ∧ (c != c2) = b4 ∧ (s != s2) = b5 ∧ ((v = -1 ∧ b1 = true) ∨ (v = -1 ∧ b1 = false ∧ b2 = true ∧ b3 = true) ∨ (v = 0 ∧ b1 = false ∧ b2 = true ∧ b3 = false ∧ b4 = false ∧ b5 = false) ∨ (v = 1 ∧ b1 = false ∧ b2 = true ∧ b3 = false ∧ b4 = false ∧ b5 = true) ∨ (v = 1 ∧ b1 = false ∧ b2 = false ∧ b4 = true)) := by
      refine ⟨_, _, _, _, _, rfl, rfl, rfl, rfl, rfl, ?_⟩
      rcases hcase with ⟨rfl, a1⟩ | ⟨rfl, a1, a2⟩ | ⟨rfl, a1, a2⟩ | ⟨rfl, a1, a2⟩ | ⟨rfl, a1⟩
      · exact .inl ⟨rfl, decide_eq_true a1⟩
      · exact .inr (.inl ⟨rfl, decide_eq_false (by omega), by simpa using a1, decide_eq_true a2⟩)
      · exact .inr (.inr (.inl ⟨rfl, decide_eq_false (by omega), by simpa using a1, decide_eq_false (by omega), by simpa using a1, by simpa using a2⟩))
      · exact .inr (.inr (.inr (.inl ⟨rfl, decide_eq_false (by omega), by simpa using a1, decide_eq_false (by omega), by simpa using a1, by simp; omega⟩)))
      · exact .inr (.inr (.inr (.inr ⟨rfl, decide_eq_false (by omega), by simp; omega, by simp; omega⟩)))
    clear hcase
    obtain ⟨b1, b2, b3, b4, b5, e1, e2, e3, e4, e5, hfacts⟩ := hfacts
    have F0 : ∀ p : EnvW wc [], p.W.cell? ⟨g, 0, none⟩ = some (.int .i64 t) := fun p => (p.h.low.cell hg).trans x0
    have F1 : ∀ p : EnvW wc [], p.W.cell? ⟨g, 1, none⟩ = some (.int .i64 c) := fun p => (p.h.low.cell hg).trans x1
    have F2 : ∀ p : EnvW wc [], p.W.cell? ⟨g, 2, none⟩ = some (.int .i64 s) := fun p => (p.h.low.cell hg).trans x2
    have F3 : ∀ p : EnvW wc [], p.W.cell? ⟨h, 0, none⟩ = some (.int .i64 t) := fun p => (p.h.low.cell hh).trans y0
    have F4 : ∀ p : EnvW wc [], p.W.cell? ⟨h, 1, none⟩ = some (.int .i64 c2) := fun p => (p.h.low.cell hh).trans y1
    have F5 : ∀ p : EnvW wc [], p.W.cell? ⟨h, 2, none⟩ = some (.int .i64 s2) := fun p => (p.h.low.cell hh).trans y2
    have KE := fun (p : EnvW wc []) => K.out _ (below_next hb p.h.low)
    have G0 := fun p => (KE p).1
    have G1 := fun p => (KE p).2.1
    have G2 := fun p => (KE p).2.2.1
    have G3 := fun p => (KE p).2.2.2.1
    have G4 := fun p => (KE p).2.2.2.2.1
    have G5 := fun p => (KE p).2.2.2.2.2.1
    have G6 := fun p => (KE p).2.2.2.2.2.2.1
    have G7 := fun p => (KE p).2.2.2.2.2.2.2.1
    have G8 := fun p => (KE p).2.2.2.2.2.2.2.2.1
    have G9 := fun p => (KE p).2.2.2.2.2.2.2.2.2.1
    have G10 := fun p => (KE p).2.2.2.2.2.2.2.2.2.2.1
    have G11 := fun p => (KE p).2.2.2.2.2.2.2.2.2.2.2.1
    have G12 := fun p => (KE p).2.2.2.2.2.2.2.2.2.2.2.2.1
    have G13 := fun p => (KE p).2.2.2.2.2.2.2.2.2.2.2.2.2
    clear KE x0 x1 x2 y0 y1 y2
    have QA : Hid (∀ p : EnvW wc [], Calls Try.prog 9 #[] p.W fun e w'' => e = .returned (.bool true) ∧ ∃ q : EnvW wc [], w'' = q.W) := Lib.hid fun p => env_of p (awake4_any p.W)
    have QC : Hid (∀ p : EnvW wc [], Calls Try.prog 22 #[.agg #[.int .i64 t, .int .i64 c, .int .i64 s], .agg #[.int .i64 t, .int .i64 c2, .int .i64 s2]] p.W fun e w'' => e = .returned (.int .i64 v) ∧ ∃ q : EnvW wc [], w'' = q.W) := Lib.hid fun p => env_of p (hv.out ▸ compare_any t c s t c2 s2 p.W)
    have QD : Hid (∀ p : EnvW wc [], Calls Try.prog 22 #[.agg #[.int .i64 t, .int .i64 c, .int .i64 s], .agg #[.int .i64 (t + 1), .int .i64 c2, .int .i64 s2]] p.W fun e w'' => e = .returned (.int .i64 (-1)) ∧ ∃ q : EnvW wc [], w'' = q.W) := Lib.hid fun p => env_of p (CN.out ▸ compare_any t c s (t + 1) c2 s2 p.W)
    have QS : Hid (∀ p : EnvW wc [], Calls Try.prog 21 #[.int .i64 (t + 1), .agg #[.int .i64 c2, .int .i64 s2, .int .i64 k2, .slice a2 n2 cp2, .int .i64 lo2, .int .i64 hi2, .int .i64 old2]] p.W fun e w'' => e = .returned (.agg #[.int .i64 (t + 1), .int .i64 c2, .int .i64 s2]) ∧ ∃ q : EnvW wc [], w'' = q.W) := Lib.hid fun p => env_of p (stamp_any (t + 1) c2 s2 k2 a2 n2 cp2 lo2 hi2 old2 p.W)
    have HE : Env wc wc [] := Env.mk (L := []) (Below.refl _ _) (by simp)
    rcases hfacts with ⟨rfl, rfl⟩ | ⟨rfl, rfl, rfl, rfl⟩ | ⟨rfl, rfl, rfl, rfl, rfl, rfl⟩ | ⟨rfl, rfl, rfl, rfl, rfl, rfl⟩ | ⟨rfl, rfl, rfl, rfl⟩
    all_goals
      go_wp2_with fail
      refine wp_region_quiet_env HE mixed (by kernel_rfl) ?_
      clear HE
      repeat (first | go_big_quiet_step (first | (go_at_call 9; with_reducible exact QA.out _) | (go_at_call 22; with_reducible exact QC.out _) | (go_at_call 22; with_reducible exact QD.out _) | (go_at_call 21; with_reducible exact QS.out _)) | quiet_step (first | (go_at_call 9; with_reducible exact QA.out _) | (go_at_call 22; with_reducible exact QC.out _) | (go_at_call 22; with_reducible exact QD.out _) | (go_at_call 21; with_reducible exact QS.out _)))
      refine wpQuiet_nil ?_
      intro _ hw'
      obtain ⟨⟨W9, hE9⟩, hw''⟩ := hw'
      subst hw''
      go_wp2
      go_ret
      exact ⟨rfl, hbw.trans (hE9.low.mono hbw.size)⟩
end Go.Proofs.Ytlbfcbmfpnfheaa
