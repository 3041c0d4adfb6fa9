/-
  MutStamps walked.
-/
import Derived.Test.YtelgigahjgjjiabLaw4B
namespace Go.Proofs.Ytelgigahjgjjiab
open Go.RowKit Go.Shelf Go.ChangeShapes Go.WideShapes Go.Deep

/-- Three boxes of any cells, behind calls. -/
theorem st3 {w W : World} {ta tb tc : TypeId} {x y z : Array Value} (h : Below (((w.alloc (.cells x ta)).alloc (.cells y tb)).alloc (.cells z tc)).heap.size (((w.alloc (.cells x ta)).alloc (.cells y tb)).alloc (.cells z tc)) W) :
    (∀ i, W.cell? ⟨w.heap.size, i, none⟩ = x[i]?) ∧ (∀ i, W.cell? ⟨w.heap.size + 1, i, none⟩ = y[i]?) ∧ (∀ i, W.cell? ⟨w.heap.size + 2, i, none⟩ = z[i]?) := by
  have A := fun i => h.cell (p := ⟨w.heap.size, i, none⟩) (by simp; omega)
  have B := fun i => h.cell (p := ⟨w.heap.size + 1, i, none⟩) (by simp)
  have C := fun i => h.cell (p := ⟨w.heap.size + 2, i, none⟩) (by simp)
  have z1 : (w.alloc (.cells x ta)).heap.size = w.heap.size + 1 := by simp
  have z2 : ((w.alloc (.cells x ta)).alloc (.cells y tb)).heap.size = w.heap.size + 2 := by simp
  refine ⟨fun i => (A i).trans ?_, fun i => (B i).trans ?_, fun i => (C i).trans ?_⟩
  · rw [World.cell?_alloc_lt _ _ ⟨w.heap.size, i, none⟩ (by rw [z2]; show w.heap.size < _; omega), World.cell?_alloc_lt _ _ ⟨w.heap.size, i, none⟩ (by rw [z1]; show w.heap.size < _; omega)]
    exact cell_of_row _ _ _ _ _ _ (heap_alloc_new _ _)
  · rw [World.cell?_alloc_lt _ _ ⟨w.heap.size + 1, i, none⟩ (by rw [z2]; show w.heap.size + 1 < _; omega), ← z1]
    exact cell_of_row _ _ _ _ _ _ (heap_alloc_new _ _)
  · rw [← z2]
    exact cell_of_row _ _ _ _ _ _ (heap_alloc_new _ _)
/-- Two new boxes, behind a draw and calls. -/
theorem st2 {w W : World} {ta tb : TypeId} {x y : Array Value} (h : Below (((w.alloc (.cells x ta)).alloc (.cells y tb)).drew).heap.size (((w.alloc (.cells x ta)).alloc (.cells y tb)).drew) W) :
    (∀ i, W.cell? ⟨w.heap.size, i, none⟩ = x[i]?) ∧ (∀ i, W.cell? ⟨w.heap.size + 1, i, none⟩ = y[i]?) := by
  have A := fun i => h.cell (p := ⟨w.heap.size, i, none⟩) (by simp; omega)
  have B := fun i => h.cell (p := ⟨w.heap.size + 1, i, none⟩) (by simp)
  have z1 : (w.alloc (.cells x ta)).heap.size = w.heap.size + 1 := by simp
  refine ⟨fun i => (A i).trans ?_, fun i => (B i).trans ?_⟩
  · rw [show (((w.alloc (.cells x ta)).alloc (.cells y tb)).drew).cell? ⟨w.heap.size, i, none⟩ = ((w.alloc (.cells x ta)).alloc (.cells y tb)).cell? ⟨w.heap.size, i, none⟩ from rfl, World.cell?_alloc_lt _ _ ⟨w.heap.size, i, none⟩ (by rw [z1]; show w.heap.size < _; omega)]
    exact cell_of_row _ _ _ _ _ _ (heap_alloc_new _ _)
  · rw [← z1]
    exact cell_of_row _ _ _ _ _ _ (heap_alloc_new _ _)

theorem cmp3 (t1 c1 s1 t2 c2 s2 : Int) : (cmpS t1 c1 s1 t2 c2 s2 = 0 ∧ befB t1 c1 s1 t2 c2 s2 = false ∧ befB t2 c2 s2 t1 c1 s1 = false ∧ (t1 == t2 && (c1 == c2 && s1 == s2)) = true) ∨ (cmpS t1 c1 s1 t2 c2 s2 = -1 ∧ befB t1 c1 s1 t2 c2 s2 = true ∧ befB t2 c2 s2 t1 c1 s1 = false ∧ (t1 == t2 && (c1 == c2 && s1 == s2)) = false) ∨ (cmpS t1 c1 s1 t2 c2 s2 = 1 ∧ befB t1 c1 s1 t2 c2 s2 = false ∧ befB t2 c2 s2 t1 c1 s1 = true ∧ (t1 == t2 && (c1 == c2 && s1 == s2)) = false) := by
  unfold cmpS befB
  by_cases h1 : t1 = t2
  · by_cases h2 : c1 = c2
    · by_cases h3 : s1 = s2
      · left; simp [h1, h2, h3]
      · by_cases h4 : s1 < s2
        · right; left; simp [h1, h2, h3, h4]; omega
        · right; right; simp [h1, h2, h3, h4]; omega
    · by_cases h4 : c1 < c2
      · right; left; simp [h1, h2, Ne.symm h2, h4]; omega
      · right; right; simp [h1, h2, Ne.symm h2, h4]; omega
  · by_cases h4 : t1 < t2
    · right; left; simp [h1, Ne.symm h1, h4]; omega
    · right; right; simp [h1, Ne.symm h1, h4]; omega

set_option maxRecDepth 100000 in
set_option maxHeartbeats 4000000 in
theorem mutStamps_walk (t1 c1 s1 t2 c2 s2 : Int) (c s k : Int) (a : Option Addr) (n cp : Nat) (l : List Sp) (lo hi old : Int) (w : World) (hA : Arg w a n cp l) :
    Calls Try.prog 9 #[.agg #[.int .i64 t1, .int .i64 c1, .int .i64 s1], .agg #[.int .i64 t2, .int .i64 c2, .int .i64 s2], .agg #[.int .i64 c, .int .i64 s, .int .i64 k, .slice a n cp, .int .i64 lo, .int .i64 hi, .int .i64 old]] w (TruePost w) := by
  have hz : (n : Int) ≤ 9223372036854775807 := by have h1 := hA.1; have h2 := hA.2.1; omega
  clear hA
  have mixed : Try.prog.follows .mixedOrders = true := by kernel_rfl
  have bw : Below w.heap.size w (((w.alloc (.cells #[.int .i64 t1, .int .i64 c1, .int .i64 s1] 58)).alloc (.cells #[.int .i64 t2, .int .i64 c2, .int .i64 s2] 58)).alloc (.cells #[.int .i64 c, .int .i64 s, .int .i64 k, .slice a n cp, .int .i64 lo, .int .i64 hi, .int .i64 old] 26)) := (((Below.refl _ _).alloc (Nat.le_refl _) _).alloc (by simp) _).alloc (by simp; omega) _
  have sw : w.heap.size + 3 ≤ (((w.alloc (.cells #[.int .i64 t1, .int .i64 c1, .int .i64 s1] 58)).alloc (.cells #[.int .i64 t2, .int .i64 c2, .int .i64 s2] 58)).alloc (.cells #[.int .i64 c, .int .i64 s, .int .i64 k, .slice a n cp, .int .i64 lo, .int .i64 hi, .int .i64 old] 26)).heap.size := by simp
  have K := Lib.hid (fun W (h : Below (((w.alloc (.cells #[.int .i64 t1, .int .i64 c1, .int .i64 s1] 58)).alloc (.cells #[.int .i64 t2, .int .i64 c2, .int .i64 s2] 58)).alloc (.cells #[.int .i64 c, .int .i64 s, .int .i64 k, .slice a n cp, .int .i64 lo, .int .i64 hi, .int .i64 old] 26)).heap.size (((w.alloc (.cells #[.int .i64 t1, .int .i64 c1, .int .i64 s1] 58)).alloc (.cells #[.int .i64 t2, .int .i64 c2, .int .i64 s2] 58)).alloc (.cells #[.int .i64 c, .int .i64 s, .int .i64 k, .slice a n cp, .int .i64 lo, .int .i64 hi, .int .i64 old] 26)) W) => (show W.cell? ⟨w.heap.size, 0, none⟩ = some (.int .i64 t1) ∧ W.cell? ⟨w.heap.size, 1, none⟩ = some (.int .i64 c1) ∧ W.cell? ⟨w.heap.size, 2, none⟩ = some (.int .i64 s1) ∧ W.cell? ⟨w.heap.size + 1, 0, none⟩ = some (.int .i64 t2) ∧ W.cell? ⟨w.heap.size + 1, 1, none⟩ = some (.int .i64 c2) ∧ W.cell? ⟨w.heap.size + 1, 2, none⟩ = some (.int .i64 s2) ∧ W.cell? ⟨w.heap.size + 2, 0, none⟩ = some (.int .i64 c) ∧ W.cell? ⟨w.heap.size + 2, 1, none⟩ = some (.int .i64 s) ∧ W.cell? ⟨w.heap.size + 2, 2, none⟩ = some (.int .i64 k) ∧ W.cell? ⟨w.heap.size + 2, 3, none⟩ = some (.slice a n cp) ∧ W.cell? ⟨w.heap.size + 2, 4, none⟩ = some (.int .i64 lo) ∧ W.cell? ⟨w.heap.size + 2, 5, none⟩ = some (.int .i64 hi) ∧ W.cell? ⟨w.heap.size + 2, 6, none⟩ = some (.int .i64 old) from ⟨(st3 h).1 0, (st3 h).1 1, (st3 h).1 2, (st3 h).2.1 0, (st3 h).2.1 1, (st3 h).2.1 2, (st3 h).2.2 0, (st3 h).2.2 1, (st3 h).2.2 2, (st3 h).2.2 3, (st3 h).2.2 4, (st3 h).2.2 5, (st3 h).2.2 6⟩))
  obtain ⟨W1, hW1⟩ : ∃ W1, (((w.alloc (.cells #[.int .i64 t1, .int .i64 c1, .int .i64 s1] 58)).alloc (.cells #[.int .i64 t2, .int .i64 c2, .int .i64 s2] 58)).alloc (.cells #[.int .i64 c, .int .i64 s, .int .i64 k, .slice a n cp, .int .i64 lo, .int .i64 hi, .int .i64 old] 26)) = W1 := ⟨_, rfl⟩
  rw [hW1] at K bw sw
  have HS := Lib.hid (Env.mk (L := []) (Below.refl W1.heap.size W1) (by simp))
  obtain ⟨q0, q1, q2, q3, q4, q5, q6, q7, q8, q9, q10, q11, q12⟩ := K.out _ HS.out.low
  by_cases h0 : n ≤ 100
  · have hn := Lib.hid (show decide (n ≤ 100) = true from decide_eq_true h0)
    obtain ⟨v, hv⟩ : ∃ v, cmpS t1 c1 s1 t2 c2 s2 = v := ⟨_, rfl⟩
    obtain ⟨x, hx⟩ : ∃ v, befB t1 c1 s1 t2 c2 s2 = v := ⟨_, rfl⟩
    obtain ⟨y, hy⟩ : ∃ v, befB t2 c2 s2 t1 c1 s1 = v := ⟨_, rfl⟩
    obtain ⟨z, hE⟩ : ∃ v, (t1 == t2 && (c1 == c2 && s1 == s2)) = v := ⟨_, rfl⟩
    have h3 := cmp3 t1 c1 s1 t2 c2 s2
    rw [hv, hx, hy, hE] at h3
    have EQ := fun w => eqStamp t1 c1 s1 t2 c2 s2 w
    rw [hE] at EQ
    have EQ2 := fun w => eqStamp t1 c s t1 c s w
    rw [show (t1 == t1 && (c == c && s == s)) = true by simp] at EQ2
    replace hv := Lib.hid hv
    replace hx := Lib.hid hx
    replace hy := Lib.hid hy
    clear hE h0
    rcases h3 with ⟨rfl, rfl, rfl, rfl⟩ | ⟨rfl, rfl, rfl, rfl⟩ | ⟨rfl, rfl, rfl, rfl⟩
    all_goals
      go_enter Try.func9, Try.ntmps9
      go_wp2_with ((go_at_call 12; refine (few4_any c s k a n cp lo hi old _ hz).mono ?_; rw [hn.out]; rintro e w2 ⟨rfl, hb⟩; replace HS := Lib.hid (HS.out.step hb); obtain ⟨q0, q1, q2, q3, q4, q5, q6, q7, q8, q9, q10, q11, q12⟩ := K.out _ HS.out.low))
      have g2 : w.heap.size + 2 < w2.heap.size := Nat.lt_of_lt_of_le (by omega) HS.out.low.size
      have L1 : ∀ (i j : Nat) (o : Obj), i < 2 → (w2.alloc o).cell? ⟨w.heap.size + i, j, none⟩ = w2.cell? ⟨w.heap.size + i, j, none⟩ := fun i j o hi => World.cell?_alloc_lt _ _ ⟨w.heap.size + i, j, none⟩ (show w.heap.size + i < _ by omega)
      have L2 : ∀ (i j : Nat) (o o' : Obj), i < 2 → ((w2.alloc o).alloc o').cell? ⟨w.heap.size + i, j, none⟩ = w2.cell? ⟨w.heap.size + i, j, none⟩ := fun i j o o' hi => (World.cell?_alloc_lt _ _ ⟨w.heap.size + i, j, none⟩ (show w.heap.size + i < _ by simp; omega)).trans (L1 i j o hi)
      have p0 := fun o => (L1 0 0 o (by omega)).trans q0
      have p1 := fun o => (L1 0 1 o (by omega)).trans q1
      have p2 := fun o => (L1 0 2 o (by omega)).trans q2
      have p3 := fun o => (L1 1 0 o (by omega)).trans q3
      have p4 := fun o => (L1 1 1 o (by omega)).trans q4
      have p5 := fun o => (L1 1 2 o (by omega)).trans q5
      have r0 := fun o o' => (L2 0 0 o o' (by omega)).trans q0
      have r1 := fun o o' => (L2 0 1 o o' (by omega)).trans q1
      have r2 := fun o o' => (L2 0 2 o o' (by omega)).trans q2
      have r3 := fun o o' => (L2 1 0 o o' (by omega)).trans q3
      have r4 := fun o o' => (L2 1 1 o o' (by omega)).trans q4
      have r5 := fun o o' => (L2 1 2 o o' (by omega)).trans q5
      simp only [Nat.add_zero] at p0 p1 p2 r0 r1 r2
      clear L1 L2
      go_region
      all_goals
        first
          | (obtain ⟨Wr, hWr⟩ : ∃ Wr, ((w2.alloc (.cells #[.int .i64 t1, .int .i64 c1, .int .i64 s1] 59)).alloc (.cells #[.int .i64 t2, .int .i64 c2, .int .i64 s2] 59)).drew = Wr := ⟨_, rfl⟩; rw [hWr]; have K2 := Lib.hid (fun W (h : Below Wr.heap.size Wr W) => (show W.cell? ⟨w2.heap.size, 0, none⟩ = some (.int .i64 t1) ∧ W.cell? ⟨w2.heap.size, 1, none⟩ = some (.int .i64 c1) ∧ W.cell? ⟨w2.heap.size, 2, none⟩ = some (.int .i64 s1) ∧ W.cell? ⟨w2.heap.size + 1, 0, none⟩ = some (.int .i64 t2) ∧ W.cell? ⟨w2.heap.size + 1, 1, none⟩ = some (.int .i64 c2) ∧ W.cell? ⟨w2.heap.size + 1, 2, none⟩ = some (.int .i64 s2) from (by subst hWr; exact ⟨(st2 h).1 0, (st2 h).1 1, (st2 h).1 2, (st2 h).2 0, (st2 h).2 1, (st2 h).2 2⟩))); have br : Below w2.heap.size w2 Wr := (by rw [← hWr]; exact (((Below.refl _ _).alloc (Nat.le_refl _) _).alloc (by simp) _).drew))
          | (obtain ⟨Wr, hWr⟩ : ∃ Wr, ((w2.alloc (.cells #[.int .i64 t2, .int .i64 c2, .int .i64 s2] 59)).alloc (.cells #[.int .i64 t1, .int .i64 c1, .int .i64 s1] 59)).drew = Wr := ⟨_, rfl⟩; rw [hWr]; have K2 := Lib.hid (fun W (h : Below Wr.heap.size Wr W) => (show W.cell? ⟨w2.heap.size, 0, none⟩ = some (.int .i64 t2) ∧ W.cell? ⟨w2.heap.size, 1, none⟩ = some (.int .i64 c2) ∧ W.cell? ⟨w2.heap.size, 2, none⟩ = some (.int .i64 s2) ∧ W.cell? ⟨w2.heap.size + 1, 0, none⟩ = some (.int .i64 t1) ∧ W.cell? ⟨w2.heap.size + 1, 1, none⟩ = some (.int .i64 c1) ∧ W.cell? ⟨w2.heap.size + 1, 2, none⟩ = some (.int .i64 s1) from (by subst hWr; exact ⟨(st2 h).1 0, (st2 h).1 1, (st2 h).1 2, (st2 h).2 0, (st2 h).2 1, (st2 h).2 2⟩))); have br : Below w2.heap.size w2 Wr := (by rw [← hWr]; exact (((Below.refl _ _).alloc (Nat.le_refl _) _).alloc (by simp) _).drew))
        have HR := Lib.hid (HS.out.step br)
        have HB := Lib.hid (Below.refl Wr.heap.size Wr)
        obtain ⟨q0, q1, q2, q3, q4, q5, q6, q7, q8, q9, q10, q11, q12⟩ := K.out _ (HR.out.step HB.out).low; obtain ⟨y0, y1, y2, y3, y4, y5⟩ := K2.out _ HB.out
        have hs2 : w.heap.size + 3 ≤ w2.heap.size := g2
        replace hWr := Lib.hid hWr
        clear p0 p1 p2 p3 p4 p5 r0 r1 r2 r3 r4 r5 hb
        go_wp2_with ((first | (go_at_call 32; (with_reducible refine (compare_any t1 c1 s1 t2 c2 s2 _).mono ?_); rw [hv.out]; rintro e w4 ⟨rfl, hb⟩; replace HB := Lib.hid (below_next HB.out hb); clear hb; obtain ⟨q0, q1, q2, q3, q4, q5, q6, q7, q8, q9, q10, q11, q12⟩ := K.out _ (HR.out.step HB.out).low; obtain ⟨y0, y1, y2, y3, y4, y5⟩ := K2.out _ HB.out) | (go_at_call 33; (with_reducible refine (ahead_any t1 c1 s1 t2 c2 s2 _).mono ?_); rw [hx.out]; rintro e w5 ⟨rfl, hb⟩; replace HB := Lib.hid (below_next HB.out hb); clear hb; obtain ⟨q0, q1, q2, q3, q4, q5, q6, q7, q8, q9, q10, q11, q12⟩ := K.out _ (HR.out.step HB.out).low; obtain ⟨y0, y1, y2, y3, y4, y5⟩ := K2.out _ HB.out) | (go_at_call 33; (with_reducible refine (ahead_any t2 c2 s2 t1 c1 s1 _).mono ?_); rw [hy.out]; rintro e w6 ⟨rfl, hb⟩; replace HB := Lib.hid (below_next HB.out hb); clear hb; obtain ⟨q0, q1, q2, q3, q4, q5, q6, q7, q8, q9, q10, q11, q12⟩ := K.out _ (HR.out.step HB.out).low; obtain ⟨y0, y1, y2, y3, y4, y5⟩ := K2.out _ HB.out)))
        clear q0 q1 q2 q3 q4 q5 q6 q7 q8 q9 q10 q11 q12 y0 y1 y2 y3 y4 y5
        have F0 : ∀ p : EnvW Wr [], p.W.cell? ⟨w.heap.size, 0, none⟩ = some (.int .i64 t1) := fun p => (K.out _ (HR.out.step p.h.low).low).1
        have F1 : ∀ p : EnvW Wr [], p.W.cell? ⟨w.heap.size + 2, 0, none⟩ = some (.int .i64 c) := fun p => (K.out _ (HR.out.step p.h.low).low).2.2.2.2.2.2.1
        have F2 : ∀ p : EnvW Wr [], p.W.cell? ⟨w.heap.size + 2, 1, none⟩ = some (.int .i64 s) := fun p => (K.out _ (HR.out.step p.h.low).low).2.2.2.2.2.2.2.1
        have F3 : ∀ p : EnvW Wr [], p.W.cell? ⟨w.heap.size + 2, 2, none⟩ = some (.int .i64 k) := fun p => (K.out _ (HR.out.step p.h.low).low).2.2.2.2.2.2.2.2.1
        have F4 : ∀ p : EnvW Wr [], p.W.cell? ⟨w.heap.size + 2, 3, none⟩ = some (.slice a n cp) := fun p => (K.out _ (HR.out.step p.h.low).low).2.2.2.2.2.2.2.2.2.1
        have F5 : ∀ p : EnvW Wr [], p.W.cell? ⟨w.heap.size + 2, 4, none⟩ = some (.int .i64 lo) := fun p => (K.out _ (HR.out.step p.h.low).low).2.2.2.2.2.2.2.2.2.2.1
        have F6 : ∀ p : EnvW Wr [], p.W.cell? ⟨w.heap.size + 2, 5, none⟩ = some (.int .i64 hi) := fun p => (K.out _ (HR.out.step p.h.low).low).2.2.2.2.2.2.2.2.2.2.2.1
        have F7 : ∀ p : EnvW Wr [], p.W.cell? ⟨w.heap.size + 2, 6, none⟩ = some (.int .i64 old) := fun p => (K.out _ (HR.out.step p.h.low).low).2.2.2.2.2.2.2.2.2.2.2.2
        have hne : Nonempty (EnvW Wr []) := ⟨⟨_, Env.mk (L := []) (Below.refl _ _) (by simp)⟩⟩
        have HE : Env Wr _ [] := Env.mk (L := []) HB.out (by simp)
        refine wp_region_quiet_env HE mixed (by kernel_rfl) ?_
        clear HE
        repeat (first | go_big_quiet_step ((first | (go_at_call 13; with_reducible exact env_of _ (awake4_any _)) | (go_at_call 34; with_reducible exact env_of _ (stamp_any t1 c s k a n cp lo hi old _)))) | quiet_step ((first | (go_at_call 13; with_reducible exact env_of _ (awake4_any _)) | (go_at_call 34; with_reducible exact env_of _ (stamp_any t1 c s k a n cp lo hi old _)))))
        refine wpQuiet_nil ?_
        intro _ hw'
        obtain ⟨⟨W9, hE9⟩, hw''⟩ := hw'
        subst hw''
        go_wp2
        go_ret
        exact ⟨rfl, bw.trans ((HR.out.step hE9.low).low.mono (by omega))⟩
  · have hn := Lib.hid (show decide (n ≤ 100) = false from decide_eq_false h0)
    clear h0
    go_enter Try.func9, Try.ntmps9
    go_wp2_with (first | (go_at_call 12; refine (few4_any c s k a n cp lo hi old _ hz).mono ?_; rw [hn.out]; rintro e w2 ⟨rfl, hb⟩; replace HS := Lib.hid (HS.out.step hb); obtain ⟨q0, q1, q2, q3, q4, q5, q6, q7, q8, q9, q10, q11, q12⟩ := K.out _ HS.out.low) | (go_at_call 13; refine (awake4_any _).mono ?_; rintro e w9 ⟨rfl, hb⟩; replace HS := Lib.hid (HS.out.step hb); obtain ⟨q0, q1, q2, q3, q4, q5, q6, q7, q8, q9, q10, q11, q12⟩ := K.out _ HS.out.low))
    go_ret
    exact ⟨rfl, bw.trans (HS.out.low.mono (by omega))⟩
end Go.Proofs.Ytelgigahjgjjiab
