/-
  BAGS: taking, setting apart, finding; a new bag.
-/
import Derived.Test.YtbonokhldonciaaBgE
namespace Go.Proofs.Ytbonokhldonciaa
open Go.RowKit Go.Maps Go.ChangeMaps

def takeS (s : Bs) (k : Int) : Bs := match s.G k with | some m => if cutB s m.fr m.to then s else dropS s k | none => s
def takeV (s : Bs) (k : Int) : Ml × Int := match s.G k with | some m => if cutB s m.fr m.to then (m0, 50) else (m, 0) | none => (m0, 4)
theorem Bg.set4 {W : World} {p mb ab b : Nat} {s : Bs} (h : Bg W p mb ab s) (h1 : b ≠ p) (h2 : b ≠ mb) (h3 : b ≠ ab) (u v x y : Value) :
    Bg ((((W.setCell ⟨b, 0, none⟩ u).setCell ⟨b, 1, none⟩ v).setCell ⟨b, 2, none⟩ x).setCell ⟨b, 3, none⟩ y) p mb ab s := (((h.set h1 h2 h3 0 u).set h1 h2 h3 1 v).set h1 h2 h3 2 x).set h1 h2 h3 3 y
theorem But.set4 {p mb ab b : Nat} {a W : World} (h : But p mb ab a W) (hb : a.heap.size ≤ b) (u v x y : Value) :
    But p mb ab a ((((W.setCell ⟨b, 0, none⟩ u).setCell ⟨b, 1, none⟩ v).setCell ⟨b, 2, none⟩ x).setCell ⟨b, 3, none⟩ y) := (((h.set (.inr (.inr (.inr hb))) u).set (.inr (.inr (.inr hb))) v).set (.inr (.inr (.inr hb))) x).set (.inr (.inr (.inr hb))) y
set_option maxRecDepth 100000 in
set_option maxHeartbeats 1000000 in
theorem take_any {w : World} {p mb ab : Nat} {s : Bs} (h : Bg w p mb ab s) {k : Int} (hk : (Lit.int .i64 k).wf = true) :
    Calls Try.prog 14 #[.pointer (some ⟨p, 0, none⟩), .int .i64 k] w (SPost p mb ab (.tuple #[valM (takeV s k).1, .int .i64 (takeV s k).2]) (takeS s k) w) := by
  have h1 := h.same (belowM w m0)
  simp only [m0, boxM] at h1
  have hx1 := heap_alloc_new w (boxM m0)
  simp only [m0, boxM] at hx1
  have B1 := belowM w m0
  simp only [m0, boxM] at B1
  obtain ⟨l1, l2, l3⟩ := h.lt
  have n1 : w.heap.size ≠ p := by omega
  have n2 : w.heap.size ≠ mb := by omega
  have n3 : w.heap.size ≠ ab := by omega
  replace B1 := Lib.hid B1
  replace hx1 := Lib.hid hx1
  unfold takeS takeV
  cases e : s.G k with
  | none =>
    dsimp only
    obtain ⟨m, hm⟩ : ∃ m, m0 = m := ⟨_, rfl⟩
    have eg : getM s k = (m, 4) := by unfold getM; rw [e, ← hm]
    clear hm
    go_enter Try.func14, Try.ntmps14
    go_wp2_with (go_at_call 31; (with_reducible refine (getE h1 hk eg).mono ?_); rintro e w2 ⟨rfl, b2⟩; (have b3 := b2.trans ((belowM w2 m).mono b2.size)); (have h3 := h1.same b3); (have hx := (b3.block _ (by simp)).trans hx1.out); (have B3 := B1.out.trans (b3.mono B1.out.size)); obtain ⟨W3, hW3⟩ : ∃ W3, w2.alloc (.cells #[.int .i64 m.id, .int .i64 m.fr, .int .i64 m.to, .string m.tx] 42) = W3 := ⟨_, rfl⟩; simp only [boxM] at h3 b3 hx B3; rw [hW3] at h3 b3 hx B3; obtain ⟨z0, z1, z2, z3⟩ := cellsM hx; obtain ⟨f0, f1, f2, f3⟩ := freeM hx)
    exact bodyPost_ret (v := .tuple #[.agg #[.int .i64 0, .int .i64 0, .int .i64 0, .string ⟨#[]⟩], .int .i64 4]) (by simp [results, Try.results14, go_sem, z0, z1, z2, z3]) rfl ⟨rfl, h3.set4 n1 n2 n3 _ _ _ _, (But.of_below B3).set4 (Nat.le_refl _) _ _ _ _⟩
  | some m =>
    dsimp only
    have eg : getM s k = (m, 0) := by unfold getM; rw [e]
    obtain ⟨hf, ht⟩ := (h.keys k m e).2.2.2
    have wf1 := wf_i64 (k := m.fr) (by omega) (by omega)
    have wf2 := wf_i64 (k := m.to) (by omega) (by omega)
    have he := Lib.hid e
    clear e
    rcases Bool.eq_false_or_eq_true (cutB s m.fr m.to) with hc | hc
    · rw [if_pos hc, if_pos hc]
      go_enter Try.func14, Try.ntmps14
      go_wp2_with (first
        | (go_at_call 31; (with_reducible refine (getE h1 hk eg).mono ?_); rintro e w2 ⟨rfl, b2⟩; (have b3 := b2.trans ((belowM w2 m).mono b2.size)); (have h3 := h1.same b3); (have hx := (b3.block _ (by simp)).trans hx1.out); (have hy := heap_alloc_new w2 (boxM m)); (have B3 := B1.out.trans (b3.mono B1.out.size)); obtain ⟨W3, hW3⟩ : ∃ W3, w2.alloc (.cells #[.int .i64 m.id, .int .i64 m.fr, .int .i64 m.to, .string m.tx] 42) = W3 := ⟨_, rfl⟩; simp only [boxM] at h3 b3 hx hy B3; rw [hW3] at h3 b3 hx hy B3; obtain ⟨y0, y1, y2, y3⟩ := cellsM hy)
        | (go_at_call 32; (with_reducible refine (cut_any h3 m wf1 wf2).mono ?_); rw [hc]; rintro e w4 ⟨rfl, b4⟩; (have h4 := h3.same b4); (have hx4 := (b4.block _ (Array.getElem?_eq_some_iff.1 hx).1).trans hx); obtain ⟨z0, z1, z2, z3⟩ := cellsM hx4; obtain ⟨f0, f1, f2, f3⟩ := freeM hx4))
      exact bodyPost_ret (v := .tuple #[.agg #[.int .i64 0, .int .i64 0, .int .i64 0, .string ⟨#[]⟩], .int .i64 50]) (by simp [results, Try.results14, go_sem, z0, z1, z2, z3]) rfl ⟨rfl, h4.set4 n1 n2 n3 _ _ _ _, (But.of_below (B3.trans (b4.mono B3.size))).set4 (Nat.le_refl _) _ _ _ _⟩
    · rw [if_neg (by rw [hc]; decide), if_neg (by rw [hc]; decide)]
      go_enter Try.func14, Try.ntmps14
      go_wp2_with (first
        | (go_at_call 31; (with_reducible refine (getE h1 hk eg).mono ?_); rintro e w2 ⟨rfl, b2⟩; (have b3 := b2.trans ((belowM w2 m).mono b2.size)); (have h3 := h1.same b3); (have hx := (b3.block _ (by simp)).trans hx1.out); (have hy := heap_alloc_new w2 (boxM m)); (have B3 := B1.out.trans (b3.mono B1.out.size)); obtain ⟨W3, hW3⟩ : ∃ W3, w2.alloc (.cells #[.int .i64 m.id, .int .i64 m.fr, .int .i64 m.to, .string m.tx] 42) = W3 := ⟨_, rfl⟩; simp only [boxM] at h3 b3 hx hy B3; rw [hW3] at h3 b3 hx hy B3; obtain ⟨y0, y1, y2, y3⟩ := cellsM hy)
        | (go_at_call 32; (with_reducible refine (cut_any h3 m wf1 wf2).mono ?_); rw [hc]; rintro e w4 ⟨rfl, b4⟩; (have h4 := h3.same b4); (have hx4 := (b4.block _ (Array.getElem?_eq_some_iff.1 hx).1).trans hx); (have hy4 := (b4.block _ (Array.getElem?_eq_some_iff.1 hy).1).trans hy); obtain ⟨c0, c1, c2⟩ := h4.cells; obtain ⟨W5, hrun5, h5, ht5⟩ := drop_ok h4 hk he.out; (have g5 := ht5.grown); (have nn : w2.heap.size ≠ mb := by have := B1.out.size; have := b2.size; simp at this; omega); (have hx5 := (g5.block _ (Array.getElem?_eq_some_iff.1 hx4).1 (fun q => n2 (Option.some.inj q))).trans hx4); (have hy5 := (g5.block _ (Array.getElem?_eq_some_iff.1 hy4).1 (fun q => nn (Option.some.inj q))).trans hy4); obtain ⟨z0, z1, z2, z3⟩ := cellsM hx5; obtain ⟨f0, f1, f2, f3⟩ := freeM hx5; obtain ⟨v0, v1, v2, v3⟩ := cellsM hy5))
      exact bodyPost_ret (v := .tuple #[.agg #[.int .i64 m.id, .int .i64 m.fr, .int .i64 m.to, .string m.tx], .int .i64 0]) (by simp [results, Try.results14, go_sem, z0, z1, z2, z3]) rfl ⟨rfl, h5.set4 n1 n2 n3 _ _ _ _, ((But.of_below (B3.trans (b4.mono B3.size))).grown ht5.grown (.inr (.inl rfl))).set4 (Nat.le_refl _) _ _ _ _⟩
end Go.Proofs.Ytbonokhldonciaa
