/-
  TABLES THAT CAME IN; what lies ready, and answers as arguments show them; THE WALK of TableKeys.
-/
import Derived.Test.YtfnjadiibiedgaaTabI
import Derived.Test.YtfnjadiibiedgaaLaw3A
import Derived.Test.YtfnjadiibiedgaaLaw4A
namespace Go.Proofs.Ytfnjadiibiedgaa
open Go.RowKit Go.Shelf Go.ChangeShapes Go.WideShapes Go.Deep

theorem tableArg_of {H : Type} {enc : TypeId × Value → H} {w : World} {base : Nat} {spare : Nat → Bool} {held : Bool} {a : Option Addr} {len cap : Nat} {d : DataW H} {p : List MemPlace}
    (h : DataW.Trod enc Try.prog w base spare held 22 (.slice a len cap) d p) : ∃ ps, Arg w a len cap ps := by
  obtain ⟨fuel, hf⟩ := h
  have hf' : DataW.trod enc Try.prog w base spare held fuel 22 [.slice a len cap] = some (d, p) := by simpa [Value.cells] using hf
  obtain ⟨a', n', c', ps, e, hA⟩ := argP_of Try.underlying22 Try.underlying90 (by kernel_rfl) rfl rfl rfl rfl (by kernel_rfl) hf'
  cases e
  exact ⟨ps, hA⟩
theorem OwnsP.ready {t : TypeId} {w : World} {base : Nat} {v : Value} {l : List Sp} (h : OwnsP t w base v l) : ∃ a n c, v = .slice a n c ∧ Arg w a n c l := by
  obtain ⟨a, cap, rfl, _⟩ := h.arg
  exact ⟨a, _, cap, rfl, Arg.of_own h rfl⟩
/-- Two boxes, behind calls. -/
theorem bx2 {w W : World} {ta tb : TypeId} {x y : Array Value} (h : Below ((w.alloc (.cells x ta)).alloc (.cells y tb)).heap.size ((w.alloc (.cells x ta)).alloc (.cells y tb)) W) :
    (∀ i, W.cell? ⟨w.heap.size, i, none⟩ = x[i]?) ∧ (∀ i, W.cell? ⟨w.heap.size + 1, i, none⟩ = y[i]?) := by
  have A := fun i => h.cell (p := ⟨w.heap.size, i, none⟩) (by simp; omega)
  have B := fun i => h.cell (p := ⟨w.heap.size + 1, i, none⟩) (by simp)
  have z1 : (w.alloc (.cells x ta)).heap.size = w.heap.size + 1 := by simp
  refine ⟨fun i => (A i).trans ?_, fun i => (B i).trans ?_⟩
  · rw [World.cell?_alloc_lt _ _ ⟨w.heap.size, i, none⟩ (by rw [z1]; show w.heap.size < _; omega)]
    exact cell_of_row _ _ _ _ _ _ (heap_alloc_new _ _)
  · rw [← z1]
    exact cell_of_row _ _ _ _ _ _ (heap_alloc_new _ _)

/-! What becomes of a key hangs on it alone. -/
theorem has_sing (key j : Int) (h0 : 0 ≤ key) (h1 : key < 4096) : hasB [(key, key + 1)] j = decide (j = key) := by
  rw [hasB_cons, hasB_nil, Bool.or_false, Bool.eq_iff_iff, inB_iff, decide_eq_true_iff]
  dsimp only
  omega
theorem chk_sing (key : Int) (h0 : 0 ≤ key) (h1 : key < 4096) : chkB [(key, key + 1)] = true := by
  have : oneB (key, key + 1) = true := (oneB_iff _).2 (by dsimp only; omega)
  unfold chkB
  rw [canB_sing this]
  rfl
theorem tkeys_math {A B : List Sp} {c s k : Int} {ps : List Sp} {lo hi old key : Int} (hA : tblB A = true) (hB : tblB B = true) (hc : chkM c s k ps lo hi old = true) (h0 : 0 ≤ key) (h1 : key < 4096) (hg : getT A key = getT B key) :
    (applyP A c s k ps lo hi old [(key, key + 1)]).2 = (applyP B c s k ps lo hi old [(key, key + 1)]).2 ∧ getC (applyP A c s k ps lo hi old [(key, key + 1)]).1 key = getC (applyP B c s k ps lo hi old [(key, key + 1)]).1 key := by
  have hon := chk_sing key h0 h1
  have eA : applyP A c s k ps lo hi old [(key, key + 1)] = appT A k ps lo hi old [(key, key + 1)] := if_pos ⟨hA, hc, hon⟩
  have eB : applyP B c s k ps lo hi old [(key, key + 1)] = appT B k ps lo hi old [(key, key + 1)] := if_pos ⟨hB, hc, hon⟩
  rw [eA, eB]
  obtain ⟨tA, dA⟩ := appT_get (on := [(key, key + 1)]) hc hA
  obtain ⟨tB, dB⟩ := appT_get (on := [(key, key + 1)]) hc hB
  unfold getC
  rw [if_pos tA, if_pos tB]
  have hk : hasB [(key, key + 1)] key = true := by rw [has_sing key key h0 h1]; simp
  have no : ∀ {X Y RY : List Sp}, getT X key = getT Y key → Fails X (appT X k ps lo hi old [(key, key + 1)]).1 k ps old [(key, key + 1)] → Does Y RY k ps lo hi old [(key, key + 1)] → False := by
    intro X Y RY e ⟨_, k34, p, hp, hh, hn⟩ hd
    rw [has_sing key p.1 h0 h1] at hh
    have hpk := of_decide_eq_true hh
    have hd' := hd key
    have ht : touchesB k ps lo hi key = true := by unfold touchesB; rw [if_neg (by omega), hp]; simp [hpk]
    rw [ht, hk, Bool.true_and, if_pos rfl] at hd'
    rw [hpk, e, hd'] at hn
    cases hn
  rcases dA with ⟨a1, a2⟩ | ⟨a1, a2⟩ <;> rcases dB with ⟨b1, b2⟩ | ⟨b1, b2⟩
  · refine ⟨by rw [a1, b1], ?_⟩
    have x := a2 key
    have y := b2 key
    rw [hk, Bool.and_true, hg] at x
    rw [hk, Bool.and_true] at y
    by_cases ht : touchesB k ps lo hi key = true
    · rw [if_pos ht] at x y
      rw [x] at y
      simpa using y
    · rw [if_neg ht] at x y
      rw [x, y]
  · exact (no hg.symm b2 a2).elim
  · exact (no hg a2 b2).elim
  · exact ⟨by rw [a1, b1], by rw [a2.1, b2.1]; exact hg⟩
end Go.Proofs.Ytfnjadiibiedgaa
