/-
  DELTA: DeltaBetween's walk; rows of pairs that came in.
-/
import Derived.Test.YtnjlbgnojlmmlaaDlR
import Derived.Deep.Strs
import Derived.Lib.SmallJoins
namespace Go.Proofs.Ytnjlbgnojlmmlaa
open Go.RowKit Go.Deep Go.Shelf Go.ChangeShapes Go.WideShapes Go.ChangeAt

theorem few_any (aa ab : Option Addr) (na nb ca cb : Nat) (w : World) (ha : (na : Int) ≤ 9223372036854775807) (hb : (nb : Int) ≤ 9223372036854775807) :
    Calls Try.prog 4 #[.slice aa na ca, .slice ab nb cb, .slice none 0 0, .slice none 0 0] w (Gives w (.bool (decide (na ≤ 100) && decide (nb ≤ 100)))) := by
  by_cases h1 : na ≤ 100
  · have z1 : (na : Int) ≤ 100 := by omega
    by_cases h2 : nb ≤ 100
    · have z2 : (nb : Int) ≤ 100 := by omega
      go_enter Try.func4, Try.ntmps4
      go_wp2
      go_ret
      exact ⟨by simp [h1, h2], Below.refl _ _⟩
    · have z2 : ¬ (nb : Int) ≤ 100 := by omega
      go_enter Try.func4, Try.ntmps4
      go_wp2
      go_ret
      exact ⟨by simp , Below.refl _ _⟩
  · have z1 : ¬ (na : Int) ≤ 100 := by omega
    go_enter Try.func4, Try.ntmps4
    go_wp2
    go_ret
    exact ⟨by simp , Below.refl _ _⟩
theorem betw_len (a b : List Pr) : (betw a b).1.length ≤ a.length + b.length := by
  unfold betw
  split
  · exact Nat.le_trans (betwS_len _) (meets_len _ _ _ _ a b)
  · simp
set_option maxRecDepth 100000 in
/-- A pair, read. -/
theorem prCells {H : Type} {enc : TypeId × Value → H} {w : World} {base : Nat} {spare : Nat → Bool} {held : Bool} (n : Nat) (cs : List Value) (y : DataW H × List MemPlace)
    (h : DataW.trod enc Try.prog w base spare held n 39 cs = some y) : ∃ q : Pr, cs = encP q := by
  have kI : Try.prog.cellsOf 3 = 1 := by kernel_rfl
  have kC : Try.prog.cellsOf 39 = 2 := by kernel_rfl
  obtain ⟨xs, m, _, _, hsz, hlen, hg⟩ := DataW.trod_struct Try.underlying39 h
  rw [kC] at hsz
  match cs, hsz with
  | [v0, v1], _ =>
    match xs, hlen with
    | [y0, y1], _ =>
      have g0 : DataW.trod enc Try.prog w base spare held m 3 [v0] = some y0 := by simpa [kI] using hg 0 _ rfl
      have g1 : DataW.trod enc Try.prog w base spare held m 3 [v1] = some y1 := by simpa [kI] using hg 1 _ rfl
      obtain ⟨x0, e0, _, _⟩ := DataW.trod_int Try.underlying3 g0
      obtain ⟨x1, e1, _, _⟩ := DataW.trod_int Try.underlying3 g1
      simp at e0 e1
      exact ⟨(x0, x1), by rw [e0, e1]; rfl⟩
theorem rarg_of {α : Type} [Inhabited α] (encA : α → List Value) (k : Nat) (hk : 0 < k) (hlen : ∀ x, (encA x).length = k) {H : Type} {enc : TypeId × Value → H} {w : World} {base : Nat} {spare : Nat → Bool} {held : Bool} {t e : TypeId} {fuel : Nat} {v : Value} {x : DataW H × List MemPlace}
    (ht : Try.prog.underlying t = some (.slice e)) (ce : Try.prog.cellsOf e = k)
    (hel : ∀ (n : Nat) (cs : List Value) (y : DataW H × List MemPlace), DataW.trod enc Try.prog w base spare held n e cs = some y → ∃ q : α, cs = encA q)
    (hf : DataW.trod enc Try.prog w base spare held fuel t [v] = some x) : ∃ (a : Option Addr) (n c : Nat) (l : List α), v = .slice a n c ∧ RArg encA k w a n c l := by
  rcases open_slice ht hf with ⟨hcs, _⟩ | ⟨x, len, c, m, n, D, Pl, hcs, _, hl, hm, hmm, _, hx⟩
  · exact ⟨none, 0, 0, [], by simpa using hcs, RArg.nil _ _ _⟩
  · have hlm : len ≤ m := by rw [hmm]; split <;> omega
    have each : ∀ i, i < len → ∃ q : α, w.cells? base (x.add (i * k)) k = some (encA q) := by
      intro i hi
      obtain ⟨cs', h1, h2⟩ := hx i (by omega)
      obtain ⟨q, rfl⟩ := hel _ _ _ h2
      rw [ce] at h1
      exact ⟨q, h1⟩
    obtain ⟨q, hq⟩ := choose_lt each
    have hlen' : ((List.range len).map q).length = len := by simp
    refine ⟨some x, len, c, (List.range len).map q, by simpa using hcs, hlen'.symm, by rw [hlen']; unfold maxLen at hm; omega, by rw [hlen']; exact hl, hm, fun j hj => ?_⟩
    rw [hlen'] at hj
    obtain ⟨b, off, spot⟩ := x
    obtain ⟨_, _, hc0⟩ := World.cells?_some (hq 0 (by omega))
    have e0 := (hc0 0 hk).trans (List.getElem?_eq_getElem (by rw [hlen]; exact hk))
    have hspot : spot = none := by simpa [Addr.add] using World.cell?_spot e0
    subst hspot
    obtain ⟨_, _, hc⟩ := World.cells?_some (hq j hj)
    have eq : ((List.range len).map q)[j]! = q j := by
      rw [getElem!_pos _ j (by rw [hlen']; exact hj)]
      simp
    rw [eq]
    have ej : ∀ i v, (encA (q j))[i]? = some v → w.cell? ⟨b, off + j * k + i, none⟩ = some v := fun i v hi => by
      have hik : i < k := by
        rcases Nat.lt_or_ge i (encA (q j)).length with h | h
        · rwa [hlen] at h
        · rw [List.getElem?_eq_none h] at hi; cases hi
      have := (hc i hik).trans hi
      rwa [addr_add, addr_add] at this
    refine ⟨b, off, rfl, World.block_lt_of_cell? w _ (ej 0 _ (List.getElem?_eq_getElem (by rw [hlen]; exact hk))), ej⟩

theorem prArg_of {H : Type} {enc : TypeId × Value → H} {w : World} {base : Nat} {spare : Nat → Bool} {held : Bool} {a : Option Addr} {len cap : Nat} {d : DataW H} {p : List MemPlace}
    (h : DataW.Trod enc Try.prog w base spare held 36 (.slice a len cap) d p) : ∃ l, RArg encP 2 w a len cap l := by
  obtain ⟨fuel, hf⟩ := h
  obtain ⟨a', n', c', l, e, hR⟩ := rarg_of encP 2 (by omega) encP_len Try.underlying36 (by kernel_rfl) prCells hf
  have e' : Value.slice a len cap = .slice a' n' c' := by simpa [Value.cells] using e
  cases e'
  exact ⟨l, hR⟩
end Go.Proofs.Ytnjlbgnojlmmlaa
