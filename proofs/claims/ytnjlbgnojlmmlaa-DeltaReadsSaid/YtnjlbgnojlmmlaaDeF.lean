/-
  DELTA: rows of turns that came in; DeltaMakes' walk.
-/
import Derived.Test.YtnjlbgnojlmmlaaDeE
import Derived.Test.YtnjlbgnojlmmlaaDlS
namespace Go.Proofs.Ytnjlbgnojlmmlaa
open Go.RowKit Go.Deep Go.Shelf Go.ChangeShapes Go.WideShapes Go.ChangeAt

set_option maxRecDepth 100000 in
theorem clCells {H : Type} {enc : TypeId × Value → H} {w : World} {base : Nat} {spare : Nat → Bool} {held : Bool} (n : Nat) (cs : List Value) (y : DataW H × List MemPlace)
    (h : DataW.trod enc Try.prog w base spare held n 44 cs = some y) : ∃ q : Cl, cs = [.int .i64 q.1, .bool q.2] := by
  have kI : Try.prog.cellsOf 3 = 1 := by kernel_rfl
  have kB : Try.prog.cellsOf 4 = 1 := by kernel_rfl
  have kC : Try.prog.cellsOf 44 = 2 := by kernel_rfl
  obtain ⟨xs, m, _, _, hsz, hlen, hg⟩ := DataW.trod_struct Try.underlying44 h
  rw [kC] at hsz
  match cs, hsz with
  | [v0, v1], _ =>
    match xs, hlen with
    | [y0, y1], _ =>
      have g0 : DataW.trod enc Try.prog w base spare held m 3 [v0] = some y0 := by simpa [kI] using hg 0 _ rfl
      have g1 : DataW.trod enc Try.prog w base spare held m 4 [v1] = some y1 := by simpa [kI, kB] using hg 1 _ rfl
      obtain ⟨x0, e0, _, _⟩ := DataW.trod_int Try.underlying3 g0
      obtain ⟨x1, e1, _⟩ := DataW.trod_bool Try.underlying4 g1
      simp at e0 e1
      exact ⟨(x0, x1), by rw [e0, e1]⟩
set_option maxRecDepth 100000 in
theorem tnCells {H : Type} {enc : TypeId × Value → H} {w : World} {base : Nat} {spare : Nat → Bool} {held : Bool} (n : Nat) (cs : List Value) (y : DataW H × List MemPlace)
    (h : DataW.trod enc Try.prog w base spare held n 46 cs = some y) : ∃ q : Tn, cs = encT q := by
  have kI : Try.prog.cellsOf 3 = 1 := by kernel_rfl
  have kC : Try.prog.cellsOf 44 = 2 := by kernel_rfl
  have kT : Try.prog.cellsOf 46 = 5 := by kernel_rfl
  obtain ⟨xs, m, _, _, hsz, hlen, hg⟩ := DataW.trod_struct Try.underlying46 h
  rw [kT] at hsz
  match cs, hsz with
  | [v0, v1, v2, v3, v4], _ =>
    match xs, hlen with
    | [y0, y1, y2], _ =>
      have g0 : DataW.trod enc Try.prog w base spare held m 3 [v0] = some y0 := by simpa [kI] using hg 0 _ rfl
      have g1 : DataW.trod enc Try.prog w base spare held m 44 [v1, v2] = some y1 := by simpa [kI, kC] using hg 1 _ rfl
      have g2 : DataW.trod enc Try.prog w base spare held m 44 [v3, v4] = some y2 := by simpa [kI, kC] using hg 2 _ rfl
      obtain ⟨x0, e0, _, _⟩ := DataW.trod_int Try.underlying3 g0
      obtain ⟨x1, e1⟩ := clCells _ _ _ g1
      obtain ⟨x2, e2⟩ := clCells _ _ _ g2
      simp at e0 e1 e2
      exact ⟨(x0, x1, x2), by rw [e0, e1.1, e1.2, e2.1, e2.2]; rfl⟩
theorem tnArg_of {H : Type} {enc : TypeId × Value → H} {w : World} {base : Nat} {spare : Nat → Bool} {held : Bool} {a : Option Addr} {len cap : Nat} {d : DataW H} {p : List MemPlace}
    (h : DataW.Trod enc Try.prog w base spare held 22 (.slice a len cap) d p) : ∃ l, RArg encT 5 w a len cap l := by
  obtain ⟨fuel, hf⟩ := h
  obtain ⟨a', n', c', l, e, hR⟩ := rarg_of encT 5 (by omega) encT_len Try.underlying22 (by kernel_rfl) tnCells hf
  have e' : Value.slice a len cap = .slice a' n' c' := by simpa [Value.cells] using e
  cases e'
  exact ⟨l, hR⟩
theorem fewM_any (aa ab : Option Addr) (na nb ca cb : Nat) (w : World) (ha : (na : Int) ≤ 9223372036854775807) (hb : (nb : Int) ≤ 9223372036854775807) :
    Calls Try.prog 4 #[.slice aa na ca, .slice none 0 0, .slice ab nb cb, .slice none 0 0] w (Gives w (.bool (decide (na ≤ 100) && decide (nb ≤ 100)))) := by
  by_cases h1 : na ≤ 100
  · have z1 : (na : Int) ≤ 100 := by omega
    by_cases h2 : nb ≤ 100
    · have z2 : (nb : Int) ≤ 100 := by omega
      go_enter Try.func4, Try.ntmps4
      go_wp2
      go_ret
      exact ⟨by simp [h1, h2], Below.refl _ _⟩
    · have z2 : ¬ (nb : Int) ≤ 100 := by omega
      go_enter Try.func4, Try.ntmps4
      go_wp2
      go_ret
      exact ⟨by simp, Below.refl _ _⟩
  · have z1 : ¬ (na : Int) ≤ 100 := by omega
    go_enter Try.func4, Try.ntmps4
    go_wp2
    go_ret
    exact ⟨by simp, Below.refl _ _⟩
theorem makP_len (a : List Pr) (l : List Tn) : (makP a l).1.length ≤ a.length + l.length := by
  unfold makP
  split
  · split
    · exact Nat.le_trans (makS_len _) (meets_len _ _ _ _ a l)
    · simp
  · simp
theorem few_noM {m n : Nat} (hs : ¬ (m ≤ 100 ∧ n ≤ 100)) : (decide (m ≤ 100) && decide (n ≤ 100)) = false := by
  rw [Bool.and_eq_false_iff, decide_eq_false_iff_not, decide_eq_false_iff_not]
  by_cases h1 : m ≤ 100
  · exact .inr (fun h2 => hs ⟨h1, h2⟩)
  · exact .inl h1
end Go.Proofs.Ytnjlbgnojlmmlaa
