/-
  Law3C, Law3D: one text.
-/
import Derived.Test.YtihpojllalnmcaaSC
import Derived.Test.YtihpojllalnmcaaSB
import Derived.Lib.SmallJoins
/-
  THE WALKS of SpanMakes, SpanJoins, SpanMeets, SpanLesses.
-/
namespace Go.Proofs.Ytihpojllalnmcaa
open Go.RowKit Go.Shelf

theorem limP_len {L S : List Sp} {x : Int} (h : limP L = (S, x)) : S.length ≤ 100000 := by
  unfold limP at h
  split at h
  · cases h; omega
  · cases h; simp
theorem makeP_len {A S : List Sp} {x : Int} (h : makeP A = (S, x)) : S.length ≤ 100000 := by
  unfold makeP at h
  split at h
  · exact limP_len h
  · cases h; simp
theorem lessP_len {A B l : List Sp} {e : Int} (h : lessP A B = (l, e)) : l.length ≤ 100000 := by have := mixP_len (fun x y => x && !y) A B; rw [show mixP (fun x y => x && !y) A B = (l, e) from h] at this; dsimp only at this; omega

end Go.Proofs.Ytihpojllalnmcaa


/-
  A REGION THAT DRAWS ITS ORDER and holds calls that make memory, walked once; THE WALK of SpanChecks.
-/
namespace Go.Proofs.Ytihpojllalnmcaa
open Go.RowKit Go.Shelf Go.ChangeShapes Go.WideShapes Go.Deep

/-- A world in which what a call needs lies ready. -/
structure EnvW (w0 : World) (L : List (Option Addr × Nat × Nat × List Sp)) where
  W : World
  h : Env w0 W L
theorem env_of {w0 : World} {L : List (Option Addr × Nat × Nat × List Sp)} (p : EnvW w0 L) {P : Program} {f : FuncId} {args : Array Value} {v : Value} (h : Calls P f args p.W (Gives p.W v)) :
    Calls P f args p.W fun e w'' => e = .returned v ∧ ∃ q : EnvW w0 L, w'' = q.W := h.mono fun _ w' ⟨he, hb⟩ => ⟨he, ⟨w', p.h.step hb⟩, rfl⟩
theorem env_drew {w0 w : World} {L : List (Option Addr × Nat × Nat × List Sp)} (h : Env w0 w L) : Env w0 { w with drawn := w.drawn + 1 } L := ⟨⟨h.low.os, h.low.tape, h.low.output, h.low.size, h.low.block⟩, fun x hx => h.args x hx⟩
theorem wp_region_quiet_env {w0 : World} {L : List (Option Addr × Nat × Nat × List Sp)} {P : Program} {id : Nat} {Q : Exit → Act → World → Prop} {a : Act} {w : World} {l : List Oper} (h0 : Env w0 w L) (hm : P.follows .mixedOrders = true) (hB : Region.lexB .any l.toArray = true)
    (h : wpQuiet P l.toArray (fun w' => ∃ p : EnvW w0 L, w' = p.W) (fun a' => ∀ w', (∃ p : EnvW w0 L, w' = p.W) → Q .normal a' w') l a) : (Code.region id l.toArray true).wp P Q a w :=
  wp_region_quiet (C := fun w' => ∃ p : EnvW w0 L, w' = p.W) hm hB ⟨⟨_, env_drew h0⟩, rfl⟩ (by simpa using h)

set_option maxRecDepth 100000 in
/-- A span by value that came in. -/
theorem spanVal_of {H : Type} {enc : TypeId × Value → H} {w : World} {r : Reach} {b0 base : Nat} {spare : Nat → Bool} {held : Bool} {v : Value} {d : DataW H} {p : List MemPlace}
    (hv : Value.okWide Try.prog w r b0 59 v) (h : DataW.Trod enc Try.prog w base spare held 59 v d p) : ∃ x y : Int, v = .agg #[.int .i64 x, .int .i64 y] := by
  obtain ⟨v0, v1, y0, y1, n, rfl, _, _, r1, r2⟩ := Go.Joins.open_agg2 Try.underlying59 (by kernel_rfl) (by kernel_rfl) hv h
  obtain ⟨x, e0, _, _⟩ := DataW.trod_int Try.underlying3 r1
  obtain ⟨y, e1, _, _⟩ := DataW.trod_int Try.underlying3 r2
  simp at e0 e1
  rw [e0, e1]
  exact ⟨x, y, rfl⟩

end Go.Proofs.Ytihpojllalnmcaa
