/-
  A case (a chart, loads, a policy, a number of nodes) that came in.
-/
import Derived.Test.YtihpojllalnmcaaBaM
import Derived.Lib.SmallJoins
namespace Go.Proofs.Ytihpojllalnmcaa
open Go.RowKit Go.Shelf Go.ChangeShapes Go.WideShapes Go.Deep

set_option maxRecDepth 100000 in
set_option maxHeartbeats 1000000 in
theorem caseVal_of {H : Type} {enc : TypeId × Value → H} {w : World} {r : Reach} {b0 base : Nat} {spare : Nat → Bool} {held : Bool} {v : Value} {d : DataW H} {p : List MemPlace}
    (hv : Value.okWide Try.prog w r b0 29 v) (h : DataW.Trod enc Try.prog w base spare held 29 v d p) :
    ∃ (ep nx : Int) (a : Option Addr) (n c : Nat) (sd : List Sd) (a2 : Option Addr) (n2 c2 : Nat) (l : List Sp) (p1 p2 p3 z : Int), (RArg encS 4 w a n c sd ∧ Arg w a2 n2 c2 l) ∧ v = .agg #[.int .i64 ep, .int .i64 nx, .slice a n c, .slice a2 n2 c2, .int .i64 p1, .int .i64 p2, .int .i64 p3, .int .i64 z] := by
  have kI : Try.prog.cellsOf 3 = 1 := by kernel_rfl
  have kS : Try.prog.cellsOf 25 = 1 := by kernel_rfl
  have kH : Try.prog.cellsOf 22 = 1 := by kernel_rfl
  have kC : Try.prog.cellsOf 24 = 3 := by kernel_rfl
  have kP : Try.prog.cellsOf 27 = 3 := by kernel_rfl
  have kM : Try.prog.cellsOf 29 = 8 := by kernel_rfl
  obtain ⟨cs, rfl, hsz⟩ := okWide_struct Try.underlying29 hv
  obtain ⟨cl⟩ := cs
  match cl, hsz.trans kM with
  | [v0, v1, v2, v3, v4, v5, v6, v7], _ =>
    obtain ⟨fuel, hf⟩ := h
    obtain ⟨xs, n, _, _, _, hlen, hg⟩ := DataW.trod_struct Try.underlying29 hf
    match xs, hlen with
    | [y0, y1, y2, y3], _ =>
      have g0 : DataW.trod enc Try.prog w base spare held n 24 [v0, v1, v2] = some y0 := by simpa [Value.cells, kC] using hg 0 _ rfl
      have g1 : DataW.trod enc Try.prog w base spare held n 25 [v3] = some y1 := by simpa [Value.cells, kS] using hg 1 _ rfl
      have g2 : DataW.trod enc Try.prog w base spare held n 27 [v4, v5, v6] = some y2 := by simpa [Value.cells, kP] using hg 2 _ rfl
      have g3 : DataW.trod enc Try.prog w base spare held n 3 [v7] = some y3 := by simpa [Value.cells, kI] using hg 3 _ rfl
      obtain ⟨z, e7, _, _⟩ := DataW.trod_int Try.underlying3 g3
      obtain ⟨a2, nn, cp, l, e3, hA⟩ := argP_of Try.underlying25 Try.underlying68 (by kernel_rfl) rfl rfl rfl rfl kI g1
      obtain ⟨xs0, n0, _, _, _, hlen0, hg0⟩ := DataW.trod_struct Try.underlying24 g0
      match xs0, hlen0 with
      | [u0, u1, u2], _ =>
        have f0 : DataW.trod enc Try.prog w base spare held n0 3 [v0] = some u0 := by simpa [Value.cells, kI] using hg0 0 _ rfl
        have f1 : DataW.trod enc Try.prog w base spare held n0 3 [v1] = some u1 := by simpa [Value.cells, kI] using hg0 1 _ rfl
        have f2 : DataW.trod enc Try.prog w base spare held n0 22 [v2] = some u2 := by simpa [Value.cells, kH] using hg0 2 _ rfl
        obtain ⟨ep, e0, _, _⟩ := DataW.trod_int Try.underlying3 f0
        obtain ⟨nx, e1, _, _⟩ := DataW.trod_int Try.underlying3 f1
        obtain ⟨a, na, ca, sd, e2, hR⟩ := rarg_of encS 4 (by omega) encS_len Try.underlying22 (by kernel_rfl) sdCells f2
        obtain ⟨xs4, n4, _, _, _, hlen4, hg4⟩ := DataW.trod_struct Try.underlying27 g2
        match xs4, hlen4 with
        | [w0, w1, w2], _ =>
          have i0 : DataW.trod enc Try.prog w base spare held n4 3 [v4] = some w0 := by simpa [Value.cells, kI] using hg4 0 _ rfl
          have i1 : DataW.trod enc Try.prog w base spare held n4 3 [v5] = some w1 := by simpa [Value.cells, kI] using hg4 1 _ rfl
          have i2 : DataW.trod enc Try.prog w base spare held n4 3 [v6] = some w2 := by simpa [Value.cells, kI] using hg4 2 _ rfl
          obtain ⟨p1, e4, _, _⟩ := DataW.trod_int Try.underlying3 i0
          obtain ⟨p2, e5, _, _⟩ := DataW.trod_int Try.underlying3 i1
          obtain ⟨p3, e6, _, _⟩ := DataW.trod_int Try.underlying3 i2
          simp at e0 e1 e4 e5 e6 e7
          subst e0 e1 e2 e3 e4 e5 e6 e7
          exact ⟨ep, nx, a, na, ca, sd, a2, nn, cp, l, p1, p2, p3, z, ⟨hR, hA⟩, rfl⟩
end Go.Proofs.Ytihpojllalnmcaa
