/-
  A REGION THAT DRAWS ITS ORDER and holds calls that make memory, walked once; THE WALK of SpanChecks.
-/
import Derived.Test.YtelgigahjgjjiaaLaw3C
import Derived.Lib.SmallJoins
namespace Go.Proofs.Ytelgigahjgjjiaa
open Go.RowKit Go.Shelf Go.ChangeShapes Go.WideShapes Go.Deep

/-- A world in which what a call needs lies ready. -/
structure EnvW (w0 : World) (L : List (Option Addr × Nat × Nat × List Sp)) where
  W : World
  h : Env w0 W L
theorem env_of {w0 : World} {L : List (Option Addr × Nat × Nat × List Sp)} (p : EnvW w0 L) {P : Program} {f : FuncId} {args : Array Value} {v : Value} (h : Calls P f args p.W (Gives p.W v)) :
    Calls P f args p.W fun e w'' => e = .returned v ∧ ∃ q : EnvW w0 L, w'' = q.W := h.mono fun _ w' ⟨he, hb⟩ => ⟨he, ⟨w', p.h.step hb⟩, rfl⟩
theorem env_drew {w0 w : World} {L : List (Option Addr × Nat × Nat × List Sp)} (h : Env w0 w L) : Env w0 { w with drawn := w.drawn + 1 } L := ⟨⟨h.low.os, h.low.tape, h.low.output, h.low.size, h.low.block⟩, fun x hx => h.args x hx⟩
theorem wp_region_quiet_env {w0 : World} {L : List (Option Addr × Nat × Nat × List Sp)} {P : Program} {id : Nat} {Q : Exit → Act → World → Prop} {a : Act} {w : World} {l : List Oper} (h0 : Env w0 w L) (hm : P.follows .mixedOrders = true) (hB : Region.lexB .any l.toArray = true)
    (h : wpQuiet P l.toArray (fun w' => ∃ p : EnvW w0 L, w' = p.W) (fun a' => ∀ w', (∃ p : EnvW w0 L, w' = p.W) → Q .normal a' w') l a) : (Code.region id l.toArray true).wp P Q a w :=
  wp_region_quiet (C := fun w' => ∃ p : EnvW w0 L, w' = p.W) hm hB ⟨⟨_, env_drew h0⟩, rfl⟩ (by simpa using h)

/-- A span by value that came in. -/
theorem spanVal_of {H : Type} {enc : TypeId × Value → H} {w : World} {r : Reach} {b0 base : Nat} {spare : Nat → Bool} {held : Bool} {v : Value} {d : DataW H} {p : List MemPlace}
    (hv : Value.okWide Try.prog w r b0 24 v) (h : DataW.Trod enc Try.prog w base spare held 24 v d p) : ∃ x y : Int, v = .agg #[.int .i64 x, .int .i64 y] := by
  obtain ⟨v0, v1, y0, y1, n, rfl, _, _, r1, r2⟩ := Go.Joins.open_agg2 Try.underlying24 (by kernel_rfl) (by kernel_rfl) hv h
  obtain ⟨x, e0, _, _⟩ := DataW.trod_int Try.underlying3 r1
  obtain ⟨y, e1, _, _⟩ := DataW.trod_int Try.underlying3 r2
  simp at e0 e1
  rw [e0, e1]
  exact ⟨x, y, rfl⟩

set_option maxRecDepth 100000 in
set_option maxHeartbeats 2000000 in
theorem spanChecks_walk (a0 : Option Addr) (n0 c0 : Nat) (A : List Sp) (x y key : Int) (w : World) (hA : Arg w a0 n0 c0 A) (_hkey : (Lit.int .i64 key).wf = true) :
    Calls Try.prog 3 #[.slice a0 n0 c0, .agg #[.int .i64 x, .int .i64 y], .int .i64 key] w (TruePost w) := by
  have mixed : Try.prog.follows .mixedOrders = true := by kernel_rfl
  obtain ⟨W1, hW1⟩ : ∃ W1, w.alloc (.cells #[.int .i64 x, .int .i64 y] 24) = W1 := ⟨_, rfl⟩
  have b1 : Below w.heap.size w W1 := by rw [← hW1]; exact (Below.refl _ _).alloc (Nat.le_refl _) _
  have s1 : w.heap.size < W1.heap.size := by rw [← hW1]; simp
  have e0 : W1.cell? ⟨w.heap.size, 0, none⟩ = some (.int .i64 x) := by rw [← hW1]; simp
  have e1 : W1.cell? ⟨w.heap.size, 1, none⟩ = some (.int .i64 y) := by rw [← hW1]; simp
  have HS := Lib.hid ((Env.mk (L := []) (Below.refl W1.heap.size W1) (by simp)).add (hA.below b1))
  have h0 : n0 ≤ 200 ∨ ¬ n0 ≤ 200 := by omega
  rcases h0 with h0 | h0
  · have zA := few_len hA h0
    clear hA
    go_enter Try.func3, Try.ntmps3
    go_wp2_with (first | (go_at_call 13; (with_reducible refine (few_yes a0 n0 c0 _ h0).mono ?_); rintro e w' ⟨rfl, rfl⟩) | (go_at_call 15; (with_reducible refine (refs_any a0 n0 c0 A _ zA (HS.out.get (by repeat (first | exact List.mem_cons_self | apply List.mem_cons_of_mem)))).mono ?_); rintro e w' ⟨ap, np, cp, rfl, hx, hb⟩; replace HS := Lib.hid ((HS.out.step hb).add hx)))
    have HE := HS.out
    have F0 : ∀ p : EnvW W1 [(ap, np, cp, A), (a0, n0, c0, A)], p.W.cell? ⟨w.heap.size, 0, none⟩ = some (.int .i64 x) := fun p => (p.h.low.cell (p := ⟨w.heap.size, 0, none⟩) s1).trans e0
    have F1 : ∀ p : EnvW W1 [(ap, np, cp, A), (a0, n0, c0, A)], p.W.cell? ⟨w.heap.size, 1, none⟩ = some (.int .i64 y) := fun p => (p.h.low.cell (p := ⟨w.heap.size, 1, none⟩) s1).trans e1
    replace hW1 := Lib.hid hW1
    have hne : Nonempty (EnvW W1 [(ap, np, cp, A), (a0, n0, c0, A)]) := ⟨⟨_, HE⟩⟩
    refine wp_region_quiet_env HE mixed (by kernel_rfl) ?_
    clear HE
    repeat (first | go_big_quiet_step (first | (go_at_call 14; exact env_of _ (awake_any _)) | (go_at_call 16; exact env_of _ (one_any (x, y) _)) | (go_at_call 17; exact env_of _ (rone_any (x, y) _)) | (go_at_call 18; exact env_of _ (check_arg A a0 n0 c0 _ ((EnvW.h _).get (by repeat (first | exact List.mem_cons_self | apply List.mem_cons_of_mem))))) | (go_at_call 19; exact env_of _ (rcheck_any ap np cp A _ ((EnvW.h _).get (by repeat (first | exact List.mem_cons_self | apply List.mem_cons_of_mem))))) | (go_at_call 20; exact env_of _ (has_arg A key a0 n0 c0 _ ((EnvW.h _).get (by repeat (first | exact List.mem_cons_self | apply List.mem_cons_of_mem))))) | (go_at_call 21; exact env_of _ (rhas_any ap np cp A key _ ((EnvW.h _).get (by repeat (first | exact List.mem_cons_self | apply List.mem_cons_of_mem))))) | (go_at_call 22; exact env_of _ (count_arg A a0 n0 c0 _ ((EnvW.h _).get (by repeat (first | exact List.mem_cons_self | apply List.mem_cons_of_mem))))) | (go_at_call 23; exact env_of _ (rcount_any ap np cp A _ ((EnvW.h _).get (by repeat (first | exact List.mem_cons_self | apply List.mem_cons_of_mem)))))) | quiet_step (first | (go_at_call 14; exact env_of _ (awake_any _)) | (go_at_call 16; exact env_of _ (one_any (x, y) _)) | (go_at_call 17; exact env_of _ (rone_any (x, y) _)) | (go_at_call 18; exact env_of _ (check_arg A a0 n0 c0 _ ((EnvW.h _).get (by repeat (first | exact List.mem_cons_self | apply List.mem_cons_of_mem))))) | (go_at_call 19; exact env_of _ (rcheck_any ap np cp A _ ((EnvW.h _).get (by repeat (first | exact List.mem_cons_self | apply List.mem_cons_of_mem))))) | (go_at_call 20; exact env_of _ (has_arg A key a0 n0 c0 _ ((EnvW.h _).get (by repeat (first | exact List.mem_cons_self | apply List.mem_cons_of_mem))))) | (go_at_call 21; exact env_of _ (rhas_any ap np cp A key _ ((EnvW.h _).get (by repeat (first | exact List.mem_cons_self | apply List.mem_cons_of_mem))))) | (go_at_call 22; exact env_of _ (count_arg A a0 n0 c0 _ ((EnvW.h _).get (by repeat (first | exact List.mem_cons_self | apply List.mem_cons_of_mem))))) | (go_at_call 23; exact env_of _ (rcount_any ap np cp A _ ((EnvW.h _).get (by repeat (first | exact List.mem_cons_self | apply List.mem_cons_of_mem)))))))
    refine wpQuiet_nil ?_
    intro _ hw'
    obtain ⟨⟨W9, hE⟩, hw''⟩ := hw'
    subst hw''
    go_wp2
    go_ret
    exact ⟨rfl, b1.trans (hE.low.mono (Nat.le_of_lt s1))⟩
  · clear hA
    go_enter Try.func3, Try.ntmps3
    go_wp2_with (first | (go_at_call 13; (with_reducible refine (few_no a0 n0 c0 A _ (HS.out.get (by repeat (first | exact List.mem_cons_self | apply List.mem_cons_of_mem))) h0).mono ?_); rintro e w' ⟨rfl, rfl⟩) | (go_at_call 14; refine (awake_any _).mono ?_; rintro e w' ⟨rfl, hb⟩; replace HS := Lib.hid (HS.out.step hb)))
    go_ret
    exact ⟨rfl, b1.trans (HS.out.low.mono (Nat.le_of_lt s1))⟩
end Go.Proofs.Ytelgigahjgjjiaa
