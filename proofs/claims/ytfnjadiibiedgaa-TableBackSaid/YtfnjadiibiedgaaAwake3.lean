/-
  CONTRACTS: slices.Equal at spans; Within; awake.
-/
import Derived.Test.YtfnjadiibiedgaaRefA3
namespace Go.Proofs.Ytfnjadiibiedgaa
open Go.RowKit Go.Shelf

theorem eqSpanIn (x y p q : Int) (w : World) : (Op.equalIn 10000 24 (.agg #[.int .i64 x, .int .i64 y]) (.agg #[.int .i64 p, .int .i64 q])).run Try.prog w = .ok (x == p && y == q) w := by
  have u3 := Try.underlying3
  have a3 := Try.isAgg3
  have z3 := Try.sizeOf3
  have hS : Try.prog.underlying 24 = some (.struct (Try.prog.fieldsOf 24)) := by kernel_rfl
  have hp : Try.prog.stoodInHeld 24 = false := by kernel_rfl
  rw [show (10000 : Nat) = 9999 + 1 from rfl, run_equalIn_agg w 9999 24 _ _ hS hp]
  simp only [Program.fieldsOf, Try.underlying24]
  go_simp
  by_cases h1 : x = p <;> by_cases h2 : y = q <;> simp [h1, h2]
theorem eqSpan (x y p q : Int) (w : World) : (binOp .eql 24 (.agg #[.int .i64 x, .int .i64 y]) (.agg #[.int .i64 p, .int .i64 q])).run Try.prog w = .ok (.bool (x == p && y == q)) w := by
  rw [run_eql_struct, eqSpanIn]; rfl
theorem neqSpan : NeqAt Try.prog 24 (fun x => .agg (spC x).toArray) (fun x y : Sp => x.1 == y.1 && x.2 == y.2) :=
  ⟨fun x y w => by
    show (binOp .neq 24 (.agg #[.int .i64 x.1, .int .i64 x.2]) (.agg #[.int .i64 y.1, .int .i64 y.2])).run Try.prog w = _
    rw [run_neq_struct, eqSpanIn]; rfl, GuardAt.agg _ (by kernel_rfl)⟩
theorem eqSp (x y : Sp) : (x.1 == y.1 && x.2 == y.2) = decide (x = y) := by
  rw [Bool.eq_iff_iff]; simp [Prod.ext_iff]
theorem allEq_iff (l k : List Sp) : Lib.allEq (fun x y : Sp => x.1 == y.1 && x.2 == y.2) l k = decide (l = k) := by
  by_cases h : l = k
  · subst h
    rw [decide_eq_true rfl]
    exact Lib.allEq_all _ _ _ rfl fun j _ => by simp
  · rw [decide_eq_false h]
    by_cases hl : l.length = k.length
    · by_cases hall : ∀ j, j < l.length → l.getD j (0, 0) = k.getD j (0, 0)
      · refine absurd (List.ext_getElem hl fun j h1 h2 => ?_) h
        have := hall j h1
        simpa [List.getD, List.getElem?_eq_getElem h1, List.getElem?_eq_getElem h2] using this
      · obtain ⟨j, hj⟩ := Classical.not_forall.1 hall
        obtain ⟨hj, hne⟩ := Classical.not_imp.1 hj
        refine Lib.allEq_elem _ _ _ j hj (by omega) ?_
        rw [getE_eq hj, getE_eq (by omega), eqSp]
        exact decide_eq_false hne
    · exact Lib.allEq_len _ _ _ hl

def withinB (A B : List Sp) : Bool := decide ((meetP A B).2 = 0) && decide ((meetP A B).1 = A)
theorem limP_yes {L : List Sp} (h : L.length ≤ 64) : limP L = (L, 0) := if_pos h
theorem chkB_of {l : List Sp} (h : canB (-1) l = true) (hl : l.length ≤ 64) : chkB l = true := by unfold chkB; rw [h, decide_eq_true hl]; rfl
theorem mixP_yes (f : Bool → Bool → Bool) {A B : List Sp} (hA : chkB A = true) (hB : chkB B = true) : mixP f A B = limP (setOf fun j => f (hasB A j) (hasB B j)) := if_pos ⟨hA, hB⟩
theorem makeP_yes {l : List Sp} (h : l.all oneB = true) : makeP l = limP (setOf (hasB l)) := if_pos h
theorem make_ex : makeP [(5, 7), (1, 3), (3, 4)] = ([(1, 4), (5, 7)], 0) := by
  have h1 : ([(5, 7), (1, 3), (3, 4)] : List Sp).all oneB = true := by decide
  rw [makeP_yes h1]
  have e : ([(1, 4), (5, 7)] : List Sp) = setOf (hasB [(5, 7), (1, 3), (3, 4)]) := by
    refine setOf_eq (by decide) fun k _ _ => ?_
    rw [Bool.eq_iff_iff]
    simp only [hasB_cons, hasB_nil, Bool.or_eq_true, inB_iff]
    simp
    omega
  rw [← e]
  exact limP_yes (by simp)
theorem meet_ex : meetP [(1, 4), (5, 7)] [(3, 6)] = ([(3, 4), (5, 6)], 0) := by
  have h1 : chkB ([(1, 4), (5, 7)] : List Sp) = true := by decide
  have h2 : chkB ([(3, 6)] : List Sp) = true := by decide
  unfold meetP
  rw [mixP_yes _ h1 h2]
  have e : ([(3, 4), (5, 6)] : List Sp) = setOf fun j => hasB [(1, 4), (5, 7)] j && hasB [(3, 6)] j := by
    refine setOf_eq (by decide) fun k _ _ => ?_
    rw [Bool.eq_iff_iff]
    simp only [hasB_cons, hasB_nil, Bool.or_eq_true, Bool.and_eq_true, inB_iff]
    simp
    omega
  rw [← e]
  exact limP_yes (by simp)
/-- Spans that a literal lays in a new block. -/
theorem arg_new (w : World) (t : TypeId) (l : List Sp) (cs : Array Value) (h : cs.toList = flatP l) (hl : l.length ≤ 1000) : Arg (w.alloc (.cells cs t)) (some ⟨w.heap.size, 0, none⟩) l.length l.length l := by
  refine ⟨rfl, by omega, Nat.le_refl _, by unfold maxLen; omega, fun k hk => ⟨w.heap.size, 0, rfl, by simp, ?_, ?_⟩⟩
  · have := (flatP_get l k hk).1
    rw [← h] at this
    rw [Nat.zero_add, ← this]; simp
  · have := (flatP_get l k hk).2
    rw [← h] at this
    rw [Nat.zero_add, ← this]; simp
/-- A list of two spans, its cells. -/
theorem Arg.two {w : World} {a : Option Addr} {n c : Nat} {x y : Sp} (h : Arg w a n c [x, y]) : n = 2 ∧ ∃ b off, a = some ⟨b, off, none⟩ ∧ b < w.heap.size ∧ w.cell? ⟨b, off, none⟩ = some (.int .i64 x.1) ∧ w.cell? ⟨b, off + 1, none⟩ = some (.int .i64 x.2) ∧ w.cell? ⟨b, off + 2, none⟩ = some (.int .i64 y.1) ∧ w.cell? ⟨b, off + 2 + 1, none⟩ = some (.int .i64 y.2) := by
  obtain ⟨hn, _, _, _, hp⟩ := h
  obtain ⟨b, off, e, hb, c0, c1⟩ := hp 0 (by simp)
  obtain ⟨b', off', e', _, d0, d1⟩ := hp 1 (by simp)
  rw [e] at e'
  cases e'
  exact ⟨hn, b, off, e, hb, c0, c1, d0, d1⟩

end Go.Proofs.Ytfnjadiibiedgaa
