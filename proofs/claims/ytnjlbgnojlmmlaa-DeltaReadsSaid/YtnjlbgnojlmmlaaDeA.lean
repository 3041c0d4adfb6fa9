/-
  DELTA: Onto (written by wip/tools/mkDeA.py).
-/
import Derived.Test.YtnjlbgnojlmmlaaDlP
import Derived.BigRegion
namespace Go.Proofs.Ytnjlbgnojlmmlaa
open Go.RowKit Go.Deep Go.Shelf
attribute [local go_sem] Oper.semAt_some

def encI (z : Int) : List Value := [.int .i64 z]
theorem encI_len (z : Int) : (encI z).length = 1 := rfl
abbrev OwnZ (w : World) (base : Nat) (v : Value) (l : List Int) : Prop := OwnsR encI 1 3 w base v l
theorem boxed_drew {W : World} {B : Nat} {t : TypeId} {v : Value} (h : Boxed W B t v) : Boxed W.drew B t v := h
theorem cells_one1 (w : World) (x0 : Value) (t : TypeId) (s : Nat) (hs : s = w.heap.size) : ∀ j u, [x0][j]? = some u → (w.alloc (.cells #[x0] t)).cell? ((⟨s, 0, none⟩ : Addr).add j) = some u := by
  subst hs
  intro j u hj
  have h := heap_alloc_new w (.cells #[x0] t)
  rw [addr_add, Nat.zero_add]
  match j, hj with
  | 0, hj => cases hj; exact cell_of_row _ _ 0 _ _ _ h
  | j + 1, hj => simp at hj
theorem own_apartG {w : World} {b1 b2 k1 k2 n1 n2 : Nat} {t1 t2 : TypeId} {v u : Value} {l m : List Value} (ht : t1 ≠ t2) (h : w.ownsRow b1 t1 k1 v n1 l) (h2 : w.ownsRow b2 t2 k2 u n2 m) : v.ownBlock = none ∨ v.ownBlock ≠ u.ownBlock := by
  rcases h.2 with ⟨rfl, _⟩ | ⟨g, cap, cur, rfl, _, hg, _⟩
  · exact .inl rfl
  · rcases h2.2 with ⟨rfl, _⟩ | ⟨g2, cap2, cur2, rfl, _, hg2, _⟩
    · exact .inr (by simp [Value.ownBlock])
    · have hne : g ≠ g2 := by
        intro e
        rw [e, hg2] at hg
        cases hg
        exact ht rfl
      exact .inr (by simpa [Value.ownBlock] using hne)
theorem eqCellA (n : Nat) (x y : Int) (s t : Bool) (w : World) : (Op.equalIn (n + 3) 44 (.agg #[.int .i64 x, .bool s]) (.agg #[.int .i64 y, .bool t])).run Try.prog w = .ok (x == y && s == t) w := by
  have u3 := Try.underlying3
  have a3 := Try.isAgg3
  have z3 := Try.sizeOf3
  have u4 := Try.underlying4
  have a4 := Try.isAgg4
  have z4 := Try.sizeOf4
  have hS : Try.prog.underlying 44 = some (.struct (Try.prog.fieldsOf 44)) := by kernel_rfl
  have hp : Try.prog.stoodInHeld 44 = false := by kernel_rfl
  rw [run_equalIn_agg w (n + 2) 44 _ _ hS hp]
  simp only [Program.fieldsOf, Try.underlying44]
  go_simp
  by_cases h1 : x = y <;> cases s <;> cases t <;> simp [h1]
theorem cl_beq (x y : Int) (s t : Bool) : (x == y && s == t) = decide (((x, s) : Cl) = (y, t)) := by
  by_cases h1 : x = y <;> cases s <;> cases t <;> simp [h1]
theorem neqTurnA (s t : Tn) (w : World) : (binOp .neq 46 (.agg #[.int .i64 s.1, .int .i64 s.2.1.1, .bool s.2.1.2, .int .i64 s.2.2.1, .bool s.2.2.2]) (.agg #[.int .i64 t.1, .int .i64 t.2.1.1, .bool t.2.1.2, .int .i64 t.2.2.1, .bool t.2.2.2])).run Try.prog w = .ok (.bool (!decide (s = t))) w := by
  obtain ⟨k, ⟨a, p⟩, ⟨b, q⟩⟩ := s
  obtain ⟨k', ⟨a', p'⟩, ⟨b', q'⟩⟩ := t
  have u3 := Try.underlying3
  have a3 := Try.isAgg3
  have z3 := Try.sizeOf3
  have aS := Try.isAgg44
  have zS := Try.sizeOf44
  have hS : Try.prog.underlying 46 = some (.struct (Try.prog.fieldsOf 46)) := by kernel_rfl
  have hp : Try.prog.stoodInHeld 46 = false := by kernel_rfl
  rw [run_neq_struct, show (10000 : Nat) = 9999 + 1 from rfl, run_equalIn_agg w 9999 46 _ _ hS hp]
  simp only [Program.fieldsOf, Try.underlying46]
  have E := fun n x y s t w => eqCellA n x y s t w
  by_cases h1 : k = k' <;> by_cases h2 : ((a, p) : Cl) = (a', p') <;> by_cases h3 : ((b, q) : Cl) = (b', q')
  all_goals
    have E2 := fun n w => (eqCellA n a a' p p' w).trans (by rw [cl_beq])
    have E3 := fun n w => (eqCellA n b b' q q' w).trans (by rw [cl_beq])
    simp only [h2, h3, decide_true, decide_false] at E2 E3
    clear E
    go_simp
    try simp_all
def ontL1 (l : List Tn) (x : Mt Tn Tn) : List Tn := if x.inB then (if x.inA then turnS l x.key x.a.2.2 x.b.2.2 else l ++ [x.b]) else l
def ontC1 (c : List Int) (x : Mt Tn Tn) : List Int := if x.inB && x.inA && !decide (x.a = x.b) then c ++ [x.key] else c
def ontL (xs : List (Mt Tn Tn)) : List Tn := xs.foldl ontL1 []
def ontC (xs : List (Mt Tn Tn)) : List Int := xs.foldl ontC1 []
theorem ontL_snoc (xs : List (Mt Tn Tn)) (x : Mt Tn Tn) : ontL (xs ++ [x]) = ontL1 (ontL xs) x := by simp [ontL]
theorem ontC_snoc (xs : List (Mt Tn Tn)) (x : Mt Tn Tn) : ontC (xs ++ [x]) = ontC1 (ontC xs) x := by simp [ontC]
theorem fold_len {α β : Type} {f : List β → α → List β} (h : ∀ l x, (f l x).length ≤ l.length + 1) : ∀ (xs : List α) (l : List β), (xs.foldl f l).length ≤ l.length + xs.length
  | [], l => by simp
  | x :: t, l => by
    have h1 := fold_len h t (f l x)
    have h2 := h l x
    simp only [List.foldl_cons, List.length_cons]
    omega
theorem ontL_len (xs : List (Mt Tn Tn)) : (ontL xs).length ≤ xs.length := by
  have := fold_len (f := ontL1) (fun l x => by unfold ontL1 turnS; split <;> (try split) <;> (try split) <;> simp) xs []
  simpa [ontL] using this
theorem ontC_len (xs : List (Mt Tn Tn)) : (ontC xs).length ≤ xs.length := by
  have := fold_len (f := ontC1) (fun l x => by unfold ontC1; split <;> simp) xs []
  simpa [ontC] using this
def ontP (l m : List Tn) : List Tn × List Int × Int := if chkB l && chkB m then (ontL (meetsTT l m), ontC (meetsTT l m), 0) else ([], [], 1)
def OPost (w : World) (l : List Tn) (c : List Int) (z : Int) (e : Ending) (w' : World) : Prop := ∃ v u, e = .returned (.tuple #[v, u, .int .i64 z]) ∧ OwnT w' w.heap.size v l ∧ OwnZ w' w.heap.size u c ∧ Below w.heap.size w w'
end Go.Proofs.Ytnjlbgnojlmmlaa
