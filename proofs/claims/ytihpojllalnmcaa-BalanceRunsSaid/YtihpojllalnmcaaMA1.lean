/-
  MutA, MutB: one text.
-/
import Derived.Test.YtihpojllalnmcaaSA3
import Derived.IntWalk
/-
  MUTATIONS: which may be, plain; CONTRACTS of between, isValue, areValid, rise, isMove, bare.
-/
namespace Go.Proofs.Ytihpojllalnmcaa
open Go.RowKit Go.Shelf

def btw (a n b : Int) : Bool := decide (a ≤ n ∧ n ≤ b)
def isVal (n : Int) : Bool := btw (-1099511627776) n 1099511627776
def okP (p : Int × Int) : Bool := btw 0 p.1 4095 && isVal p.2
def okPs (l : List (Int × Int)) : Bool := l.all okP
def riseFrom (e : Int) : List (Int × Int) → Bool
  | [] => true
  | p :: t => decide (e < p.1) && riseFrom p.1 t
def riseB : List (Int × Int) → Bool
  | [] => true
  | p :: t => riseFrom p.1 t
def moveB (p q : Int × Int) : Bool := (p.1 != q.1) && (p.2 == q.2) && decide (0 ≤ p.2)
def bareB (k lo hi old : Int) : Bool := (k == 2 || (lo == 0 && hi == 0)) && (k == 4 || old == 0)
def fitsB (k : Int) (l : List (Int × Int)) (lo hi old : Int) : Bool :=
  if k = 1 then btw 1 l.length 8 && okPs l && riseB l
  else if k = 2 then (l.length == 0) && oneB (lo, hi)
  else if k = 3 then (l.length == 1) && okPs l
  else if k = 4 then (l.length == 1) && okPs l && (isVal old || old == 1099511627777)
  else if k = 5 then (l.length == 2) && okPs l && moveB (l.getD 0 (0, 0)) (l.getD 1 (0, 0))
  else false
def chkM (c s k : Int) (l : List (Int × Int)) (lo hi old : Int) : Bool := btw 1 c 1048576 && btw 1 s 1073741824 && bareB k lo hi old && fitsB k l lo hi old

theorem indexPair_none (a : Option Addr) (c : Nat) (fv : Value) (w : World) : Calls Try.prog 91 #[.slice a 0 c, fv] w fun e w' => e = .returned (.int .i64 (-1)) ∧ w = w' := by
  go_enter Try.func91, Try.ntmps91
  go_wp2
  refine wp_loop_rounds 1 ?_
  rw [rounds_succ]
  go_wp2
  go_ret
  exact ⟨rfl, rfl⟩
theorem containsPair_none (a : Option Addr) (c : Nat) (fv : Value) (w : World) : Calls Try.prog 86 #[.slice a 0 c, fv] w (Gives w (.bool false)) := by
  go_enter Try.func86, Try.ntmps86
  go_wp2_with (go_at_call 91; refine (indexPair_none _ _ _ _).mono ?_; rintro e w' ⟨rfl, rfl⟩)
  go_ret
  exact ⟨rfl, Below.refl _ _⟩
theorem containsPair_any (p : Sp → Bool) (g : Nat) (lb : Array Value) (eg : ∀ args w, (callFunc g args).run Try.prog w = .ok (.enter g args) w) (a : Option Addr) (c : Nat) (l : List Sp) (w : World)
    (hp : PredBelow Try.prog g lb (fun x => .agg (spC x).toArray) p w) (hz : (l.length : Int) ≤ 9223372036854775807) (h : PIn w w.heap.size a l) :
    Calls Try.prog 86 #[.slice a l.length c, .func (.func g) #[] lb] w (Gives w (.bool (l.any p))) := by
  by_cases hl : l = []
  · subst hl; exact containsPair_none a c _ w
  · obtain ⟨b, off, rfl, hb⟩ := h.some' hl
    have := AnyQ.slices_ContainsFunc Try.lContainsPair 2 Try.isAgg68 Try.sizeOf68 spC (fun _ => rfl) p g lb eg b off l.length c l w hp (Nat.le_refl _) (by omega) hb (fun j hj i v hi => spC_hc h j hj i v hi)
    rw [List.take_length] at this
    exact this
end Go.Proofs.Ytihpojllalnmcaa


/-
  CONTRACTS of rise, bare, fits, Check (of a mutation).
-/
namespace Go.Proofs.Ytihpojllalnmcaa
open Go.RowKit Go.Shelf

theorem riseFrom_snoc (e : Int) (l : List Sp) (p q : Sp) : riseFrom e (l ++ [p] ++ [q]) = (riseFrom e (l ++ [p]) && decide (p.1 < q.1)) := by
  induction l generalizing e with
  | nil => simp [riseFrom]
  | cons x t ih => rw [List.cons_append, List.cons_append]; show (_ && riseFrom x.1 (t ++ [p] ++ [q])) = ((_ && riseFrom x.1 (t ++ [p])) && _); rw [ih, Bool.and_assoc]
theorem riseB_snoc (l : List Sp) (p q : Sp) : riseB (l ++ [p] ++ [q]) = (riseB (l ++ [p]) && decide (p.1 < q.1)) := by
  cases l with
  | nil => simp [riseB, riseFrom]
  | cons x t => rw [List.cons_append, List.cons_append]; exact riseFrom_snoc x.1 t p q
theorem riseFrom_pre (e : Int) (l m : List Sp) (h : riseFrom e (l ++ m) = true) : riseFrom e l = true := by
  induction l generalizing e with
  | nil => rfl
  | cons x t ih =>
    rw [List.cons_append] at h
    have h' : (decide (e < x.1) && riseFrom x.1 (t ++ m)) = true := h
    rw [Bool.and_eq_true] at h'
    show (decide (e < x.1) && riseFrom x.1 t) = true
    rw [Bool.and_eq_true]
    exact ⟨h'.1, ih _ h'.2⟩
theorem riseB_pre (l m : List Sp) (h : riseB (l ++ m) = true) : riseB l = true := by
  cases l with
  | nil => rfl
  | cons x t => exact riseFrom_pre x.1 t m h

/-- A mutation in a box of its own, behind calls. -/
theorem box7 {w w' : World} {t : TypeId} {v0 v1 v2 v3 v4 v5 v6 : Value} (hb : Below (w.alloc (.cells #[v0, v1, v2, v3, v4, v5, v6] t)).heap.size (w.alloc (.cells #[v0, v1, v2, v3, v4, v5, v6] t)) w') :
    w'.cell? ⟨w.heap.size, 0, none⟩ = some v0 ∧ w'.cell? ⟨w.heap.size, 1, none⟩ = some v1 ∧ w'.cell? ⟨w.heap.size, 2, none⟩ = some v2 ∧ w'.cell? ⟨w.heap.size, 3, none⟩ = some v3 ∧ w'.cell? ⟨w.heap.size, 4, none⟩ = some v4 ∧ w'.cell? ⟨w.heap.size, 5, none⟩ = some v5 ∧ w'.cell? ⟨w.heap.size, 6, none⟩ = some v6 := by
  have h := fun i => hb.cell (p := ⟨w.heap.size, i, none⟩) (by simp)
  rw [h, h, h, h, h, h, h]
  exact ⟨by simp, by simp, by simp, by simp, by simp, by simp, by simp⟩
theorem zeroSpan (x y : Int) (w : World) : (binOp .eql 59 (.agg #[.int .i64 x, .int .i64 y]) (.agg #[.int .i64 0, .int .i64 0])).run Try.prog w = .ok (.bool (x == 0 && y == 0)) w := eqSpan x y 0 0 w

end Go.Proofs.Ytihpojllalnmcaa
