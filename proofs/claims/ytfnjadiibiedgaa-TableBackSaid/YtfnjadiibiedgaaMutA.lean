/-
  MUTATIONS: which may be, plain; CONTRACTS of between, isValue, areValid, rise, isMove, bare.
-/
import Derived.Test.YtfnjadiibiedgaaAwake3
import Derived.IntWalk
namespace Go.Proofs.Ytfnjadiibiedgaa
open Go.RowKit Go.Shelf

def btw (a n b : Int) : Bool := decide (a ≤ n ∧ n ≤ b)
def isVal (n : Int) : Bool := btw (-1099511627776) n 1099511627776
def okP (p : Int × Int) : Bool := btw 0 p.1 4095 && isVal p.2
def okPs (l : List (Int × Int)) : Bool := l.all okP
def riseFrom (e : Int) : List (Int × Int) → Bool
  | [] => true
  | p :: t => decide (e < p.1) && riseFrom p.1 t
def riseB : List (Int × Int) → Bool
  | [] => true
  | p :: t => riseFrom p.1 t
def moveB (p q : Int × Int) : Bool := (p.1 != q.1) && (p.2 == q.2) && decide (0 ≤ p.2)
def bareB (k lo hi old : Int) : Bool := (k == 2 || (lo == 0 && hi == 0)) && (k == 4 || old == 0)
def fitsB (k : Int) (l : List (Int × Int)) (lo hi old : Int) : Bool :=
  if k = 1 then btw 1 l.length 8 && okPs l && riseB l
  else if k = 2 then (l.length == 0) && oneB (lo, hi)
  else if k = 3 then (l.length == 1) && okPs l
  else if k = 4 then (l.length == 1) && okPs l && (isVal old || old == 1099511627777)
  else if k = 5 then (l.length == 2) && okPs l && moveB (l.getD 0 (0, 0)) (l.getD 1 (0, 0))
  else false
def chkM (c s k : Int) (l : List (Int × Int)) (lo hi old : Int) : Bool := btw 1 c 1048576 && btw 1 s 1073741824 && bareB k lo hi old && fitsB k l lo hi old

theorem between_any (x n y : Int) (w : World) : Calls Try.prog 76 #[.int .i64 x, .int .i64 n, .int .i64 y] w fun e w' => e = .returned (.bool (btw x n y)) ∧ w = w' := by
  have H := Lib.hid (show btw x n y = decide (x ≤ n ∧ n ≤ y) from rfl)
  generalize btw x n y = r at H
  go_enter Try.func76, Try.ntmps76
  go_wp2
  all_goals
    go_ret
    exact ⟨ret_bool (by rw [H.out]; first | (simp [*]; done) | (simp [*]; omega)), rfl⟩
theorem isValue_any (n : Int) (w : World) : Calls Try.prog 117 #[.int .i64 n] w fun e w' => e = .returned (.bool (isVal n)) ∧ w = w' := by
  have C := Lib.hid (between_any (-1099511627776) n 1099511627776)
  show Calls _ _ _ w fun e w' => e = .returned (.bool (btw (-1099511627776) n 1099511627776)) ∧ w = w'
  go_enter Try.func117, Try.ntmps117
  go_wp2_with (go_at_call 76; refine (C.out _).mono ?_; rintro e w' ⟨rfl, rfl⟩)
  go_ret
  exact ⟨rfl, rfl⟩
theorem valid1 (w : World) : PredBelow Try.prog 134 #[] (fun x => .agg (spC x).toArray) (fun x => !okP x) w := fun W x hb => by
  obtain ⟨p, q⟩ := x
  show Calls Try.prog 134 #[.agg #[.int .i64 p, .int .i64 q]] W fun e w' => e = .returned (.bool (!okP (p, q))) ∧ Below w.heap.size w w'
  have C1 := fun w' => between_any 0 p 4095 w'
  have C2 := fun w' => isValue_any q w'
  have H := Lib.hid (show okP (p, q) = (btw 0 p 4095 && isVal q) from rfl)
  generalize okP (p, q) = r at H
  have b1 : Below w.heap.size w (W.alloc (.cells #[.int .i64 p, .int .i64 q] 90)) := hb.alloc hb.size _
  cases h1 : btw 0 p 4095
  · simp only [h1] at C1
    replace h1 := Lib.hid h1
    replace C1 := Lib.hid C1
    replace C2 := Lib.hid C2
    go_enter Try.func134, Try.ntmps134
    go_wp2_with (go_at_call 76; (with_reducible refine (C1.out _).mono ?_); rintro e w2 ⟨rfl, rfl⟩)
    go_ret
    exact ⟨ret_bool (by rw [H.out, h1.out]; rfl), b1⟩
  · simp only [h1] at C1
    cases h2 : isVal q
    all_goals
      simp only [h2] at C2
      replace h2 := Lib.hid h2
      replace C1' := Lib.hid C1
      replace C2' := Lib.hid C2
      replace h1' := Lib.hid h1
      clear C1 C2 h1
      go_enter Try.func134, Try.ntmps134
      go_wp2_with (first | (go_at_call 76; (with_reducible refine (C1'.out _).mono ?_); rintro e w2 ⟨rfl, rfl⟩) | (go_at_call 117; (with_reducible refine (C2'.out _).mono ?_); rintro e w2 ⟨rfl, rfl⟩))
      go_ret
      exact ⟨ret_bool (by rw [H.out, h1'.out, h2.out]; rfl), b1⟩
theorem indexPair_none (a : Option Addr) (c : Nat) (fv : Value) (w : World) : Calls Try.prog 137 #[.slice a 0 c, fv] w fun e w' => e = .returned (.int .i64 (-1)) ∧ w = w' := by
  go_enter Try.func137, Try.ntmps137
  go_wp2
  refine wp_loop_rounds 1 ?_
  rw [rounds_succ]
  go_wp2
  go_ret
  exact ⟨rfl, rfl⟩
theorem containsPair_none (a : Option Addr) (c : Nat) (fv : Value) (w : World) : Calls Try.prog 133 #[.slice a 0 c, fv] w (Gives w (.bool false)) := by
  go_enter Try.func133, Try.ntmps133
  go_wp2_with (go_at_call 137; refine (indexPair_none _ _ _ _).mono ?_; rintro e w' ⟨rfl, rfl⟩)
  go_ret
  exact ⟨rfl, Below.refl _ _⟩
theorem containsPair_any (p : Sp → Bool) (g : Nat) (lb : Array Value) (eg : ∀ args w, (callFunc g args).run Try.prog w = .ok (.enter g args) w) (a : Option Addr) (c : Nat) (l : List Sp) (w : World)
    (hp : PredBelow Try.prog g lb (fun x => .agg (spC x).toArray) p w) (hz : (l.length : Int) ≤ 9223372036854775807) (h : PIn w w.heap.size a l) :
    Calls Try.prog 133 #[.slice a l.length c, .func (.func g) #[] lb] w (Gives w (.bool (l.any p))) := by
  by_cases hl : l = []
  · subst hl; exact containsPair_none a c _ w
  · obtain ⟨b, off, rfl, hb⟩ := h.some' hl
    have := AnyQ.slices_ContainsFunc Try.lContainsPair 2 Try.isAgg90 Try.sizeOf90 spC (fun _ => rfl) p g lb eg b off l.length c l w hp (Nat.le_refl _) (by omega) hb (fun j hj i v hi => spC_hc h j hj i v hi)
    rw [List.take_length] at this
    exact this
theorem areValid_any (a : Option Addr) (n c : Nat) (l : List Sp) (w : World) (h : Arg w a n c l) :
    Calls Try.prog 115 #[.slice a n c] w (Gives w (.bool (okPs l))) := by
  obtain ⟨rfl, hz, _, _, hp⟩ := h
  have C := containsPair_any (fun x => !okP x) 134 #[] (enters_of Try.func134 (by kernel_rfl) rfl) a c l w (valid1 w) hz hp
  rw [← List.not_all_eq_any_not] at C
  obtain ⟨r, hr⟩ : ∃ r, l.all okP = r := ⟨_, rfl⟩
  rw [hr] at C
  show Calls _ _ _ w (Gives w (.bool (l.all okP)))
  rw [hr]
  replace C := Lib.hid C
  clear hp hr
  go_enter Try.func115, Try.ntmps115
  go_wp2_with (go_at_call 133; (with_reducible refine C.out.mono ?_); rintro e w2 ⟨rfl, b2⟩)
  go_ret
  exact ⟨ret_bool (by simp), b2⟩
theorem isMove_any (p q : Sp) (w : World) : Calls Try.prog 118 #[.agg #[.int .i64 p.1, .int .i64 p.2], .agg #[.int .i64 q.1, .int .i64 q.2]] w (Gives w (.bool (moveB p q))) := by
  obtain ⟨x, y⟩ := p
  obtain ⟨u, v⟩ := q
  have H := Lib.hid (show moveB (x, y) (u, v) = ((x != u) && (y == v) && decide (0 ≤ y)) from rfl)
  generalize moveB (x, y) (u, v) = r at H
  go_enter Try.func118, Try.ntmps118
  go_wp2
  all_goals
    go_ret
    refine ⟨ret_bool ?_, ((Below.refl _ _).alloc (Nat.le_refl _) _).alloc (by simp) _⟩
    rw [H.out]
    simp_all
end Go.Proofs.Ytfnjadiibiedgaa
