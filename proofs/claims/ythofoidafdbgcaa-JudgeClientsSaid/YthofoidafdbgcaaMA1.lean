/-
  MutA, MutB: one text.
-/
import Derived.Test.YthofoidafdbgcaaSA3
import Derived.IntWalk
/-
  MUTATIONS: which may be, plain; CONTRACTS of between, isValue, areValid, rise, isMove, bare.
-/
namespace Go.Proofs.Ythofoidafdbgcaa
open Go.RowKit Go.Shelf

def btw (a n b : Int) : Bool := decide (a ≤ n ∧ n ≤ b)
def isVal (n : Int) : Bool := btw (-1099511627776) n 1099511627776
def okP (p : Int × Int) : Bool := btw 0 p.1 4095 && isVal p.2
def okPs (l : List (Int × Int)) : Bool := l.all okP
def riseFrom (e : Int) : List (Int × Int) → Bool
  | [] => true
  | p :: t => decide (e < p.1) && riseFrom p.1 t
def riseB : List (Int × Int) → Bool
  | [] => true
  | p :: t => riseFrom p.1 t
def moveB (p q : Int × Int) : Bool := (p.1 != q.1) && (p.2 == q.2) && decide (0 ≤ p.2)
def bareB (k lo hi old : Int) : Bool := (k == 2 || (lo == 0 && hi == 0)) && (k == 4 || old == 0)
def fitsB (k : Int) (l : List (Int × Int)) (lo hi old : Int) : Bool :=
  if k = 1 then btw 1 l.length 8 && okPs l && riseB l
  else if k = 2 then (l.length == 0) && oneB (lo, hi)
  else if k = 3 then (l.length == 1) && okPs l
  else if k = 4 then (l.length == 1) && okPs l && (isVal old || old == 1099511627777)
  else if k = 5 then (l.length == 2) && okPs l && moveB (l.getD 0 (0, 0)) (l.getD 1 (0, 0))
  else false
def chkM (c s k : Int) (l : List (Int × Int)) (lo hi old : Int) : Bool := btw 1 c 1048576 && btw 1 s 1073741824 && bareB k lo hi old && fitsB k l lo hi old

theorem between_any (x n y : Int) (w : World) : Calls Try.prog 47 #[.int .i64 x, .int .i64 n, .int .i64 y] w fun e w' => e = .returned (.bool (btw x n y)) ∧ w = w' := by
  have H := Lib.hid (show btw x n y = decide (x ≤ n ∧ n ≤ y) from rfl)
  generalize btw x n y = r at H
  go_enter Try.func47, Try.ntmps47
  go_wp2
  all_goals
    go_ret
    exact ⟨ret_bool (by rw [H.out]; first | (simp [*]; done) | (simp [*]; omega)), rfl⟩
theorem isValue_any (n : Int) (w : World) : Calls Try.prog 73 #[.int .i64 n] w fun e w' => e = .returned (.bool (isVal n)) ∧ w = w' := by
  have C := Lib.hid (between_any (-1099511627776) n 1099511627776)
  show Calls _ _ _ w fun e w' => e = .returned (.bool (btw (-1099511627776) n 1099511627776)) ∧ w = w'
  go_enter Try.func73, Try.ntmps73
  go_wp2_with (go_at_call 47; refine (C.out _).mono ?_; rintro e w' ⟨rfl, rfl⟩)
  go_ret
  exact ⟨rfl, rfl⟩
theorem valid1 (w : World) : PredBelow Try.prog 98 #[] (fun x => .agg (spC x).toArray) (fun x => !okP x) w := fun W x hb => by
  obtain ⟨p, q⟩ := x
  show Calls Try.prog 98 #[.agg #[.int .i64 p, .int .i64 q]] W fun e w' => e = .returned (.bool (!okP (p, q))) ∧ Below w.heap.size w w'
  have C1 := fun w' => between_any 0 p 4095 w'
  have C2 := fun w' => isValue_any q w'
  have H := Lib.hid (show okP (p, q) = (btw 0 p 4095 && isVal q) from rfl)
  generalize okP (p, q) = r at H
  have b1 : Below w.heap.size w (W.alloc (.cells #[.int .i64 p, .int .i64 q] 65)) := hb.alloc hb.size _
  cases h1 : btw 0 p 4095
  · simp only [h1] at C1
    replace h1 := Lib.hid h1
    replace C1 := Lib.hid C1
    replace C2 := Lib.hid C2
    go_enter Try.func98, Try.ntmps98
    go_wp2_with (go_at_call 47; (with_reducible refine (C1.out _).mono ?_); rintro e w2 ⟨rfl, rfl⟩)
    go_ret
    exact ⟨ret_bool (by rw [H.out, h1.out]; rfl), b1⟩
  · simp only [h1] at C1
    cases h2 : isVal q
    all_goals
      simp only [h2] at C2
      replace h2 := Lib.hid h2
      replace C1' := Lib.hid C1
      replace C2' := Lib.hid C2
      replace h1' := Lib.hid h1
      clear C1 C2 h1
      go_enter Try.func98, Try.ntmps98
      go_wp2_with (first | (go_at_call 47; (with_reducible refine (C1'.out _).mono ?_); rintro e w2 ⟨rfl, rfl⟩) | (go_at_call 73; (with_reducible refine (C2'.out _).mono ?_); rintro e w2 ⟨rfl, rfl⟩))
      go_ret
      exact ⟨ret_bool (by rw [H.out, h1'.out, h2.out]; rfl), b1⟩
theorem indexPair_none (a : Option Addr) (c : Nat) (fv : Value) (w : World) : Calls Try.prog 100 #[.slice a 0 c, fv] w fun e w' => e = .returned (.int .i64 (-1)) ∧ w = w' := by
  go_enter Try.func100, Try.ntmps100
  go_wp2
  refine wp_loop_rounds 1 ?_
  rw [rounds_succ]
  go_wp2
  go_ret
  exact ⟨rfl, rfl⟩
theorem containsPair_none (a : Option Addr) (c : Nat) (fv : Value) (w : World) : Calls Try.prog 97 #[.slice a 0 c, fv] w (Gives w (.bool false)) := by
  go_enter Try.func97, Try.ntmps97
  go_wp2_with (go_at_call 100; refine (indexPair_none _ _ _ _).mono ?_; rintro e w' ⟨rfl, rfl⟩)
  go_ret
  exact ⟨rfl, Below.refl _ _⟩
theorem containsPair_any (p : Sp → Bool) (g : Nat) (lb : Array Value) (eg : ∀ args w, (callFunc g args).run Try.prog w = .ok (.enter g args) w) (a : Option Addr) (c : Nat) (l : List Sp) (w : World)
    (hp : PredBelow Try.prog g lb (fun x => .agg (spC x).toArray) p w) (hz : (l.length : Int) ≤ 9223372036854775807) (h : PIn w w.heap.size a l) :
    Calls Try.prog 97 #[.slice a l.length c, .func (.func g) #[] lb] w (Gives w (.bool (l.any p))) := by
  by_cases hl : l = []
  · subst hl; exact containsPair_none a c _ w
  · obtain ⟨b, off, rfl, hb⟩ := h.some' hl
    have := AnyQ.slices_ContainsFunc Try.lContainsPair 2 Try.isAgg65 Try.sizeOf65 spC (fun _ => rfl) p g lb eg b off l.length c l w hp (Nat.le_refl _) (by omega) hb (fun j hj i v hi => spC_hc h j hj i v hi)
    rw [List.take_length] at this
    exact this
theorem areValid_any (a : Option Addr) (n c : Nat) (l : List Sp) (w : World) (h : Arg w a n c l) :
    Calls Try.prog 71 #[.slice a n c] w (Gives w (.bool (okPs l))) := by
  obtain ⟨rfl, hz, _, _, hp⟩ := h
  have C := containsPair_any (fun x => !okP x) 98 #[] (enters_of Try.func98 (by kernel_rfl) rfl) a c l w (valid1 w) hz hp
  rw [← List.not_all_eq_any_not] at C
  obtain ⟨r, hr⟩ : ∃ r, l.all okP = r := ⟨_, rfl⟩
  rw [hr] at C
  show Calls _ _ _ w (Gives w (.bool (l.all okP)))
  rw [hr]
  replace C := Lib.hid C
  clear hp hr
  go_enter Try.func71, Try.ntmps71
  go_wp2_with (go_at_call 97; (with_reducible refine C.out.mono ?_); rintro e w2 ⟨rfl, b2⟩)
  go_ret
  exact ⟨ret_bool (by simp), b2⟩
theorem isMove_any (p q : Sp) (w : World) : Calls Try.prog 74 #[.agg #[.int .i64 p.1, .int .i64 p.2], .agg #[.int .i64 q.1, .int .i64 q.2]] w (Gives w (.bool (moveB p q))) := by
  obtain ⟨x, y⟩ := p
  obtain ⟨u, v⟩ := q
  have H := Lib.hid (show moveB (x, y) (u, v) = ((x != u) && (y == v) && decide (0 ≤ y)) from rfl)
  generalize moveB (x, y) (u, v) = r at H
  go_enter Try.func74, Try.ntmps74
  go_wp2
  all_goals
    go_ret
    refine ⟨ret_bool ?_, ((Below.refl _ _).alloc (Nat.le_refl _) _).alloc (by simp) _⟩
    rw [H.out]
    simp_all
end Go.Proofs.Ythofoidafdbgcaa


/-
  CONTRACTS of rise, bare, fits, Check (of a mutation).
-/
namespace Go.Proofs.Ythofoidafdbgcaa
open Go.RowKit Go.Shelf

theorem riseFrom_snoc (e : Int) (l : List Sp) (p q : Sp) : riseFrom e (l ++ [p] ++ [q]) = (riseFrom e (l ++ [p]) && decide (p.1 < q.1)) := by
  induction l generalizing e with
  | nil => simp [riseFrom]
  | cons x t ih => rw [List.cons_append, List.cons_append]; show (_ && riseFrom x.1 (t ++ [p] ++ [q])) = ((_ && riseFrom x.1 (t ++ [p])) && _); rw [ih, Bool.and_assoc]
theorem riseB_snoc (l : List Sp) (p q : Sp) : riseB (l ++ [p] ++ [q]) = (riseB (l ++ [p]) && decide (p.1 < q.1)) := by
  cases l with
  | nil => simp [riseB, riseFrom]
  | cons x t => rw [List.cons_append, List.cons_append]; exact riseFrom_snoc x.1 t p q
theorem riseFrom_pre (e : Int) (l m : List Sp) (h : riseFrom e (l ++ m) = true) : riseFrom e l = true := by
  induction l generalizing e with
  | nil => rfl
  | cons x t ih =>
    rw [List.cons_append] at h
    have h' : (decide (e < x.1) && riseFrom x.1 (t ++ m)) = true := h
    rw [Bool.and_eq_true] at h'
    show (decide (e < x.1) && riseFrom x.1 t) = true
    rw [Bool.and_eq_true]
    exact ⟨h'.1, ih _ h'.2⟩
theorem riseB_pre (l m : List Sp) (h : riseB (l ++ m) = true) : riseB l = true := by
  cases l with
  | nil => rfl
  | cons x t => exact riseFrom_pre x.1 t m h

set_option maxRecDepth 100000 in
set_option maxHeartbeats 1000000 in
theorem rise_any (a : Option Addr) (n c : Nat) (l : List Sp) (w : World) (h : Arg w a n c l) :
    Calls Try.prog 72 #[.slice a n c] w (Gives w (.bool (riseB l))) := by
  obtain ⟨hn, hz, _, _, hp⟩ := h
  have hnz : (n : Int) ≤ 9223372036854775807 := by omega
  obtain ⟨r, hr⟩ : ∃ r, riseB l = r := ⟨_, rfl⟩
  rw [hr]
  replace hr := Lib.hid hr
  replace hn := Lib.hid hn
  replace hp := Lib.hid hp
  go_enter Try.func72, Try.ntmps72
  go_wp2_with fail
  go_loopw [3] (fun i wr => ∃ (k : Nat), i = .int .i64 ((k : Int) + 1) ∧ (k < n ∨ k = 0) ∧ Hid (riseB (l.take (k + 1)) = true) ∧ Below w.heap.size w wr)
    (fun i _ => n - (intOf i).toNat)
  case atStart =>
    refine ⟨0, rfl, .inr rfl, Lib.hid ?_, Below.refl _ _⟩
    cases l with
    | nil => rfl
    | cons x t => rfl
  case round =>
    obtain ⟨k, rfl, hk, HK, hbl⟩ := hrel
    by_cases hlt : k + 1 < n
    · have hltz : (k : Int) + 1 < (n : Int) := by omega
      have hkz : (k : Int) < (n : Int) := by omega
      obtain ⟨b, off, e, hb, d0, _⟩ := (hp.out.below hbl) k (by rw [← hn.out]; omega)
      subst e
      obtain ⟨b', off', e, _, e0, _⟩ := (hp.out.below hbl) (k + 1) (by rw [← hn.out]; exact hlt)
      cases e
      obtain ⟨p, hpk⟩ : ∃ s, l.getD k (0, 0) = s := ⟨_, rfl⟩
      obtain ⟨q, hq⟩ : ∃ s, l.getD (k + 1) (0, 0) = s := ⟨_, rfl⟩
      rw [hpk] at d0
      rw [hq] at e0
      have hnext : riseB (l.take (k + 1 + 1)) = decide (p.1 < q.1) := by
        have h1 := HK.out
        rw [take_more (k := k) (by rw [← hn.out]; omega)] at h1
        rw [take_more (k := k + 1) (by rw [← hn.out]; exact hlt), take_more (k := k) (by rw [← hn.out]; omega), riseB_snoc, h1, hpk, hq, Bool.true_and]
      replace hpk := Lib.hid hpk
      replace hq := Lib.hid hq
      obtain ⟨x, y⟩ := p
      obtain ⟨u, v⟩ := q
      dsimp only at d0 e0 hnext
      rw [show off + (k + 1) * 2 = off + k * 2 + 2 from by omega] at e0
      have hks : (k : Int) + 1 - 1 = k := by omega
      have hkw : IntKind.i64.wrap ((k : Int) + 1 - 1) = k := by rw [hks]; exact IntWalk.i64_in _ (by omega)
      have ht : ((k : Int) + 1).toNat = k + 1 := by omega
      have hoff : off + (k + 1) * 2 = off + k * 2 + 2 := by omega
      replace hks := Lib.hid hks
      by_cases hxu : x < u
      · have hN := Lib.hid (hnext.trans (decide_eq_true hxu))
        have hd : decide (u ≤ x) = false := decide_eq_false (by omega)
        clear hnext
        go_wp2_with fail
        go_quiet (fail)
        go_wp2
        go_roundw
        case rel => exact ⟨k + 1, by go_num, .inl hlt, hN, below_drewN hbl _⟩
        case measure => simp [intOf]; omega
      · have hbad : r = false := by
          rw [← hr.out]
          cases hq' : riseB l
          · rfl
          · have := riseB_pre (l.take (k + 1 + 1)) (l.drop (k + 1 + 1)) (by rw [List.take_append_drop]; exact hq')
            rw [hnext, decide_eq_false hxu] at this; cases this
        subst hbad
        have hd : u ≤ x := by omega
        clear hnext
        go_wp2_with fail
        go_quiet (fail)
        go_wp2
        go_ret
        exact ⟨rfl, below_drewN hbl _⟩
    · have hnlt : ¬ (k : Int) + 1 < (n : Int) := by omega
      have hk' : l.take (k + 1) = l := List.take_of_length_le (by rw [← hn.out]; omega)
      have hfin := HK.out
      rw [hk', hr.out] at hfin
      subst hfin
      replace hk' := Lib.hid hk'
      go_wp2
      go_ret
      exact ⟨rfl, hbl⟩

/-- A mutation in a box of its own, behind calls. -/
theorem box7 {w w' : World} {t : TypeId} {v0 v1 v2 v3 v4 v5 v6 : Value} (hb : Below (w.alloc (.cells #[v0, v1, v2, v3, v4, v5, v6] t)).heap.size (w.alloc (.cells #[v0, v1, v2, v3, v4, v5, v6] t)) w') :
    w'.cell? ⟨w.heap.size, 0, none⟩ = some v0 ∧ w'.cell? ⟨w.heap.size, 1, none⟩ = some v1 ∧ w'.cell? ⟨w.heap.size, 2, none⟩ = some v2 ∧ w'.cell? ⟨w.heap.size, 3, none⟩ = some v3 ∧ w'.cell? ⟨w.heap.size, 4, none⟩ = some v4 ∧ w'.cell? ⟨w.heap.size, 5, none⟩ = some v5 ∧ w'.cell? ⟨w.heap.size, 6, none⟩ = some v6 := by
  have h := fun i => hb.cell (p := ⟨w.heap.size, i, none⟩) (by simp)
  rw [h, h, h, h, h, h, h]
  exact ⟨by simp, by simp, by simp, by simp, by simp, by simp, by simp⟩
theorem zeroSpan (x y : Int) (w : World) : (binOp .eql 40 (.agg #[.int .i64 x, .int .i64 y]) (.agg #[.int .i64 0, .int .i64 0])).run Try.prog w = .ok (.bool (x == 0 && y == 0)) w := eqSpan x y 0 0 w

set_option maxRecDepth 100000 in
set_option maxHeartbeats 2000000 in
theorem bare_any (c s k : Int) (a : Option Addr) (n cp : Nat) (lo hi old : Int) (w : World) :
    Calls Try.prog 48 #[.agg #[.int .i64 c, .int .i64 s, .int .i64 k, .slice a n cp, .int .i64 lo, .int .i64 hi, .int .i64 old]] w (Gives w (.bool (bareB k lo hi old))) := by
  have Z := fun w => zeroSpan lo hi w
  have H := Lib.hid (show bareB k lo hi old = ((k == 2 || (lo == 0 && hi == 0)) && (k == 4 || old == 0)) from rfl)
  generalize bareB k lo hi old = r at H
  by_cases k2 : k = 2
  · subst k2
    by_cases o0 : old = 0
    all_goals
      go_enter Try.func48, Try.ntmps48
      go_wp2
      go_ret
      exact ⟨ret_bool (by rw [H.out]; simp [o0]), (Below.refl _ _).alloc (Nat.le_refl _) _⟩
  · have k2' : (k == 2) = false := by simpa using k2
    cases hz : (lo == 0 && hi == 0)
    · simp only [hz] at Z
      replace hz := Lib.hid hz
      replace k2 := Lib.hid k2
      go_enter Try.func48, Try.ntmps48
      go_wp2
      go_ret
      exact ⟨ret_bool (by rw [H.out, hz.out, k2']; rfl), (Below.refl _ _).alloc (Nat.le_refl _) _⟩
    · simp only [hz] at Z
      replace hz := Lib.hid hz
      replace k2 := Lib.hid k2
      by_cases k4 : k = 4
      · subst k4
        go_enter Try.func48, Try.ntmps48
        go_wp2
        go_ret
        exact ⟨ret_bool (by rw [H.out, hz.out]; rfl), (Below.refl _ _).alloc (Nat.le_refl _) _⟩
      · have k4' : (k == 4) = false := by simpa using k4
        replace k4 := Lib.hid k4
        by_cases o0 : old = 0
        all_goals
          go_enter Try.func48, Try.ntmps48
          go_wp2
          go_ret
          exact ⟨ret_bool (by rw [H.out, hz.out, k2', k4']; simp [o0]), (Below.refl _ _).alloc (Nat.le_refl _) _⟩
end Go.Proofs.Ythofoidafdbgcaa
