/-
  DELTA: the document's Same, where both are the same; its Between.
-/
import Derived.Test.YtnjlbgnojlmmlaaDlX
namespace Go.Proofs.Ytnjlbgnojlmmlaa
open Go.RowKit Go.Deep Go.Shelf

theorem eqCellR (n : Nat) (x y : Int) (s t : Bool) (w : World) : (Op.equalIn (n + 3) 55 (.agg #[.int .i64 x, .bool s]) (.agg #[.int .i64 y, .bool t])).run Try.prog w = .ok (x == y && s == t) w := by
  have u3 := Try.underlying3
  have a3 := Try.isAgg3
  have z3 := Try.sizeOf3
  have u4 := Try.underlying4
  have a4 := Try.isAgg4
  have z4 := Try.sizeOf4
  have hS : Try.prog.underlying 55 = some (.struct (Try.prog.fieldsOf 55)) := by kernel_rfl
  have hp : Try.prog.stoodInHeld 55 = false := by kernel_rfl
  rw [run_equalIn_agg w (n + 2) 55 _ _ hS hp]
  simp only [Program.fieldsOf, Try.underlying55]
  go_simp
  by_cases h1 : x = y <;> cases s <;> cases t <;> simp [h1]
theorem neqCell (x y : Int) (s t : Bool) (w : World) : (binOp .neq 55 (.agg #[.int .i64 x, .bool s]) (.agg #[.int .i64 y, .bool t])).run Try.prog w = .ok (.bool (!(x == y && s == t))) w := by
  rw [run_neq_struct, show (10000 : Nat) = 9997 + 3 from rfl, eqCellR]
  rfl
theorem neqTurn (t : Tn) (w : World) : (binOp .neq 57 (.agg #[.int .i64 t.1, .int .i64 t.2.1.1, .bool t.2.1.2, .int .i64 t.2.2.1, .bool t.2.2.2]) (.agg #[.int .i64 t.1, .int .i64 t.2.1.1, .bool t.2.1.2, .int .i64 t.2.2.1, .bool t.2.2.2])).run Try.prog w = .ok (.bool false) w := by
  obtain ⟨k, ⟨a, s⟩, ⟨b, u⟩⟩ := t
  have u3 := Try.underlying3
  have a3 := Try.isAgg3
  have z3 := Try.sizeOf3
  have aS := Try.isAgg55
  have zS := Try.sizeOf55
  have hS : Try.prog.underlying 57 = some (.struct (Try.prog.fieldsOf 57)) := by kernel_rfl
  have hp : Try.prog.stoodInHeld 57 = false := by kernel_rfl
  rw [run_neq_struct, show (10000 : Nat) = 9999 + 1 from rfl, run_equalIn_agg w 9999 57 _ _ hS hp]
  simp only [Program.fieldsOf, Try.underlying57]
  have E := fun n x y s t w => eqCellR n x y s t w
  go_simp
set_option maxRecDepth 100000 in
set_option maxHeartbeats 1000000 in
theorem sameT_any (a b : Option Addr) (n m c d : Nat) (l : List Tn) (w : World) (hA : RArg encT 5 w a n c l) (hB : RArg encT 5 w b m d l) :
    Calls Try.prog 11 #[.slice a n c, .slice b m d] w (Gives w (.bool true)) := by
  have hp := Lib.hid hA
  have hq := Lib.hid hB
  obtain ⟨rfl, zn, hc1, hc2, _⟩ := hA
  obtain ⟨rfl, zm, hd1, hd2, _⟩ := hB
  go_enter Try.func11, Try.ntmps11
  go_wp2_with fail
  go_loopw [5] (fun i wr => ∃ (j : Nat), i = .int .i64 (j : Int) ∧ j ≤ l.length ∧ Below w.heap.size w wr)
    (fun i _ => l.length - (intOf i).toNat)
  case atStart => exact ⟨0, rfl, by omega, Below.refl _ _⟩
  case round =>
    obtain ⟨j, rfl, hj, hbl⟩ := hrel
    by_cases hlt : j < l.length
    · obtain ⟨b1, o1, e1, _, x0, x1, x2, x3, x4⟩ := (hp.out.below hbl).tns hlt
      obtain ⟨b2, o2, e2, _, y0, y1, y2, y3, y4⟩ := (hq.out.below hbl).tns hlt
      subst e1
      subst e2
      have NE := fun w => neqTurn l[j]! w
      generalize l[j]! = s at x0 x1 x2 x3 x4 y0 y1 y2 y3 y4 NE
      have hltz : (j : Int) < (l.length : Int) := by omega
      go_wp2_with fail
      go_quiet (fail)
      go_wp2
      go_roundw
      case rel => exact ⟨j + 1, by go_num, by omega, below_drewN2 hbl _⟩
      case measure => simp [intOf]; omega
    · have hltz : ¬ (j : Int) < (l.length : Int) := by omega
      go_wp2
      go_ret
      exact ⟨rfl, hbl⟩
theorem tblF_cons {e : Int} {p : Pr} {t : List Pr} (h : tblF e (p :: t) = true) : e < p.1 ∧ p.1 < 4096 ∧ tblF p.1 t = true ∧ ∀ e', e' < p.1 → tblF e' (p :: t) = true := by
  unfold tblF at h
  rw [Bool.and_eq_true, Bool.and_eq_true, decide_eq_true_iff] at h
  refine ⟨h.1.1.1, h.1.1.2, h.2, fun e' he => ?_⟩
  unfold tblF
  rw [h.1.2, h.2, decide_eq_true ⟨he, h.1.1.2⟩]
  rfl
theorem getT_no : ∀ (l : List Pr) (e k : Int), tblF e l = true → k ≤ e → getT l k = none
  | [], _, _, _, _ => rfl
  | p :: t, e, k, h, hk => by
    obtain ⟨h1, _, h3, _⟩ := tblF_cons h
    unfold getT
    rw [if_neg (by omega)]
    exact getT_no t _ k h3 (by omega)
theorem getT_skip : ∀ (l m : List Pr) (k : Int), (∀ x ∈ l, x.1 ≠ k) → getT (l ++ m) k = getT m k
  | [], _, _, _ => rfl
  | p :: t, m, k, h => by
    show (if p.1 = k then some p.2 else getT (t ++ m) k) = _
    rw [if_neg (h p List.mem_cons_self)]
    exact getT_skip t m k (fun x hx => h x (List.mem_cons_of_mem _ hx))
/-- Where two lists stand, all up to e being behind. -/
structure BI (a b : List Pr) (p q : Nat) (e : Int) : Prop where
  ta : tblF e (a.drop p) = true
  tb : tblF e (b.drop q) = true
  la : ∀ x ∈ a.take p, x.1 ≤ e
  lb : ∀ x ∈ b.take q, x.1 ≤ e
theorem BI.geta {a b : List Pr} {p q : Nat} {e : Int} (h : BI a b p q e) {k : Int} (hk : e < k) : getT a k = getT (a.drop p) k := by
  have := getT_skip (a.take p) (a.drop p) k (fun x hx => by have := h.la x hx; omega)
  rwa [List.take_append_drop] at this
theorem BI.getb {a b : List Pr} {p q : Nat} {e : Int} (h : BI a b p q e) {k : Int} (hk : e < k) : getT b k = getT (b.drop q) k := by
  have := getT_skip (b.take q) (b.drop q) k (fun x hx => by have := h.lb x hx; omega)
  rwa [List.take_append_drop] at this
theorem getT_hd (x : Pr) (t : List Pr) : getT (x :: t) x.1 = some x.2 := by show (if x.1 = x.1 then some x.2 else getT t x.1) = _; rw [if_pos rfl]
/-- The first list goes on. -/
theorem BI.na {a b : List Pr} {p q : Nat} {e : Int} (h : BI a b p q e) {x : Pr} (hp : p < a.length) (hx : a[p]! = x) (hb : tblF x.1 (b.drop q) = true) : e < x.1 ∧ BI a b (p + 1) q x.1 ∧ getT a x.1 = some x.2 ∧ getT b x.1 = none := by
  have hd := drop_moreG hp
  rw [hx] at hd
  have h1 := h.ta
  rw [hd] at h1
  obtain ⟨k1, _, k3, _⟩ := tblF_cons h1
  refine ⟨k1, ⟨k3, hb, fun y hy => ?_, fun y hy => by have := h.lb y hy; omega⟩, ?_, ?_⟩
  · rw [take_moreG hp, hx] at hy
    rcases List.mem_append.1 hy with hy | hy
    · have := h.la y hy; omega
    · have : y = x := by simpa using hy
      rw [this]; omega
  · rw [h.geta k1, hd]; exact getT_hd x _
  · rw [h.getb k1]; exact getT_no _ _ _ hb (Int.le_refl _)
theorem BI.nb {a b : List Pr} {p q : Nat} {e : Int} (h : BI a b p q e) {y : Pr} (hq : q < b.length) (hy : b[q]! = y) (ha : tblF y.1 (a.drop p) = true) : e < y.1 ∧ BI a b p (q + 1) y.1 ∧ getT a y.1 = none ∧ getT b y.1 = some y.2 := by
  have hd := drop_moreG hq
  rw [hy] at hd
  have h1 := h.tb
  rw [hd] at h1
  obtain ⟨k1, _, k3, _⟩ := tblF_cons h1
  refine ⟨k1, ⟨ha, k3, fun x hx => by have := h.la x hx; omega, fun x hx => ?_⟩, ?_, ?_⟩
  · rw [take_moreG hq, hy] at hx
    rcases List.mem_append.1 hx with hx | hx
    · have := h.lb x hx; omega
    · have : x = y := by simpa using hx
      rw [this]; omega
  · rw [h.geta k1]; exact getT_no _ _ _ ha (Int.le_refl _)
  · rw [h.getb k1, hd]; exact getT_hd y _
theorem BI.nab {a b : List Pr} {p q : Nat} {e : Int} (h : BI a b p q e) {x y : Pr} (hp : p < a.length) (hq : q < b.length) (hx : a[p]! = x) (hy : b[q]! = y) (hk : x.1 = y.1) : e < x.1 ∧ BI a b (p + 1) (q + 1) x.1 ∧ getT a x.1 = some x.2 ∧ getT b x.1 = some y.2 := by
  have hda := drop_moreG hp
  have hdb := drop_moreG hq
  rw [hx] at hda
  rw [hy] at hdb
  have h1 := h.ta
  have h2 := h.tb
  rw [hda] at h1
  rw [hdb] at h2
  obtain ⟨k1, _, k3, _⟩ := tblF_cons h1
  obtain ⟨m1, _, m3, _⟩ := tblF_cons h2
  rw [← hk] at m1 m3
  refine ⟨k1, ⟨k3, m3, fun z hz => ?_, fun z hz => ?_⟩, ?_, ?_⟩
  · rw [take_moreG hp, hx] at hz
    rcases List.mem_append.1 hz with hz | hz
    · have := h.la z hz; omega
    · have : z = x := by simpa using hz
      rw [this]; omega
  · rw [take_moreG hq, hy] at hz
    rcases List.mem_append.1 hz with hz | hz
    · have := h.lb z hz; omega
    · have : z = y := by simpa using hz
      rw [this]; omega
  · rw [h.geta k1, hda]; exact getT_hd x _
  · rw [h.getb k1, hdb, hk]; exact getT_hd y _
end Go.Proofs.Ytnjlbgnojlmmlaa
