/-
  DELTA: the document's Same of pairs, decided; DeltaThere's and DeltaChains' walks.
-/
import Derived.Test.YtmifjippdlmpiaaDlP
import Derived.Test.YtmifjippdlmpiaaDlS
namespace Go.Proofs.Ytmifjippdlmpiaa
open Go.RowKit Go.Deep Go.Shelf Go.ChangeShapes Go.WideShapes Go.ChangeAt

theorem eqPairR (n : Nat) (x y u v : Int) (w : World) : (Op.equalIn (n + 3) 86 (.agg #[.int .i64 x, .int .i64 y]) (.agg #[.int .i64 u, .int .i64 v])).run Try.prog w = .ok (x == u && y == v) w := by
  have u3 := Try.underlying3
  have a3 := Try.isAgg3
  have z3 := Try.sizeOf3
  have hS : Try.prog.underlying 86 = some (.struct (Try.prog.fieldsOf 86)) := by kernel_rfl
  have hp : Try.prog.stoodInHeld 86 = false := by kernel_rfl
  rw [run_equalIn_agg w (n + 2) 86 _ _ hS hp]
  simp only [Program.fieldsOf, Try.underlying86]
  go_simp
  by_cases h1 : x = u <;> by_cases h2 : y = v <;> simp [h1, h2]
theorem neqPair (x y u v : Int) (w : World) : (binOp .neq 86 (.agg #[.int .i64 x, .int .i64 y]) (.agg #[.int .i64 u, .int .i64 v])).run Try.prog w = .ok (.bool (!(x == u && y == v))) w := by
  rw [run_neq_struct, show (10000 : Nat) = 9997 + 3 from rfl, eqPairR]
  rfl
theorem pr_beq (p q : Pr) : (p.1 == q.1 && p.2 == q.2) = decide (p = q) := by
  obtain ⟨a, b⟩ := p
  obtain ⟨c, d⟩ := q
  by_cases h1 : a = c <;> by_cases h2 : b = d <;> simp [h1, h2]
theorem list_drop_ne {l m : List Pr} {k : Nat} (h : ¬ l[k]! = m[k]!) : ¬ l = m := fun e => by subst e; exact h rfl
set_option maxRecDepth 100000 in
set_option maxHeartbeats 1000000 in
theorem same5_any (a b : Option Addr) (n m c d : Nat) (l r : List Pr) (w : World) (hA : RArg encP 2 w a n c l) (hB : RArg encP 2 w b m d r) :
    Calls Try.prog 24 #[.slice a n c, .slice b m d] w (Gives w (.bool (decide (l = r)))) := by
  have hp := Lib.hid hA
  have hq := Lib.hid hB
  obtain ⟨rfl, zn, hc1, hc2, _⟩ := hA
  obtain ⟨rfl, zm, hd1, hd2, _⟩ := hB
  obtain ⟨z, hz⟩ : ∃ z, decide (l = r) = z := ⟨_, rfl⟩
  rw [hz]
  by_cases hlen : l.length = r.length
  · have hlz : ((l.length : Int) != (r.length : Int)) = false := by simp [hlen]
    have HL := Lib.hid hlen
    have hle : r.length ≤ l.length := by omega
    have hge : l.length ≤ r.length := by omega
    clear hlen
    replace hz := Lib.hid hz
    go_enter Try.func24, Try.ntmps24
    go_wp2_with fail
    go_loopw [5] (fun i wr => ∃ (j : Nat), i = .int .i64 (j : Int) ∧ j ≤ l.length ∧ Hid (l.take j = r.take j) ∧ Below w.heap.size w wr)
      (fun i _ => l.length - (intOf i).toNat)
    case atStart => exact ⟨0, rfl, by omega, Lib.hid rfl, Below.refl _ _⟩
    case round =>
      obtain ⟨j, rfl, hj, HT, hbl⟩ := hrel
      by_cases hlt : j < l.length
      · have hltr : j < r.length := by omega
        obtain ⟨b1, o1, e1, _, x0, x1⟩ := (hp.out.below hbl).prs hlt
        obtain ⟨b2, o2, e2, _, y0, y1⟩ := (hq.out.below hbl).prs hltr
        subst e1
        subst e2
        have hltz : (j : Int) < (l.length : Int) := by omega
        have hltz2 : (j : Int) < (r.length : Int) := by omega
        have NE := fun w => neqPair l[j]!.1 l[j]!.2 r[j]!.1 r[j]!.2 w
        rw [pr_beq] at NE
        by_cases he : l[j]! = r[j]!
        · have HN := Lib.hid (show l.take (j + 1) = r.take (j + 1) by rw [take_moreG hlt, take_moreG hltr, HT.out, he])
          rw [decide_eq_true he] at NE
          clear he
          generalize l[j]! = s at x0 x1 NE
          generalize r[j]! = t at y0 y1 NE
          go_wp2_with fail
          go_quiet (fail)
          go_wp2
          go_roundw
          case rel => exact ⟨j + 1, by go_num, by omega, HN, below_drewN2 hbl _⟩
          case measure => simp [intOf]; omega
        · have HN := Lib.hid (show z = false by rw [← hz.out]; exact decide_eq_false (list_drop_ne he))
          rw [decide_eq_false he] at NE
          clear he
          generalize l[j]! = s at x0 x1 NE
          generalize r[j]! = t at y0 y1 NE
          go_wp2_with fail
          go_quiet (fail)
          go_wp2
          go_ret
          exact ⟨ret_bool HN.out.symm, below_drewN2 hbl _⟩
      · have hltz : ¬ (j : Int) < (l.length : Int) := by omega
        have HN := Lib.hid (show z = true by
          rw [← hz.out]
          have := HT.out
          rw [List.take_of_length_le (by omega), List.take_of_length_le (by omega)] at this
          exact decide_eq_true this)
        go_wp2
        go_ret
        exact ⟨ret_bool HN.out.symm, hbl⟩
  · have hlz : ((l.length : Int) != (r.length : Int)) = true := by simp; omega
    have HN := Lib.hid (show z = false by rw [← hz]; exact decide_eq_false (fun e => hlen (by rw [e])))
    have hlen' : ¬ (l.length : Int) = (r.length : Int) := by omega
    clear hlen hz
    go_enter Try.func24, Try.ntmps24
    go_wp2_with fail
    go_ret
    exact ⟨ret_bool HN.out.symm, Below.refl _ _⟩
theorem pairs23_any (a b : Option Addr) (n m c d : Nat) (l r : List Pr) (w : World) (hl : l.length ≤ 100000) (hr : r.length ≤ 100000) (hA : RArg encP 2 w a n c l) (hB : RArg encP 2 w b m d r) :
    Calls Try.prog 31 #[.slice a n c, .slice b m d] w (Gives w (.bool (decide (l = r)))) := by
  have HA := Lib.hid hA
  have HB := Lib.hid hB
  clear hA hB
  go_enter Try.func31, Try.ntmps31
  go_wp2_with fail
  refine (refs5_any _ _ _ l _ hl HA.out).mono ?_
  rintro e w1 ⟨ra, rn, rc, rfl, hR, b1⟩
  go_wp2_with fail
  refine (refs5_any _ _ _ r _ hr (HB.out.below b1)).mono ?_
  rintro e w2 ⟨sa, sn, sc, rfl, hS, b2⟩
  go_wp2_with fail
  refine (same5_any _ _ _ _ _ _ l r _ (hR.below b2) hS).mono ?_
  rintro e w3 ⟨rfl, b3⟩
  go_wp2_with fail
  go_ret
  exact ⟨rfl, below_next (below_next b1 b2) b3⟩
end Go.Proofs.Ytmifjippdlmpiaa
