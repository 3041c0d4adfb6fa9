/-
  CONTRACTS on stamps: Stamp, before, Compare, the document's Ahead; few.
-/
import Derived.Test.YtfnjadiibiedgaaMutD
namespace Go.Proofs.Ytfnjadiibiedgaa
open Go.RowKit Go.Shelf

def befB (t1 c1 s1 t2 c2 s2 : Int) : Bool := if t1 = t2 then (if c1 = c2 then decide (s1 < s2) else decide (c1 < c2)) else decide (t1 < t2)
def cmpS (t1 c1 s1 t2 c2 s2 : Int) : Int := if (t1 == t2 && (c1 == c2 && s1 == s2)) = true then 0 else if befB t1 c1 s1 t2 c2 s2 = true then -1 else 1

set_option maxRecDepth 100000 in
theorem few4_any (c s k : Int) (a : Option Addr) (n cp : Nat) (lo hi old : Int) (w : World) (hz : (n : Int) ≤ 9223372036854775807) :
    Calls Try.prog 14 #[.agg #[.int .i64 c, .int .i64 s, .int .i64 k, .slice a n cp, .int .i64 lo, .int .i64 hi, .int .i64 old]] w (Gives w (.bool (decide (n ≤ 100)))) := by
  have H := Lib.hid (show decide (n ≤ 100) = decide ((n : Int) ≤ 100) from decide_eq_decide.2 (by omega))
  go_enter Try.func14, Try.ntmps14
  go_wp2
  go_ret
  exact ⟨ret_bool H.out.symm, (Below.refl _ _).alloc (Nat.le_refl _) _⟩
set_option maxRecDepth 100000 in
theorem stamp_any (t c s k : Int) (a : Option Addr) (n cp : Nat) (lo hi old : Int) (w : World) :
    Calls Try.prog 34 #[.int .i64 t, .agg #[.int .i64 c, .int .i64 s, .int .i64 k, .slice a n cp, .int .i64 lo, .int .i64 hi, .int .i64 old]] w (Gives w (.agg #[.int .i64 t, .int .i64 c, .int .i64 s])) := by
  go_enter Try.func34, Try.ntmps34
  go_wp2
  exact bodyPost_ret (v := .agg #[.int .i64 t, .int .i64 c, .int .i64 s]) (by simp [results, Try.results34, go_sem]) rfl ⟨rfl, ((Below.refl _ _).alloc (Nat.le_refl _) _).alloc (by simp) _⟩
theorem eqStamp (t1 c1 s1 t2 c2 s2 : Int) (w : World) : (binOp .eql 58 (.agg #[.int .i64 t1, .int .i64 c1, .int .i64 s1]) (.agg #[.int .i64 t2, .int .i64 c2, .int .i64 s2])).run Try.prog w = .ok (.bool (t1 == t2 && (c1 == c2 && s1 == s2))) w := by
  have u3 := Try.underlying3
  have a3 := Try.isAgg3
  have z3 := Try.sizeOf3
  have hS : Try.prog.underlying 58 = some (.struct (Try.prog.fieldsOf 58)) := by kernel_rfl
  have hp : Try.prog.stoodInHeld 58 = false := by kernel_rfl
  rw [run_eql_struct, show (10000 : Nat) = 9999 + 1 from rfl, run_equalIn_agg w 9999 58 _ _ hS hp]
  simp only [Program.fieldsOf, Try.underlying58]
  go_simp
  by_cases h1 : t1 = t2 <;> by_cases h2 : c1 = c2 <;> by_cases h3 : s1 = s2 <;> simp [h1, h2, h3]

set_option maxRecDepth 100000 in
set_option maxHeartbeats 1000000 in
theorem before_any (t1 c1 s1 t2 c2 s2 : Int) (w : World) : Calls Try.prog 80 #[.agg #[.int .i64 t1, .int .i64 c1, .int .i64 s1], .agg #[.int .i64 t2, .int .i64 c2, .int .i64 s2]] w (Gives w (.bool (befB t1 c1 s1 t2 c2 s2))) := by
  have hF : befB t1 c1 s1 t2 c2 s2 = (if t1 = t2 then (if c1 = c2 then decide (s1 < s2) else decide (c1 < c2)) else decide (t1 < t2)) := rfl
  generalize befB t1 c1 s1 t2 c2 s2 = r at hF
  by_cases q1 : t1 = t2
  · rw [if_pos q1] at hF
    subst q1
    by_cases q2 : c1 = c2
    · rw [if_pos q2] at hF
      subst q2
      replace hF := Lib.hid hF
      go_enter Try.func80, Try.ntmps80
      go_wp2
      go_ret
      exact ⟨ret_bool (by rw [hF.out]), ((Below.refl _ _).alloc (Nat.le_refl _) _).alloc (by simp) _⟩
    · rw [if_neg q2] at hF
      have q2' : (c1 != c2) = true := by simpa using q2
      replace hF := Lib.hid hF
      go_enter Try.func80, Try.ntmps80
      go_wp2
      go_ret
      exact ⟨ret_bool (by rw [hF.out]), ((Below.refl _ _).alloc (Nat.le_refl _) _).alloc (by simp) _⟩
  · rw [if_neg q1] at hF
    have q1' : (t1 != t2) = true := by simpa using q1
    replace hF := Lib.hid hF
    go_enter Try.func80, Try.ntmps80
    go_wp2
    go_ret
    exact ⟨ret_bool (by rw [hF.out]), ((Below.refl _ _).alloc (Nat.le_refl _) _).alloc (by simp) _⟩

set_option maxRecDepth 100000 in
set_option maxHeartbeats 1000000 in
theorem compare_any (t1 c1 s1 t2 c2 s2 : Int) (w : World) : Calls Try.prog 35 #[.agg #[.int .i64 t1, .int .i64 c1, .int .i64 s1], .agg #[.int .i64 t2, .int .i64 c2, .int .i64 s2]] w (Gives w (.int .i64 (cmpS t1 c1 s1 t2 c2 s2))) := by
  have EQ := fun w => eqStamp t1 c1 s1 t2 c2 s2 w
  have hF : cmpS t1 c1 s1 t2 c2 s2 = (if (t1 == t2 && (c1 == c2 && s1 == s2)) = true then 0 else if befB t1 c1 s1 t2 c2 s2 = true then -1 else 1) := rfl
  generalize cmpS t1 c1 s1 t2 c2 s2 = r at hF
  obtain ⟨e, he⟩ : ∃ e, (t1 == t2 && (c1 == c2 && s1 == s2)) = e := ⟨_, rfl⟩
  rw [he] at hF
  simp only [he] at EQ
  replace he := Lib.hid he
  cases e
  · obtain ⟨b, hb⟩ : ∃ b, befB t1 c1 s1 t2 c2 s2 = b := ⟨_, rfl⟩
    rw [hb, if_neg (by simp)] at hF
    replace hb := Lib.hid hb
    cases b
    all_goals
      replace hF := Lib.hid hF
      go_enter Try.func35, Try.ntmps35
      go_wp2_with (go_at_call 80; (with_reducible refine (before_any t1 c1 s1 t2 c2 s2 _).mono ?_); rw [hb.out]; rintro e w2 ⟨rfl, b2⟩)
      go_ret
      exact ⟨ret_int (by rw [hF.out]; rfl), below_next (((Below.refl _ _).alloc (Nat.le_refl _) _).alloc (by simp) _) b2⟩
  · replace hF := Lib.hid hF
    go_enter Try.func35, Try.ntmps35
    go_wp2
    go_ret
    exact ⟨ret_int (by rw [hF.out]; rfl), ((Below.refl _ _).alloc (Nat.le_refl _) _).alloc (by simp) _⟩
end Go.Proofs.Ytfnjadiibiedgaa
