/-
  CONTRACTS: slices.Equal at spans; Within; awake.
-/
import Derived.Test.YtelgigahjgjjiaaRefA3
namespace Go.Proofs.Ytelgigahjgjjiaa
open Go.RowKit Go.Shelf

theorem eqSpanIn (x y p q : Int) (w : World) : (Op.equalIn 10000 24 (.agg #[.int .i64 x, .int .i64 y]) (.agg #[.int .i64 p, .int .i64 q])).run Try.prog w = .ok (x == p && y == q) w := by
  have u3 := Try.underlying3
  have a3 := Try.isAgg3
  have z3 := Try.sizeOf3
  have hS : Try.prog.underlying 24 = some (.struct (Try.prog.fieldsOf 24)) := by kernel_rfl
  have hp : Try.prog.stoodInHeld 24 = false := by kernel_rfl
  rw [show (10000 : Nat) = 9999 + 1 from rfl, run_equalIn_agg w 9999 24 _ _ hS hp]
  simp only [Program.fieldsOf, Try.underlying24]
  go_simp
  by_cases h1 : x = p <;> by_cases h2 : y = q <;> simp [h1, h2]
theorem eqSpan (x y p q : Int) (w : World) : (binOp .eql 24 (.agg #[.int .i64 x, .int .i64 y]) (.agg #[.int .i64 p, .int .i64 q])).run Try.prog w = .ok (.bool (x == p && y == q)) w := by
  rw [run_eql_struct, eqSpanIn]; rfl
theorem neqSpan : NeqAt Try.prog 24 (fun x => .agg (spC x).toArray) (fun x y : Sp => x.1 == y.1 && x.2 == y.2) :=
  ⟨fun x y w => by
    show (binOp .neq 24 (.agg #[.int .i64 x.1, .int .i64 x.2]) (.agg #[.int .i64 y.1, .int .i64 y.2])).run Try.prog w = _
    rw [run_neq_struct, eqSpanIn]; rfl, GuardAt.agg _ (by kernel_rfl)⟩
theorem eqSp (x y : Sp) : (x.1 == y.1 && x.2 == y.2) = decide (x = y) := by
  rw [Bool.eq_iff_iff]; simp [Prod.ext_iff]
theorem allEq_iff (l k : List Sp) : Lib.allEq (fun x y : Sp => x.1 == y.1 && x.2 == y.2) l k = decide (l = k) := by
  by_cases h : l = k
  · subst h
    rw [decide_eq_true rfl]
    exact Lib.allEq_all _ _ _ rfl fun j _ => by simp
  · rw [decide_eq_false h]
    by_cases hl : l.length = k.length
    · by_cases hall : ∀ j, j < l.length → l.getD j (0, 0) = k.getD j (0, 0)
      · refine absurd (List.ext_getElem hl fun j h1 h2 => ?_) h
        have := hall j h1
        simpa [List.getD, List.getElem?_eq_getElem h1, List.getElem?_eq_getElem h2] using this
      · obtain ⟨j, hj⟩ := Classical.not_forall.1 hall
        obtain ⟨hj, hne⟩ := Classical.not_imp.1 hj
        refine Lib.allEq_elem _ _ _ j hj (by omega) ?_
        rw [getE_eq hj, getE_eq (by omega), eqSp]
        exact decide_eq_false hne
    · exact Lib.allEq_len _ _ _ hl

theorem equal_zero (a b : Option Addr) (n m c d : Nat) (w : World) (hn : (n : Int) ≤ 9223372036854775807) (hm : (m : Int) ≤ 9223372036854775807) (h0 : n = 0 ∨ m = 0) :
    Calls Try.prog 53 #[.slice a n c, .slice b m d] w (Gives w (.bool (decide (n = m)))) := by
  by_cases hnm : n = m
  · have hn0 : n = 0 := by omega
    subst hnm
    subst hn0
    rw [decide_eq_true rfl]
    go_enter Try.func53, Try.ntmps53
    go_wp2
    refine wp_loop_rounds 1 ?_
    rw [rounds_succ]
    go_wp2
    go_ret
    exact ⟨rfl, Below.refl _ _⟩
  · have hnb : ((n : Int) != (m : Int)) = true := by simp; omega
    have hne : ¬ (n : Int) = (m : Int) := by omega
    rw [decide_eq_false hnm]
    go_enter Try.func53, Try.ntmps53
    go_wp2
    go_ret
    exact ⟨rfl, Below.refl _ _⟩
theorem equal_any (a b : Option Addr) (n m c d : Nat) (l k : List Sp) (w : World) (hA : Arg w a n c l) (hB : Arg w b m d k) :
    Calls Try.prog 53 #[.slice a n c, .slice b m d] w (Gives w (.bool (decide (l = k)))) := by
  obtain ⟨hn, zl, _, _, hp⟩ := hA
  obtain ⟨hm, zk, _, _, hq⟩ := hB
  by_cases h0 : n = 0 ∨ m = 0
  · have e : decide (l = k) = decide (n = m) := by
      refine decide_eq_decide.2 ⟨fun h => by rw [hn, hm, h], fun h => ?_⟩
      rw [List.eq_nil_of_length_eq_zero (l := l) (by omega), List.eq_nil_of_length_eq_zero (l := k) (by omega)]
    rw [e]
    exact equal_zero a b n m c d w (by omega) (by omega) h0
  · subst hn
    subst hm
    obtain ⟨b1, o1, rfl, _⟩ := hp.some' (fun e => h0 (.inl (by rw [e]; rfl)))
    obtain ⟨b2, o2, rfl, _⟩ := hq.some' (fun e => h0 (.inr (by rw [e]; rfl)))
    have := AnyQ.slices_Equal Try.lEqualSpan 2 Try.isAgg24 Try.sizeOf24 spC (fun _ => rfl) _ neqSpan b1 o1 l.length c b2 o2 k.length d l k w (Nat.le_refl _) (Nat.le_refl _) (by omega) (by omega) (fun j hj i v hi => spC_hc hp j hj i v hi) (fun j hj i v hi => spC_hc hq j hj i v hi)
    rw [List.take_length, List.take_length, allEq_iff] at this
    exact this.mono fun _ _ ⟨he, q, hw⟩ => ⟨he, by rw [hw]; exact below_drewN (Below.refl _ _) q⟩

def withinB (A B : List Sp) : Bool := decide ((meetP A B).2 = 0) && decide ((meetP A B).1 = A)
theorem within_any (A B : List Sp) (aA aB : Option Addr) (nA nB cA cB : Nat) (w : World) (hA : Arg w aA nA cA A) (hB : Arg w aB nB cB B) :
    Calls Try.prog 33 #[.slice aA nA cA, .slice aB nB cB] w (Gives w (.bool (withinB A B))) := by
  have HA := Lib.hid hA
  have HB := Lib.hid hB
  have HW := Lib.hid (show withinB A B = (decide ((meetP A B).2 = 0) && decide ((meetP A B).1 = A)) from rfl)
  clear hA hB
  obtain ⟨r, hr⟩ : ∃ r, meetP A B = r := ⟨_, rfl⟩
  obtain ⟨l, x⟩ := r
  rw [hr] at HW
  replace hr := Lib.hid hr
  generalize withinB A B = b at HW
  by_cases hx : x = 0
  · subst hx
    go_enter Try.func33, Try.ntmps33
    go_wp2_with (first | (go_at_call 29; (with_reducible refine (meet_any A B aA aB nA nB cA cB _ HA.out HB.out).mono ?_); rw [hr.out]; rintro e w1 ⟨a1, n1, c1, rfl, h1, b1⟩; dsimp only at h1; replace h1 := Lib.hid h1) | (go_at_call 53; (with_reducible refine (equal_any a1 aA n1 nA c1 cA l A _ h1.out (HA.out.below b1)).mono ?_); rintro e w2 ⟨rfl, b2⟩))
    go_ret
    exact ⟨ret_bool (by rw [HW.out]; simp), below_next b1 b2⟩
  · have hx' : (x == 0) = false := by simpa using hx
    go_enter Try.func33, Try.ntmps33
    go_wp2_with (first | (go_at_call 29; (with_reducible refine (meet_any A B aA aB nA nB cA cB _ HA.out HB.out).mono ?_); rw [hr.out]; rintro e w1 ⟨a1, n1, c1, rfl, h1, b1⟩; dsimp only at h1; replace h1 := Lib.hid h1))
    go_ret
    exact ⟨ret_bool (by rw [HW.out]; simp [hx]), b1⟩

theorem limP_yes {L : List Sp} (h : L.length ≤ 64) : limP L = (L, 0) := if_pos h
theorem chkB_of {l : List Sp} (h : canB (-1) l = true) (hl : l.length ≤ 64) : chkB l = true := by unfold chkB; rw [h, decide_eq_true hl]; rfl
theorem mixP_yes (f : Bool → Bool → Bool) {A B : List Sp} (hA : chkB A = true) (hB : chkB B = true) : mixP f A B = limP (setOf fun j => f (hasB A j) (hasB B j)) := if_pos ⟨hA, hB⟩
theorem makeP_yes {l : List Sp} (h : l.all oneB = true) : makeP l = limP (setOf (hasB l)) := if_pos h
theorem make_ex : makeP [(5, 7), (1, 3), (3, 4)] = ([(1, 4), (5, 7)], 0) := by
  have h1 : ([(5, 7), (1, 3), (3, 4)] : List Sp).all oneB = true := by decide
  rw [makeP_yes h1]
  have e : ([(1, 4), (5, 7)] : List Sp) = setOf (hasB [(5, 7), (1, 3), (3, 4)]) := by
    refine setOf_eq (by decide) fun k _ _ => ?_
    rw [Bool.eq_iff_iff]
    simp only [hasB_cons, hasB_nil, Bool.or_eq_true, inB_iff]
    simp
    omega
  rw [← e]
  exact limP_yes (by simp)
theorem meet_ex : meetP [(1, 4), (5, 7)] [(3, 6)] = ([(3, 4), (5, 6)], 0) := by
  have h1 : chkB ([(1, 4), (5, 7)] : List Sp) = true := by decide
  have h2 : chkB ([(3, 6)] : List Sp) = true := by decide
  unfold meetP
  rw [mixP_yes _ h1 h2]
  have e : ([(3, 4), (5, 6)] : List Sp) = setOf fun j => hasB [(1, 4), (5, 7)] j && hasB [(3, 6)] j := by
    refine setOf_eq (by decide) fun k _ _ => ?_
    rw [Bool.eq_iff_iff]
    simp only [hasB_cons, hasB_nil, Bool.or_eq_true, Bool.and_eq_true, inB_iff]
    simp
    omega
  rw [← e]
  exact limP_yes (by simp)
/-- Spans that a literal lays in a new block. -/
theorem arg_new (w : World) (t : TypeId) (l : List Sp) (cs : Array Value) (h : cs.toList = flatP l) (hl : l.length ≤ 1000) : Arg (w.alloc (.cells cs t)) (some ⟨w.heap.size, 0, none⟩) l.length l.length l := by
  refine ⟨rfl, by omega, Nat.le_refl _, by unfold maxLen; omega, fun k hk => ⟨w.heap.size, 0, rfl, by simp, ?_, ?_⟩⟩
  · have := (flatP_get l k hk).1
    rw [← h] at this
    rw [Nat.zero_add, ← this]; simp
  · have := (flatP_get l k hk).2
    rw [← h] at this
    rw [Nat.zero_add, ← this]; simp
/-- A list of two spans, its cells. -/
theorem Arg.two {w : World} {a : Option Addr} {n c : Nat} {x y : Sp} (h : Arg w a n c [x, y]) : n = 2 ∧ ∃ b off, a = some ⟨b, off, none⟩ ∧ b < w.heap.size ∧ w.cell? ⟨b, off, none⟩ = some (.int .i64 x.1) ∧ w.cell? ⟨b, off + 1, none⟩ = some (.int .i64 x.2) ∧ w.cell? ⟨b, off + 2, none⟩ = some (.int .i64 y.1) ∧ w.cell? ⟨b, off + 2 + 1, none⟩ = some (.int .i64 y.2) := by
  obtain ⟨hn, _, _, _, hp⟩ := h
  obtain ⟨b, off, e, hb, c0, c1⟩ := hp 0 (by simp)
  obtain ⟨b', off', e', _, d0, d1⟩ := hp 1 (by simp)
  rw [e] at e'
  cases e'
  exact ⟨hn, b, off, e, hb, c0, c1, d0, d1⟩

set_option maxRecDepth 100000 in
set_option maxHeartbeats 1000000 in
theorem awake_any (w : World) : Calls Try.prog 14 #[] w (TruePost w) := by
  have A1 := Lib.hid (arg_new w 24 [(5, 7), (1, 3), (3, 4)] #[.int .i64 5, .int .i64 7, .int .i64 1, .int .i64 3, .int .i64 3, .int .i64 4] rfl (by simp))
  have A2 := Lib.hid (fun w1 => arg_new w1 24 [(3, 6)] #[.int .i64 3, .int .i64 6] rfl (by simp))
  have E1 := fun w => eqSpan 1 4 1 4 w
  have E2 := fun w => eqSpan 5 6 5 6 w
  have b0 : Below w.heap.size w (w.alloc (.cells #[.int .i64 5, .int .i64 7, .int .i64 1, .int .i64 3, .int .i64 3, .int .i64 4] 24)) := (Below.refl _ _).alloc (Nat.le_refl _) _
  go_enter Try.func14, Try.ntmps14
  go_wp2_with (first | (go_at_call 24; refine (make_any _ _ _ _ _ (by simp) A1.out).mono ?_; rw [make_ex]; rintro e w1 ⟨a1, n1, c1, rfl, h1, b1⟩; dsimp only at h1; have b1' := below_next b0 b1; obtain ⟨rfl, g1, o1, rfl, hg1, x0, x1, _, _⟩ := h1.two; have h1' := Lib.hid (h1.below (below_alloc (Below.refl _ w1) (.cells #[.int .i64 3, .int .i64 6] 24))); clear h1) | (go_at_call 29; refine (meet_any _ _ _ _ _ _ _ _ _ h1'.out (A2.out w1)).mono ?_; rw [meet_ex]; rintro e w2 ⟨a2, n2, c2, rfl, h2, b2⟩; dsimp only at h2; have b2' := below_next (below_alloc b1' (.cells #[.int .i64 3, .int .i64 6] 24)) b2; obtain ⟨rfl, g2, o2, rfl, hg2, _, _, y0, y1⟩ := h2.two; have z0 := (b2.cell (p := ⟨g1, o1, none⟩) (by simp; omega)).trans ((World.cell?_alloc_lt w1 _ ⟨g1, o1, none⟩ hg1).trans x0); have z1 := (b2.cell (p := ⟨g1, o1 + 1, none⟩) (by simp; omega)).trans ((World.cell?_alloc_lt w1 _ ⟨g1, o1 + 1, none⟩ hg1).trans x1); clear h2 x0 x1))
  go_ret
  exact ⟨rfl, b2'⟩
end Go.Proofs.Ytelgigahjgjjiaa
