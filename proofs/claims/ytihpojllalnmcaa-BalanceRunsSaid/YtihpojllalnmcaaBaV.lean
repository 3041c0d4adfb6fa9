/-
  WHAT IS SUGGESTED, MADE AGAIN AND AGAIN: beside its walk, plain.
-/
import Derived.Test.YtihpojllalnmcaaBaU
import Derived.Test.YtihpojllalnmcaaChP
namespace Go.Proofs.Ytihpojllalnmcaa
open Go.RowKit Go.Shelf

theorem sug_may {ep nx : Int} {sd : List Sd} {l : List Sp} {p : Po} {nodes : Int} (h : (sugC ep nx sd l p nodes).2.2 = 0) : mayB ep nx sd l nodes = true := by
  unfold sugC at h
  split at h
  · cases h
  · rename_i hc
    cases h1 : mayB ep nx sd l nodes <;> cases h2 : polB p <;> simp_all
theorem sug_can {ep nx : Int} {sd : List Sd} {l : List Sp} {p : Po} {nodes : Int} {g : Gd} {e : Int} (h : sugC ep nx sd l p nodes = (g, true, e)) : (appC ep nx sd g.1 g.2.1 g.2.2).e = 0 := by
  unfold sugC at h
  split at h
  · cases h
  · cases hf : firstG l sd nodes.toNat p with
    | none => rw [hf] at h; cases h
    | some x =>
      rw [hf] at h
      dsimp only at h
      split at h
      · rename_i he
        have e1 : x = g := congrArg (fun q => q.1) h
        rw [← e1]
        exact he
      · cases h
theorem sug_len {ep nx : Int} {sd : List Sd} {l : List Sp} {p : Po} {nodes : Int} (h : (sugC ep nx sd l p nodes).2.2 = 0) : sd.length ≤ 24 := by
  have hm := sug_may h
  unfold mayB at hm
  simp only [Bool.and_eq_true] at hm
  exact (chkC_parts hm.1.1.1).2.2.1.2
theorem pre_none {ds : List Gd} {r : Rr} {e : Int} (h : preR ds r = (none, e)) : r = (none, e) := by
  obtain ⟨o, x⟩ := r
  cases o with
  | none => exact h
  | some q => obtain ⟨D, xs⟩ := q; cases h
theorem pre_some {ds : List Gd} {r : Rr} {D : Ct} {xs : List Gd} {e : Int} (h : preR ds r = (some (D, xs), e)) : ∃ ys, r = (some (D, ys), e) ∧ xs = ds ++ ys := by
  obtain ⟨o, x⟩ := r
  cases o with
  | none => cases h
  | some q => obtain ⟨D', ys⟩ := q; cases h; exact ⟨ys, rfl, rfl⟩
theorem run_none {l : List Sp} {p : Po} {z : Int} : ∀ (k : Nat) (C : Ct) (e : Int), runC l p z k C = (none, e) → e ≠ 0
  | 0, C, e, h => by
    unfold runC at h
    split at h
    · cases h
    · rename_i q
      have : (stepRun l p z C).2.2 = e := congrArg (fun y => y.2) h
      exact this ▸ q
  | k + 1, C, e, h => by
    unfold runC at h
    split at h
    · split at h
      · exact run_none k _ e (pre_none h)
      · cases h
    · rename_i q
      have : (stepRun l p z C).2.2 = e := congrArg (fun y => y.2) h
      exact this ▸ q
theorem run_some {l : List Sp} {p : Po} {z : Int} : ∀ (k : Nat) (C : Ct) (D : Ct) (xs : List Gd) (e : Int), runC l p z k C = (some (D, xs), e) → e = 0
  | 0, C, D, xs, e, h => by
    unfold runC at h
    split at h
    · exact (congrArg (fun y => y.2) h).symm
    · cases h
  | k + 1, C, D, xs, e, h => by
    unfold runC at h
    split at h
    · split at h
      · obtain ⟨ys, h1, _⟩ := pre_some h
        exact run_some k _ _ _ e h1
      · exact (congrArg (fun y => y.2) h).symm
    · cases h
def RunOut (R : Rr) (D : Ct) (xs : List Gd) (er : Int) : Prop := (R = (none, er) ∧ D = (0, 0, []) ∧ xs = []) ∨ R = (some (D, xs), er)
theorem out_err {R : Rr} {D : Ct} {xs ds : List Gd} {er : Int} {l : List Sp} {p : Po} {z : Int} {C : Ct} {k : Nat} (h : RunOut R D xs er) (hr : preR ds (runC l p z k C) = R) (he : (stepRun l p z C).2.2 ≠ 0) : er = (stepRun l p z C).2.2 ∧ xs = [] ∧ D.2.2 = [] := by
  rw [run_err k he] at hr
  subst hr
  rcases h with ⟨h1, h2, h3⟩ | h1
  · exact ⟨(congrArg (fun y => y.2) h1).symm, h3, by rw [h2]⟩
  · cases h1
theorem out_rest {R : Rr} {D : Ct} {xs ds : List Gd} {er : Int} {l : List Sp} {p : Po} {z : Int} {C : Ct} {k : Nat} (h : RunOut R D xs er) (hr : preR ds (runC l p z k C) = R) (he : (stepRun l p z C).2.2 = 0) (h2 : (stepRun l p z C).2.1 = false ∨ k = 0) : er = 0 ∧ D = C ∧ xs = ds := by
  rw [run_rest k he h2] at hr
  subst hr
  rcases h with ⟨h1, _, _⟩ | h1
  · cases h1
  · simp only [preR, List.append_nil] at h1
    cases h1
    exact ⟨rfl, rfl, rfl⟩
theorem out_more {R : Rr} {D : Ct} {xs ds : List Gd} {er : Int} {l : List Sp} {p : Po} {z : Int} {C : Ct} {k : Nat} (h : RunOut R D xs er) (hr : preR ds (runC l p z (k + 1) C) = R) (he : (stepRun l p z C).2.2 = 0) (h2 : (stepRun l p z C).2.1 = true) : (er = 0 → ds.length < xs.length ∧ xs[ds.length]! = (stepRun l p z C).1) ∧ preR (ds ++ [(stepRun l p z C).1]) (runC l p z k (nextC C (stepRun l p z C).1)) = R := by
  rw [run_more he h2, preR_pre] at hr
  refine ⟨fun h0 => ?_, hr⟩
  rcases h with ⟨h1, _, _⟩ | h1
  · rw [← hr] at h1
    exact absurd h0 (run_none _ _ _ (pre_none h1))
  · rw [← hr] at h1
    obtain ⟨ys, _, rfl⟩ := pre_some h1
    refine ⟨by simp, ?_⟩
    rw [getElem!_pos _ _ (by simp)]
    simp
theorem run25_out (ep nx : Int) (a : Option Addr) (n c : Nat) (sd : List Sd) (a2 : Option Addr) (n2 cp2 : Nat) (l : List Sp) (ph pl psl nodes most : Int) (w : World) (h : RArg encS 4 w a n c sd) (hL : Arg w a2 n2 cp2 l) (hm : most ≤ 30) (hs : sd.length ≤ 60) :
    Calls Try.prog 13 #[.agg #[.int .i64 ep, .int .i64 nx, .slice a n c], .slice a2 n2 cp2, .agg #[.int .i64 ph, .int .i64 pl, .int .i64 psl], .int .i64 nodes, .int .i64 most] w fun e w' => ∃ (D : Ct) (xs : List Gd) (er : Int) (aD : Option Addr) (nD cD : Nat) (va : Option Addr) (vc : Nat), e = .returned (.tuple #[.agg #[.int .i64 D.1, .int .i64 D.2.1, .slice aD nD cD], .slice va xs.length vc, .int .i64 er]) ∧ RArg encS 4 w' aD nD cD D.2.2 ∧ RArg encG 3 w' va xs.length vc xs ∧ Below w.heap.size w w' ∧ RunOut (runC l (ph, pl, psl) nodes most.toNat (ep, nx, sd)) D xs er :=
  (run25_any ep nx a n c sd a2 n2 cp2 l ph pl psl nodes most w h hL hm hs).mono fun e w' q => (show _ from by
    generalize runC l (ph, pl, psl) nodes most.toNat (ep, nx, sd) = R at q ⊢
    obtain ⟨o, er⟩ := R
    cases o with
    | none =>
      obtain ⟨h1, h2⟩ := q
      exact ⟨(0, 0, []), [], er, none, 0, 0, none, 0, h1, RArg.nil _ _ _, RArg.nil _ _ _, h2, .inl ⟨rfl, rfl, rfl⟩⟩
    | some x =>
      obtain ⟨D, xs⟩ := x
      obtain ⟨aD, nD, cD, v, h1, h2, h3, h4⟩ := q
      obtain ⟨va, vc, rfl, hA⟩ := h3.arg encG_len
      exact ⟨D, xs, er, aD, nD, cD, va, vc, h1, h2, hA, h4, .inr rfl⟩)
theorem neChg (a b c : Int) (w : World) : (binOp .neq 33 (.agg #[.int .i64 a, .int .i64 b, .int .i64 c]) (.agg #[.int .i64 a, .int .i64 b, .int .i64 c])).run Try.prog w = .ok (.bool false) w := by
  have u3 := Try.underlying3
  have a3 := Try.isAgg3
  have z3 := Try.sizeOf3
  have hS : Try.prog.underlying 33 = some (.struct (Try.prog.fieldsOf 33)) := by kernel_rfl
  have hp : Try.prog.stoodInHeld 33 = false := by kernel_rfl
  rw [run_neq_struct, show (10000 : Nat) = 9999 + 1 from rfl, run_equalIn_agg w 9999 33 _ _ hS hp]
  simp only [Program.fieldsOf, Try.underlying33]
  go_simp
  try simp
end Go.Proofs.Ytihpojllalnmcaa
