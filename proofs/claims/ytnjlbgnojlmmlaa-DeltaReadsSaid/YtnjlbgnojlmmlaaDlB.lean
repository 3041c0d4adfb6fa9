/-
  DELTA: a turn more, if there is one; the plain meeting of two lists whose keys rise.
-/
import Derived.Test.YtnjlbgnojlmmlaaDlA
namespace Go.Proofs.Ytnjlbgnojlmmlaa
open Go.RowKit Go.Deep

theorem grownBy_trans {a b c : World} {r : Option Nat} (h : a.grownBy b none) (k : b.grownBy c r) : a.grownBy c r :=
  ⟨k.os.trans h.os, k.tape.trans h.tape, k.output.trans h.output, Nat.le_trans h.size k.size, fun i hi hr => (k.block i (Nat.lt_of_lt_of_le hi h.size) hr).trans (h.block i hi (by simp))⟩
theorem grownBy_weak {a b : World} {r : Option Nat} (h : a.grownBy b none) : a.grownBy b r := ⟨h.os, h.tape, h.output, h.size, fun i hi _ => h.block i hi (by simp)⟩
theorem grownBy_refl (a : World) : a.grownBy a none := ⟨rfl, rfl, rfl, Nat.le_refl _, fun _ _ _ => rfl⟩
theorem Try.infoTurn : (Try.prog.info? 46).map (fun i => (i.zero, i.size, i.bytes)) = some (some (.agg #[.int .i64 0, .int .i64 0, .bool false, .int .i64 0, .bool false]), 5, 40) := by kernel_rfl
abbrev OwnT (w : World) (base : Nat) (v : Value) (l : List Tn) : Prop := OwnsR encT 5 46 w base v l
theorem cells_one_new5 (w : World) (x0 x1 x2 x3 x4 : Value) (t : TypeId) (s : Nat) (hs : s = w.heap.size) : ∀ j u, [x0, x1, x2, x3, x4][j]? = some u → (w.alloc (.cells #[x0, x1, x2, x3, x4] t)).cell? ((⟨s, 0, none⟩ : Addr).add j) = some u := by
  subst hs
  intro j u hj
  have h := heap_alloc_new w (.cells #[x0, x1, x2, x3, x4] t)
  rw [addr_add, Nat.zero_add]
  match j, hj with
  | 0, hj => cases hj; exact cell_of_row _ _ 0 _ _ _ h
  | 1, hj => cases hj; exact cell_of_row _ _ 1 _ _ _ h
  | 2, hj => cases hj; exact cell_of_row _ _ 2 _ _ _ h
  | 3, hj => cases hj; exact cell_of_row _ _ 3 _ _ _ h
  | 4, hj => cases hj; exact cell_of_row _ _ 4 _ _ _ h
  | j + 5, hj => simp at hj
def turnS (l : List Tn) (k : Int) (was is : Cl) : List Tn := if was = is then l else l ++ [(k, was, is)]
def TnPost (base : Nat) (v : Value) (l : List Tn) (w : World) (e : Ending) (w' : World) : Prop := ∃ v', e = .returned v' ∧ OwnT w' base v' l ∧ w.grownBy w' v.ownBlock
set_option maxRecDepth 100000 in
set_option maxHeartbeats 1000000 in
theorem turned_any {base : Nat} {v : Value} {l : List Tn} {w : World} (k : Int) (was is : Cl) (hO : OwnT w base v l) (hb : base ≤ w.heap.size) (hl : l.length ≤ 10000) :
    Calls Try.prog 33 #[v, .int .i64 k, .agg #[.int .i64 was.1, .bool was.2], .agg #[.int .i64 is.1, .bool is.2]] w (TnPost base v (turnS l k was is) w) := by
  obtain ⟨a, s⟩ := was
  obtain ⟨b, t⟩ := is
  obtain ⟨i0, hi, hz0, hz1, hz2⟩ := info_parts Try.infoTurn
  unfold turnS
  have g0 : w.grownBy ((w.alloc (.cells #[.int .i64 a, .bool s] 44)).alloc (.cells #[.int .i64 b, .bool t] 44)) none := grownBy_trans (World.grownBy_alloc w _ none) (World.grownBy_alloc _ _ none)
  by_cases h : a = b ∧ s = t
  · obtain ⟨rfl, rfl⟩ := h
    rw [if_pos rfl]
    go_enter Try.func33, Try.ntmps33
    go_wp2_with fail
    go_ret
    exact ⟨_, rfl, World.ownsRow.kept hO g0 (Classical.em _), grownBy_weak g0⟩
  · rw [if_neg (fun e => h (by simpa using e))]
    have hO2 : OwnT ((w.alloc (.cells #[.int .i64 a, .bool s] 44)).alloc (.cells #[.int .i64 b, .bool t] 44)) base v l := World.ownsRow.kept hO g0 (Classical.em _)
    have hcase : (a ≠ b ∧ (a == b) = false) ∨ (a = b ∧ s = true ∧ t = false) ∨ (a = b ∧ s = false ∧ t = true) := by
      by_cases e : a = b
      · refine .inr ?_
        cases s <;> cases t <;> simp_all
      · exact .inl ⟨e, by simpa using e⟩
    clear h
    rcases hcase with ⟨h1, h2⟩ | ⟨e, rfl, rfl⟩ | ⟨e, rfl, rfl⟩
    · go_enter Try.func33, Try.ntmps33
      go_wp2_with (at_builtin; refine wpList_append_own _ rfl _ _ 22 rfl base 46 i0 (.agg #[.int .i64 0, .int .i64 0, .bool false, .int .i64 0, .bool false]) 5 40 Try.underlying22 hi hz0 hz1 hz2 rfl (by decide) _ _ _ rfl (World.ownsRow.alloc hO2 _) ⟨w.heap.size + 1 + 1, 0, none⟩ 1 1 [.int .i64 k, .int .i64 a, .bool s, .int .i64 b, .bool t] rfl rfl ?c1 ?c2 ?c3 ?c4 ?c5 ?_)
      case c1 => exact cells_one_new5 _ _ _ _ _ _ _ _ (by simp)
      case c2 => intro x hx; simp at hx; rcases hx with rfl | rfl | rfl | rfl | rfl <;> rfl
      case c3 => unfold maxLen; omega
      case c4 => omega
      case c5 => simp; omega
      intro v' w9 hown hgrow _
      go_wp2
      go_ret
      exact ⟨v', rfl, OwnsR.snoc rfl hown, grownBy_trans (grownBy_trans g0 (World.grownBy_alloc _ _ none)) hgrow⟩
    · subst e
      go_enter Try.func33, Try.ntmps33
      go_wp2_with (at_builtin; refine wpList_append_own _ rfl _ _ 22 rfl base 46 i0 (.agg #[.int .i64 0, .int .i64 0, .bool false, .int .i64 0, .bool false]) 5 40 Try.underlying22 hi hz0 hz1 hz2 rfl (by decide) _ _ _ rfl (World.ownsRow.alloc hO2 _) ⟨w.heap.size + 1 + 1, 0, none⟩ 1 1 [.int .i64 k, .int .i64 a, .bool true, .int .i64 a, .bool false] rfl rfl ?c1 ?c2 ?c3 ?c4 ?c5 ?_)
      case c1 => exact cells_one_new5 _ _ _ _ _ _ _ _ (by simp)
      case c2 => intro x hx; simp at hx; rcases hx with rfl | rfl | rfl | rfl | rfl <;> rfl
      case c3 => unfold maxLen; omega
      case c4 => omega
      case c5 => simp; omega
      intro v' w9 hown hgrow _
      go_wp2
      go_ret
      exact ⟨v', rfl, OwnsR.snoc rfl hown, grownBy_trans (grownBy_trans g0 (World.grownBy_alloc _ _ none)) hgrow⟩
    · subst e
      go_enter Try.func33, Try.ntmps33
      go_wp2_with (at_builtin; refine wpList_append_own _ rfl _ _ 22 rfl base 46 i0 (.agg #[.int .i64 0, .int .i64 0, .bool false, .int .i64 0, .bool false]) 5 40 Try.underlying22 hi hz0 hz1 hz2 rfl (by decide) _ _ _ rfl (World.ownsRow.alloc hO2 _) ⟨w.heap.size + 1 + 1, 0, none⟩ 1 1 [.int .i64 k, .int .i64 a, .bool false, .int .i64 a, .bool true] rfl rfl ?c1 ?c2 ?c3 ?c4 ?c5 ?_)
      case c1 => exact cells_one_new5 _ _ _ _ _ _ _ _ (by simp)
      case c2 => intro x hx; simp at hx; rcases hx with rfl | rfl | rfl | rfl | rfl <;> rfl
      case c3 => unfold maxLen; omega
      case c4 => omega
      case c5 => simp; omega
      intro v' w9 hown hgrow _
      go_wp2
      go_ret
      exact ⟨v', rfl, OwnsR.snoc rfl hown, grownBy_trans (grownBy_trans g0 (World.grownBy_alloc _ _ none)) hgrow⟩
/-- A key of two lists, what each has of it, and whether it has it. -/
structure Mt (α β : Type) where
  key : Int
  a : α
  b : β
  inA : Bool
  inB : Bool
variable {α β : Type}
def headM (ka : α → Int) (kb : β → Int) : List α → List β → Int
  | [], [] => 4096
  | x :: _, [] => ka x
  | [], y :: _ => min 4096 (kb y)
  | x :: _, y :: _ => min (ka x) (kb y)
/-- The meetings, one behind the other. -/
def meets (ka : α → Int) (kb : β → Int) (za : α) (zb : β) : List α → List β → List (Mt α β)
  | [], [] => []
  | x :: a, [] => ⟨ka x, x, zb, true, false⟩ :: meets ka kb za zb a []
  | [], y :: b => ⟨kb y, za, y, false, true⟩ :: meets ka kb za zb [] b
  | x :: a, y :: b => if ka x < kb y then ⟨ka x, x, zb, true, false⟩ :: meets ka kb za zb a (y :: b) else if kb y < ka x then ⟨kb y, za, y, false, true⟩ :: meets ka kb za zb (x :: a) b else ⟨ka x, x, y, true, true⟩ :: meets ka kb za zb a b
  termination_by a b => a.length + b.length
theorem meets_len (ka : α → Int) (kb : β → Int) (za : α) (zb : β) (a : List α) (b : List β) : (meets ka kb za zb a b).length ≤ a.length + b.length := by
  fun_induction meets ka kb za zb a b <;> simp only [List.length_cons, List.length_nil] at * <;> omega
end Go.Proofs.Ytnjlbgnojlmmlaa
