/-
  SPANS IN MEMORY: a slice of spans that is read; one of the call's own; CONTRACTS of One, Check, and the document's.
-/
import Derived.Test.YtfnjadiibiedgaaKeys
import Derived.Test.YtfnjadiibiedgaaProg
import Derived.WalkKit
import Derived.ProofKit
import Derived.OpenShut
import Derived.Below
import Derived.Lib.Hide
import Derived.Laws.OwnMore
import Derived.Deep.QuietTactic
import Derived.BigQuiet
import Derived.Deep.Draws
namespace Go.Proofs.Ytfnjadiibiedgaa
open Go.RowKit

theorem below_next {w w1 w2 : World} (h : Below w.heap.size w w1) (h2 : Below w1.heap.size w1 w2) : Below w.heap.size w w2 := h.trans (h2.mono h.size)
theorem below_alloc {w wr : World} (h : Below w.heap.size w wr) (o : Obj) : Below w.heap.size w (wr.alloc o) := h.alloc h.size o
theorem below_drewN {B : Nat} {a w : World} (h : Below B a w) (n : Nat) : Below B a (w.drewN n) := ⟨h.os, h.tape, h.output, h.size, h.block⟩
/-- A struct of two cells in a box of its own, behind a call. -/
theorem box2 {wr w' : World} {t : TypeId} {x y : Value} (hb : Below (wr.alloc (.cells #[x, y] t)).heap.size (wr.alloc (.cells #[x, y] t)) w') :
    w'.cell? ⟨wr.heap.size, 0, none⟩ = some x ∧ w'.cell? ⟨wr.heap.size, 1, none⟩ = some y := by
  have h0 := hb.cell (p := ⟨wr.heap.size, 0, none⟩) (by simp)
  have h1 := hb.cell (p := ⟨wr.heap.size, 1, none⟩) (by simp)
  rw [h0, h1]
  exact ⟨by simp, by simp⟩
def TruePost (w : World) (e : Ending) (w' : World) : Prop := e = .returned (.bool true) ∧ Below w.heap.size w w'

/-- A slice at a, its elements the spans l, in blocks below B. -/
def PIn (w : World) (B : Nat) (a : Option Addr) (l : List Sp) : Prop :=
  ∀ k, k < l.length → ∃ b off, a = some ⟨b, off, none⟩ ∧ b < B ∧ w.cell? ⟨b, off + k * 2, none⟩ = some (.int .i64 (l.getD k (0, 0)).1) ∧ w.cell? ⟨b, off + k * 2 + 1, none⟩ = some (.int .i64 (l.getD k (0, 0)).2)
theorem PIn.nil (w : World) (B : Nat) (a : Option Addr) : PIn w B a [] := fun _ hk => absurd hk (Nat.not_lt_zero _)
theorem PIn.keep {w w' : World} {B : Nat} {a : Option Addr} {l : List Sp} (h : PIn w B a l) (hk : ∀ p : Addr, p.block < B → w'.cell? p = w.cell? p) : PIn w' B a l := fun k hl => by
  obtain ⟨b, off, e, hb, h1, h2⟩ := h k hl
  exact ⟨b, off, e, hb, (hk _ hb).trans h1, (hk _ hb).trans h2⟩
theorem PIn.below {w w' : World} {B : Nat} {a : Option Addr} {l : List Sp} (h : PIn w B a l) (hb : Below B w w') : PIn w' B a l := h.keep fun _ hp => hb.cell hp
theorem PIn.more {w : World} {B B' : Nat} {a : Option Addr} {l : List Sp} (h : PIn w B a l) (hB : B ≤ B') : PIn w B' a l := fun k hl => by
  obtain ⟨b, off, e, hb, h1, h2⟩ := h k hl
  exact ⟨b, off, e, by omega, h1, h2⟩
theorem PIn.belowMore {w w' : World} {a : Option Addr} {l : List Sp} (h : PIn w w.heap.size a l) (hb : Below w.heap.size w w') : PIn w' w'.heap.size a l := (h.below hb).more hb.size

theorem addr_add (g o i : Nat) : (⟨g, o, none⟩ : Addr).add i = ⟨g, o + i, none⟩ := by
  unfold Addr.add; split
  · rename_i h; subst h; rfl
  · rfl
def spC (s : Sp) : List Value := [.int .i64 s.1, .int .i64 s.2]
def flatP (l : List Sp) : List Value := l.flatMap spC
theorem flatP_append (l m : List Sp) : flatP (l ++ m) = flatP l ++ flatP m := List.flatMap_append
theorem flatP_length (l : List Sp) : (flatP l).length = l.length * 2 := by
  induction l with
  | nil => rfl
  | cons s t ih => rw [show flatP (s :: t) = spC s ++ flatP t from rfl, List.length_append, ih]; simp [spC]; omega
theorem flatP_get (l : List Sp) (k : Nat) (hk : k < l.length) : (flatP l)[k * 2]? = some (.int .i64 (l.getD k (0, 0)).1) ∧ (flatP l)[k * 2 + 1]? = some (.int .i64 (l.getD k (0, 0)).2) := by
  induction l generalizing k with
  | nil => exact absurd hk (Nat.not_lt_zero _)
  | cons s t ih =>
    rw [show flatP (s :: t) = (.int .i64 s.1) :: (.int .i64 s.2) :: flatP t from rfl]
    cases k with
    | zero => exact ⟨rfl, rfl⟩
    | succ k =>
      have := ih k (by simpa using hk)
      rw [show (k + 1) * 2 = k * 2 + 1 + 1 from by omega, show k * 2 + 1 + 1 + 1 = (k * 2 + 1) + 1 + 1 from rfl]
      simpa using this
/-- The spans l lie in a row of the call's own, of elements of type t. -/
def OwnsP (t : TypeId) (w : World) (base : Nat) (v : Value) (l : List Sp) : Prop := w.ownsRow base t 2 v l.length (flatP l)
theorem OwnsP.nil (t : TypeId) (w : World) (base : Nat) : OwnsP t w base (.slice none 0 0) [] := ⟨rfl, .inl ⟨rfl, rfl⟩⟩
theorem OwnsP.arg {t : TypeId} {w : World} {base : Nat} {v : Value} {l : List Sp} (h : OwnsP t w base v l) :
    ∃ a cap, v = .slice a l.length cap ∧ l.length ≤ cap ∧ cap ≤ maxLen ∧ PIn w w.heap.size a l ∧ (l ≠ [] → ∃ g, a = some ⟨g, 0, none⟩ ∧ base ≤ g ∧ g < w.heap.size) := by
  have h2 := h.2
  rcases h2 with ⟨rfl, hn⟩ | ⟨g, cap, cur, rfl, hb, hg, hc, hm, hs, ht⟩
  · have : l = [] := List.eq_nil_of_length_eq_zero hn
    subst this
    exact ⟨none, 0, rfl, Nat.le_refl _, Nat.zero_le _, PIn.nil _ _ _, fun h => absurd rfl h⟩
  · have hlt : g < w.heap.size := (Array.getElem?_eq_some_iff.1 hg).1
    refine ⟨some ⟨g, 0, none⟩, cap, rfl, hc, hm, fun k hk => ?_, fun _ => ⟨g, rfl, hb, hlt⟩⟩
    obtain ⟨c1, c2⟩ := flatP_get l k hk
    have d1 := World.ownsRow.cells (g := g) h rfl (k * 2) _ c1
    have d2 := World.ownsRow.cells (g := g) h rfl (k * 2 + 1) _ c2
    rw [addr_add] at d1 d2
    exact ⟨g, 0, rfl, hlt, d1, d2⟩
theorem OwnsP.below {t : TypeId} {w w' : World} {base : Nat} {v : Value} {l : List Sp} (h : OwnsP t w base v l) (hb : Below w.heap.size w w') : OwnsP t w' base v l :=
  World.ownsRow.kept h (row := none) ⟨hb.os, hb.tape, hb.output, hb.size, fun k hk _ => hb.block k hk⟩ (by cases hv : v.ownBlock <;> simp)
theorem OwnsP.base_le {t : TypeId} {w : World} {base base' : Nat} {v : Value} {l : List Sp} (h : OwnsP t w base v l) (hb : base' ≤ base) : OwnsP t w base' v l := by
  refine ⟨h.1, ?_⟩
  rcases h.2 with h' | ⟨g, cap, cur, h1, h2, h3⟩
  · exact .inl h'
  · exact .inr ⟨g, cap, cur, h1, by omega, h3⟩

/-- A function that makes memory and answers v. -/
def Gives (w : World) (v : Value) (e : Ending) (w' : World) : Prop := e = .returned v ∧ Below w.heap.size w w'
theorem ret_bool {a b : Bool} (h : a = b) : Ending.returned (.bool a) = .returned (.bool b) := by rw [h]

theorem ret_int {k : IntKind} {a b : Int} (h : a = b) : Ending.returned (.int k a) = .returned (.int k b) := by rw [h]
set_option maxHeartbeats 400000 in
theorem one_any (s : Sp) (w : World) : Calls Try.prog 58 #[.agg #[.int .i64 s.1, .int .i64 s.2]] w (Gives w (.bool (oneB s))) := by
  obtain ⟨x, y⟩ := s
  have H := Lib.hid (show oneB (x, y) = decide (0 ≤ x ∧ x < y ∧ y ≤ 4096) from rfl)
  generalize oneB (x, y) = r at H
  go_enter Try.func58, Try.ntmps58
  go_wp2
  all_goals
    go_ret
    exact ⟨ret_bool (by rw [H.out]; first | (simp [*]; done) | (simp [*]; omega)), (Below.refl _ _).alloc (Nat.le_refl _) _⟩

set_option maxHeartbeats 400000 in
theorem rone_any (s : Sp) (w : World) : Calls Try.prog 55 #[.agg #[.int .i64 s.1, .int .i64 s.2]] w (Gives w (.bool (oneB s))) := by
  obtain ⟨x, y⟩ := s
  have H := Lib.hid (show oneB (x, y) = decide (0 ≤ x ∧ x < y ∧ y ≤ 4096) from rfl)
  generalize oneB (x, y) = r at H
  go_enter Try.func55, Try.ntmps55
  go_wp2
  all_goals
    go_ret
    exact ⟨ret_bool (by rw [H.out]; first | (simp [*]; done) | (simp [*]; omega)), (Below.refl _ _).alloc (Nat.le_refl _) _⟩

theorem getD_of {l : List Sp} {k : Nat} (hk : k < l.length) : l[k]? = some (l.getD k (0, 0)) := by simp [List.getD, List.getElem?_eq_getElem hk]
theorem take_more {l : List Sp} {k : Nat} (h : k < l.length) : l.take (k + 1) = l.take k ++ [l.getD k (0, 0)] := by
  rw [List.take_succ_eq_append_getElem h]; simp [List.getD, List.getElem?_eq_getElem h]
theorem canB_prefix {e : Int} {l m : List Sp} (h : canB e (l ++ m) = true) : canB e l = true := by
  induction l generalizing e with
  | nil => rfl
  | cons s t ih => rw [List.cons_append, canB_cons] at h; rw [canB_cons]; exact ⟨h.1, h.2.1, ih h.2.2⟩

set_option maxRecDepth 100000 in
set_option maxHeartbeats 1000000 in
theorem check_any (a : Option Addr) (cap : Nat) (l : List Sp) (w : World) (hz : (l.length : Int) ≤ 9223372036854775807) (h : PIn w w.heap.size a l) :
    Calls Try.prog 19 #[.slice a l.length cap] w (Gives w (.bool (chkB l))) := by
  by_cases hlong : (64 : Int) < l.length
  · have H := Lib.hid (show chkB l = false by unfold chkB; rw [decide_eq_false (by omega), Bool.and_false])
    go_enter Try.func19, Try.ntmps19
    go_wp2
    go_ret
    exact ⟨ret_bool H.out.symm, Below.refl _ _⟩
  · have hlen : l.length ≤ 64 := by omega
    have H := Lib.hid (show chkB l = canB (-1) l by unfold chkB; rw [decide_eq_true hlen, Bool.and_true])
    have HP := Lib.hid h
    clear h
    go_enter Try.func19, Try.ntmps19
    go_wp2_with fail
    go_loopw [3, 5, 11] (fun en _ i wr => ∃ (k : Nat) (z : Int), i = .int .i64 (k : Int) ∧ en = .int .i64 z ∧ k ≤ l.length ∧ Hid (canB (-1) (l.take k) = true ∧ endOf (-1) (l.take k) = z) ∧ -1 ≤ z ∧ z ≤ 4096 ∧ Below w.heap.size w wr)
      (fun _ _ i _ => l.length - (intOf i).toNat)
    case atStart => exact ⟨0, -1, rfl, rfl, by omega, Lib.hid ⟨rfl, rfl⟩, by omega, by omega, Below.refl _ _⟩
    case round =>
      obtain ⟨k, z, rfl, rfl, hk, HC, hz0, hz1, hbl⟩ := hrel
      by_cases hlt : k < l.length
      · obtain ⟨b, off, rfl, hb, c0, c1⟩ := (HP.out.below hbl) k hlt
        obtain ⟨s, hs⟩ : ∃ s, l.getD k (0, 0) = s := ⟨_, rfl⟩
        rw [hs] at c0 c1
        replace hs := Lib.hid hs
        obtain ⟨x, y⟩ := s
        dsimp only at c0 c1
        have hone := (oneB_iff (x, y))
        cases ho : oneB (x, y)
        · replace ho := Lib.hid ho
          clear hone
          go_wp2_with (go_at_call 58; refine (one_any (x, y) _).mono ?_; rw [ho.out]; rintro e w' ⟨rfl, hbw⟩)
          go_ret
          refine ⟨ret_bool ?_, below_next (below_alloc hbl _) hbw⟩
          rw [H.out]
          cases hq : canB (-1) l
          · rfl
          · have := canB_all hq _ (List.mem_iff_getElem?.2 ⟨k, getD_of hlt⟩)
            rw [hs.out, ho.out] at this; cases this
        · have ho' := hone.1 ho
          dsimp only at ho'
          obtain ⟨o1, o2, o3⟩ := ho'
          replace ho := Lib.hid ho
          clear hone
          go_wp2_with (go_at_call 58; refine (one_any (x, y) _).mono ?_; rw [ho.out]; rintro e w' ⟨rfl, hbw⟩; obtain ⟨d0, d1⟩ := box2 hbw)
          · go_ret
            refine ⟨ret_bool ?_, below_next (below_alloc hbl _) hbw⟩
            rw [H.out]
            cases hq : canB (-1) l
            · rfl
            · exfalso
              have h1 : canB (-1) (l.take (k + 1) ++ l.drop (k + 1)) = true := by rw [List.take_append_drop]; exact hq
              have h2 := canB_prefix h1
              rw [take_more hlt, canB_snoc, HC.out.2, hs.out] at h2
              have := h2.2.2
              dsimp only at this
              omega
          · go_roundw
            case rel =>
              refine ⟨k + 1, y, by go_num, rfl, by omega, Lib.hid ?_, by omega, by omega, below_next (below_alloc hbl _) hbw⟩
              rw [take_more hlt, canB_snoc, endOf_snoc, hs.out, HC.out.2]
              exact ⟨⟨HC.out.1, ⟨o1, o2, o3⟩, by dsimp only; omega⟩, rfl⟩
            case measure => simp [intOf]; omega
      · have hkl : l.take k = l := List.take_of_length_le (by omega)
        replace hkl := Lib.hid hkl
        go_wp2
        go_ret
        exact ⟨ret_bool (by rw [H.out, ← HC.out.1, hkl.out]), hbl⟩
end Go.Proofs.Ytfnjadiibiedgaa
