/-
  CONTRACTS of the functions that write numbers (packages vint and spliceref01).
-/
import Derived.Test.YtfnjadiibiedgaaRows
import Derived.Test.YtfnjadiibiedgaaPlain
import Derived.WalkKit
import Derived.WalkSpells
import Derived.WalkLawsBesides
import Derived.Lib.Hide
import Derived.Laws.IdiomStrings
import Derived.Lib.BufferRead
namespace Go.Proofs.Ytfnjadiibiedgaa
open Go.RowKit

theorem Try.infoByte : (Try.prog.info? 5).map (fun i => (i.zero, i.size, i.bytes)) = some (some (.int .u8 0), 1, 1) := by kernel_rfl

/-- The cells of bytes. -/
def cellsB (l : List UInt8) : List Value := l.map fun c => Value.int .u8 (c.toNat : Int)
/-- The value v is a row of bytes of the call's own. -/
def OwnsB (w : World) (base : Nat) (v : Value) (l : List UInt8) : Prop := w.ownsRow base 5 1 v l.length (cellsB l)

theorem OwnsB.push {w : World} {base : Nat} {v : Value} {l : List UInt8} {x : Int} {c : UInt8} (h : w.ownsRow base 5 1 v (l.length + 1) (cellsB l ++ [.int .u8 x])) (hx : x = c.toNat) : OwnsB w base v (l ++ [c]) := by
  unfold OwnsB cellsB at *
  rw [List.length_append, List.map_append]
  subst hx
  exact h

def AppendPost (base : Nat) (w : World) (l : List UInt8) (e : Ending) (w' : World) : Prop :=
  ∃ v', e = .returned v' ∧ OwnsB w' base v' l ∧ Below base w w'

set_option maxRecDepth 100000 in
set_option maxHeartbeats 400000 in
theorem appendNum_any (base : Nat) (v : Value) (xs : List UInt8) (n : Int) (w : World) (h0 : 0 ≤ n) (h1 : n ≤ 9223372036854775807)
    (hown : OwnsB w base v xs) (hlen : xs.length ≤ 140737488355000) (hbase : base ≤ w.heap.size) :
    Calls Try.prog 106 #[v, .int .i64 n] w (AppendPost base w (xs ++ numL n.toNat)) := by
  obtain ⟨i0, hi, hz0, hz1, hz2⟩ := info_parts Try.infoByte
  go_enter Try.func106, Try.ntmps106
  go_wp2
  go_loopw [0, 1] (fun b t wr => ∃ (ys : List UInt8) (k : Nat), t = .int .i64 (k : Int) ∧ (k : Int) ≤ 9223372036854775807 ∧ ys.length + (numL k).length ≤ xs.length + 9 ∧ OwnsB wr base b ys ∧ ys ++ numL k = xs ++ numL n.toNat ∧ Below base w wr)
    (fun _ t _ => (intOf t).toNat)
  case atStart => exact ⟨xs, n.toNat, by rw [Int.toNat_of_nonneg h0], by omega, by have := numL_len9 (n := n.toNat) (by omega); omega, hown, rfl, Below.refl _ _⟩
  case round =>
    obtain ⟨ys, k, rfl, hk, hys, hownr, heq, hb⟩ := hrel
    have hsz := hb.size
    have HE := Lib.hid heq
    clear heq
    by_cases hlt : 128 ≤ k
    · go_wp2_with ((at_builtin; refine wpList_append_own _ rfl _ _ 102 rfl base 5 i0 (.int .u8 0) 1 1 Try.underlying102 hi hz0 hz1 hz2 rfl (by decide) _ _ _ rfl (hownr.alloc _) ⟨wr.heap.size, 0, none⟩ 1 1 [.int .u8 ((k : Int) % 128 + 128)] rfl rfl ?c1 ?c2 ?c3 ?c4 ?c5 ?_))
      case c1 => exact cell_one_new _ _ _
      case c2 => intro u hu; simp at hu; subst hu; rfl
      case c3 => unfold maxLen; omega
      case c4 => omega
      case c5 => simp; omega
      intro v' w1 hown1 hgrow1 _
      have ho := OwnsB.push (c := UInt8.ofNat (k % 128 + 128)) hown1 (by simp; omega)
      have hb1 : Below base w w1 := (hb.alloc (Nat.le_trans hbase hsz) _).grown hgrow1 (by simp; omega) (fun g hg => (hownr.lt g hg).1)
      clear hown1 hgrow1 hownr
      go_wp2
      go_roundw
      case rel => exact ⟨ys ++ [UInt8.ofNat (k % 128 + 128)], k / 128, by go_num, by omega, by rw [numL_hi hlt, List.length_cons] at hys; rw [List.length_append]; simp; omega, ho, by rw [← HE.out, numL_hi hlt]; simp, hb1⟩
      case measure => simp [intOf]; omega
    · have hk8 : k < 128 := by omega
      go_wp2_with ((at_builtin; refine wpList_append_own _ rfl _ _ 102 rfl base 5 i0 (.int .u8 0) 1 1 Try.underlying102 hi hz0 hz1 hz2 rfl (by decide) _ _ _ rfl (hownr.alloc _) ⟨wr.heap.size, 0, none⟩ 1 1 [.int .u8 (k : Int)] rfl rfl ?d1 ?d2 ?d3 ?d4 ?d5 ?_))
      case d1 => exact cell_one_new _ _ _
      case d2 => intro u hu; simp at hu; subst hu; rfl
      case d3 => unfold maxLen; omega
      case d4 => omega
      case d5 => simp; omega
      intro v' w1 hown1 hgrow1 _
      have ho := OwnsB.push (c := UInt8.ofNat k) hown1 (by simp; omega)
      have hb1 : Below base w w1 := (hb.alloc (Nat.le_trans hbase hsz) _).grown hgrow1 (by simp; omega) (fun g hg => (hownr.lt g hg).1)
      rw [show ys ++ [UInt8.ofNat k] = xs ++ numL n.toNat by rw [← HE.out, numL_lo hk8]] at ho
      clear hown1 hgrow1 hownr
      go_wp2
      go_ret
      exact ⟨_, rfl, ho, hb1⟩

/-- 'string(b)' of a row of bytes of the call's own. -/
theorem OwnsB.str {w : World} {base : Nat} {v : Value} {l : List UInt8} (h : OwnsB w base v l) :
    (convert 102 9 v).run Try.prog w = .ok (.string ⟨l.toArray⟩) w := by
  rcases h.2 with ⟨rfl, hn⟩ | ⟨g, cap, cur, rfl, _⟩
  · have : l = [] := List.eq_nil_of_length_eq_zero hn
    subst this
    exact Lib.run_convert_nil_bytes w _ _ _ 0 Try.underlying102 Try.underlying5 Try.underlying9
  · refine run_convert_bytes_back w _ _ _ _ cap l Try.underlying102 Try.underlying5 Try.underlying9 ?_
    intro j hj
    exact World.ownsRow.cells (g := g) h rfl j _ (by simp [cellsB, List.getElem?_eq_getElem hj])

theorem OwnsB.nil (w : World) (base : Nat) : OwnsB w base (.slice none 0 0) [] := World.ownsRow_nil w base _ 1

def StrPost (s : ByteArray) (w : World) (e : Ending) (w' : World) : Prop := e = .returned (.string s) ∧ Below w.heap.size w w'

theorem numS_neg {n : Int} (h : n < 0) : numS n = ByteArray.empty := by unfold numS; rw [if_pos h]
theorem numS_nat {n : Int} (h : 0 ≤ n) : numS n = ⟨(numL n.toNat).toArray⟩ := by unfold numS; rw [if_neg (by omega)]

set_option maxRecDepth 100000 in
set_option maxHeartbeats 400000 in
theorem num_any (n : Int) (w : World) (h1 : n ≤ 9223372036854775807) :
    Calls Try.prog 63 #[.int .i64 n] w (StrPost (numS n) w) := by
  by_cases h0 : n < 0
  · go_enter Try.func63, Try.ntmps63
    go_wp2
    go_ret
    exact ⟨by rw [numS_neg h0]; rfl, Below.refl _ _⟩
  · have h0' : 0 ≤ n := by omega
    have HS := Lib.hid (numS_nat h0')
    go_enter Try.func63, Try.ntmps63
    go_wp2_with (go_at_call 106; refine (appendNum_any w.heap.size _ [] n _ h0' h1 (OwnsB.nil _ _) (by simp) (Nat.le_refl _)).mono ?_)
    intro e w' ⟨v', he, ho, hb⟩
    subst he
    have hc := ho.str
    clear ho
    go_wp2
    go_ret
    exact ⟨by rw [HS.out]; simp, hb⟩
end Go.Proofs.Ytfnjadiibiedgaa
