/-
  CONTRACTS of merkle's small functions: appendNumber, Number, sum, size, isKey, isCell.
-/
import Derived.Test.YtjjadappjapjhaaMkP
import Derived.Laws.Rows
namespace Go.Proofs.Ytjjadappjapjhaa
open Go.RowKit

theorem cells_newM (w : World) (A : Array Value) (t : TypeId) : ∀ j u, A.toList[j]? = some u → (w.alloc (.cells A t)).cell? ((⟨w.heap.size, 0, none⟩ : Addr).add j) = some u := by
  intro j u h
  rw [addr_add, Nat.zero_add, World.cell?_alloc_mark w _ _ (0, 0) j]
  simpa using h
theorem OwnsB.push4 {w : World} {base : Nat} {v : Value} {l : List UInt8} {x : Int} (h0 : 0 ≤ x) (h1 : x ≤ 4294967295) (h : w.ownsRow base 5 1 v (l.length + 4) (cellsB l ++ [.int .u8 (x / 16777216), .int .u8 (x / 65536 % 256), .int .u8 (x / 256 % 256), .int .u8 (x % 256)])) : OwnsB w base v (l ++ be4 x) := by
  unfold OwnsB cellsB at *
  rw [List.length_append, List.map_append]
  unfold be4
  simp only [List.map_cons, List.map_nil, byI_int, List.length_cons, List.length_nil]
  rw [show x / 16777216 % 256 = x / 16777216 by omega]
  exact h
set_option maxRecDepth 100000 in
theorem mapp_any (base : Nat) (v : Value) (xs : List UInt8) (x : Int) (w : World) (h0 : 0 ≤ x) (h1 : x ≤ 4294967295)
    (hown : OwnsB w base v xs) (hlen : xs.length ≤ 100000) (hbase : base ≤ w.heap.size) :
    Calls Try.prog 34 #[v, .int .u32 x] w (AppendPost base w (xs ++ be4 x)) := by
  obtain ⟨i0, hi, hz0, hz1, hz2⟩ := info_parts Try.infoByte
  go_enter Try.func34, Try.ntmps34
  go_wp2_with ((at_builtin; refine wpList_append_own _ rfl _ _ 81 rfl base 5 i0 (.int .u8 0) 1 1 Try.underlying81 hi hz0 hz1 hz2 rfl (by decide) _ _ _ rfl (hown.alloc _) ⟨w.heap.size, 0, none⟩ 4 4 [.int .u8 (x / 16777216), .int .u8 (x / 65536 % 256), .int .u8 (x / 256 % 256), .int .u8 (x % 256)] rfl rfl ?c1 ?c2 ?c3 ?c4 ?c5 ?_))
  case c1 => exact cells_newM _ _ _
  case c2 => intro u hu; simp at hu; rcases hu with rfl | rfl | rfl | rfl <;> rfl
  case c3 => unfold maxLen; omega
  case c4 => omega
  case c5 => simp; omega
  intro v' w1 hown1 hgrow1 _
  have ho := OwnsB.push4 h0 h1 hown1
  have hb1 : Below base w w1 := ((Below.refl _ w).alloc hbase _).grown hgrow1 (by simp; omega) (fun g hg => (hown.lt g hg).1)
  clear hown1 hgrow1 hown
  go_wp2
  go_ret
  exact ⟨_, rfl, ho, hb1⟩

theorem regI_wrap (x : BitVec 32) : IntKind.u32.wrap (regI x) = regI x := by
  obtain ⟨a, b⟩ := regI_bd x
  simp only [IntKind.wrap, IntKind.bits, IntKind.signed]
  simp
  omega
theorem isKey_any (k : Int) (w : World) : Calls Try.prog 41 #[.int .i64 k] w fun e w' => e = .returned (.bool (decide (0 ≤ k) && decide (k < 4096))) ∧ w = w' := by
  by_cases h0 : 0 ≤ k <;> by_cases h1 : k < 4096
  all_goals
    go_enter Try.func41, Try.ntmps41
    go_wp2
    go_ret
    exact ⟨by simp [*], rfl⟩
theorem isCellM_any (v : Int) (s : Bool) (w : World) : Calls Try.prog 43 #[.agg #[.int .i64 v, .bool s]] w (Gives w (.bool (cellB (v, s)))) := by
  have B : Below w.heap.size w (w.alloc (.cells #[.int .i64 v, .bool s] 25)) := (Below.refl _ _).alloc (Nat.le_refl _) _
  unfold cellB
  cases s with
  | false =>
    go_enter Try.func43, Try.ntmps43
    go_wp2_with fail
    go_ret
    exact ⟨by simp, B⟩
  | true =>
    by_cases h : -1099511627776 ≤ v
    · go_enter Try.func43, Try.ntmps43
      go_wp2_with fail
      go_ret
      exact ⟨by simp, B⟩
    · go_enter Try.func43, Try.ntmps43
      go_wp2_with fail
      go_ret
      exact ⟨by simp; omega, B⟩
/-- How many nodes a level has. -/
def szM (k : Nat) : Nat := 256 / 16 ^ k
theorem szM_succ (k : Nat) : szM (k + 1) = szM k / 16 := by unfold szM; rw [Nat.pow_succ, Nat.div_div_eq_div_mul]
theorem szM_le (k : Nat) : szM k ≤ 256 := Nat.div_le_self _ _
theorem sizeM_any (level : Nat) (w : World) (h : level ≤ 2) : Calls Try.prog 38 #[.int .i64 (level : Int)] w fun e w' => e = .returned (.int .i64 (szM level)) ∧ w = w' := by
  go_enter Try.func38, Try.ntmps38
  go_wp2
  go_loop [3, 5] (fun n i => ∃ k : Nat, i = .int .i64 (k : Int) ∧ k ≤ level ∧ n = .int .i64 (szM k : Int)) (fun _ i => level - (intOf i).toNat)
  case atStart => exact ⟨0, rfl, by omega, rfl⟩
  case round =>
    obtain ⟨k, rfl, hk, rfl⟩ := hrel
    have hz := szM_le k
    by_cases hlt : k < level
    · go_wp2
      go_round
      case rel => exact ⟨k + 1, by go_num, by omega, by rw [szM_succ]; go_num⟩
      case measure => simp [intOf]; omega
    · obtain rfl : k = level := by omega
      go_wp2
      go_ret
      exact ⟨rfl, rfl⟩

def arrK (l : List (BitVec 32)) : Array Value := (l.map fun x => Value.int .u32 (regI x)).toArray
theorem arrK_get {l : List (BitVec 32)} {i : Nat} (h : i < l.length) : (arrK l)[i]? = some (.int .u32 (regI l[i]!)) := by
  unfold arrK
  simp [List.getElem?_eq_getElem h, getElem!_pos l i h]
theorem arrK_size (l : List (BitVec 32)) : (arrK l).size = l.length := by simp [arrK]
theorem idx16 (A : Array Value) (i : Nat) (v : Value) (w : World) (hi : i < 16) (hv : A[i]? = some v) : (Instr.index 101 (.agg A) (.int .i64 (i : Int))).run Try.prog w = .ok v w := by
  have hu : Try.prog.underlying 101 = some (.array 16 28) := by kernel_rfl
  have hu2 : Try.prog.underlying 28 = some (.int .u32) := by kernel_rfl
  have hs : (Try.prog.info? 28).map (·.size) = some 1 := by kernel_rfl
  obtain ⟨i0, h0, h1⟩ := Option.map_eq_some_iff.1 hs
  simp [Instr.index, run_underlying hu, run_underlying hu2, asIntOf, part, isAgg, sizeOf, typeInfo, h0, h1, hi, hv]
end Go.Proofs.Ytjjadappjapjhaa
