/-
  THE WALKS of the laws VintNums, VintTexts, VintRises, VintFolds: each returns true, and writes nothing that was there.
-/
import Derived.Test.YtjeeplacolbihaaRefList
import Derived.ProofKit
import Derived.OpenShut
namespace Go.Proofs.Ytjeeplacolbihaa
open Go.RowKit

set_option maxHeartbeats 1000000 in
theorem vintNums_walk (n z : Int) (b : Bool) (w : World) (n1 : (Lit.int .i64 n).wf = true) (_z1 : (Lit.int .i64 z).wf = true) :
    Calls Try.prog 3 #[.int .i64 n, .int .i64 z, .bool b] w fun e w' => e = .returned (.bool true) ∧ Below w.heap.size w w' := by
  have n2 := (bounds_i64 n1).2
  clear n1
  go_enter Try.func3, Try.ntmps3
  go_wp2_with (first
    | (go_at_call 15; refine (awake1_any _).mono ?_; rintro e w0 ⟨rfl, B0⟩)
    | (go_at_call 16; refine (num_any n _ n2).mono ?_; rintro e w1 ⟨rfl, B1⟩)
    | (go_at_call 17; refine (refNum_any n _ n2).mono ?_; rintro e w2 ⟨rfl, B2⟩)
    | (go_at_call 18; refine (whole_any z _).mono ?_; rintro e w3 ⟨rfl, B3⟩)
    | (go_at_call 19; refine (refWhole_any z _).mono ?_; rintro e w4 ⟨rfl, B4⟩)
    | (go_at_call 20; refine (flag_any b _).mono ?_; rintro e w5 ⟨rfl, rfl⟩)
    | (go_at_call 21; refine (refFlag_any b _).mono ?_; rintro e w6 ⟨rfl, rfl⟩))
  go_ret
  exact ⟨rfl, below_next (below_next (below_next (below_next B0 B1) B2) B3) B4⟩

set_option maxHeartbeats 1000000 in
theorem vintTexts_walk (s : ByteArray) (a : Option Addr) (len cap : Nat) (zs : List Int) (w : World) (_hs : s.size ≤ maxLen) (hz : IntsArg w a len zs) :
    Calls Try.prog 4 #[.string s, .slice a len cap] w fun e w' => e = .returned (.bool true) ∧ Below w.heap.size w w' := by
  obtain ⟨rfl, hin, _⟩ := hz
  by_cases h1 : 20000 < s.size
  · go_enter Try.func4, Try.ntmps4
    go_wp2_with (go_at_call 15; refine (awake1_any _).mono ?_; rintro e w0 ⟨rfl, B0⟩)
    go_ret
    exact ⟨rfl, B0⟩
  · by_cases h2 : 300 < zs.length
    · go_enter Try.func4, Try.ntmps4
      go_wp2_with (go_at_call 15; refine (awake1_any _).mono ?_; rintro e w0 ⟨rfl, B0⟩)
      go_ret
      exact ⟨rfl, B0⟩
    · have h1' : (s.size : Int) ≤ 9000000000000000000 := by omega
      have h2' : (zs.length : Int) ≤ 1000000000000 := by omega
      go_enter Try.func4, Try.ntmps4
      go_wp2_with (first
        | (go_at_call 15; refine (awake1_any _).mono ?_; rintro e w0 ⟨rfl, B0⟩)
        | (go_at_call 22; refine (text_any s _ h1').mono ?_; rintro e w1 ⟨rfl, B1⟩; have C1 := below_next B0 B1)
        | (go_at_call 23; refine (refText_any s _ h1').mono ?_; rintro e w2 ⟨rfl, B2⟩; have C2 := below_next C1 B2)
        | (go_at_call 24; refine (list_any a cap zs _ h2' (hin.below C2)).mono ?_; rintro e w3 ⟨rfl, B3⟩; have C3 := below_next C2 B3)
        | (go_at_call 25; refine (refList_any a cap zs _ h2' (hin.below C3)).mono ?_; rintro e w4 ⟨rfl, B4⟩; have C4 := below_next C3 B4))
      go_ret
      exact ⟨rfl, C4⟩

theorem byteArray_ext' {a b : ByteArray} (h : a.data.toList = b.data.toList) : a = b := ByteArray.ext (Array.toList_inj.1 h)
theorem numS_size {x : Int} (h : 0 ≤ x) : (numS x).size = (numL x.toNat).length := by rw [numS_nat h]; simp [ByteArray.size]
theorem numS_mono {x y : Int} (h : 0 ≤ x) (hxy : x ≤ y) : (numS x).size ≤ (numS y).size := by
  rw [numS_size h, numS_size (by omega)]; exact numL_mono _ _ (by omega)
theorem numS_pos {x : Int} (h : 0 ≤ x) : 1 ≤ (numS x).size := by rw [numS_size h]; exact numL_len_pos _
theorem numS_inj {x y : Int} (h : 0 ≤ x) (hy : 0 ≤ y) (he : (numS x).data.toList = (numS y).data.toList) : x = y := by
  rw [numS_nat h, numS_nat hy] at he
  have := numL_inj _ _ he
  omega

theorem two_lists {x y : Int} (h : 0 ≤ x) (hy : 0 ≤ y) (hne : x ≠ y) : ((numS x).toList == (numS y).toList) = false := by
  rw [ByteArray.toList_eq, ByteArray.toList_eq]
  have : (numS x).data.toList ≠ (numS y).data.toList := fun e => hne (numS_inj h hy e)
  simpa using this

set_option maxHeartbeats 1000000 in
theorem rises_neg (n m : Int) (w : World) (n2 : n ≤ 9223372036854775807) (m2 : m ≤ 9223372036854775807) (hn : n < 0 ∨ m < 0) :
    Calls Try.prog 8 #[.int .i64 n, .int .i64 m] w fun e w' => e = .returned (.bool true) ∧ Below w.heap.size w w' := by
  have HC : Hid (∀ (x : Int) (w : World), x ≤ 9223372036854775807 → x < 0 → Calls Try.prog 16 #[.int .i64 x] w (StrPost ByteArray.empty w)) :=
    Lib.hid fun x w h h0 => (num_any x w h).mono fun e w' h => by rw [numS_neg h0] at h; exact h
  rcases Int.lt_trichotomy n m with h | rfl | h
  · have hn0 : n < 0 := by omega
    go_enter Try.func8, Try.ntmps8
    go_wp2_with (first
      | (go_at_call 15; refine (awake1_any _).mono ?_; rintro e w0 ⟨rfl, B0⟩)
      | (go_at_call 16; (with_reducible refine (HC.out n _ n2 hn0).mono ?_); rintro e w1 ⟨rfl, B1⟩))
    go_ret
    exact ⟨rfl, below_next B0 B1⟩
  · have hn0 : n < 0 := by omega
    go_enter Try.func8, Try.ntmps8
    go_wp2_with (first
      | (go_at_call 15; refine (awake1_any _).mono ?_; rintro e w0 ⟨rfl, B0⟩)
      | (go_at_call 16; (with_reducible refine (HC.out n _ n2 hn0).mono ?_); rintro e w1 ⟨rfl, B1⟩))
    go_ret
    exact ⟨rfl, below_next B0 B1⟩
  · have hm0 : m < 0 := by omega
    by_cases hn0 : n < 0
    all_goals
      go_enter Try.func8, Try.ntmps8
      go_wp2_with (first
        | (go_at_call 15; refine (awake1_any _).mono ?_; rintro e w0 ⟨rfl, B0⟩)
        | (go_at_call 16; (with_reducible refine (HC.out m _ m2 hm0).mono ?_); rintro e w1 ⟨rfl, B1⟩))
      go_ret
      exact ⟨rfl, below_next B0 B1⟩

set_option maxHeartbeats 1000000 in
theorem rises_pos (n m : Int) (w : World) (n2 : n ≤ 9223372036854775807) (m2 : m ≤ 9223372036854775807) (hn : 0 ≤ n) (hm : 0 ≤ m) :
    Calls Try.prog 8 #[.int .i64 n, .int .i64 m] w fun e w' => e = .returned (.bool true) ∧ Below w.heap.size w w' := by
  have l1 := numS_pos hn
  have l2 := numS_pos hm
  have l3 := numS_size_le n n2
  have l4 := numS_size_le m m2
  rcases Int.lt_trichotomy n m with h | rfl | h
  · have l5 := numS_mono hn (Int.le_of_lt h)
    have l6 := two_lists hn hm (by omega)
    have l7 : (n == m) = false := by simpa using (by omega : n ≠ m)
    go_enter Try.func8, Try.ntmps8
    go_wp2_with (first
      | (go_at_call 15; refine (awake1_any _).mono ?_; rintro e w0 ⟨rfl, B0⟩; have C0 := below_next (below_next B1 B2) B0)
      | (go_at_call 16; (with_reducible refine (num_any n _ n2).mono ?_); rintro e w1 ⟨rfl, B1⟩)
      | (go_at_call 16; (with_reducible refine (num_any m _ m2).mono ?_); rintro e w2 ⟨rfl, B2⟩))
    go_ret
    exact ⟨rfl, C0⟩
  · go_enter Try.func8, Try.ntmps8
    go_wp2_with fail
    refine (num_any n _ n2).mono ?_
    rintro e w1 ⟨rfl, B1⟩
    go_wp2_with fail
    refine (num_any n _ n2).mono ?_
    rintro e w2 ⟨rfl, B2⟩
    go_wp2_with (go_at_call 15; refine (awake1_any _).mono ?_; rintro e w0 ⟨rfl, B0⟩)
    go_ret
    exact ⟨rfl, below_next (below_next B1 B2) B0⟩
  · have l5 := numS_mono hm (Int.le_of_lt h)
    have l6 := two_lists hm hn (by omega)
    have l7 : (n == m) = false := by simpa using (by omega : n ≠ m)
    go_enter Try.func8, Try.ntmps8
    go_wp2_with (first
      | (go_at_call 15; refine (awake1_any _).mono ?_; rintro e w0 ⟨rfl, B0⟩; have C0 := below_next (below_next B1 B2) B0)
      | (go_at_call 16; (with_reducible refine (num_any m _ m2).mono ?_); rintro e w1 ⟨rfl, B1⟩)
      | (go_at_call 16; (with_reducible refine (num_any n _ n2).mono ?_); rintro e w2 ⟨rfl, B2⟩))
    go_ret
    exact ⟨rfl, C0⟩

theorem vintRises_walk (n m : Int) (w : World) (n1 : (Lit.int .i64 n).wf = true) (m1 : (Lit.int .i64 m).wf = true) :
    Calls Try.prog 8 #[.int .i64 n, .int .i64 m] w fun e w' => e = .returned (.bool true) ∧ Below w.heap.size w w' := by
  by_cases hn : n < 0 ∨ m < 0
  · exact rises_neg n m w (bounds_i64 n1).2 (bounds_i64 m1).2 hn
  · exact rises_pos n m w (bounds_i64 n1).2 (bounds_i64 m1).2 (by omega) (by omega)
end Go.Proofs.Ytjeeplacolbihaa
