/-
  DeltaReads.
-/
import Derived.Test.YtnjlbgnojlmmlaaDeR
namespace Go.Proofs.Ytnjlbgnojlmmlaa
open Go.RowKit Go.Deep Go.Shelf

set_option maxRecDepth 100000 in
set_option maxHeartbeats 2000000 in
theorem reads_in (ab : Option Addr) (nb cb : Nat) (l : List Tn) (s : ByteArray) (w : World) (hb : RArg encT 5 w ab nb cb l) (hl : l.length ≤ 100) (hbig : (s.size : Int) ≤ 2000) (x : Int) (M : List Tn) (hr : readD s = (M, x)) (hM : M.length ≤ 2000) :
    Calls Try.prog 3 #[.slice ab nb cb, .string s] w (TruePost w) := by
  obtain rfl := hb.1
  have CF := fewL_any ab l.length cb w hb.2.1
  rw [decide_eq_true hl] at CF
  have CT := Lib.hid (fun W (h : Below w.heap.size w W) => (show Calls Try.prog 8 #[.slice ab l.length cb] W (Gives W (.string (ofL (textD l)))) from dtext_any ab l.length cb l W (hb.below h) (by omega)))
  have CS := Lib.hid (fun va vc W (h : RArg encT 5 W va l.length vc l) => rtext23_any va l.length vc l W h (by omega))
  have CR := fun W => dread_any s W (by omega)
  have CD := fun W => read23_any s W (by omega)
  rw [docD_is s (by omega) (fun _ => by rw [hr]; dsimp only; omega)] at CD
  rw [hr] at CR CD
  generalize ofL (textD l) = X at CT CS
  replace CR := Lib.hid CR
  replace CD := Lib.hid CD
  have HB := Lib.hid hb
  have h100 : l.length ≤ 100000 := by omega
  have hM1 : M.length ≤ 100000 := by omega
  clear hb hr
  go_enter Try.func3, Try.ntmps3
  go_wp2_with fail
  refine CF.mono ?_
  rintro e w0 ⟨rfl, b0⟩
  clear CF
  go_wp2_with fail
  refine (CR.out _).mono ?_
  rintro e w1 ⟨v, rfl, hO, b1⟩
  obtain ⟨va, vc, rfl, hV⟩ := OwnsR.arg encT_len hO
  have B1 := below_next b0 b1
  clear hO
  go_wp2_with fail
  refine (CD.out _).mono ?_
  rintro e w2 ⟨da, dn, dc, rfl, hD, b2⟩
  have B2 := below_next B1 b2
  go_wp2_with fail
  refine (awake23_any _).mono ?_
  rintro e w3 ⟨rfl, b3⟩
  have B3 := below_next B2 b3
  go_wp2_with fail
  refine (CT.out _ B3).mono ?_
  rintro e w4 ⟨rfl, b4⟩
  have B4 := below_next B3 b4
  go_wp2_with fail
  refine (refsT_any _ _ _ l _ h100 (HB.out.below B4)).mono ?_
  rintro e w5 ⟨ra, rn, rc, rfl, hR, b5⟩
  have B5 := below_next B4 b5
  obtain rfl := hR.1
  go_wp2_with fail
  refine (CS.out _ _ _ hR).mono ?_
  rintro e w6 ⟨rfl, b6⟩
  have B6 := below_next B5 b6
  go_wp2_with fail
  refine (refsT_any _ _ _ M _ hM1 (hV.below (below_next b2 (below_next b3 (below_next b4 (below_next b5 b6)))))).mono ?_
  rintro e w7 ⟨qa, qn, qc, rfl, hQ, b7⟩
  have B7 := below_next B6 b7
  go_wp2_with fail
  refine (sameT_any _ _ _ _ _ _ M _ hQ (hD.below (below_next b3 (below_next b4 (below_next b5 (below_next b6 b7)))))).mono ?_
  rintro e w8 ⟨rfl, b8⟩
  have B8 := below_next B7 b8
  go_wp2_with fail
  go_ret
  exact ⟨by simp, B8⟩
set_option maxRecDepth 100000 in
set_option maxHeartbeats 2000000 in
theorem deltaReads_walk (ab : Option Addr) (nb cb : Nat) (l : List Tn) (s : ByteArray) (w : World) (hb : RArg encT 5 w ab nb cb l) (hs : s.size ≤ maxLen) :
    Calls Try.prog 3 #[.slice ab nb cb, .string s] w (TruePost w) := by
  have hsz : (s.size : Int) ≤ 9223372036854775807 := by unfold maxLen at hs; omega
  clear hs
  by_cases hl : l.length ≤ 100
  · by_cases hbig : (s.size : Int) ≤ 2000
    · rcases readD_err s with hx | ⟨hx, hm⟩
      · exact reads_in ab nb cb l s w hb hl hbig 0 (readD s).1 (by rw [← hx]) (by have := readD_len hx; omega)
      · exact reads_in ab nb cb l s w hb hl hbig 3 [] (by rw [← hx, ← hm]) (by simp)
    · obtain rfl := hb.1
      have CF := fewL_any ab l.length cb w hb.2.1
      rw [decide_eq_true hl] at CF
      clear hb
      go_enter Try.func3, Try.ntmps3
      go_wp2_with (first
        | (go_at_call 4; (with_reducible refine CF.mono ?_); rintro e w0 ⟨rfl, b0⟩)
        | (go_at_call 5; (with_reducible refine (awake23_any _).mono ?_); rintro e w5 ⟨rfl, b5⟩))
      go_ret
      exact ⟨rfl, below_next b0 b5⟩
  · obtain rfl := hb.1
    have CF := fewL_any ab l.length cb w hb.2.1
    rw [decide_eq_false hl] at CF
    clear hb
    go_enter Try.func3, Try.ntmps3
    go_wp2_with (first
      | (go_at_call 4; (with_reducible refine CF.mono ?_); rintro e w0 ⟨rfl, b0⟩)
      | (go_at_call 5; (with_reducible refine (awake23_any _).mono ?_); rintro e w5 ⟨rfl, b5⟩))
    go_ret
    exact ⟨rfl, below_next b0 b5⟩
end Go.Proofs.Ytnjlbgnojlmmlaa
