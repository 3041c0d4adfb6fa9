/-
  DELTA: rows of turns that came in; DeltaMakes' walk.
-/
import Derived.Test.YtmifjippdlmpiaaDeE
import Derived.Test.YtmifjippdlmpiaaDlS
namespace Go.Proofs.Ytmifjippdlmpiaa
open Go.RowKit Go.Deep Go.Shelf Go.ChangeShapes Go.WideShapes Go.ChangeAt

set_option maxRecDepth 100000 in
theorem clCells {H : Type} {enc : TypeId × Value → H} {w : World} {base : Nat} {spare : Nat → Bool} {held : Bool} (n : Nat) (cs : List Value) (y : DataW H × List MemPlace)
    (h : DataW.trod enc Try.prog w base spare held n 61 cs = some y) : ∃ q : Cl, cs = [.int .i64 q.1, .bool q.2] := by
  have kI : Try.prog.cellsOf 3 = 1 := by kernel_rfl
  have kB : Try.prog.cellsOf 4 = 1 := by kernel_rfl
  have kC : Try.prog.cellsOf 61 = 2 := by kernel_rfl
  obtain ⟨xs, m, _, _, hsz, hlen, hg⟩ := DataW.trod_struct Try.underlying61 h
  rw [kC] at hsz
  match cs, hsz with
  | [v0, v1], _ =>
    match xs, hlen with
    | [y0, y1], _ =>
      have g0 : DataW.trod enc Try.prog w base spare held m 3 [v0] = some y0 := by simpa [kI] using hg 0 _ rfl
      have g1 : DataW.trod enc Try.prog w base spare held m 4 [v1] = some y1 := by simpa [kI, kB] using hg 1 _ rfl
      obtain ⟨x0, e0, _, _⟩ := DataW.trod_int Try.underlying3 g0
      obtain ⟨x1, e1, _⟩ := DataW.trod_bool Try.underlying4 g1
      simp at e0 e1
      exact ⟨(x0, x1), by rw [e0, e1]⟩
set_option maxRecDepth 100000 in
theorem tnCells {H : Type} {enc : TypeId × Value → H} {w : World} {base : Nat} {spare : Nat → Bool} {held : Bool} (n : Nat) (cs : List Value) (y : DataW H × List MemPlace)
    (h : DataW.trod enc Try.prog w base spare held n 63 cs = some y) : ∃ q : Tn, cs = encT q := by
  have kI : Try.prog.cellsOf 3 = 1 := by kernel_rfl
  have kC : Try.prog.cellsOf 61 = 2 := by kernel_rfl
  have kT : Try.prog.cellsOf 63 = 5 := by kernel_rfl
  obtain ⟨xs, m, _, _, hsz, hlen, hg⟩ := DataW.trod_struct Try.underlying63 h
  rw [kT] at hsz
  match cs, hsz with
  | [v0, v1, v2, v3, v4], _ =>
    match xs, hlen with
    | [y0, y1, y2], _ =>
      have g0 : DataW.trod enc Try.prog w base spare held m 3 [v0] = some y0 := by simpa [kI] using hg 0 _ rfl
      have g1 : DataW.trod enc Try.prog w base spare held m 61 [v1, v2] = some y1 := by simpa [kI, kC] using hg 1 _ rfl
      have g2 : DataW.trod enc Try.prog w base spare held m 61 [v3, v4] = some y2 := by simpa [kI, kC] using hg 2 _ rfl
      obtain ⟨x0, e0, _, _⟩ := DataW.trod_int Try.underlying3 g0
      obtain ⟨x1, e1⟩ := clCells _ _ _ g1
      obtain ⟨x2, e2⟩ := clCells _ _ _ g2
      simp at e0 e1 e2
      exact ⟨(x0, x1, x2), by rw [e0, e1.1, e1.2, e2.1, e2.2]; rfl⟩
theorem tnArg_of {H : Type} {enc : TypeId × Value → H} {w : World} {base : Nat} {spare : Nat → Bool} {held : Bool} {a : Option Addr} {len cap : Nat} {d : DataW H} {p : List MemPlace}
    (h : DataW.Trod enc Try.prog w base spare held 25 (.slice a len cap) d p) : ∃ l, RArg encT 5 w a len cap l := by
  obtain ⟨fuel, hf⟩ := h
  obtain ⟨a', n', c', l, e, hR⟩ := rarg_of encT 5 (by omega) encT_len Try.underlying25 (by kernel_rfl) tnCells hf
  have e' : Value.slice a len cap = .slice a' n' c' := by simpa [Value.cells] using e
  cases e'
  exact ⟨l, hR⟩
theorem fewM_any (aa ab : Option Addr) (na nb ca cb : Nat) (w : World) (ha : (na : Int) ≤ 9223372036854775807) (hb : (nb : Int) ≤ 9223372036854775807) :
    Calls Try.prog 11 #[.slice aa na ca, .slice none 0 0, .slice ab nb cb, .slice none 0 0] w (Gives w (.bool (decide (na ≤ 100) && decide (nb ≤ 100)))) := by
  by_cases h1 : na ≤ 100
  · have z1 : (na : Int) ≤ 100 := by omega
    by_cases h2 : nb ≤ 100
    · have z2 : (nb : Int) ≤ 100 := by omega
      go_enter Try.func11, Try.ntmps11
      go_wp2
      go_ret
      exact ⟨by simp [h1, h2], Below.refl _ _⟩
    · have z2 : ¬ (nb : Int) ≤ 100 := by omega
      go_enter Try.func11, Try.ntmps11
      go_wp2
      go_ret
      exact ⟨by simp, Below.refl _ _⟩
  · have z1 : ¬ (na : Int) ≤ 100 := by omega
    go_enter Try.func11, Try.ntmps11
    go_wp2
    go_ret
    exact ⟨by simp, Below.refl _ _⟩
theorem makP_len (a : List Pr) (l : List Tn) : (makP a l).1.length ≤ a.length + l.length := by
  unfold makP
  split
  · split
    · exact Nat.le_trans (makS_len _) (meets_len _ _ _ _ a l)
    · simp
  · simp
theorem few_noM {m n : Nat} (hs : ¬ (m ≤ 100 ∧ n ≤ 100)) : (decide (m ≤ 100) && decide (n ≤ 100)) = false := by
  rw [Bool.and_eq_false_iff, decide_eq_false_iff_not, decide_eq_false_iff_not]
  by_cases h1 : m ≤ 100
  · exact .inr (fun h2 => hs ⟨h1, h2⟩)
  · exact .inl h1
set_option maxRecDepth 100000 in
set_option maxHeartbeats 2000000 in
theorem deltaMakes_walk (aa : Option Addr) (na ca : Nat) (a : List Pr) (ab : Option Addr) (nb cb : Nat) (l : List Tn) (w : World) (ha : RArg encP 2 w aa na ca a) (hb : RArg encT 5 w ab nb cb l) :
    Calls Try.prog 4 #[.slice aa na ca, .slice ab nb cb] w (TruePost w) := by
  obtain rfl := ha.1
  obtain rfl := hb.1
  have CF := fewM_any aa ab a.length l.length ca cb w ha.2.1 hb.2.1
  by_cases hs : a.length ≤ 100 ∧ l.length ≤ 100
  · obtain ⟨hs1, hs2⟩ := hs
    rw [show (decide (a.length ≤ 100) && decide (l.length ≤ 100)) = true by simp [hs1, hs2]] at CF
    have CM := fun W (h : Below w.heap.size w W) => make_any aa ab a.length l.length ca cb a l W (ha.below h) (hb.below h) (by omega) (by omega)
    have CR := fun W a1 n1 c1 a2 n2 c2 (h1 : RArg encP 2 W a1 n1 c1 a) (h2 : RArg encT 5 W a2 n2 c2 l) => rmake_any a1 a2 n1 n2 c1 c2 a l W h1 h2 (by omega) (by omega)
    have hl := makP_len a l
    generalize (makP a l).1 = M at CM CR hl
    generalize (makP a l).2 = z at CM CR
    have CC := Lib.hid (fun W (h : Below w.heap.size w W) => dcheck_any ab l.length cb l W (hb.below h))
    have CFt := Lib.hid (fun W (h : Below w.heap.size w W) => fits_any aa ab a.length l.length ca cb a l W (ha.below h) (hb.below h))
    have CC2 := Lib.hid (fun W a2 n2 c2 (h2 : RArg encT 5 W a2 n2 c2 l) => rcheckT_any a2 n2 c2 l W h2)
    have CF2 := Lib.hid (fun W a1 n1 c1 a2 n2 c2 (h1 : RArg encP 2 W a1 n1 c1 a) (h2 : RArg encT 5 W a2 n2 c2 l) => rfits_any a1 a2 n1 n2 c1 c2 a l W h1 h2)
    generalize chkB l = ck at CC CC2
    generalize fitsB a l = ft at CFt CF2
    replace CM := Lib.hid CM
    replace CR := Lib.hid CR
    have HA := Lib.hid ha
    have HB := Lib.hid hb
    clear ha hb
    go_enter Try.func4, Try.ntmps4
    go_wp2_with fail
    refine CF.mono ?_
    rintro e w0 ⟨rfl, b0⟩
    clear CF
    go_wp2_with fail
    refine (CM.out _ b0).mono ?_
    rintro e w1 ⟨v, rfl, hO, b1⟩
    obtain ⟨va, vc, rfl, hR⟩ := OwnsR.arg encP_len hO
    have B1 := below_next b0 b1
    clear hO
    go_wp2_with fail
    refine (refs5_any _ _ _ a _ (by omega) (HA.out.below B1)).mono ?_
    rintro e w2 ⟨ra, rn, rc, rfl, hRa, b2⟩
    have B2 := below_next B1 b2
    go_wp2_with fail
    refine (refsT_any _ _ _ l _ (by omega) (HB.out.below B2)).mono ?_
    rintro e w3 ⟨sa, sn, sc, rfl, hSa, b3⟩
    have B3 := below_next B2 b3
    go_wp2_with fail
    refine (CR.out _ _ _ _ _ _ _ (hRa.below b3) hSa).mono ?_
    rintro e w4 ⟨v, rfl, hO, b4⟩
    obtain ⟨ma, mc, rfl, hM⟩ := OwnsR.arg encP_len hO
    have B4 := below_next B3 b4
    clear hO hRa hSa
    go_wp2_with fail
    refine (awake23_any _).mono ?_
    rintro e w5 ⟨rfl, b5⟩
    have B5 := below_next B4 b5
    go_wp2_with fail
    refine (CC.out _ B5).mono ?_
    rintro e w6 ⟨rfl, b6⟩
    have B6 := below_next B5 b6
    go_wp2_with fail
    refine (refsT_any _ _ _ l _ (by omega) (HB.out.below B6)).mono ?_
    rintro e w7 ⟨sa, sn, sc, rfl, hS7, b7⟩
    have B7 := below_next B6 b7
    go_wp2_with fail
    refine (CC2.out _ _ _ _ hS7).mono ?_
    rintro e w8 ⟨rfl, b8⟩
    have B8 := below_next B7 b8
    have hck : (ck == ck) = true := by simp
    go_wp2_with fail
    refine (CFt.out _ B8).mono ?_
    rintro e w9 ⟨rfl, b9⟩
    have B9 := below_next B8 b9
    go_wp2_with fail
    refine (refs5_any _ _ _ a _ (by omega) (HA.out.below B9)).mono ?_
    rintro e w10 ⟨ra, rn, rc, rfl, hR10, b10⟩
    have B10 := below_next B9 b10
    go_wp2_with fail
    refine (refsT_any _ _ _ l _ (by omega) (HB.out.below B10)).mono ?_
    rintro e w11 ⟨ta, tn, tc, rfl, hS11, b11⟩
    have B11 := below_next B10 b11
    go_wp2_with fail
    refine (CF2.out _ _ _ _ _ _ _ (hR10.below b11) hS11).mono ?_
    rintro e w12 ⟨rfl, b12⟩
    have B12 := below_next B11 b12
    have hft : (ft == ft) = true := by simp
    go_wp2_with fail
    have n2 := below_next b5 (below_next b6 (below_next b7 (below_next b8 (below_next b9 (below_next b10 (below_next b11 b12))))))
    refine (refs5_any _ _ _ M _ (by omega) (hR.below (below_next b2 (below_next b3 (below_next b4 n2))))).mono ?_
    rintro e w13 ⟨ua, un, uc, rfl, hU, b13⟩
    have B13 := below_next B12 b13
    go_wp2_with fail
    refine (same5_any _ _ _ _ _ _ M M _ hU (hM.below (below_next n2 b13))).mono ?_
    rintro e w14 ⟨rfl, b14⟩
    have B14 := below_next B13 b14
    rw [decide_eq_true (show M = M from rfl)]
    go_wp2_with fail
    go_ret
    exact ⟨by simp, B14⟩
  · rw [few_noM hs] at CF
    go_enter Try.func4, Try.ntmps4
    go_wp2_with (first
      | (go_at_call 11; (with_reducible refine CF.mono ?_); rintro e w0 ⟨rfl, b0⟩)
      | (go_at_call 12; (with_reducible refine (awake23_any _).mono ?_); rintro e w5 ⟨rfl, b5⟩))
    go_ret
    exact ⟨rfl, below_next b0 b5⟩
end Go.Proofs.Ytmifjippdlmpiaa
