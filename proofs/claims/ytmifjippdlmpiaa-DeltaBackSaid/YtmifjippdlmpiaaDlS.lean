/-
  DELTA: DeltaBetween's walk; rows of pairs that came in.
-/
import Derived.Test.YtmifjippdlmpiaaDlR
import Derived.Deep.Strs
import Derived.Lib.SmallJoins
namespace Go.Proofs.Ytmifjippdlmpiaa
open Go.RowKit Go.Deep Go.Shelf Go.ChangeShapes Go.WideShapes Go.ChangeAt

theorem few_any (aa ab : Option Addr) (na nb ca cb : Nat) (w : World) (ha : (na : Int) ≤ 9223372036854775807) (hb : (nb : Int) ≤ 9223372036854775807) :
    Calls Try.prog 11 #[.slice aa na ca, .slice ab nb cb, .slice none 0 0, .slice none 0 0] w (Gives w (.bool (decide (na ≤ 100) && decide (nb ≤ 100)))) := by
  by_cases h1 : na ≤ 100
  · have z1 : (na : Int) ≤ 100 := by omega
    by_cases h2 : nb ≤ 100
    · have z2 : (nb : Int) ≤ 100 := by omega
      go_enter Try.func11, Try.ntmps11
      go_wp2
      go_ret
      exact ⟨by simp [h1, h2], Below.refl _ _⟩
    · have z2 : ¬ (nb : Int) ≤ 100 := by omega
      go_enter Try.func11, Try.ntmps11
      go_wp2
      go_ret
      exact ⟨by simp , Below.refl _ _⟩
  · have z1 : ¬ (na : Int) ≤ 100 := by omega
    go_enter Try.func11, Try.ntmps11
    go_wp2
    go_ret
    exact ⟨by simp , Below.refl _ _⟩
theorem betw_len (a b : List Pr) : (betw a b).1.length ≤ a.length + b.length := by
  unfold betw
  split
  · exact Nat.le_trans (betwS_len _) (meets_len _ _ _ _ a b)
  · simp
set_option maxRecDepth 100000 in
set_option maxHeartbeats 2000000 in
theorem deltaBetween_walk (aa : Option Addr) (na ca : Nat) (a : List Pr) (ab : Option Addr) (nb cb : Nat) (b : List Pr) (w : World) (ha : RArg encP 2 w aa na ca a) (hb : RArg encP 2 w ab nb cb b) :
    Calls Try.prog 3 #[.slice aa na ca, .slice ab nb cb] w (TruePost w) := by
  obtain rfl := ha.1
  obtain rfl := hb.1
  have CF := few_any aa ab a.length b.length ca cb w ha.2.1 hb.2.1
  by_cases hs : a.length ≤ 100 ∧ b.length ≤ 100
  · rw [show (decide (a.length ≤ 100) && decide (b.length ≤ 100)) = true by simp [hs.1, hs.2]] at CF
    have CB := fun W (h : Below w.heap.size w W) => between_any aa ab a.length b.length ca cb a b W (ha.below h) (hb.below h) (by omega) (by omega)
    have CR := fun W a1 n1 c1 a2 n2 c2 (h1 : RArg encP 2 W a1 n1 c1 a) (h2 : RArg encP 2 W a2 n2 c2 b) => rbetween_any a1 a2 n1 n2 c1 c2 a b W h1 h2 (by omega) (by omega)
    have hl := betw_len a b
    generalize (betw a b).1 = L at CB CR hl
    generalize (betw a b).2 = z at CB CR
    replace CB := Lib.hid CB
    replace CR := Lib.hid CR
    have HA := Lib.hid ha
    have HB := Lib.hid hb
    clear ha hb
    go_enter Try.func3, Try.ntmps3
    go_wp2_with (first
      | (go_at_call 11; (with_reducible refine CF.mono ?_); rintro e w0 ⟨rfl, b0⟩; clear CF)
      | (go_at_call 13; (with_reducible refine (CB.out _ b0).mono ?_); rintro e w1 ⟨v, rfl, hO, b1⟩; obtain ⟨va, vc, rfl, hR⟩ := OwnsR.arg encT_len hO; clear hO; have B1 := below_next b0 b1)
      | (go_at_call 15; (with_reducible refine (refs5_any _ _ _ a _ (by omega) (HA.out.below B1)).mono ?_); rintro e w2 ⟨ra, rn, rc, rfl, hRa, b2⟩; have B2 := below_next B1 b2; clear HA)
      | (go_at_call 15; (with_reducible refine (refs5_any _ _ _ b _ (by omega) (HB.out.below B2)).mono ?_); rintro e w3 ⟨rb, rm, rd, rfl, hRb, b3⟩; have B3 := below_next B2 b3)
      | (go_at_call 14; (with_reducible refine (CR.out _ _ _ _ _ _ _ (hRa.below b3) hRb).mono ?_); rintro e w4 ⟨ma, mn, mc, rfl, hM, b4⟩; have B4 := below_next B3 b4)
      | (go_at_call 12; (with_reducible refine (awake23_any _).mono ?_); rintro e w5 ⟨rfl, b5⟩; have B5 := below_next B4 b5; have hR5 := hR.below (below_next (below_next (below_next b2 b3) b4) b5))
      | (go_at_call 17; (with_reducible refine (refsT_any _ _ _ L _ (by omega) hR5).mono ?_); rintro e w6 ⟨ta, tn, tc, rfl, hT, b6⟩; have B6 := below_next B5 b6; have hM6 := hM.below (below_next b5 b6))
      | (go_at_call 16; (with_reducible refine (sameT_any _ _ _ _ _ _ L _ hT hM6).mono ?_); rintro e w7 ⟨rfl, b7⟩; have B7 := below_next B6 b7))
    go_ret
    exact ⟨by simp, B7⟩
  · have hf : (decide (a.length ≤ 100) && decide (b.length ≤ 100)) = false := by
      rw [Bool.and_eq_false_iff, decide_eq_false_iff_not, decide_eq_false_iff_not]
      by_cases h1 : a.length ≤ 100
      · exact .inr (fun h2 => hs ⟨h1, h2⟩)
      · exact .inl h1
    rw [hf] at CF
    go_enter Try.func3, Try.ntmps3
    go_wp2_with (first
      | (go_at_call 11; (with_reducible refine CF.mono ?_); rintro e w0 ⟨rfl, b0⟩)
      | (go_at_call 12; (with_reducible refine (awake23_any _).mono ?_); rintro e w5 ⟨rfl, b5⟩))
    go_ret
    exact ⟨rfl, below_next b0 b5⟩
set_option maxRecDepth 100000 in
/-- A pair, read. -/
theorem prCells {H : Type} {enc : TypeId × Value → H} {w : World} {base : Nat} {spare : Nat → Bool} {held : Bool} (n : Nat) (cs : List Value) (y : DataW H × List MemPlace)
    (h : DataW.trod enc Try.prog w base spare held n 75 cs = some y) : ∃ q : Pr, cs = encP q := by
  have kI : Try.prog.cellsOf 3 = 1 := by kernel_rfl
  have kC : Try.prog.cellsOf 75 = 2 := by kernel_rfl
  obtain ⟨xs, m, _, _, hsz, hlen, hg⟩ := DataW.trod_struct Try.underlying75 h
  rw [kC] at hsz
  match cs, hsz with
  | [v0, v1], _ =>
    match xs, hlen with
    | [y0, y1], _ =>
      have g0 : DataW.trod enc Try.prog w base spare held m 3 [v0] = some y0 := by simpa [kI] using hg 0 _ rfl
      have g1 : DataW.trod enc Try.prog w base spare held m 3 [v1] = some y1 := by simpa [kI] using hg 1 _ rfl
      obtain ⟨x0, e0, _, _⟩ := DataW.trod_int Try.underlying3 g0
      obtain ⟨x1, e1, _, _⟩ := DataW.trod_int Try.underlying3 g1
      simp at e0 e1
      exact ⟨(x0, x1), by rw [e0, e1]; rfl⟩
theorem rarg_of {α : Type} [Inhabited α] (encA : α → List Value) (k : Nat) (hk : 0 < k) (hlen : ∀ x, (encA x).length = k) {H : Type} {enc : TypeId × Value → H} {w : World} {base : Nat} {spare : Nat → Bool} {held : Bool} {t e : TypeId} {fuel : Nat} {v : Value} {x : DataW H × List MemPlace}
    (ht : Try.prog.underlying t = some (.slice e)) (ce : Try.prog.cellsOf e = k)
    (hel : ∀ (n : Nat) (cs : List Value) (y : DataW H × List MemPlace), DataW.trod enc Try.prog w base spare held n e cs = some y → ∃ q : α, cs = encA q)
    (hf : DataW.trod enc Try.prog w base spare held fuel t [v] = some x) : ∃ (a : Option Addr) (n c : Nat) (l : List α), v = .slice a n c ∧ RArg encA k w a n c l := by
  rcases open_slice ht hf with ⟨hcs, _⟩ | ⟨x, len, c, m, n, D, Pl, hcs, _, hl, hm, hmm, _, hx⟩
  · exact ⟨none, 0, 0, [], by simpa using hcs, RArg.nil _ _ _⟩
  · have hlm : len ≤ m := by rw [hmm]; split <;> omega
    have each : ∀ i, i < len → ∃ q : α, w.cells? base (x.add (i * k)) k = some (encA q) := by
      intro i hi
      obtain ⟨cs', h1, h2⟩ := hx i (by omega)
      obtain ⟨q, rfl⟩ := hel _ _ _ h2
      rw [ce] at h1
      exact ⟨q, h1⟩
    obtain ⟨q, hq⟩ := choose_lt each
    have hlen' : ((List.range len).map q).length = len := by simp
    refine ⟨some x, len, c, (List.range len).map q, by simpa using hcs, hlen'.symm, by rw [hlen']; unfold maxLen at hm; omega, by rw [hlen']; exact hl, hm, fun j hj => ?_⟩
    rw [hlen'] at hj
    obtain ⟨b, off, spot⟩ := x
    obtain ⟨_, _, hc0⟩ := World.cells?_some (hq 0 (by omega))
    have e0 := (hc0 0 hk).trans (List.getElem?_eq_getElem (by rw [hlen]; exact hk))
    have hspot : spot = none := by simpa [Addr.add] using World.cell?_spot e0
    subst hspot
    obtain ⟨_, _, hc⟩ := World.cells?_some (hq j hj)
    have eq : ((List.range len).map q)[j]! = q j := by
      rw [getElem!_pos _ j (by rw [hlen']; exact hj)]
      simp
    rw [eq]
    have ej : ∀ i v, (encA (q j))[i]? = some v → w.cell? ⟨b, off + j * k + i, none⟩ = some v := fun i v hi => by
      have hik : i < k := by
        rcases Nat.lt_or_ge i (encA (q j)).length with h | h
        · rwa [hlen] at h
        · rw [List.getElem?_eq_none h] at hi; cases hi
      have := (hc i hik).trans hi
      rwa [addr_add, addr_add] at this
    refine ⟨b, off, rfl, World.block_lt_of_cell? w _ (ej 0 _ (List.getElem?_eq_getElem (by rw [hlen]; exact hk))), ej⟩

theorem prArg_of {H : Type} {enc : TypeId × Value → H} {w : World} {base : Nat} {spare : Nat → Bool} {held : Bool} {a : Option Addr} {len cap : Nat} {d : DataW H} {p : List MemPlace}
    (h : DataW.Trod enc Try.prog w base spare held 22 (.slice a len cap) d p) : ∃ l, RArg encP 2 w a len cap l := by
  obtain ⟨fuel, hf⟩ := h
  obtain ⟨a', n', c', l, e, hR⟩ := rarg_of encP 2 (by omega) encP_len Try.underlying22 (by kernel_rfl) prCells hf
  have e' : Value.slice a len cap = .slice a' n' c' := by simpa [Value.cells] using e
  cases e'
  exact ⟨l, hR⟩
end Go.Proofs.Ytmifjippdlmpiaa
