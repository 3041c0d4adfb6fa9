/-
  The example of layer 20; how many pairs there are; rows of pairs that came in.
-/
import Derived.Test.YtjjadappjapjhaaMkJ
import Derived.Laws.StructEq
import Derived.Deep.Strs
import Derived.Lib.SmallJoins
namespace Go.Proofs.Ytjjadappjapjhaa
open Go.RowKit Go.Deep

def TruePost (w : World) (e : Ending) (w' : World) : Prop := e = .returned (.bool true) ∧ Below w.heap.size w w'
theorem eqSpanIn (x y p q : Int) (w : World) : (Op.equalIn 10000 73 (.agg #[.int .i64 x, .int .i64 y]) (.agg #[.int .i64 p, .int .i64 q])).run Try.prog w = .ok (x == p && y == q) w := by
  have u3 := Try.underlying3
  have a3 := Try.isAgg3
  have z3 := Try.sizeOf3
  have hS : Try.prog.underlying 73 = some (.struct (Try.prog.fieldsOf 73)) := by kernel_rfl
  have hp : Try.prog.stoodInHeld 73 = false := by kernel_rfl
  rw [show (10000 : Nat) = 9999 + 1 from rfl, run_equalIn_agg w 9999 73 _ _ hS hp]
  simp only [Program.fieldsOf, Try.underlying73]
  go_simp
  by_cases h1 : x = p <;> by_cases h2 : y = q <;> simp [h1, h2]
theorem eqSpan (x y p q : Int) (w : World) : (binOp .eql 73 (.agg #[.int .i64 x, .int .i64 y]) (.agg #[.int .i64 p, .int .i64 q])).run Try.prog w = .ok (.bool (x == p && y == q)) w := by
  rw [run_eql_struct, eqSpanIn]; rfl

def NewOk (C : Nat → Option Int) (w : World) (e : Ending) (w' : World) : Prop := ∃ b, e = .returned (.tuple #[.pointer (some ⟨b, 0, none⟩), .int .i64 0]) ∧ TreeOf w' b C ∧ w.heap.size ≤ b ∧ Below w.heap.size w w'
theorem new_ok (a : Option Addr) (n c : Nat) (l : List Pr) (w : World) (h : RArg encP 2 w a n c l) (ht : tblB l = true) : Calls Try.prog 14 #[.slice a n c] w (NewOk (tabC l) w) := by
  refine (new_any a n c l w h).mono fun e w' q => ?_
  unfold NewPost at q
  rw [if_pos ht] at q
  exact q
def NewNo (w : World) (e : Ending) (w' : World) : Prop := e = .returned (.tuple #[.pointer none, .int .i64 1]) ∧ Below w.heap.size w w'
theorem new_no (a : Option Addr) (n c : Nat) (l : List Pr) (w : World) (h : RArg encP 2 w a n c l) (ht : tblB l = false) : Calls Try.prog 14 #[.slice a n c] w (NewNo w) := by
  refine (new_any a n c l w h).mono fun e w' q => ?_
  unfold NewPost at q
  rw [if_neg (by rw [ht]; decide)] at q
  exact q
theorem one_pair (w : World) (x y : Int) : RArg encP 2 (w.alloc (.cells #[.int .i64 x, .int .i64 y] 49)) (some ⟨w.heap.size, 0, none⟩) 1 1 [(x, y)] := by
  refine ⟨rfl, (by decide : (1 : Int) ≤ 9223372036854775807), Nat.le_refl _, (by decide : 1 ≤ maxLen), fun j hj => ⟨w.heap.size, 0, rfl, by simp, fun i u hi => ?_⟩⟩
  have hj0 : j = 0 := by simpa using hj
  subst hj0
  have := cells_newM w #[.int .i64 x, .int .i64 y] 49 i u hi
  rw [addr_add] at this
  simpa using this
theorem tabC_one (k : Nat) (v : Int) : tabC [((k : Int), v)] = updF (fun _ => none) k (some v) := rfl
theorem aw_one (j : Nat) (hj : j ≠ 5) : tabC [(5, 7)] j = tabC [(5, 8)] j := by
  show updF (fun _ => none) 5 (some 7) j = updF (fun _ => none) 5 (some 8) j
  unfold updF
  rw [if_neg hj, if_neg hj]
theorem aw_ne : numO (tabC [(5, 7)] 5) ≠ numO (tabC [(5, 8)] 5) := fun e => by
  have := numV_low (v := 7) (v' := 8) (by decide) e
  omega
theorem aw_dif : spansL (difL (tabC [(5, 7)]) (tabC [(5, 8)]) 3) = [(5, 6)] := by rw [difL_one (by decide) aw_one aw_ne 3 (by decide)]; rfl
theorem aw_root : (regI (lvN (tabC [(5, 7)]) 3 0) != regI (lvN (tabC [(5, 8)]) 3 0)) = true := by
  rw [regI_ne]
  exact bne_iff_ne.2 (root_ne (k := 5) (by decide) aw_one aw_ne)
def SpanOne (x y : Nat) (w : World) (e : Ending) (w' : World) : Prop := ∃ g off c, e = .returned (.slice (some ⟨g, off, none⟩) 1 c) ∧ g < w'.heap.size ∧ w'.cell? ⟨g, off, none⟩ = some (.int .i64 (x : Int)) ∧ w'.cell? ⟨g, off + 1, none⟩ = some (.int .i64 (y : Int)) ∧ Below w.heap.size w w'
theorem diff_one (p1 p2 : Value) (C1 C2 : Nat → Option Int) (x y : Nat) (w : World) (h1 : TrP w p1 C1) (h2 : TrP w p2 C2) (h : spansL (difL C1 C2 3) = [(x, y)]) : Calls Try.prog 24 #[p1, p2] w (SpanOne x y w) := by
  refine (diff_any p1 p2 C1 C2 w h1 h2).mono fun e w' q => ?_
  obtain ⟨v3, rfl, o3, hb3⟩ := q
  rw [h] at o3
  obtain ⟨a3, c3, rfl, hr3⟩ : ∃ a c, v3 = .slice a 1 c ∧ RArg encS 2 w' a 1 c [(x, y)] := OwnsR.arg encS_len o3
  obtain ⟨g, off, e3, hg3, hc3⟩ := hr3.2.2.2.2 0 Nat.zero_lt_one
  subst e3
  exact ⟨g, off, c3, rfl, hg3, hc3 0 _ rfl, hc3 1 _ rfl, hb3⟩
set_option maxRecDepth 100000 in
set_option maxHeartbeats 1000000 in
theorem awake20_any (w : World) : Calls Try.prog 11 #[] w (TruePost w) := by
  have ba : Below w.heap.size w (w.alloc (.cells #[.int .i64 5, .int .i64 7] 49)) := (Below.refl _ _).alloc (Nat.le_refl _) _
  have NA := Lib.hid (new_ok _ _ _ [(5, 7)] _ (one_pair w 5 7) rfl)
  have NB := Lib.hid (fun w => new_ok _ _ _ [(5, 8)] _ (one_pair w 5 8) rfl)
  have BA := Lib.hid ba
  have HD := Lib.hid aw_dif
  obtain ⟨x, hx⟩ : ∃ x, regI (lvN (tabC [(5, 7)]) 3 0) = x := ⟨_, rfl⟩
  obtain ⟨y, hy⟩ : ∃ y, regI (lvN (tabC [(5, 8)]) 3 0) = y := ⟨_, rfl⟩
  have hxy := aw_root
  rw [hx, hy] at hxy
  have HX := Lib.hid hx
  have HY := Lib.hid hy
  clear ba hx hy
  have ES := fun (w : World) => eqSpan 5 6 5 6 w
  go_enter Try.func11, Try.ntmps11
  go_wp2_with (go_at_call 14; (with_reducible refine NA.out.mono ?_); rintro e w1 ⟨b1, rfl, t1, _, hb1⟩)
  have hb01 := Lib.hid (below_next BA.out hb1)
  have T1 := Lib.hid t1
  clear t1 hb1
  go_wp2_with (go_at_call 14; (with_reducible refine (NB.out _).mono ?_); rintro e w2 ⟨b2, rfl, t2, _, hb2⟩)
  have hba : Below w1.heap.size w1 (w1.alloc (.cells #[.int .i64 5, .int .i64 8] 49)) := (Below.refl _ _).alloc (Nat.le_refl _) _
  have hb12 := Lib.hid (below_next hba hb2)
  have T12 := Lib.hid (T1.out.below hb12.out)
  have T2 := Lib.hid t2
  have DF := Lib.hid (diff_one _ _ _ _ 5 6 w2 (.inr ⟨b1, rfl, T12.out⟩) (.inr ⟨b2, rfl, T2.out⟩) HD.out)
  have RA := Lib.hid (fun W (hb : Below w2.heap.size w2 W) => HX.out ▸ root20_any b1 _ W (T12.out.below hb))
  have RB := Lib.hid (fun W (hb : Below w2.heap.size w2 W) => HY.out ▸ root20_any b2 _ W (T2.out.below hb))
  have NU := Lib.hid (fun w3 => show Calls Try.prog 12 #[.agg #[.int .i64 0, .bool false]] w3 (Gives w3 (.int .u32 0)) from number20_any 0 false w3)
  clear t2 hb2 hba
  go_wp2_with (first | (go_at_call 24; (with_reducible refine DF.out.mono ?_); rintro e w3 ⟨g, off, c3, rfl, hg3, k0, k1, hb3⟩) | (go_at_call 20; (with_reducible refine (RA.out _ hb3).mono ?_); rintro e w4 ⟨rfl, rfl⟩) | (go_at_call 20; (with_reducible refine (RB.out _ hb3).mono ?_); rintro e w5 ⟨rfl, rfl⟩) | (go_at_call 12; (with_reducible refine (NU.out _).mono ?_); rintro e w6 ⟨rfl, hb6⟩) | fail)
  go_ret
  exact ⟨rfl, below_next hb01.out (below_next hb12.out (below_next hb3 hb6))⟩
set_option maxRecDepth 100000 in
theorem few20_any (a : Option Addr) (n c : Nat) (w : World) (hz : (n : Int) ≤ 9223372036854775807) : Calls Try.prog 10 #[.slice a n c] w fun e w' => e = .returned (.bool (decide (n ≤ 60))) ∧ w = w' := by
  go_enter Try.func10, Try.ntmps10
  go_wp2_with fail
  go_ret
  exact ⟨ret_bool (by simp; omega), rfl⟩
set_option maxRecDepth 100000 in
/-- A pair, read. -/
theorem prCells {H : Type} {enc : TypeId × Value → H} {w : World} {base : Nat} {spare : Nat → Bool} {held : Bool} (n : Nat) (cs : List Value) (y : DataW H × List MemPlace)
    (h : DataW.trod enc Try.prog w base spare held n 49 cs = some y) : ∃ q : Pr, cs = encP q := by
  have kI : Try.prog.cellsOf 3 = 1 := by kernel_rfl
  have kC : Try.prog.cellsOf 49 = 2 := by kernel_rfl
  obtain ⟨xs, m, _, _, hsz, hlen, hg⟩ := DataW.trod_struct Try.underlying49 h
  rw [kC] at hsz
  match cs, hsz with
  | [v0, v1], _ =>
    match xs, hlen with
    | [y0, y1], _ =>
      have g0 : DataW.trod enc Try.prog w base spare held m 3 [v0] = some y0 := by simpa [kI] using hg 0 _ rfl
      have g1 : DataW.trod enc Try.prog w base spare held m 3 [v1] = some y1 := by simpa [kI] using hg 1 _ rfl
      obtain ⟨x0, e0, _, _⟩ := DataW.trod_int Try.underlying3 g0
      obtain ⟨x1, e1, _, _⟩ := DataW.trod_int Try.underlying3 g1
      simp at e0 e1
      exact ⟨(x0, x1), by rw [e0, e1]; rfl⟩
theorem rarg_of {α : Type} [Inhabited α] (encA : α → List Value) (k : Nat) (hk : 0 < k) (hlen : ∀ x, (encA x).length = k) {H : Type} {enc : TypeId × Value → H} {w : World} {base : Nat} {spare : Nat → Bool} {held : Bool} {t e : TypeId} {fuel : Nat} {v : Value} {x : DataW H × List MemPlace}
    (ht : Try.prog.underlying t = some (.slice e)) (ce : Try.prog.cellsOf e = k)
    (hel : ∀ (n : Nat) (cs : List Value) (y : DataW H × List MemPlace), DataW.trod enc Try.prog w base spare held n e cs = some y → ∃ q : α, cs = encA q)
    (hf : DataW.trod enc Try.prog w base spare held fuel t [v] = some x) : ∃ (a : Option Addr) (n c : Nat) (l : List α), v = .slice a n c ∧ RArg encA k w a n c l := by
  rcases open_slice ht hf with ⟨hcs, _⟩ | ⟨x, len, c, m, n, D, Pl, hcs, _, hl, hm, hmm, _, hx⟩
  · exact ⟨none, 0, 0, [], by simpa using hcs, RArg.nil _ _ _⟩
  · have hlm : len ≤ m := by rw [hmm]; split <;> omega
    have each : ∀ i, i < len → ∃ q : α, w.cells? base (x.add (i * k)) k = some (encA q) := by
      intro i hi
      obtain ⟨cs', h1, h2⟩ := hx i (by omega)
      obtain ⟨q, rfl⟩ := hel _ _ _ h2
      rw [ce] at h1
      exact ⟨q, h1⟩
    obtain ⟨q, hq⟩ := choose_lt each
    have hlen' : ((List.range len).map q).length = len := by simp
    refine ⟨some x, len, c, (List.range len).map q, by simpa using hcs, hlen'.symm, by rw [hlen']; unfold maxLen at hm; omega, by rw [hlen']; exact hl, hm, fun j hj => ?_⟩
    rw [hlen'] at hj
    obtain ⟨b, off, spot⟩ := x
    obtain ⟨_, _, hc0⟩ := World.cells?_some (hq 0 (by omega))
    have e0 := (hc0 0 hk).trans (List.getElem?_eq_getElem (by rw [hlen]; exact hk))
    have hspot : spot = none := by simpa [Addr.add] using World.cell?_spot e0
    subst hspot
    obtain ⟨_, _, hc⟩ := World.cells?_some (hq j hj)
    have eq : ((List.range len).map q)[j]! = q j := by
      rw [getElem!_pos _ j (by rw [hlen']; exact hj)]
      simp
    rw [eq]
    have ej : ∀ i v, (encA (q j))[i]? = some v → w.cell? ⟨b, off + j * k + i, none⟩ = some v := fun i v hi => by
      have hik : i < k := by
        rcases Nat.lt_or_ge i (encA (q j)).length with h | h
        · rwa [hlen] at h
        · rw [List.getElem?_eq_none h] at hi; cases hi
      have := (hc i hik).trans hi
      rwa [addr_add, addr_add] at this
    refine ⟨b, off, rfl, World.block_lt_of_cell? w _ (ej 0 _ (List.getElem?_eq_getElem (by rw [hlen]; exact hk))), ej⟩

theorem prArg_of {H : Type} {enc : TypeId × Value → H} {w : World} {base : Nat} {spare : Nat → Bool} {held : Bool} {a : Option Addr} {len cap : Nat} {d : DataW H} {p : List MemPlace}
    (h : DataW.Trod enc Try.prog w base spare held 22 (.slice a len cap) d p) : ∃ l, RArg encP 2 w a len cap l := by
  obtain ⟨fuel, hf⟩ := h
  obtain ⟨a', n', c', l, e, hR⟩ := rarg_of encP 2 (by omega) encP_len Try.underlying22 (by kernel_rfl) prCells hf
  have e' : Value.slice a len cap = .slice a' n' c' := by simpa [Value.cells] using e
  cases e'
  exact ⟨l, hR⟩
end Go.Proofs.Ytjjadappjapjhaa
