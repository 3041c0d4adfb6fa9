/-
  ARGUMENTS: rows of changes, a walk, a chart. PLAIN: the charts of a walk.
-/
import Derived.Test.YtihpojllalnmcaaChH
import Derived.Deep.Slices
import Derived.Deep.Strs
import Derived.Lib.SmallJoins
namespace Go.Proofs.Ytihpojllalnmcaa
open Go.RowKit Go.Shelf Go.ChangeShapes Go.WideShapes Go.Deep Go.ChangeAt

theorem rarg_of {α : Type} [Inhabited α] (encA : α → List Value) (k : Nat) (hk : 0 < k) (hlen : ∀ x, (encA x).length = k) {H : Type} {enc : TypeId × Value → H} {w : World} {base : Nat} {spare : Nat → Bool} {held : Bool} {t e : TypeId} {fuel : Nat} {v : Value} {x : DataW H × List MemPlace}
    (ht : Try.prog.underlying t = some (.slice e)) (ce : Try.prog.cellsOf e = k)
    (hel : ∀ (n : Nat) (cs : List Value) (y : DataW H × List MemPlace), DataW.trod enc Try.prog w base spare held n e cs = some y → ∃ q : α, cs = encA q)
    (hf : DataW.trod enc Try.prog w base spare held fuel t [v] = some x) : ∃ (a : Option Addr) (n c : Nat) (l : List α), v = .slice a n c ∧ RArg encA k w a n c l := by
  rcases open_slice ht hf with ⟨hcs, _⟩ | ⟨x, len, c, m, n, D, Pl, hcs, _, hl, hm, hmm, _, hx⟩
  · exact ⟨none, 0, 0, [], by simpa using hcs, RArg.nil _ _ _⟩
  · have hlm : len ≤ m := by rw [hmm]; split <;> omega
    have each : ∀ i, i < len → ∃ q : α, w.cells? base (x.add (i * k)) k = some (encA q) := by
      intro i hi
      obtain ⟨cs', h1, h2⟩ := hx i (by omega)
      obtain ⟨q, rfl⟩ := hel _ _ _ h2
      rw [ce] at h1
      exact ⟨q, h1⟩
    obtain ⟨q, hq⟩ := choose_lt each
    have hlen' : ((List.range len).map q).length = len := by simp
    refine ⟨some x, len, c, (List.range len).map q, by simpa using hcs, hlen'.symm, by rw [hlen']; unfold maxLen at hm; omega, by rw [hlen']; exact hl, hm, fun j hj => ?_⟩
    rw [hlen'] at hj
    obtain ⟨b, off, spot⟩ := x
    obtain ⟨_, _, hc0⟩ := World.cells?_some (hq 0 (by omega))
    have e0 := (hc0 0 hk).trans (List.getElem?_eq_getElem (by rw [hlen]; exact hk))
    have hspot : spot = none := by simpa [Addr.add] using World.cell?_spot e0
    subst hspot
    obtain ⟨_, _, hc⟩ := World.cells?_some (hq j hj)
    have eq : ((List.range len).map q)[j]! = q j := by
      rw [getElem!_pos _ j (by rw [hlen']; exact hj)]
      simp
    rw [eq]
    have ej : ∀ i v, (encA (q j))[i]? = some v → w.cell? ⟨b, off + j * k + i, none⟩ = some v := fun i v hi => by
      have hik : i < k := by
        rcases Nat.lt_or_ge i (encA (q j)).length with h | h
        · rwa [hlen] at h
        · rw [List.getElem?_eq_none h] at hi; cases hi
      have := (hc i hik).trans hi
      rwa [addr_add, addr_add] at this
    refine ⟨b, off, rfl, World.block_lt_of_cell? w _ (ej 0 _ (List.getElem?_eq_getElem (by rw [hlen]; exact hk))), ej⟩

set_option maxRecDepth 100000 in
/-- A change, read. -/
theorem chgCells {H : Type} {enc : TypeId × Value → H} {w : World} {base : Nat} {spare : Nat → Bool} {held : Bool} (n : Nat) (cs : List Value) (y : DataW H × List MemPlace)
    (h : DataW.trod enc Try.prog w base spare held n 33 cs = some y) : ∃ q : Gd, cs = encG q := by
  have kI : Try.prog.cellsOf 3 = 1 := by kernel_rfl
  have kC : Try.prog.cellsOf 33 = 3 := by kernel_rfl
  obtain ⟨y0, y1, y2, m, _, hl, g0, g1, g2⟩ := trod_struct3 Try.underlying33 h
  rw [kC] at hl
  match cs, hl with
  | [v0, v1, v2], _ =>
    have r0 : DataW.trod enc Try.prog w base spare held m 3 [v0] = some y0 := by simpa [kI] using g0
    have r1 : DataW.trod enc Try.prog w base spare held m 3 [v1] = some y1 := by simpa [kI] using g1
    have r2 : DataW.trod enc Try.prog w base spare held m 3 [v2] = some y2 := by simpa [kI] using g2
    obtain ⟨x0, e0, _, _⟩ := DataW.trod_int Try.underlying3 r0
    obtain ⟨x1, e1, _, _⟩ := DataW.trod_int Try.underlying3 r1
    obtain ⟨x2, e2, _, _⟩ := DataW.trod_int Try.underlying3 r2
    simp at e0 e1 e2
    exact ⟨(x0, x1, x2), by rw [e0, e1, e2]; rfl⟩
set_option maxRecDepth 100000 in
/-- A shard, read. -/
theorem sdCells {H : Type} {enc : TypeId × Value → H} {w : World} {base : Nat} {spare : Nat → Bool} {held : Bool} (n : Nat) (cs : List Value) (y : DataW H × List MemPlace)
    (h : DataW.trod enc Try.prog w base spare held n 61 cs = some y) : ∃ q : Sd, cs = encS q := by
  have kI : Try.prog.cellsOf 3 = 1 := by kernel_rfl
  have kP : Try.prog.cellsOf 59 = 2 := by kernel_rfl
  have kC : Try.prog.cellsOf 61 = 4 := by kernel_rfl
  obtain ⟨y0, y1, y2, m, _, hl, g0, g1, g2⟩ := trod_struct3 Try.underlying61 h
  rw [kC] at hl
  match cs, hl with
  | [v0, v1, v2, v3], _ =>
    have r0 : DataW.trod enc Try.prog w base spare held m 3 [v0] = some y0 := by simpa [kI] using g0
    have r1 : DataW.trod enc Try.prog w base spare held m 59 [v1, v2] = some y1 := by simpa [kP] using g1
    have r2 : DataW.trod enc Try.prog w base spare held m 3 [v3] = some y2 := by simpa [kI] using g2
    obtain ⟨z0, z1, m', _, _, q0, q1⟩ := trod_struct2 Try.underlying59 r1
    have s0 : DataW.trod enc Try.prog w base spare held m' 3 [v1] = some z0 := by simpa [kI] using q0
    have s1 : DataW.trod enc Try.prog w base spare held m' 3 [v2] = some z1 := by simpa [kI] using q1
    obtain ⟨x0, e0, _, _⟩ := DataW.trod_int Try.underlying3 r0
    obtain ⟨x1, e1, _, _⟩ := DataW.trod_int Try.underlying3 s0
    obtain ⟨x2, e2, _, _⟩ := DataW.trod_int Try.underlying3 s1
    obtain ⟨x3, e3, _, _⟩ := DataW.trod_int Try.underlying3 r2
    simp at e0 e1 e2 e3
    exact ⟨(x0, x1, x2, x3), by rw [e0, e1, e2, e3]; rfl⟩
set_option maxRecDepth 100000 in
theorem chartVal_of {H : Type} {enc : TypeId × Value → H} {w : World} {r : Reach} {b0 base : Nat} {spare : Nat → Bool} {held : Bool} {v : Value} {d : DataW H} {p : List MemPlace}
    (hv : Value.okWide Try.prog w r b0 24 v) (h : DataW.Trod enc Try.prog w base spare held 24 v d p) :
    ∃ (ep nx : Int) (a : Option Addr) (n c : Nat) (l : List Sd), RArg encS 4 w a n c l ∧ v = .agg #[.int .i64 ep, .int .i64 nx, .slice a n c] := by
  obtain ⟨v0, v1, v2, y0, y1, y2, n, rfl, _, _, r0, r1, r2⟩ := Go.Joins.open_agg3 Try.underlying24 (by kernel_rfl) (by kernel_rfl) hv h
  obtain ⟨ep, e0, _, _⟩ := DataW.trod_int Try.underlying3 r0
  obtain ⟨nx, e1, _, _⟩ := DataW.trod_int Try.underlying3 r1
  obtain ⟨a, nn, c, l, e2, hR⟩ := rarg_of encS 4 (by omega) encS_len Try.underlying22 (by kernel_rfl) sdCells r2
  simp at e0 e1
  rw [e0, e1, e2]
  exact ⟨ep, nx, a, nn, c, l, hR, rfl⟩

/-! The charts of a walk. -/
def hasK (key : Int) (s : Sd) : Bool := decide (s.2.1 ≤ key) && decide (key < s.2.2.1)
def cntK (key : Int) (l : List Sd) : Nat := (l.filter (hasK key)).length
theorem covF_cnt (key : Int) (hk : key < 4096) : ∀ (l : List Sd) (e : Int), covF e l = true → e ≤ 4096 ∧ cntK key l = if e ≤ key then 1 else 0
  | [], e, h => by
    have he : e = 4096 := by simpa [covF] using h
    subst he
    refine ⟨Int.le_refl _, ?_⟩
    rw [if_neg (by omega)]
    rfl
  | s :: t, e, h => by
    unfold covF at h
    rw [Bool.and_eq_true, Bool.and_eq_true, decide_eq_true_iff, oneB_iff] at h
    obtain ⟨⟨h1, h2⟩, h3⟩ := h
    dsimp only at h2
    obtain ⟨_, ih⟩ := covF_cnt key hk t _ h3
    refine ⟨by omega, ?_⟩
    unfold cntK at ih ⊢
    rw [List.filter_cons]
    have hh : hasK key s = true ↔ s.2.1 ≤ key ∧ key < s.2.2.1 := by unfold hasK; rw [Bool.and_eq_true, decide_eq_true_iff, decide_eq_true_iff]
    by_cases hb : hasK key s = true
    · rw [if_pos hb, List.length_cons, ih, if_neg (by have := hh.1 hb; omega), if_pos (by have := hh.1 hb; omega)]
    · rw [if_neg hb, ih]
      have : ¬ (s.2.1 ≤ key ∧ key < s.2.2.1) := fun q => hb (hh.2 q)
      by_cases h5 : s.2.2.1 ≤ key
      · rw [if_pos h5, if_pos (by omega)]
      · rw [if_neg h5, if_neg (by omega)]
theorem chkC_cnt {ep nx key : Int} {l : List Sd} (h : chkC ep nx l = true) (h0 : 0 ≤ key) (h1 : key < 4096) : cntK key l = 1 := by
  have := (covF_cnt key h1 l 0 (chkC_parts h).2.2.2.1).2
  rwa [if_pos h0] at this
theorem startChecks : ((List.range 5).all fun a => (List.range 8).all fun b => chkC 1 ((b : Int) + 2) (firstL ((a : Int) + 1) (b + 1))) = true := by kernel_rfl
theorem start_chk (nodes shards : Int) : chkC (startC nodes shards).ep (startC nodes shards).nx (startC nodes shards).l = true := by
  obtain ⟨m1, m2⟩ := modP_bd 5 nodes (by omega)
  obtain ⟨m3, m4⟩ := modP_bd 8 shards (by omega)
  unfold startC
  generalize modP 5 nodes = x at m1 m2
  generalize modP 8 shards = y at m3 m4
  obtain ⟨a, rfl⟩ : ∃ a : Nat, x = (a : Int) + 1 := ⟨(x - 1).toNat, by omega⟩
  obtain ⟨b, rfl⟩ : ∃ b : Nat, y = (b : Int) + 1 := ⟨(y - 1).toNat, by omega⟩
  have := List.all_eq_true.1 (List.all_eq_true.1 startChecks a (List.mem_range.2 (by omega))) b (List.mem_range.2 (by omega))
  have e1 : ((b : Int) + 1).toNat = b + 1 := by omega
  have e2 : (b : Int) + 1 + 1 = (b : Int) + 2 := by omega
  dsimp only
  rw [e1, e2]
  exact this
theorem stepC_chk {c d : Cd} {x : Gd} (h : stepC c x = some d) : chkC d.ep d.nx d.l = true ∧ d.ep = c.ep + 1 := by
  unfold stepC at h
  split at h
  · rename_i he
    injection h with h
    subst h
    revert he
    unfold appC
    split
    · intro he; cases he
    · split
      · intro he; cases he
      · split
        · intro he; cases he
        · unfold goodM
          dsimp only
          split
          · rename_i hc
            intro _
            exact ⟨hc, rfl⟩
          · intro he; cases he
  · cases h
theorem past_chk : ∀ (t : List Gd) (c : Cd), chkC c.ep c.nx c.l = true → ∀ (j : Nat) (d : Cd), (c :: pastL c t)[j]? = some d → chkC d.ep d.nx d.l = true ∧ d.ep = c.ep + (j : Int)
  | t, c, h, 0, d, hj => by
    injection hj with hj
    subst hj
    exact ⟨h, by simp⟩
  | [], c, h, j + 1, d, hj => by cases hj
  | x :: t, c, h, j + 1, d, hj => by
    rw [List.getElem?_cons_succ] at hj
    unfold pastL at hj
    cases hs : stepC c x with
    | none =>
      rw [hs] at hj
      exact past_chk t c h (j + 1) d (by rw [List.getElem?_cons_succ]; exact hj)
    | some c2 =>
      rw [hs] at hj
      obtain ⟨h1, h2⟩ := stepC_chk hs
      obtain ⟨h3, h4⟩ := past_chk t c2 h1 j d hj
      exact ⟨h3, by rw [h4, h2]; push_cast; omega⟩
theorem walk_chk (nodes shards : Int) (t : List Gd) (j : Nat) (d : Cd) (h : (walkL nodes shards t)[j]? = some d) : chkC d.ep d.nx d.l = true ∧ d.ep = (j : Int) + 1 := by
  obtain ⟨h1, h2⟩ := past_chk t (startC nodes shards) (start_chk nodes shards) j d h
  exact ⟨h1, by rw [h2]; show (1 : Int) + j = j + 1; omega⟩
/-- The cells of the j-th chart of a row. -/
theorem RIn.chart {w : World} {B : Nat} {a : Option Addr} {l : List Cr} (h : RIn encK 3 w B a l) (j : Nat) (hj : j < l.length) :
    ∃ b off, a = some ⟨b, off, none⟩ ∧ b < B ∧ w.cell? ⟨b, off + j * 3, none⟩ = some (.int .i64 l[j]!.ep) ∧ w.cell? ⟨b, off + j * 3 + 1, none⟩ = some (.int .i64 l[j]!.nx) ∧ w.cell? ⟨b, off + j * 3 + 2, none⟩ = some (.slice l[j]!.a l[j]!.n l[j]!.c) := by
  obtain ⟨b, off, e, hb, hc⟩ := h j hj
  exact ⟨b, off, e, hb, hc 0 _ rfl, hc 1 _ rfl, hc 2 _ rfl⟩
end Go.Proofs.Ytihpojllalnmcaa
