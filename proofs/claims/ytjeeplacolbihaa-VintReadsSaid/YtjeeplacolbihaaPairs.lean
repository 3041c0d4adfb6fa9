/-
  A SLICE OF STRUCTS OF TWO INTEGERS that came in (splicelaw01.Read), opened to its cells; THE WALK of the law VintFirst.
-/
import Derived.Test.YtjeeplacolbihaaLawC
import Derived.Deep.SlicePairs
namespace Go.Proofs.Ytjeeplacolbihaa
open Go.RowKit Go.ChangeShapes Go.WideShapes Go.Deep

/-- What a walk is told of a slice of pairs of integers that came in. -/
def PairsArg (w : World) (a : Option Addr) (len : Nat) (ps : List (Int × Int)) : Prop :=
  ps.length = len ∧ (len : Int) ≤ 9223372036854775807 ∧ (∀ p ∈ ps, (-9223372036854775808 ≤ p.1 ∧ p.1 ≤ 9223372036854775807) ∧ (-9223372036854775808 ≤ p.2 ∧ p.2 ≤ 9223372036854775807)) ∧
  (ps = [] ∨ ∃ b off, a = some ⟨b, off, none⟩ ∧ b < w.heap.size ∧ ∀ k, k < ps.length →
    w.cell? ⟨b, off + k * 2, none⟩ = some (.int .i64 (ps.getD k (0, 0)).1) ∧ w.cell? ⟨b, off + k * 2 + 1, none⟩ = some (.int .i64 (ps.getD k (0, 0)).2))

theorem pairsArg_of {H : Type} {enc : TypeId × Value → H} {P : Program} {w : World} {base : Nat} {spare : Nat → Bool} {held : Bool} {t e ti : TypeId} {f0 f1 : Field} {a : Option Addr} {len cap : Nat} {d : DataW H} {p : List MemPlace}
    (ht : P.underlying t = some (.slice e)) (he : P.underlying e = some (.struct #[f0, f1])) (ce : P.cellsOf e = 2) (o0 : f0.offset = 0) (o1 : f1.offset = 1) (t0 : f0.type = ti) (t1 : f1.type = ti) (ci : P.cellsOf ti = 1) (hi : P.underlying ti = some (.int .i64))
    (h : DataW.Trod enc P w base spare held t (.slice a len cap) d p) : ∃ ps, PairsArg w a len ps := by
  obtain ⟨fuel, hf⟩ := h
  rcases open_slice_pairs ht he ce o0 o1 (by rw [t0]; exact ci) (by rw [t1]; exact ci) hf with ⟨hcs, _⟩ | ⟨x, l, c, m, n, V0, V1, D0, D1, P0, P1, hcs, _, hl, hm, hmm, _, hx⟩
  · simp [Value.cells] at hcs
    obtain ⟨rfl, rfl, rfl⟩ := hcs
    exact ⟨[], rfl, by simp, by simp, .inl rfl⟩
  · simp [Value.cells] at hcs
    obtain ⟨rfl, rfl, rfl⟩ := hcs
    have hlm : len ≤ m := by rw [hmm]; split <;> omega
    have each : ∀ i, i < len → ∃ q : Int × Int, w.cell? (x.add (i * 2)) = some (.int .i64 q.1) ∧ w.cell? (x.add (i * 2 + 1)) = some (.int .i64 q.2) ∧ (-9223372036854775808 ≤ q.1 ∧ q.1 ≤ 9223372036854775807) ∧ (-9223372036854775808 ≤ q.2 ∧ q.2 ≤ 9223372036854775807) := by
      intro i hi'
      obtain ⟨c1, c2, r1, r2⟩ := hx i (by omega)
      rw [t0] at r1
      rw [t1] at r2
      obtain ⟨y0, e0, _, w0⟩ := DataW.trod_int hi r1
      obtain ⟨y1, e1, _, w1⟩ := DataW.trod_int hi r2
      simp at e0 e1
      rw [e0] at c1
      rw [e1] at c2
      exact ⟨(y0, y1), c1, c2, bounds_i64 w0, bounds_i64 w1⟩
    let q : Nat → Int × Int := fun i => if h : i < len then Classical.choose (each i h) else (0, 0)
    have hq : ∀ i (h : i < len), w.cell? (x.add (i * 2)) = some (.int .i64 (q i).1) ∧ w.cell? (x.add (i * 2 + 1)) = some (.int .i64 (q i).2) ∧ (-9223372036854775808 ≤ (q i).1 ∧ (q i).1 ≤ 9223372036854775807) ∧ (-9223372036854775808 ≤ (q i).2 ∧ (q i).2 ≤ 9223372036854775807) := by
      intro i h
      have := Classical.choose_spec (each i h)
      simp only [q, dif_pos h]
      exact this
    refine ⟨(List.range len).map q, by simp, by unfold maxLen at hm; omega, ?_, ?_⟩
    · intro p hp
      obtain ⟨i, hi', rfl⟩ := List.mem_map.1 hp
      have := hq i (by simpa using hi')
      exact ⟨this.2.2.1, this.2.2.2⟩
    · by_cases h0 : len = 0
      · subst h0; exact .inl rfl
      · refine .inr ?_
        obtain ⟨b, off, spot⟩ := x
        have hc := (hq 0 (by omega)).1
        have hspot : spot = none := by simpa [Addr.add] using World.cell?_spot hc
        subst hspot
        refine ⟨b, off, rfl, World.block_lt_of_cell? w _ (by simpa [Addr.add] using hc), fun k hk => ?_⟩
        rw [List.length_map, List.length_range] at hk
        have h2 : ((List.range len).map q).getD k (0, 0) = q k := by simp [List.getD, hk]
        rw [h2]
        obtain ⟨c1, c2, _⟩ := hq k hk
        refine ⟨?_, ?_⟩
        · rw [← c1]
          by_cases hk0 : k = 0
          · subst hk0; simp [Addr.add]
          · have : ¬ k * 2 = 0 := by omega
            simp [Addr.add, this]
        · rw [← c2]; simp [Addr.add, Nat.add_assoc]

theorem readsArg_of {H : Type} {enc : TypeId × Value → H} {w : World} {base : Nat} {spare : Nat → Bool} {held : Bool} {a : Option Addr} {len cap : Nat} {d : DataW H} {p : List MemPlace}
    (h : DataW.Trod enc Try.prog w base spare held 30 (.slice a len cap) d p) : ∃ ps, PairsArg w a len ps :=
  pairsArg_of Try.underlying30 Try.underlying36 (by kernel_rfl) rfl rfl rfl rfl (by kernel_rfl) Try.underlying3 h

/-- How far the reader of block g still is from its error. -/
def farOf (w : World) (g : Nat) : Nat :=
  match w.cell? ⟨g, 1, none⟩, w.cell? ⟨g, 0, none⟩ with
  | some (.int _ e), some (.string s) => if e = 0 then s.size + 1 else 0
  | _, _ => 0
theorem farOf_rd {w : World} {g : Nat} {s : ByteArray} {e : Int} (h : Rd w g s e) : farOf w g = if e = 0 then s.size + 1 else 0 := by
  unfold farOf; rw [h.cell0, h.cell1]
/-- Behind an error nothing is left. -/
def Spent (s : ByteArray) (e : Int) : Prop := e = 0 ∨ (e ≠ 0 ∧ s = ByteArray.empty)
theorem spent_rNum {s : ByteArray} : Spent (rNum s 0).2.1 (rNum s 0).2.2 := by
  cases hr : scanN 0 s.data.toList with
  | error k =>
    rw [rNum_bad rfl hr]
    right
    refine ⟨?_, rfl⟩
    rcases scanN_err _ _ _ hr with rfl | rfl <;> decide
  | ok p => rw [rNum_good rfl hr]; exact .inl rfl
theorem rNum_empty : rNum ByteArray.empty 0 = (0, ByteArray.empty, 5) := rNum_bad rfl rfl
section
variable {e : Int} (he : e ≠ 0)
include he
theorem spent_num : rNum ByteArray.empty e = (0, ByteArray.empty, e) := rNum_err he
theorem spent_whole : rWhole ByteArray.empty e = (0, ByteArray.empty, e) := by unfold rWhole; rw [spent_num he]; rfl
theorem spent_flag : rFlag ByteArray.empty e = (false, ByteArray.empty, e) := by unfold rFlag; rw [if_neg he]
theorem spent_len (m : Int) : rLen ByteArray.empty e m = (0, ByteArray.empty, e) := by unfold rLen; rw [spent_num he, if_neg (fun h => he h.1)]
theorem spent_text (m : Int) : rText ByteArray.empty e m = (ByteArray.empty, ByteArray.empty, e) := by unfold rText; rw [spent_len he]; dsimp only; rw [if_neg he]
theorem spent_list (m : Int) : rList ByteArray.empty e m = ([], ByteArray.empty, e) := by unfold rList; rw [spent_len he]; rfl
theorem spent_end : rEnd ByteArray.empty e = e := by unfold rEnd; rw [if_neg he]
end
end Go.Proofs.Ytjeeplacolbihaa
