/-
  SLABS, THE MAP: block mb is a map that has just the loose blocks, each with what it was given; looking up, storing, striking, clearing.
-/
import Derived.Test.YthcebcpippbhfaaProg
import Derived.Test.YthcebcpippbhfaaSlP
import Derived.Maps.Own
import Derived.Maps.OwnSet
import Derived.Maps.OwnOps
import Derived.Maps.RangeWalk
import Derived.WalkKit
import Derived.ProofKit
namespace Go.Proofs.Ythcebcpippbhfaa
open Go.RowKit Go.Maps Go.ChangeMaps Go.MapKept

/-- How an element of the map reads: a struct of one text. -/
def rdW (v : Value) : Option (DataW Unit × List MemPlace) := match v with
  | .agg c => (match c.toList with
    | [.string s] => some (.lit (.string s.data.toList), [])
    | _ => none)
  | _ => none
theorem rdW_mk (s : ByteArray) : rdW (.agg #[.string s]) = some (.lit (.string s.data.toList), []) := rfl
theorem rdW_inv {v : Value} {y : DataW Unit × List MemPlace} (h : rdW v = some y) : ∃ s : ByteArray, v = .agg #[.string s] ∧ y = (.lit (.string s.data.toList), []) := by
  unfold rdW at h
  split at h
  · rename_i c
    split at h
    · rename_i s hc
      cases h
      refine ⟨s, ?_, rfl⟩
      congr 1
      exact Array.toList_inj.1 hc
    · cases h
  · cases h
theorem ba_eq {s t : ByteArray} (h : s.data.toList = t.data.toList) : s = t := ByteArray.ext (Array.toList_inj.1 h)
theorem wf_i64 {k : Int} (h1 : -9223372036854775808 ≤ k) (h2 : k ≤ 9223372036854775807) : (Lit.int .i64 k).wf = true := by
  have e1 : IntKind.i64.min = -9223372036854775808 := by decide
  have e2 : IntKind.i64.max = 9223372036854775807 := by decide
  simp [Lit.wf, e1, e2, h1, h2]
theorem kInt : Keyed Try.prog 3 := int_keyed Try.underlying3
theorem kOf {k : Int} (h : (Lit.int .i64 k).wf = true) : keyOf Try.prog 3 (.int .i64 k) = some (.int .i64 k) := keyOf_int_mk Try.underlying3 h
theorem zeroW (w : World) : (zeroValue 75).run Try.prog w = .ok (.agg #[.string ⟨#[]⟩]) w := by kernel_rfl
theorem isKeyI (k : Int) (h : (Lit.int .i64 k).wf = true) : WideAt.IsKeyLit (.int .i64 k) := kInt.key (kOf h)
/-- What a key reads as. -/
def litW (o : Option ByteArray) (z : DataW Unit) : DataW Unit := match o with | some t => .lit (.string t.data.toList) | none => z
def litS : DataW Unit → List UInt8 | .lit (.string l) => l | _ => []
def Says (D : DataW Unit) (bs : List Bk) : Prop := ∀ k : Int, (Lit.int .i64 k).wf = true → Maps.has D (.int .i64 k) = (looseAt bs k).isSome ∧ ∀ z, D.atKey (.int .i64 k) z = litW (looseAt bs k) z
def cntL (bs : List Bk) : Nat := bs.countP fun x => x.2.isSome
/-- Block mb of w is a map that has just the loose blocks. -/
def Mp (w : World) (mb : Nat) (bs : List Bk) : Prop := ∃ D : DataW Unit, w.ownsMap Try.prog 3 rdW mb (Maps.size D) D ∧ Maps.size D = cntL bs ∧ Says D bs
theorem own_exact {w : World} {mb n : Nat} {D : DataW Unit} (h : w.ownsMap Try.prog 3 rdW mb n D) : w.ownsMap Try.prog 3 rdW mb (Maps.size D) D := by
  obtain ⟨es, clock, hb, F, hs, hD⟩ := h
  refine ⟨es, clock, hb, F, ?_, hD⟩
  rw [hD]
  simp [Maps.size, length_sorted]
theorem Mp.lt {w : World} {mb : Nat} {bs : List Bk} (h : Mp w mb bs) : mb < w.heap.size := by obtain ⟨D, h, _⟩ := h; exact h.lt
theorem Mp.isMap {w : World} {mb : Nat} {bs : List Bk} (h : Mp w mb bs) : ∃ es clock, w.heap[mb]? = some (.map es clock) := by obtain ⟨D, ⟨es, clock, hb, _⟩, _⟩ := h; exact ⟨es, clock, hb⟩
/-- The map stays while its own block does. -/
theorem Mp.same {w w' : World} {mb : Nat} {bs : List Bk} (h : Mp w mb bs) (e : w'.heap[mb]? = w.heap[mb]?) : Mp w' mb bs := by
  obtain ⟨D, ⟨es, clock, hb, F, hs, hD⟩, r⟩ := h
  exact ⟨D, ⟨es, clock, e.trans hb, F, hs, hD⟩, r⟩
/-- What is sure of a block is no matter to the map. -/
theorem Mp.congr {w : World} {mb : Nat} {bs bs' : List Bk} (h : Mp w mb bs) (e : ∀ k, looseAt bs' k = looseAt bs k) (ec : cntL bs' = cntL bs) : Mp w mb bs' := by
  obtain ⟨D, h1, h2, h3⟩ := h
  exact ⟨D, h1, h2.trans ec.symm, fun k hk => by rw [e k]; exact h3 k hk⟩
theorem looseAt_calm {bs : List Bk} (h : Calm bs) (k : Int) : looseAt bs k = none := h.at k
theorem cntL_calm {bs : List Bk} (h : Calm bs) : cntL bs = 0 := by
  unfold cntL
  rw [List.countP_eq_zero]
  intro x hx
  rw [h x hx]
  decide
theorem Mp.made (w : World) {bs : List Bk} (h : Calm bs) : Mp (w.alloc (.map #[] 0)) w.heap.size bs := by
  refine ⟨.map [], (World.ownsMap_made w _ _ _).mono (Nat.zero_le _), ?_, fun k hk => ?_⟩
  · rw [cntL_calm h]; rfl
  · rw [h.at k]; exact ⟨rfl, fun z => rfl⟩
theorem cntL_le (bs : List Bk) : cntL bs ≤ bs.length := List.countP_le_length
theorem cnt_set {bs : List Bk} {i : Nat} (hi : i < bs.length) (x : Bk) : cntL (bs.set i x) + (if bs[i].2.isSome then 1 else 0) = cntL bs + (if x.2.isSome then 1 else 0) := by
  unfold cntL
  have h1 : 0 < (if bs[i].2.isSome then 1 else 0) → 0 < bs.countP (fun x => x.2.isSome) := fun h => by
    rw [List.countP_pos_iff]
    exact ⟨bs[i], List.getElem_mem hi, by by_cases q : bs[i].2.isSome = true <;> simp_all⟩
  rw [List.countP_set hi]
  by_cases q : bs[i].2.isSome = true
  · rw [if_pos q] at *
    have := h1 (by omega)
    omega
  · rw [if_neg q] at *
    omega
theorem litW_ne {a b : Int} (h : a ≠ b) : (Lit.int .i64 a) ≠ (Lit.int .i64 b) := fun e => h (by cases e; rfl)
/-- A text is laid in. -/
theorem says_put {D : DataW Unit} {bs : List Bk} (hS : Says D bs) (hM : IsMap D) {i : Nat} (hi : i < bs.length) (hw : (Lit.int .i64 (i : Int)).wf = true) (a t : ByteArray) : Says (D.put (.int .i64 (i : Int)) (.lit (.string t.data.toList))) (bs.set i (a, some t)) := by
  intro k hk
  rw [looseAt_set bs i hi]
  by_cases e : k = (i : Int)
  · subst e
    rw [if_pos rfl]
    exact ⟨has_put_same hM (isKeyI _ hw) _, fun z => atKey_put_same hM (isKeyI _ hw) _ z⟩
  · rw [if_neg e, has_put_other (litW_ne e)]
    exact ⟨(hS k hk).1, fun z => by rw [atKey_put_other (litW_ne e)]; exact (hS k hk).2 z⟩
theorem says_del {D : DataW Unit} {bs : List Bk} (hS : Says D bs) {i : Nat} (hi : i < bs.length) (a : ByteArray) : Says (D.del (.int .i64 (i : Int))) (bs.set i (a, none)) := by
  intro k hk
  rw [looseAt_set bs i hi]
  by_cases e : k = (i : Int)
  · subst e
    rw [if_pos rfl]
    exact ⟨has_del_same, fun z => atKey_del_same z⟩
  · rw [if_neg e, has_del_other (litW_ne e)]
    exact ⟨(hS k hk).1, fun z => by rw [atKey_del_other (litW_ne e)]; exact (hS k hk).2 z⟩
theorem Mp.look {w : World} {mb : Nat} {bs : List Bk} (h : Mp w mb bs) {k : Int} (hk : (Lit.int .i64 k).wf = true) :
    (Instr.lookup 60 (.map (some mb)) (.int .i64 k) true).run Try.prog w = .ok (.tuple #[.agg #[.string ((looseAt bs k).getD ⟨#[]⟩)], .bool (looseAt bs k).isSome]) w := by
  obtain ⟨D, h1, h2, h3⟩ := h
  obtain ⟨v, ps, hrun, hv⟩ := h1.look_ok kInt Try.underlying60 (zeroW w) (rdW_mk ⟨#[]⟩) (kOf hk)
  rw [(h3 k hk).1] at hrun
  rw [(h3 k hk).2] at hv
  obtain ⟨s, rfl, e⟩ := rdW_inv hv
  rw [hrun]
  have e2 : litW (looseAt bs k) (.lit (.string [])) = .lit (.string s.data.toList) := congrArg Prod.fst e
  have : s = (looseAt bs k).getD ⟨#[]⟩ := by
    cases hl : looseAt bs k with
    | none =>
      rw [hl] at e2
      have e3 : ([] : List UInt8) = s.data.toList := congrArg litS e2
      exact ba_eq e3.symm
    | some t =>
      rw [hl] at e2
      have e3 : t.data.toList = s.data.toList := congrArg litS e2
      exact ba_eq e3.symm
  rw [this]
theorem Mp.store {w : World} {mb : Nat} {bs : List Bk} (h : Mp w mb bs) (hl : bs.length ≤ 4096) {i : Nat} (hi : i < bs.length) (t : ByteArray) :
    ∃ w', (Instr.mapUpdate 60 (.map (some mb)) (.int .i64 (i : Int)) (.agg #[.string t])).run Try.prog w = .ok () w' ∧ (∀ a, Mp w' mb (bs.set i (a, some t))) ∧ w.mapTurned w' mb := by
  have hw : (Lit.int .i64 (i : Int)).wf = true := wf_i64 (by omega) (by omega)
  obtain ⟨D, h1, h2, h3⟩ := h
  have hc := cntL_le bs
  obtain ⟨w', hrun, ho, ht⟩ := h1.store kInt Try.underlying60 (by unfold maxLen; omega) (kOf hw) (rdW_mk t)
  refine ⟨w', hrun, fun a => ⟨_, own_exact ho, ?_, says_put h3 h1.isMap hi hw a t⟩, ht⟩
  have hs := Maps.size_put (k := .int .i64 (i : Int)) (h1.tidy kInt) (.lit (.string t.data.toList))
  have hh := (h3 (i : Int) hw).1
  have hcs := cnt_set hi (a, some t)
  rw [looseAt_get hi] at hh
  rw [hs, hh]
  simp only [Option.isSome_some, if_true] at hcs
  by_cases q : bs[i].2.isSome = true
  · rw [if_pos q] at hcs ⊢; omega
  · rw [if_neg q] at hcs ⊢; omega
theorem Mp.drop {w : World} {mb : Nat} {bs : List Bk} (h : Mp w mb bs) {i : Nat} (hi : i < bs.length) (hl : bs.length ≤ 4096) (ty : TypeId) :
    ∃ w', (Builtin.delete_ #[60, 3] ty #[.map (some mb), .int .i64 (i : Int)]).run Try.prog w = .ok (.tuple #[]) w' ∧ (∀ a, Mp w' mb (bs.set i (a, none))) ∧ w.mapTurned w' mb := by
  have hw : (Lit.int .i64 (i : Int)).wf = true := wf_i64 (by omega) (by omega)
  obtain ⟨D, h1, h2, h3⟩ := h
  obtain ⟨w', hrun, ho, ht⟩ := h1.drop kInt Try.underlying60 (kOf hw) ty
  refine ⟨w', hrun, fun a => ⟨_, own_exact ho, ?_, says_del h3 hi a⟩, ht⟩
  have hs := Maps.size_del (k := .int .i64 (i : Int)) (h1.tidy kInt)
  have hh := (h3 (i : Int) hw).1
  have hcs := cnt_set hi (a, none)
  rw [looseAt_get hi] at hh
  rw [hh] at hs
  simp only [Option.isSome_none, Bool.false_eq_true, if_false] at hcs
  omega
theorem Mp.clear {w : World} {mb : Nat} {bs bs' : List Bk} (h : Mp w mb bs) (hc : Calm bs') (ty : TypeId) :
    ∃ w', (Builtin.clear_ #[60] ty #[.map (some mb)]).run Try.prog w = .ok (.tuple #[]) w' ∧ Mp w' mb bs' ∧ w.mapTurned w' mb := by
  obtain ⟨D, ⟨es, clock, hb, F, hs, hD⟩, _⟩ := h
  refine ⟨setBlock w mb (.map #[] clock), ?_, ⟨.map [], ⟨#[], clock, heap_setBlock_same hb _, ⟨by simp, stamped_empty clock, by simp⟩, Nat.le_refl _, rfl⟩, ?_, fun k hk => ?_⟩, ⟨es, clock, #[], clock, hb, rfl⟩⟩
  · simp [Builtin.clear_, run_underlying Try.underlying60, MapKept.run_getObj_map hb, MapKept.run_setObj_map _ hb, Result.andThen, setBlock]
  · rw [cntL_calm hc]; rfl
  · rw [hc.at k]; exact ⟨rfl, fun z => rfl⟩
end Go.Proofs.Ythcebcpippbhfaa
