/-
  MAPS FROM NUMBERS TO NUMBERS that the call made: looking up, storing.
-/
import Derived.Test.YthofoidafdbgcaaProg
import Derived.Maps.Own
import Derived.Maps.OwnSet
import Derived.Maps.OwnOps
import Derived.Maps.RangeWalk
import Derived.WideKeyArgs2
import Derived.DeepKeys4
import Derived.WalkKit
import Derived.ProofKit
namespace Go.Proofs.Ythofoidafdbgcaa
open Go.RowKit Go.Maps Go.ChangeMaps Go.MapKept Go.WideMaps Go.WideElems

def rdI (v : Value) : Option (DataW Unit × List MemPlace) := match v with
  | .int .i64 a => some (.lit (.int .i64 a), [])
  | _ => none
theorem rdI_mk (a : Int) : rdI (.int .i64 a) = some (.lit (.int .i64 a), []) := rfl
theorem rdI_inv {v : Value} {y : DataW Unit × List MemPlace} (h : rdI v = some y) : ∃ m : Int, v = .int .i64 m ∧ y = (.lit (.int .i64 m), []) := by
  unfold rdI at h
  split at h
  · cases h
    exact ⟨_, rfl, rfl⟩
  · cases h
theorem datI_inj {a b : Int} (h : (DataW.lit (.int .i64 a) : DataW Unit) = .lit (.int .i64 b)) : a = b := by
  simpa using h
theorem kIntI : Keyed Try.prog 3 := int_keyed Try.underlying3
theorem kOfI {k : Int} (h : (Lit.int .i64 k).wf = true) : keyOf Try.prog 3 (.int .i64 k) = some (.int .i64 k) := keyOf_int_mk Try.underlying3 h
theorem zeroI (w : World) : (zeroValue 3).run Try.prog w = .ok (.int .i64 0) w := by kernel_rfl
theorem isKeyII (k : Int) (h : (Lit.int .i64 k).wf = true) : WideAt.IsKeyLit (.int .i64 k) := kIntI.key (kOfI h)
def litI (o : Option Int) (z : DataW Unit) : DataW Unit := match o with | some m => .lit (.int .i64 m) | none => z
def SaysI (D : DataW Unit) (G : Int → Option Int) : Prop := ∀ k : Int, (Lit.int .i64 k).wf = true → Maps.has D (.int .i64 k) = (G k).isSome ∧ ∀ z, D.atKey (.int .i64 k) z = litI (G k) z
/-- Block mb of w is a map of at most n numbers: those that G tells. -/
def MpI (w : World) (mb : Nat) (G : Int → Option Int) (n : Nat) : Prop := ∃ D : DataW Unit, w.ownsMap Try.prog 3 rdI mb n D ∧ SaysI D G
theorem MpI.lt {w : World} {mb n : Nat} {G : Int → Option Int} (h : MpI w mb G n) : mb < w.heap.size := by obtain ⟨D, h, _⟩ := h; exact h.lt
theorem MpI.same {w w' : World} {mb n : Nat} {G : Int → Option Int} (h : MpI w mb G n) (e : w'.heap[mb]? = w.heap[mb]?) : MpI w' mb G n := by
  obtain ⟨D, ⟨es, clock, hb, F, hs, hD⟩, r⟩ := h
  exact ⟨D, ⟨es, clock, e.trans hb, F, hs, hD⟩, r⟩
theorem MpI.below {w w' : World} {mb n : Nat} {G : Int → Option Int} (h : MpI w mb G n) (hb : Below w.heap.size w w') : MpI w' mb G n := h.same (hb.block mb h.lt)
def noGI : Int → Option Int := fun _ => none
def putGI (G : Int → Option Int) (k : Int) (o : Option Int) : Int → Option Int := fun j => if j = k then o else G j
theorem MpI.made (w : World) : MpI (w.alloc (.map #[] 0)) w.heap.size noGI 0 := ⟨.map [], World.ownsMap_made w _ _ _, fun _ _ => ⟨rfl, fun _ => rfl⟩⟩
theorem litI_ne {a b : Int} (h : a ≠ b) : (Lit.int .i64 a) ≠ (Lit.int .i64 b) := fun e => h (by cases e; rfl)
theorem saysI_put {D : DataW Unit} {G : Int → Option Int} (hS : SaysI D G) (hM : IsMap D) {k : Int} (hw : (Lit.int .i64 k).wf = true) (m : Int) : SaysI (D.put (.int .i64 k) (.lit (.int .i64 m))) (putGI G k (some m)) := by
  intro j hj
  unfold putGI
  by_cases e : j = k
  · subst e
    rw [if_pos rfl]
    exact ⟨has_put_same hM (isKeyII _ hw) _, fun z => atKey_put_same hM (isKeyII _ hw) _ z⟩
  · rw [if_neg e, has_put_other (litI_ne e)]
    exact ⟨(hS j hj).1, fun z => by rw [atKey_put_other (litI_ne e)]; exact (hS j hj).2 z⟩
theorem MpI.look0 {w : World} {mb n : Nat} {G : Int → Option Int} (h : MpI w mb G n) {k : Int} (hk : (Lit.int .i64 k).wf = true) (hg : G k = none) :
    (Instr.lookup 88 (.map (some mb)) (.int .i64 k) true).run Try.prog w = .ok (.tuple #[.int .i64 0, .bool false]) w := by
  obtain ⟨D, h1, h3⟩ := h
  obtain ⟨v, ps, hrun, hv⟩ := h1.look_ok kIntI Try.underlying88 (zeroI w) (rdI_mk 0) (kOfI hk)
  rw [(h3 k hk).1, hg] at hrun
  rw [(h3 k hk).2, hg] at hv
  obtain ⟨m, rfl, e⟩ := rdI_inv hv
  have e2 : m = 0 := datI_inj (congrArg Prod.fst e).symm
  rw [hrun, e2]
  rfl
theorem MpI.look {w : World} {mb n : Nat} {G : Int → Option Int} (h : MpI w mb G n) {k : Int} (hk : (Lit.int .i64 k).wf = true) {m : Int} (hg : G k = some m) :
    (Instr.lookup 88 (.map (some mb)) (.int .i64 k) true).run Try.prog w = .ok (.tuple #[.int .i64 m, .bool true]) w := by
  obtain ⟨D, h1, h3⟩ := h
  obtain ⟨v, ps, hrun, hv⟩ := h1.look_ok kIntI Try.underlying88 (zeroI w) (rdI_mk 0) (kOfI hk)
  rw [(h3 k hk).1, hg] at hrun
  rw [(h3 k hk).2, hg] at hv
  obtain ⟨m', rfl, e⟩ := rdI_inv hv
  have e2 : m' = m := datI_inj (congrArg Prod.fst e).symm
  rw [hrun, e2]
  rfl
theorem MpI.store {w : World} {mb n : Nat} {G : Int → Option Int} (h : MpI w mb G n) (hl : n ≤ 1000000) {k : Int} (hw : (Lit.int .i64 k).wf = true) (m : Int) :
    ∃ w', (Instr.mapUpdate 88 (.map (some mb)) (.int .i64 k) (.int .i64 m)).run Try.prog w = .ok () w' ∧ MpI w' mb (putGI G k (some m)) (n + 1) ∧ w.mapTurned w' mb := by
  obtain ⟨D, h1, h3⟩ := h
  obtain ⟨w', hrun, ho, ht⟩ := h1.store kIntI Try.underlying88 (by unfold maxLen; omega) (kOfI hw) (rdI_mk m)
  exact ⟨w', hrun, ⟨_, ho, saysI_put h3 h1.isMap hw m⟩, ht⟩
end Go.Proofs.Ythofoidafdbgcaa
