/-
  BAGS, THE MAPS: block mb is a map of mails by their numbers; block ab is a set of pairs of addresses. Looking up, storing, striking, counting.
-/
import Derived.Test.YtbonokhldonciaaProg
import Derived.Maps.Own
import Derived.Maps.OwnSet
import Derived.Maps.OwnOps
import Derived.Maps.RangeWalk
import Derived.WideKeyArgs2
import Derived.DeepKeys4
import Derived.WalkKit
import Derived.ProofKit
namespace Go.Proofs.Ytbonokhldonciaa
open Go.RowKit Go.Maps Go.ChangeMaps Go.MapKept Go.WideMaps Go.WideElems

/-- A mail. -/
structure Ml where
  id : Int
  fr : Int
  to : Int
  tx : ByteArray
def Ml.dat (m : Ml) : DataW Unit := .agg [.lit (.int .i64 m.id), .lit (.int .i64 m.fr), .lit (.int .i64 m.to), .lit (.string m.tx.data.toList)]
/-- How a mail reads as an element of the map. -/
def rdM (v : Value) : Option (DataW Unit × List MemPlace) := match v with
  | .agg c => (match c.toList with
    | [.int .i64 a, .int .i64 b, .int .i64 d, .string s] => some (.agg [.lit (.int .i64 a), .lit (.int .i64 b), .lit (.int .i64 d), .lit (.string s.data.toList)], [])
    | _ => none)
  | _ => none
theorem rdM_mk (a b d : Int) (s : ByteArray) : rdM (.agg #[.int .i64 a, .int .i64 b, .int .i64 d, .string s]) = some (Ml.dat ⟨a, b, d, s⟩, []) := rfl
theorem ba_eq {s t : ByteArray} (h : s.data.toList = t.data.toList) : s = t := ByteArray.ext (Array.toList_inj.1 h)
theorem rdM_inv {v : Value} {y : DataW Unit × List MemPlace} (h : rdM v = some y) : ∃ m : Ml, v = .agg #[.int .i64 m.id, .int .i64 m.fr, .int .i64 m.to, .string m.tx] ∧ y = (m.dat, []) := by
  unfold rdM at h
  split at h
  · rename_i c
    split at h
    · rename_i a b d s hc
      cases h
      refine ⟨⟨a, b, d, s⟩, ?_, rfl⟩
      congr 1
      exact Array.toList_inj.1 hc
    · cases h
  · cases h
theorem dat_inj {m n : Ml} (h : m.dat = n.dat) : m = n := by
  unfold Ml.dat at h
  simp only [DataW.agg.injEq, List.cons.injEq, DataW.lit.injEq, Lit.int.injEq, Lit.string.injEq, true_and, and_true] at h
  obtain ⟨h1, h2, h3, h4⟩ := h
  cases m; cases n
  simp only at h1 h2 h3 h4
  rw [h1, h2, h3, ba_eq h4]
theorem wf_i64 {k : Int} (h1 : -9223372036854775808 ≤ k) (h2 : k ≤ 9223372036854775807) : (Lit.int .i64 k).wf = true := by
  have e1 : IntKind.i64.min = -9223372036854775808 := by decide
  have e2 : IntKind.i64.max = 9223372036854775807 := by decide
  simp [Lit.wf, e1, e2, h1, h2]
theorem isB_i64 {n : Int} (h : (Lit.int .i64 n).wf = true) : -9223372036854775808 ≤ n ∧ n ≤ 9223372036854775807 := by
  have e1 : IntKind.i64.min = -9223372036854775808 := by decide
  have e2 : IntKind.i64.max = 9223372036854775807 := by decide
  simp [Lit.wf, e1, e2] at h
  exact h
theorem kInt : Keyed Try.prog 3 := int_keyed Try.underlying3
theorem kOf {k : Int} (h : (Lit.int .i64 k).wf = true) : keyOf Try.prog 3 (.int .i64 k) = some (.int .i64 k) := keyOf_int_mk Try.underlying3 h
theorem zeroM (w : World) : (zeroValue 42).run Try.prog w = .ok (.agg #[.int .i64 0, .int .i64 0, .int .i64 0, .string ⟨#[]⟩]) w := by kernel_rfl
theorem isKeyI (k : Int) (h : (Lit.int .i64 k).wf = true) : WideAt.IsKeyLit (.int .i64 k) := kInt.key (kOf h)
def litM (o : Option Ml) (z : DataW Unit) : DataW Unit := match o with | some m => m.dat | none => z
def m0 : Ml := ⟨0, 0, 0, ⟨#[]⟩⟩
def Says (D : DataW Unit) (G : Int → Option Ml) : Prop := ∀ k : Int, (Lit.int .i64 k).wf = true → Maps.has D (.int .i64 k) = (G k).isSome ∧ ∀ z, D.atKey (.int .i64 k) z = litM (G k) z
/-- Block mb of w is a map of n mails: those that G tells. -/
def Mp (w : World) (mb : Nat) (G : Int → Option Ml) (n : Nat) : Prop := ∃ D : DataW Unit, w.ownsMap Try.prog 3 rdM mb (Maps.size D) D ∧ Maps.size D = n ∧ Says D G
theorem own_exact {w : World} {mb n : Nat} {D : DataW Unit} (h : w.ownsMap Try.prog 3 rdM mb n D) : w.ownsMap Try.prog 3 rdM mb (Maps.size D) D := by
  obtain ⟨es, clock, hb, F, hs, hD⟩ := h
  refine ⟨es, clock, hb, F, ?_, hD⟩
  rw [hD]
  simp [Maps.size, length_sorted]
theorem Mp.lt {w : World} {mb n : Nat} {G : Int → Option Ml} (h : Mp w mb G n) : mb < w.heap.size := by obtain ⟨D, h, _⟩ := h; exact h.lt
theorem Mp.same {w w' : World} {mb n : Nat} {G : Int → Option Ml} (h : Mp w mb G n) (e : w'.heap[mb]? = w.heap[mb]?) : Mp w' mb G n := by
  obtain ⟨D, ⟨es, clock, hb, F, hs, hD⟩, r⟩ := h
  exact ⟨D, ⟨es, clock, e.trans hb, F, hs, hD⟩, r⟩
def noG : Int → Option Ml := fun _ => none
def putG (G : Int → Option Ml) (k : Int) (o : Option Ml) : Int → Option Ml := fun j => if j = k then o else G j
theorem Mp.made (w : World) : Mp (w.alloc (.map #[] 0)) w.heap.size noG 0 := by
  refine ⟨.map [], (World.ownsMap_made w _ _ _).mono (Nat.zero_le _), rfl, fun k hk => ⟨rfl, fun z => rfl⟩⟩
theorem lit_ne {a b : Int} (h : a ≠ b) : (Lit.int .i64 a) ≠ (Lit.int .i64 b) := fun e => h (by cases e; rfl)
theorem says_put {D : DataW Unit} {G : Int → Option Ml} (hS : Says D G) (hM : IsMap D) {k : Int} (hw : (Lit.int .i64 k).wf = true) (m : Ml) : Says (D.put (.int .i64 k) m.dat) (putG G k (some m)) := by
  intro j hj
  unfold putG
  by_cases e : j = k
  · subst e
    rw [if_pos rfl]
    exact ⟨has_put_same hM (isKeyI _ hw) _, fun z => atKey_put_same hM (isKeyI _ hw) _ z⟩
  · rw [if_neg e, has_put_other (lit_ne e)]
    exact ⟨(hS j hj).1, fun z => by rw [atKey_put_other (lit_ne e)]; exact (hS j hj).2 z⟩
theorem says_del {D : DataW Unit} {G : Int → Option Ml} (hS : Says D G) (k : Int) : Says (D.del (.int .i64 k)) (putG G k none) := by
  intro j hj
  unfold putG
  by_cases e : j = k
  · subst e
    rw [if_pos rfl]
    exact ⟨has_del_same, fun z => atKey_del_same z⟩
  · rw [if_neg e, has_del_other (lit_ne e)]
    exact ⟨(hS j hj).1, fun z => by rw [atKey_del_other (lit_ne e)]; exact (hS j hj).2 z⟩
theorem Mp.look0 {w : World} {mb n : Nat} {G : Int → Option Ml} (h : Mp w mb G n) {k : Int} (hk : (Lit.int .i64 k).wf = true) (hg : G k = none) :
    (Instr.lookup 58 (.map (some mb)) (.int .i64 k) true).run Try.prog w = .ok (.tuple #[.agg #[.int .i64 0, .int .i64 0, .int .i64 0, .string ⟨#[]⟩], .bool false]) w := by
  obtain ⟨D, h1, h2, h3⟩ := h
  obtain ⟨v, ps, hrun, hv⟩ := h1.look_ok kInt Try.underlying58 (zeroM w) (rdM_mk 0 0 0 ⟨#[]⟩) (kOf hk)
  rw [(h3 k hk).1, hg] at hrun
  rw [(h3 k hk).2, hg] at hv
  obtain ⟨m, rfl, e⟩ := rdM_inv hv
  have e2 : m = m0 := dat_inj (congrArg Prod.fst e).symm
  rw [hrun, e2]
  rfl
theorem Mp.look {w : World} {mb n : Nat} {G : Int → Option Ml} (h : Mp w mb G n) {k : Int} (hk : (Lit.int .i64 k).wf = true) {m : Ml} (hg : G k = some m) :
    (Instr.lookup 58 (.map (some mb)) (.int .i64 k) true).run Try.prog w = .ok (.tuple #[.agg #[.int .i64 m.id, .int .i64 m.fr, .int .i64 m.to, .string m.tx], .bool true]) w := by
  obtain ⟨D, h1, h2, h3⟩ := h
  obtain ⟨v, ps, hrun, hv⟩ := h1.look_ok kInt Try.underlying58 (zeroM w) (rdM_mk 0 0 0 ⟨#[]⟩) (kOf hk)
  rw [(h3 k hk).1, hg] at hrun
  rw [(h3 k hk).2, hg] at hv
  obtain ⟨m', rfl, e⟩ := rdM_inv hv
  have e2 : m = m' := dat_inj (congrArg Prod.fst e)
  rw [hrun, e2]
  rfl
theorem Mp.store {w : World} {mb n : Nat} {G : Int → Option Ml} (h : Mp w mb G n) (hl : n ≤ 4096) {k : Int} (hw : (Lit.int .i64 k).wf = true) (hg : G k = none) (m : Ml) :
    ∃ w', (Instr.mapUpdate 58 (.map (some mb)) (.int .i64 k) (.agg #[.int .i64 m.id, .int .i64 m.fr, .int .i64 m.to, .string m.tx])).run Try.prog w = .ok () w' ∧ Mp w' mb (putG G k (some m)) (n + 1) ∧ w.mapTurned w' mb := by
  obtain ⟨D, h1, h2, h3⟩ := h
  obtain ⟨w', hrun, ho, ht⟩ := h1.store kInt Try.underlying58 (by rw [h2]; unfold maxLen; omega) (kOf hw) (rdM_mk m.id m.fr m.to m.tx)
  refine ⟨w', hrun, ⟨_, own_exact ho, ?_, says_put h3 h1.isMap hw m⟩, ht⟩
  have hs := Maps.size_put (k := .int .i64 k) (h1.tidy kInt) m.dat
  have hh := (h3 k hw).1
  rw [hg] at hh
  show Maps.size (D.put (.int .i64 k) m.dat) = n + 1
  rw [hs, hh, h2]
  rfl
theorem Mp.drop {w : World} {mb n : Nat} {G : Int → Option Ml} (h : Mp w mb G n) {k : Int} (hw : (Lit.int .i64 k).wf = true) {m : Ml} (hg : G k = some m) (ty : TypeId) :
    ∃ w', (Builtin.delete_ #[58, 3] ty #[.map (some mb), .int .i64 k]).run Try.prog w = .ok (.tuple #[]) w' ∧ Mp w' mb (putG G k none) (n - 1) ∧ w.mapTurned w' mb := by
  obtain ⟨D, h1, h2, h3⟩ := h
  obtain ⟨w', hrun, ho, ht⟩ := h1.drop kInt Try.underlying58 (kOf hw) ty
  refine ⟨w', hrun, ⟨_, own_exact ho, ?_, says_del h3 k⟩, ht⟩
  have hs := Maps.size_del (k := .int .i64 k) (h1.tidy kInt)
  have hh := (h3 k hw).1
  rw [hg] at hh
  rw [hh] at hs
  simp only [Option.isSome_some, if_true] at hs
  omega
theorem Mp.count {w : World} {mb n : Nat} {G : Int → Option Ml} (h : Mp w mb G n) (ty : TypeId) : (Builtin.len_ #[58] ty #[.map (some mb)]).run Try.prog w = .ok (.int .i64 (n : Int)) w := by
  obtain ⟨D, h1, h2, h3⟩ := h
  rw [h1.len Try.underlying58 ty, h2]
/-! The set of pairs. -/
theorem laidOutG : laidOutB Try.prog = true := by kernel_rfl
set_option maxRecDepth 100000 in
theorem rowLink : (82 : TypeId) < Try.prog.types.size := of_decide_eq_true (by kernel_rfl)
theorem wideLink : (match Try.prog.underlying 82 with | some (.array _ _) | some (.struct _) => true | _ => false) = true := by kernel_rfl
set_option maxRecDepth 100000 in
theorem kLinkLaw : KeyLaw Try.prog 82 := deep_law_laid laidOutG (m := 2) (by omega) rowLink (by kernel_rfl) wideLink
theorem kLink : Keyed Try.prog 82 := Keyed.of_law kLinkLaw
def kL (x y : Int) : Lit := .string (keyBytes [.int .i64 x, .int .i64 y])
theorem keyTypeLink : Try.prog.keyType 82 = true := by kernel_rfl
theorem cellsLink : Try.prog.cellsOf 82 = 2 := by kernel_rfl
theorem cellsInt : Try.prog.cellsOf 3 = 1 := by kernel_rfl
theorem litsInt (d : Nat) {x : Int} (hx : (Lit.int .i64 x).wf = true) : Try.prog.keyLits (d + 1) 3 [.int .i64 x] = some [.int .i64 x] := by
  simp [Program.keyLits, Try.underlying3, hx]
set_option maxRecDepth 100000 in
theorem kOfL {x y : Int} (hx : (Lit.int .i64 x).wf = true) (hy : (Lit.int .i64 y).wf = true) : keyOf Try.prog 82 (.agg #[.int .i64 x, .int .i64 y]) = some (kL x y) := by
  obtain ⟨d, hd⟩ : ∃ d, Try.prog.types.size = d + 1 := ⟨_, (Nat.succ_pred_eq_of_pos (Nat.lt_of_le_of_lt (Nat.zero_le _) rowLink)).symm⟩
  have hf : (Value.agg #[.int .i64 x, .int .i64 y]).formed Try.prog 82 = true := by simp [Value.formed, Try.underlying82, cellsLink]
  unfold keyOf
  rw [Try.underlying82]
  simp only [keyTypeLink, hf, Bool.and_self, if_true]
  rw [hd]
  unfold Program.keyLits
  rw [Try.underlying82]
  simp [Value.cells, cellsLink, cellsInt, litsInt d hx, litsInt d hy, kL]
def LSays (D : DataW Unit) (L : Int → Int → Bool) : Prop := ∀ x y : Int, (Lit.int .i64 x).wf = true → (Lit.int .i64 y).wf = true → Maps.has D (kL x y) = L x y
/-- Block ab of w is the set of the pairs that L tells; no more than c of them. -/
def Ap (w : World) (ab : Nat) (L : Int → Int → Bool) (c : Nat) : Prop := ∃ D : DataW Unit, w.ownsMap Try.prog 82 unitElem ab c D ∧ LSays D L
def noL : Int → Int → Bool := fun _ _ => false
def putL (L : Int → Int → Bool) (x y : Int) (v : Bool) : Int → Int → Bool := fun a b => if a = x ∧ b = y then v else L a b
theorem Ap.lt {w : World} {ab c : Nat} {L : Int → Int → Bool} (h : Ap w ab L c) : ab < w.heap.size := by obtain ⟨D, h, _⟩ := h; exact h.lt
theorem Ap.same {w w' : World} {ab c : Nat} {L : Int → Int → Bool} (h : Ap w ab L c) (e : w'.heap[ab]? = w.heap[ab]?) : Ap w' ab L c := by
  obtain ⟨D, ⟨es, clock, hb, F, hs, hD⟩, r⟩ := h
  exact ⟨D, ⟨es, clock, e.trans hb, F, hs, hD⟩, r⟩
theorem Ap.made (w : World) : Ap (w.alloc (.map #[] 0)) w.heap.size noL 0 := ⟨.map [], (World.ownsMap_made w _ _ _).mono (Nat.zero_le _), fun _ _ _ _ => rfl⟩
theorem kL_inj {x y a b : Int} (hx : (Lit.int .i64 x).wf = true) (hy : (Lit.int .i64 y).wf = true) (ha : (Lit.int .i64 a).wf = true) (hb : (Lit.int .i64 b).wf = true) (h : kL a b = kL x y) : a = x ∧ b = y := by
  have := kLink.inj (kOfL ha hb) (by rw [h]; exact kOfL hx hy)
  simpa using this
theorem zeroU (w : World) : (zeroValue 80).run Try.prog w = .ok (.agg #[]) w := by kernel_rfl
theorem Ap.look {w : World} {ab c : Nat} {L : Int → Int → Bool} (h : Ap w ab L c) {x y : Int} (hx : (Lit.int .i64 x).wf = true) (hy : (Lit.int .i64 y).wf = true) :
    (Instr.lookup 59 (.map (some ab)) (.agg #[.int .i64 x, .int .i64 y]) true).run Try.prog w = .ok (.tuple #[.agg #[], .bool (L x y)]) w := by
  obtain ⟨D, h1, h3⟩ := h
  obtain ⟨v, ps, hrun, hv⟩ := h1.look_ok kLink Try.underlying59 (zeroU w) unitElem_mk (kOfL hx hy)
  obtain ⟨rfl, _⟩ := unitElem_inv hv
  rw [hrun, h3 x y hx hy]
theorem Ap.store {w : World} {ab c : Nat} {L : Int → Int → Bool} (h : Ap w ab L c) (hc : c ≤ 4096) {x y : Int} (hx : (Lit.int .i64 x).wf = true) (hy : (Lit.int .i64 y).wf = true) :
    ∃ w', (Instr.mapUpdate 59 (.map (some ab)) (.agg #[.int .i64 x, .int .i64 y]) (.agg #[])).run Try.prog w = .ok () w' ∧ Ap w' ab (putL L x y true) (c + 1) ∧ w.mapTurned w' ab := by
  obtain ⟨D, h1, h3⟩ := h
  obtain ⟨w', hrun, ho, ht⟩ := h1.store kLink Try.underlying59 (by unfold maxLen; omega) (kOfL hx hy) unitElem_mk
  refine ⟨w', hrun, ⟨_, ho, fun a b ha hb => ?_⟩, ht⟩
  unfold putL
  by_cases e : a = x ∧ b = y
  · obtain ⟨rfl, rfl⟩ := e
    rw [if_pos ⟨rfl, rfl⟩]
    exact has_put_same h1.isMap (kLink.key (kOfL ha hb)) _
  · rw [if_neg e, has_put_other (fun q => e (kL_inj hx hy ha hb q))]
    exact h3 a b ha hb
theorem Ap.drop {w : World} {ab c : Nat} {L : Int → Int → Bool} (h : Ap w ab L c) {x y : Int} (hx : (Lit.int .i64 x).wf = true) (hy : (Lit.int .i64 y).wf = true) (ty : TypeId) :
    ∃ w', (Builtin.delete_ #[59, 82] ty #[.map (some ab), .agg #[.int .i64 x, .int .i64 y]]).run Try.prog w = .ok (.tuple #[]) w' ∧ Ap w' ab (putL L x y false) c ∧ w.mapTurned w' ab := by
  obtain ⟨D, h1, h3⟩ := h
  obtain ⟨w', hrun, ho, ht⟩ := h1.drop kLink Try.underlying59 (kOfL hx hy) ty
  refine ⟨w', hrun, ⟨_, ho, fun a b ha hb => ?_⟩, ht⟩
  unfold putL
  by_cases e : a = x ∧ b = y
  · obtain ⟨rfl, rfl⟩ := e
    rw [if_pos ⟨rfl, rfl⟩]
    exact has_del_same
  · rw [if_neg e, has_del_other (fun q => e (kL_inj hx hy ha hb q))]
    exact h3 a b ha hb
end Go.Proofs.Ytbonokhldonciaa
