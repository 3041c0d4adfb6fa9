/-
  SLABS, PLAIN: block by block: what a loss of power leaves, what is read; slices of texts that came in; rows of whole numbers of the call's own.
-/
import Derived.Test.YthcebcpippbhfaaSlI
namespace Go.Proofs.Ythcebcpippbhfaa
open Go.RowKit Go.Maps Go.ChangeMaps Go.ChangeShapes Go.WideShapes

def atB (bs : List Bk) (k : Nat) : Bk := bs.getD k bk0
theorem atB_set (bs : List Bk) (i k : Nat) (x : Bk) : atB (bs.set i x) k = if i = k ∧ i < bs.length then x else atB bs k := getD_set bs i k x bk0
theorem atB_out {bs : List Bk} {k : Nat} (h : bs.length ≤ k) : atB bs k = bk0 := by unfold atB; rw [List.getD_eq_getElem?_getD, List.getElem?_eq_none h]; rfl
theorem atB_in {bs : List Bk} {k : Nat} (h : k < bs.length) : atB bs k = bs[k] := by unfold atB; rw [List.getD_eq_getElem?_getD, List.getElem?_eq_getElem h]; rfl
theorem looseAt_atB (bs : List Bk) (k : Nat) : looseAt bs (k : Int) = (atB bs k).2 := looseAt_getD bs k
theorem whole_text (t : ByteArray) : t.extract 0 t.size = t := by
  apply ba_eq
  simp
/-- A block, settled. -/
def setlB (x : Bk) (most : Int) : Bk := match x.2 with | some t => (t.extract 0 (cutN most t.size), none) | none => x
theorem settle_at (bs : List Bk) (z most : Int) (k : Nat) : atB (settleP bs z most) k = if (k : Int) = z then setlB (atB bs k) most else atB bs k := by
  cases e : looseAt bs z with
  | none =>
    rw [settleP_none e]
    split
    · rename_i h
      rw [← h, looseAt_atB] at e
      unfold setlB
      rw [e]
    · rfl
  | some t =>
    rw [settleP_some e]
    obtain ⟨i, rfl, hi, e2⟩ := looseAt_some e
    have hn : ((i : Int)).toNat = i := by omega
    rw [hn, atB_set]
    by_cases h : i = k
    · subst h
      rw [if_pos ⟨rfl, hi⟩, if_pos rfl]
      rw [looseAt_atB] at e
      unfold setlB
      rw [e]
    · rw [if_neg (fun q => h q.1), if_neg (by omega)]
theorem setlB_all {x : Bk} (h : ∀ t, x.2 = some t → t.size ≤ 256) : setlB x 256 = match x.2 with | some t => (t, none) | none => x := by
  unfold setlB
  cases e : x.2 with
  | none => rfl
  | some t =>
    dsimp only
    rw [cutN_all (by have := h t e; omega), whole_text]
def keepB (x : Bk) (b : Bool) : Bk := match x.2 with | some t => if b then (t, none) else x | none => x
theorem keepB_idem (x : Bk) (b c : Bool) : keepB (keepB x b) c = keepB x (b || c) := by
  obtain ⟨a, o⟩ := x
  cases o <;> cases b <;> cases c <;> rfl
theorem Fits.atB {bs : List Bk} (h : Fits bs) (k : Nat) : (atB bs k).1.size ≤ 256 ∧ ∀ t, (atB bs k).2 = some t → t.size ≤ 256 := h.getD k
theorem keep_at (zs : List Int) : ∀ {bs : List Bk}, Fits bs → ∀ k : Nat, atB (keepP bs zs) k = keepB (atB bs k) (zs.contains (k : Int)) := by
  induction zs with
  | nil =>
    intro bs _ k
    show atB bs k = keepB (atB bs k) false
    unfold keepB
    split <;> simp
  | cons z r ih =>
    intro bs hf k
    show atB (keepP (settleP bs z 256) r) k = _
    rw [ih (hf.settle z 256), settle_at]
    by_cases e : (k : Int) = z
    · subst e
      rw [if_pos rfl, setlB_all (fun t ht => (hf.atB k).2 t ht)]
      have : (((k : Int) :: r).contains (k : Int)) = true := by simp
      rw [this]
      have e2 : (match (atB bs k).2 with | some t => (t, none) | none => atB bs k) = keepB (atB bs k) true := by
        unfold keepB
        cases (atB bs k).2 <;> rfl
      rw [e2, keepB_idem]
      simp
    · rw [if_neg e]
      have : ((z :: r).contains (k : Int)) = r.contains (k : Int) := by simp [e]
      rw [this]
theorem drop_at (bs : List Bk) (k : Nat) : atB (dropP bs) k = ((atB bs k).1, none) := by
  by_cases h : k < bs.length
  · rw [atB_in (by rw [dropP_length]; exact h), atB_in h]
    simp [dropP]
  · rw [atB_out (by rw [dropP_length]; omega), atB_out (by omega)]
    rfl
/-- What a loss of power leaves of a block. -/
def leftB (x : Bk) (kept torn : Bool) (at_ : Int) : ByteArray :=
  match x.2 with
  | some t => if kept then t else if torn then t.extract 0 (cutN at_ t.size) else x.1
  | none => x.1
theorem fail_at {bs : List Bk} (hf : Fits bs) (zs : List Int) (torn at_ : Int) (k : Nat) : atB (failP bs zs torn at_) k = (leftB (atB bs k) (zs.contains (k : Int)) (decide ((k : Int) = torn)) at_, none) := by
  unfold failP
  rw [drop_at, settle_at, keep_at zs hf]
  generalize atB bs k = x
  obtain ⟨a, o⟩ := x
  unfold leftB setlB keepB
  cases o with
  | none => simp
  | some t =>
    cases zs.contains (k : Int)
    · by_cases e : (k : Int) = torn
      · simp [e]
      · simp [e]
    · by_cases e : (k : Int) = torn
      · simp [e]
      · simp [e]
theorem flush_at (bs : List Bk) (k : Nat) : atB (flushP bs) k = ((atB bs k).2.getD (atB bs k).1, none) := by
  by_cases h : k < bs.length
  · rw [atB_in (by rw [flushP_length]; exact h), atB_in h]
    simp [flushP]
  · rw [atB_out (by rw [flushP_length]; omega), atB_out (by omega)]
    rfl
theorem give_at {bs : List Bk} {i : Nat} (hi : i < bs.length) (t : ByteArray) (k : Nat) : atB (giveP bs i t) k = if k = i then ((atB bs i).1, some t) else atB bs k := by
  unfold giveP
  rw [atB_set]
  by_cases e : i = k
  · subst e; rw [if_pos ⟨rfl, hi⟩, if_pos rfl]; rfl
  · rw [if_neg (fun q => e q.1), if_neg (fun q => e q.symm)]
theorem new_at (n k : Nat) : atB (List.replicate n bk0) k = bk0 := by
  unfold atB
  rw [List.getD_eq_getElem?_getD, List.getElem?_replicate]
  split <;> rfl
/-- What is read of a block. -/
def seeB (x : Bk) : ByteArray := x.2.getD x.1
theorem read_at {s : St} (hd : s.down = false) {k : Nat} (hk : k < s.bs.length) : readS s (k : Int) = (seeB (atB s.bs k), 0) := by
  unfold readS
  rw [if_neg (by rw [hd]; decide), if_neg (by rw [insideB_iff.2 ⟨k, rfl, hk⟩]; decide), looseAt_atB]
  have : ((k : Int)).toNat = k := by omega
  rw [this]
  rfl
theorem all8_at {s : St} (hd : s.down = false) (hl : 8 ≤ s.bs.length) {k : Nat} (hk : k < 8) : all8 s k = seeB (atB s.bs k) := by
  unfold all8
  rw [read_at hd (by omega)]
theorem write_calm {s : St} (hd : s.down = false) (hl : s.left = 0) {i : Nat} (hi : i < s.bs.length) {t : ByteArray} (ht : t.size ≤ 256) : writeS s (i : Int) t = ({ s with bs := giveP s.bs i t }, 0) := by
  unfold writeS
  rw [if_neg (by rw [hd]; decide), if_neg (by
    rw [insideB_iff.2 ⟨i, rfl, hi⟩]
    intro q
    rcases q with q | q
    · cases q
    · omega)]
  have : ((i : Int)).toNat = i := by omega
  rw [this]
  have e : tripsS { s with bs := giveP s.bs i t } = ({ s with bs := giveP s.bs i t }, false) := by unfold tripsS; rw [if_pos hl]
  rw [e]
  rfl
theorem flush_calm {s : St} (hd : s.down = false) (hl : s.left = 0) : flushS s = ({ s with bs := flushP s.bs }, 0) := by
  have e : tripsS s = (s, false) := by unfold tripsS; rw [if_pos hl]
  unfold flushS
  rw [if_neg (by rw [hd]; decide), e]
  rfl
/-- Texts that came in. -/
def StrsIn (w : World) (a : Option Addr) (ss : List ByteArray) : Prop :=
  ss = [] ∨ ∃ b off, a = some ⟨b, off, none⟩ ∧ b < w.heap.size ∧ ∀ k, k < ss.length → w.cell? ⟨b, off + k, none⟩ = some (.string (ss.getD k ByteArray.empty))
def StrsArg (w : World) (a : Option Addr) (len : Nat) (ss : List ByteArray) : Prop :=
  ss.length = len ∧ StrsIn w a ss ∧ (∀ s ∈ ss, s.size ≤ maxLen) ∧ (ss.length : Int) ≤ 9223372036854775807
theorem StrsArg.nil (w : World) (a : Option Addr) : StrsArg w a 0 [] := ⟨rfl, .inl rfl, by simp, by simp⟩
theorem StrsArg.of_row {w : World} {x : Addr} {len cap : Nat} {ss : List ByteArray} (hl : len ≤ cap) (hm : cap ≤ maxLen) (hz : ss.length = cap)
    (hcell : ∀ i, i < ss.length → w.cell? (x.add i) = some (.string (ss.getD i ByteArray.empty))) (hws : ∀ s ∈ ss, s.size ≤ maxLen) : StrsArg w (some x) len (ss.take len) := by
  refine ⟨by rw [List.length_take]; omega, ?_, fun z h => hws z (List.mem_of_mem_take h), by rw [List.length_take]; unfold maxLen at hm; omega⟩
  by_cases h0 : len = 0
  · subst h0; exact .inl (by simp)
  · refine .inr ?_
    obtain ⟨b, off, spot⟩ := x
    have hc := hcell 0 (by omega)
    have hspot : spot = none := by simpa [Addr.add] using World.cell?_spot hc
    subst hspot
    refine ⟨b, off, rfl, World.block_lt_of_cell? w _ (by simpa [Addr.add] using hc), fun k hk => ?_⟩
    rw [List.length_take] at hk
    have h1 := hcell k (by omega)
    have h2 : (ss.take len).getD k ByteArray.empty = ss.getD k ByteArray.empty := by
      simp only [List.getD, List.getElem?_take]
      rw [if_pos (by omega)]
    rw [h2, ← h1]
    by_cases hk0 : k = 0
    · subst hk0; simp [Addr.add]
    · simp [Addr.add, hk0]
theorem StrsIn.below {w w' : World} {a : Option Addr} {ss : List ByteArray} (h : StrsIn w a ss) (hb : Below w.heap.size w w') : StrsIn w' a ss := by
  rcases h with h | ⟨b, off, ha, hlt, hc⟩
  · exact .inl h
  · exact .inr ⟨b, off, ha, Nat.lt_of_lt_of_le hlt hb.size, fun k hk => (hb.cell (by exact hlt)).trans (hc k hk)⟩
theorem Try.infoInt : (Try.prog.info? 3).map (fun i => (i.zero, i.size, i.bytes)) = some (some (.int .i64 0), 1, 8) := by kernel_rfl
/-- A row of whole numbers of the call's own. -/
def OwnsI (w : World) (base : Nat) (v : Value) (l : List Int) : Prop := w.ownsRow base 3 1 v l.length (l.map (Value.int .i64))
theorem OwnsI.nil (w : World) (base : Nat) : OwnsI w base (.slice none 0 0) [] := World.ownsRow_nil w base _ 1
theorem OwnsI.push {w : World} {base : Nat} {v : Value} {l : List Int} {x : Int} (h : w.ownsRow base 3 1 v (l.length + 1) (l.map (Value.int .i64) ++ [.int .i64 x])) : OwnsI w base v (l ++ [x]) := by
  unfold OwnsI
  simpa using h
theorem OwnsI.row {w : World} {base : Nat} {v : Value} {l : List Int} (h : OwnsI w base v l) (hw : ∀ z ∈ l, (Lit.int .i64 z).wf = true) (hl : l ≠ []) {p db mb : Nat} (h1 : p < base) (h2 : db < base) (h3 : mb < base) :
    ∃ g c, v = .slice (some ⟨g, 0, none⟩) l.length c ∧ base ≤ g ∧ g < w.heap.size ∧ ∀ W, W.heap[g]? = w.heap[g]? → w.heap.size ≤ W.heap.size → KRow W p db mb (some ⟨g, 0, none⟩) l.length c l := by
  rcases h.2 with ⟨rfl, hn⟩ | ⟨g, cap, cur, rfl, hg, hh, hn, hm, _, _⟩
  · exact absurd (List.eq_nil_of_length_eq_zero hn) hl
  · have hlt := (Array.getElem?_eq_some_iff.1 hh).1
    refine ⟨g, cap, rfl, hg, hlt, fun W e hs => ⟨rfl, ⟨hn, by unfold maxLen at hm; omega⟩, hw, fun j hj => ⟨g, 0, rfl, by omega, by omega, by omega, by omega, ?_⟩⟩⟩
    have := World.ownsRow.cells (g := g) h rfl j (.int .i64 (l.getD j 0)) (by simp [List.getElem?_eq_getElem hj])
    rw [World.cell?_of_block (w := w) (by exact e), ← this]
    by_cases hk0 : j = 0
    · subst hk0; simp [Addr.add]
    · simp [Addr.add, hk0]
end Go.Proofs.Ythcebcpippbhfaa
