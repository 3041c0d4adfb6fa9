/-
  SLABS, PLAIN: what each block has for sure, and what it was given since the last flush; what a loss of power leaves.
-/
import Derived.WalkKit
import Derived.ProofKit
namespace Go.Proofs.Ythcebcpippbhfaa
open Go.RowKit

/-- A block: what is sure, and what is loose. -/
abbrev Bk := ByteArray × Option ByteArray
def bk0 : Bk := (ByteArray.empty, none)
def looseAt (bs : List Bk) (k : Int) : Option ByteArray := if 0 ≤ k then (bs[k.toNat]?).bind (·.2) else none
theorem looseAt_nat (bs : List Bk) (i : Nat) : looseAt bs (i : Int) = (bs[i]?).bind (·.2) := by unfold looseAt; rw [if_pos (by omega)]; simp
theorem looseAt_get {bs : List Bk} {i : Nat} (h : i < bs.length) : looseAt bs (i : Int) = bs[i].2 := by rw [looseAt_nat, List.getElem?_eq_getElem h]; rfl
theorem looseAt_out {bs : List Bk} {k : Int} (h : k < 0 ∨ (bs.length : Int) ≤ k) : looseAt bs k = none := by
  unfold looseAt
  split
  · rw [List.getElem?_eq_none (by omega)]; rfl
  · rfl
theorem looseAt_some {bs : List Bk} {k : Int} {t : ByteArray} (h : looseAt bs k = some t) : ∃ i : Nat, k = (i : Int) ∧ ∃ hi : i < bs.length, bs[i].2 = some t := by
  by_cases h0 : k < 0 ∨ (bs.length : Int) ≤ k
  · rw [looseAt_out h0] at h; cases h
  · refine ⟨k.toNat, by omega, by omega, ?_⟩
    have e : k = ((k.toNat : Nat) : Int) := by omega
    rw [e, looseAt_get (by omega)] at h
    exact h
def giveP (bs : List Bk) (i : Nat) (t : ByteArray) : List Bk := bs.set i ((bs.getD i bk0).1, some t)
theorem giveP_length (bs : List Bk) (i : Nat) (t : ByteArray) : (giveP bs i t).length = bs.length := by simp [giveP]
theorem getD_set {α : Type} (l : List α) (i j : Nat) (x z : α) : (l.set i x).getD j z = if i = j ∧ i < l.length then x else l.getD j z := by
  rw [List.getD_eq_getElem?_getD, List.getD_eq_getElem?_getD, List.getElem?_set]
  by_cases h : i = j
  · subst h
    by_cases h2 : i < l.length
    · simp [h2]
    · simp [h2]
  · simp [h]
theorem looseAt_getD (bs : List Bk) (i : Nat) : looseAt bs (i : Int) = (bs.getD i bk0).2 := by
  rw [looseAt_nat, List.getD_eq_getElem?_getD]
  cases bs[i]? <;> rfl
theorem looseAt_set (bs : List Bk) (i : Nat) (hi : i < bs.length) (x : Bk) (k : Int) : looseAt (bs.set i x) k = if k = (i : Int) then x.2 else looseAt bs k := by
  by_cases h0 : k < 0
  · rw [looseAt_out (.inl h0), looseAt_out (.inl h0), if_neg (by omega)]
  · obtain ⟨j, rfl⟩ : ∃ j : Nat, k = (j : Int) := ⟨k.toNat, by omega⟩
    rw [looseAt_getD, looseAt_getD, getD_set]
    by_cases h : i = j
    · subst h; rw [if_pos ⟨rfl, hi⟩, if_pos rfl]
    · rw [if_neg (fun q => h q.1), if_neg (by omega)]
/-- How many of n bytes are kept. -/
def cutN (most : Int) (n : Nat) : Nat := min (max most 0).toNat n
theorem cutN_le (most : Int) (n : Nat) : cutN most n ≤ n := by unfold cutN; omega
theorem cutN_all {most : Int} {n : Nat} (h : (n : Int) ≤ most) : cutN most n = n := by unfold cutN; omega
def settleP (bs : List Bk) (k most : Int) : List Bk :=
  match looseAt bs k with
  | none => bs
  | some t => bs.set k.toNat (t.extract 0 (cutN most t.size), none)
theorem settleP_none {bs : List Bk} {k most : Int} (h : looseAt bs k = none) : settleP bs k most = bs := by unfold settleP; rw [h]
theorem settleP_some {bs : List Bk} {k most : Int} {t : ByteArray} (h : looseAt bs k = some t) : settleP bs k most = bs.set k.toNat (t.extract 0 (cutN most t.size), none) := by unfold settleP; rw [h]
theorem settleP_length (bs : List Bk) (k most : Int) : (settleP bs k most).length = bs.length := by
  unfold settleP
  split <;> simp
def keepP (bs : List Bk) (zs : List Int) : List Bk := zs.foldl (fun b z => settleP b z 256) bs
theorem keepP_length : ∀ (zs : List Int) (bs : List Bk), (keepP bs zs).length = bs.length
  | [], _ => rfl
  | z :: t, bs => by
    show (keepP (settleP bs z 256) t).length = _
    rw [keepP_length t, settleP_length]
theorem keepP_snoc (bs : List Bk) (zs : List Int) (z : Int) : keepP bs (zs ++ [z]) = settleP (keepP bs zs) z 256 := by simp [keepP, List.foldl_append]
def dropP (bs : List Bk) : List Bk := bs.map fun x => (x.1, none)
theorem dropP_length (bs : List Bk) : (dropP bs).length = bs.length := by simp [dropP]
def failP (bs : List Bk) (zs : List Int) (torn at_ : Int) : List Bk := dropP (settleP (keepP bs zs) torn at_)
theorem failP_length (bs : List Bk) (zs : List Int) (torn at_ : Int) : (failP bs zs torn at_).length = bs.length := by unfold failP; rw [dropP_length, settleP_length, keepP_length]
def flushP (bs : List Bk) : List Bk := bs.map fun x => (x.2.getD x.1, none)
theorem flushP_length (bs : List Bk) : (flushP bs).length = bs.length := by simp [flushP]
/-- Each text is no longer than a block. -/
def Fits (bs : List Bk) : Prop := ∀ x ∈ bs, x.1.size ≤ 256 ∧ ∀ t, x.2 = some t → t.size ≤ 256
theorem Fits.new (n : Nat) : Fits (List.replicate n bk0) := fun x hx => by
  obtain ⟨_, rfl⟩ := List.mem_replicate.1 hx
  exact ⟨by decide, fun t h => by cases h⟩
theorem Fits.set {bs : List Bk} (h : Fits bs) (i : Nat) {x : Bk} (h1 : x.1.size ≤ 256) (h2 : ∀ t, x.2 = some t → t.size ≤ 256) : Fits (bs.set i x) := fun y hy => by
  rcases List.mem_or_eq_of_mem_set hy with hy | rfl
  · exact h y hy
  · exact ⟨h1, h2⟩
theorem Fits.getD {bs : List Bk} (h : Fits bs) (i : Nat) : (bs.getD i bk0).1.size ≤ 256 ∧ ∀ t, (bs.getD i bk0).2 = some t → t.size ≤ 256 := by
  rw [List.getD_eq_getElem?_getD]
  cases hb : bs[i]? with
  | none => exact ⟨by decide, fun t h => by cases h⟩
  | some x => exact h x (List.mem_of_getElem? hb)
theorem Fits.loose {bs : List Bk} (h : Fits bs) {k : Int} {t : ByteArray} (hk : looseAt bs k = some t) : t.size ≤ 256 := by
  obtain ⟨i, rfl, hi, e⟩ := looseAt_some hk
  exact (h _ (List.getElem_mem hi)).2 t e
theorem size_cut (t : ByteArray) (n : Nat) : (t.extract 0 n).size ≤ t.size := by
  rw [ByteArray.size_extract]; omega
theorem Fits.settle {bs : List Bk} (h : Fits bs) (k most : Int) : Fits (settleP bs k most) := by
  cases hl : looseAt bs k with
  | none => rw [settleP_none hl]; exact h
  | some t =>
    rw [settleP_some hl]
    have := h.loose hl
    have := size_cut t (cutN most t.size)
    exact h.set _ (by dsimp only; omega) (fun t h => by cases h)
theorem Fits.keep {zs : List Int} : ∀ {bs : List Bk}, Fits bs → Fits (keepP bs zs) := by
  induction zs with
  | nil => exact fun h => h
  | cons z t ih => exact fun h => ih (h.settle z 256)
theorem Fits.drop {bs : List Bk} (h : Fits bs) : Fits (dropP bs) := fun x hx => by
  obtain ⟨y, hy, rfl⟩ := List.mem_map.1 hx
  exact ⟨(h y hy).1, fun t h => by cases h⟩
theorem Fits.fail {bs : List Bk} (h : Fits bs) (zs : List Int) (torn at_ : Int) : Fits (failP bs zs torn at_) := ((h.keep).settle _ _).drop
theorem Fits.flush {bs : List Bk} (h : Fits bs) : Fits (flushP bs) := fun x hx => by
  obtain ⟨y, hy, rfl⟩ := List.mem_map.1 hx
  refine ⟨?_, fun t h => by cases h⟩
  dsimp only
  cases he : y.2 with
  | none => exact (h y hy).1
  | some t => exact (h y hy).2 t he
theorem Fits.give {bs : List Bk} (h : Fits bs) (i : Nat) {t : ByteArray} (ht : t.size ≤ 256) : Fits (giveP bs i t) := h.set i (h.getD i).1 (fun u hu => by cases hu; exact ht)
/-- Nothing is loose. -/
def Calm (bs : List Bk) : Prop := ∀ x ∈ bs, x.2 = none
theorem Calm.at {bs : List Bk} (h : Calm bs) (k : Int) : looseAt bs k = none := by
  cases hl : looseAt bs k with
  | none => rfl
  | some t =>
    obtain ⟨i, _, hi, e⟩ := looseAt_some hl
    rw [h _ (List.getElem_mem hi)] at e
    cases e
theorem Calm.drop (bs : List Bk) : Calm (dropP bs) := fun x hx => by obtain ⟨y, _, rfl⟩ := List.mem_map.1 hx; rfl
theorem Calm.flush (bs : List Bk) : Calm (flushP bs) := fun x hx => by obtain ⟨y, _, rfl⟩ := List.mem_map.1 hx; rfl
theorem Calm.new (n : Nat) : Calm (List.replicate n bk0) := fun x hx => by obtain ⟨_, rfl⟩ := List.mem_replicate.1 hx; rfl
end Go.Proofs.Ythcebcpippbhfaa
