/-
  BAGS: a bag that some texts were sent into, of which those from a on up to b are left (for BagOrder); a row of texts of the call's own.
-/
import Derived.Test.YtbonokhldonciaaBgK
namespace Go.Proofs.Ytbonokhldonciaa
open Go.RowKit Go.Maps Go.ChangeMaps Go.ChangeShapes Go.WideShapes

def leftB (q : List ByteArray) (a b : Nat) : Bs := ⟨fun j => if (a : Int) < j ∧ j ≤ (b : Int) then some ⟨j, 1, 2, q.getD (j.toNat - 1) ⟨#[]⟩⟩ else none, b - a, q.length, noL, 0⟩
theorem left_zero : newB = leftB [] 0 0 := by
  unfold newB leftB
  congr 1
  funext j
  unfold noG
  rw [if_neg (by omega)]
theorem left_send {q : List ByteArray} {t : ByteArray} (hq : q.length < 400) (ht : t.size ≤ 300) :
    sendS (leftB q 0 q.length) 1 2 t = leftB (q ++ [t]) 0 (q ++ [t]).length ∧ sendV (leftB q 0 q.length) 1 2 t = ((q.length : Int) + 1, 0) := by
  have a1 : addrB 1 = true := rfl
  have a2 : addrB 2 = true := rfl
  have a3 : ¬ 65536 < t.size := by omega
  have hn : (leftB q 0 q.length).n = q.length := rfl
  have hl : (leftB q 0 q.length).last = (q.length : Int) := rfl
  constructor
  · unfold sendS
    rw [if_neg (by rw [a1, a2]; intro q; rcases q with q | q | q; · cases q
                   · cases q
                   · exact a3 q)]
    unfold addS
    rw [if_neg (by rw [hn]; omega)]
    have hlen : (q ++ [t]).length = q.length + 1 := by simp
    unfold leftB
    rw [hlen]
    dsimp only
    congr 1
    funext j
    unfold putG setId
    dsimp only
    by_cases e : j = (q.length : Int) + 1
    · rw [if_pos e, if_pos (by omega), e]
      congr 2
      have : ((q.length : Int) + 1).toNat - 1 = q.length := by omega
      rw [this, List.getD_eq_getElem?_getD, List.getElem?_append_right (Nat.le_refl _)]
      simp
    · rw [if_neg e]
      by_cases e2 : ((0 : Nat) : Int) < j ∧ j ≤ (q.length : Int)
      · rw [if_pos e2, if_pos (by omega)]
        congr 2
        rw [List.getD_eq_getElem?_getD, List.getD_eq_getElem?_getD, List.getElem?_append_left (by omega)]
      · rw [if_neg e2, if_neg (by omega)]
  · unfold sendV
    rw [if_neg (by rw [a1, a2]; intro q; rcases q with q | q; · cases q
                   · cases q), if_neg a3]
    unfold addV
    rw [if_neg (by rw [hn]; omega), hl]
theorem left_get {q : List ByteArray} {a b : Nat} {i : Int} (h1 : (a : Int) < i) (h2 : i ≤ (b : Int)) : (leftB q a b).G i = some ⟨i, 1, 2, q.getD (i.toNat - 1) ⟨#[]⟩⟩ := by unfold leftB; dsimp only; rw [if_pos ⟨h1, h2⟩]
theorem left_take {q : List ByteArray} {a b : Nat} {i : Int} (h1 : (a : Int) < i) (h2 : i ≤ (b : Int)) :
    takeS (leftB q a b) i = dropS (leftB q a b) i ∧ takeV (leftB q a b) i = (⟨i, 1, 2, q.getD (i.toNat - 1) ⟨#[]⟩⟩, 0) := by
  unfold takeS takeV
  rw [left_get h1 h2]
  dsimp only
  have hc : cutB (leftB q a b) 1 2 = false := rfl
  rw [hc]
  exact ⟨rfl, rfl⟩
/-- The first one of those that are left is taken. -/
theorem left_first {q : List ByteArray} {a b : Nat} (_h : a < b) : dropS (leftB q a b) ((a : Int) + 1) = leftB q (a + 1) b := by
  unfold dropS leftB
  have e1 : b - a - 1 = b - (a + 1) := by omega
  dsimp only
  rw [e1]
  congr 1
  funext j
  unfold putG
  by_cases e : j = (a : Int) + 1
  · rw [if_pos e, if_neg (by omega)]
  · rw [if_neg e]
    dsimp only
    by_cases e2 : (a : Int) < j ∧ j ≤ (b : Int)
    · rw [if_pos e2, if_pos (by omega)]
    · rw [if_neg e2, if_neg (by omega)]
/-- The last one of them is taken. -/
theorem left_last {q : List ByteArray} {a b : Nat} (h : a < b) : dropS (leftB q a b) (b : Int) = leftB q a (b - 1) := by
  unfold dropS leftB
  have e1 : b - a - 1 = b - 1 - a := by omega
  dsimp only
  rw [e1]
  congr 1
  funext j
  unfold putG
  by_cases e : j = (b : Int)
  · rw [if_pos e, if_neg (by omega)]
  · rw [if_neg e]
    dsimp only
    by_cases e2 : (a : Int) < j ∧ j ≤ (b : Int)
    · rw [if_pos e2, if_pos (by omega)]
    · rw [if_neg e2, if_neg (by omega)]
/-- A row of texts of the call's own. -/
def OwnsS (w : World) (base : Nat) (v : Value) (l : List ByteArray) : Prop := w.ownsRow base 9 1 v l.length (l.map Value.string)
theorem OwnsS.push {w : World} {base : Nat} {v : Value} {l : List ByteArray} {x : ByteArray} (h : w.ownsRow base 9 1 v (l.length + 1) (l.map Value.string ++ [.string x])) : OwnsS w base v (l ++ [x]) := by
  unfold OwnsS
  rw [List.length_append, List.map_append]
  exact h
/-- It stays while a bag below its base is called. -/
theorem OwnsS.but {w w' : World} {base p mb ab : Nat} {v : Value} {l : List ByteArray} (h : OwnsS w base v l) (hb : But p mb ab w w') (h1 : p < base) (h2 : mb < base) (h3 : ab < base) : OwnsS w' base v l := by
  refine ⟨h.1, ?_⟩
  rcases h.2 with hn | ⟨g, cap, cur, hv, hbg, hg, rest⟩
  · exact .inl hn
  · exact .inr ⟨g, cap, cur, hv, hbg, (hb.block g (Array.getElem?_eq_some_iff.1 hg).1 (by omega) (by omega) (by omega)).trans hg, rest⟩
end Go.Proofs.Ytbonokhldonciaa
