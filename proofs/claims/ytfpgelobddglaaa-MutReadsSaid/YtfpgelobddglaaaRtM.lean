/-
  PLAIN MATHEMATICS: pairs as the document reads them, against pairs as the program reads them.
-/
import Derived.Test.YtfpgelobddglaaaTB
namespace Go.Proofs.Ytfpgelobddglaaa

/-- So many pairs as the document reads them: what is read stays, also behind an error. -/
def dPs : Nat → List Sp → ByteArray → Int → List Sp × ByteArray × Int
  | 0, acc, s, e => (acc, s, e)
  | n + 1, acc, s, e =>
    if e = 0 then dPs n (acc ++ [((rNum s e).1, (rWhole (rNum s e).2.1 (rNum s e).2.2).1)]) (rWhole (rNum s e).2.1 (rNum s e).2.2).2.1 (rWhole (rNum s e).2.1 (rNum s e).2.2).2.2
    else (acc, s, e)
theorem dPs_err (n : Nat) (acc : List Sp) (s : ByteArray) {e : Int} (h : e ≠ 0) : dPs n acc s e = (acc, s, e) := by
  cases n with
  | zero => rfl
  | succ n => rw [dPs, if_neg h]
theorem dPs_go {n : Nat} {acc : List Sp} {s : ByteArray} {x y : Int} {s1 s2 : ByteArray} {e1 e2 : Int} (h1 : rNum s 0 = (x, s1, e1)) (h2 : rWhole s1 e1 = (y, s2, e2)) :
    dPs (n + 1) acc s 0 = dPs n (acc ++ [(x, y)]) s2 e2 := by
  rw [dPs, if_pos rfl, h1]; dsimp only; rw [h2]
theorem rWhole_lessE {s : ByteArray} {e : Int} (h : (rWhole s e).2.2 = 0) : (rWhole s e).2.1.size + 1 ≤ s.size := rNum_less (s := s) (e := e) h
theorem rWhole_errE {s : ByteArray} {e : Int} (h : (rWhole s e).2.2 = 0) : e = 0 := by
  apply Classical.byContradiction
  intro hne
  unfold rWhole at h
  rw [rNum_err hne] at h
  exact hne h
/-- Where what is read is short, the program's pairs are the document's. -/
theorem dPs_rPs : ∀ (n : Nat) (acc : List Sp) (s : ByteArray), 2 * acc.length + s.size ≤ 8192 →
    ((dPs n acc s 0).2.2 = 0 → rPs n acc s 0 = dPs n acc s 0) ∧ ((dPs n acc s 0).2.2 ≠ 0 → rPs n acc s 0 = ([], (dPs n acc s 0).2))
  | 0, acc, s, _ => ⟨fun _ => rfl, fun h => absurd rfl h⟩
  | n + 1, acc, s, h => by
    obtain ⟨x, s1, e3, hA⟩ : ∃ x s1 e3, rNum s 0 = (x, s1, e3) := ⟨_, _, _, rfl⟩
    obtain ⟨y, s2, e4, hB⟩ : ∃ y s2 e4, rWhole s1 e3 = (y, s2, e4) := ⟨_, _, _, rfl⟩
    rw [dPs_go hA hB]
    by_cases he : e4 = 0
    · subst he
      have he3 : e3 = 0 := rWhole_errE (s := s1) (by rw [hB])
      subst he3
      have l1 := rNum_less (s := s) (e := 0) (by rw [hA])
      have l2 := rWhole_lessE (s := s1) (e := 0) (by rw [hB])
      rw [hA] at l1
      rw [hB] at l2
      dsimp only at l1 l2
      rw [rPs_go hA hB rfl, if_pos (by omega)]
      exact dPs_rPs n (acc ++ [(x, y)]) s2 (by rw [List.length_append]; simp; omega)
    · rw [rPs_stop hA hB he, dPs_err _ _ _ he]
      exact ⟨fun h => absurd h he, fun _ => rfl⟩
/-- Pairs as the program reads them where it keeps one more than so many. -/
def cPs (c : Nat) : Nat → List Sp → ByteArray → Int → List Sp × ByteArray × Int
  | 0, acc, s, e => (acc, s, e)
  | n + 1, acc, s, e =>
    if (rWhole (rNum s e).2.1 (rNum s e).2.2).2.2 = 0 then cPs c n (if acc.length ≤ c then acc ++ [((rNum s e).1, (rWhole (rNum s e).2.1 (rNum s e).2.2).1)] else acc) (rWhole (rNum s e).2.1 (rNum s e).2.2).2.1 (rWhole (rNum s e).2.1 (rNum s e).2.2).2.2
    else ([], (rWhole (rNum s e).2.1 (rNum s e).2.2).2)
theorem cPs_go {c n : Nat} {acc : List Sp} {s : ByteArray} {e x y : Int} {s1 s2 : ByteArray} {e1 e2 : Int} (h1 : rNum s e = (x, s1, e1)) (h2 : rWhole s1 e1 = (y, s2, e2)) (h : e2 = 0) :
    cPs c (n + 1) acc s e = cPs c n (if acc.length ≤ c then acc ++ [(x, y)] else acc) s2 e2 := by
  rw [cPs, h1]; dsimp only; rw [h2, if_pos h]
theorem cPs_stop {c n : Nat} {acc : List Sp} {s : ByteArray} {e x y : Int} {s1 s2 : ByteArray} {e1 e2 : Int} (h1 : rNum s e = (x, s1, e1)) (h2 : rWhole s1 e1 = (y, s2, e2)) (h : e2 ≠ 0) :
    cPs c (n + 1) acc s e = ([], s2, e2) := by
  rw [cPs, h1]; dsimp only; rw [h2, if_neg h]
/-- They are the first of the document's. -/
theorem dPs_cPs (c : Nat) : ∀ (n : Nat) (acc : List Sp) (s : ByteArray),
    ((dPs n acc s 0).2.2 = 0 → cPs c n (acc.take (c + 1)) s 0 = ((dPs n acc s 0).1.take (c + 1), (dPs n acc s 0).2)) ∧ ((dPs n acc s 0).2.2 ≠ 0 → cPs c n (acc.take (c + 1)) s 0 = ([], (dPs n acc s 0).2))
  | 0, acc, s => ⟨fun _ => rfl, fun h => absurd rfl h⟩
  | n + 1, acc, s => by
    obtain ⟨x, s1, e3, hA⟩ : ∃ x s1 e3, rNum s 0 = (x, s1, e3) := ⟨_, _, _, rfl⟩
    obtain ⟨y, s2, e4, hB⟩ : ∃ y s2 e4, rWhole s1 e3 = (y, s2, e4) := ⟨_, _, _, rfl⟩
    rw [dPs_go hA hB]
    by_cases he : e4 = 0
    · subst he
      rw [cPs_go hA hB rfl]
      have e : (if (acc.take (c + 1)).length ≤ c then acc.take (c + 1) ++ [(x, y)] else acc.take (c + 1)) = (acc ++ [(x, y)]).take (c + 1) := by
        rw [List.length_take, List.take_append]
        by_cases hl : acc.length ≤ c
        · rw [if_pos (by omega), List.take_of_length_le (l := [(x, y)]) (by simp; omega)]
        · rw [if_neg (by omega), show c + 1 - acc.length = 0 by omega]; simp
      rw [e]
      exact dPs_cPs c n (acc ++ [(x, y)]) s2
    · rw [cPs_stop hA hB he, dPs_err _ _ _ he]
      exact ⟨fun h => absurd h he, fun _ => rfl⟩
/-- A table as the document reads it. -/
def docT (s : ByteArray) : List Sp × Int :=
  if rEnd (dPs (rNum s 0).1.toNat [] (rNum s 0).2.1 (rNum s 0).2.2).2.1 (dPs (rNum s 0).1.toNat [] (rNum s 0).2.1 (rNum s 0).2.2).2.2 = 0 then
    (if tblB (dPs (rNum s 0).1.toNat [] (rNum s 0).2.1 (rNum s 0).2.2).1 = true then ((dPs (rNum s 0).1.toNat [] (rNum s 0).2.1 (rNum s 0).2.2).1, 0) else ([], 3))
  else ([], rEnd (dPs (rNum s 0).1.toNat [] (rNum s 0).2.1 (rNum s 0).2.2).2.1 (dPs (rNum s 0).1.toNat [] (rNum s 0).2.1 (rNum s 0).2.2).2.2)
theorem rNum_errZ {s : ByteArray} {e : Int} (h : (rNum s e).2.2 ≠ 0) : (rNum s e).1 = 0 := by
  unfold rNum at h ⊢
  split
  · rename_i he
    rw [if_pos he] at h
    cases hr : scanN 0 s.data.toList with
    | error k => rfl
    | ok p => rw [hr] at h; exact absurd rfl h
  · rfl
theorem docT_eq {s : ByteArray} (hs : s.size ≤ 8192) : docT s = readT s := by
  have hz := rNum_size s 0
  have h0 := rNum_errZ (s := s) (e := 0)
  unfold docT readT rPairs
  generalize (rNum s 0).1 = x at *
  generalize (rNum s 0).2.1 = u at *
  generalize (rNum s 0).2.2 = e at *
  by_cases he : e = 0
  · subst he
    obtain ⟨h1, h2⟩ := dPs_rPs x.toNat [] u (by simp; omega)
    by_cases h3 : (dPs x.toNat [] u 0).2.2 = 0
    · rw [h1 h3]
    · rw [h2 h3]
      have : rEnd (dPs x.toNat [] u 0).2.1 (dPs x.toNat [] u 0).2.2 ≠ 0 := by unfold rEnd; rw [if_neg h3]; exact h3
      rw [if_neg this, if_neg this]
  · rw [h0 he]
    rfl
end Go.Proofs.Ytfpgelobddglaaa
