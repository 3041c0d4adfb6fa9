/-
  CHARTS, plain: their bytes; what is written is read, and in one way.
-/
import Derived.Test.YtcpcdinfagdlhaaVA
import Derived.Test.YtcpcdinfagdlhaaChS
import Derived.Test.YtcpcdinfagdlhaaMA3
namespace Go.Proofs.Ytcpcdinfagdlhaa
open Go.RowKit Go.Shelf

def shT (s : Sd) : List UInt8 := bl (numS s.1) ++ bl (numS s.2.2.1) ++ bl (numS s.2.2.2)
def shsT : List Sd → List UInt8
  | [] => []
  | s :: t => shT s ++ shsT t
def bodyC (ep nx : Int) (l : List Sd) : List UInt8 := bl (numS ep) ++ bl (numS nx) ++ bl (numS (l.length : Int)) ++ shsT l
def textC (ep nx : Int) (l : List Sd) : List UInt8 := if chkC ep nx l = true then bodyC ep nx l else []
def rSs : Nat → List Sd → Int → ByteArray → Int → List Sd × ByteArray × Int
  | 0, acc, _, s, e => (acc, s, e)
  | n + 1, acc, lo, s, e =>
    if (rNum (rNum (rNum s e).2.1 (rNum s e).2.2).2.1 (rNum (rNum s e).2.1 (rNum s e).2.2).2.2).2.2 = 0 then
      rSs n (if acc.length ≤ 24 then acc ++ [((rNum s e).1, lo, (rNum (rNum s e).2.1 (rNum s e).2.2).1, (rNum (rNum (rNum s e).2.1 (rNum s e).2.2).2.1 (rNum (rNum s e).2.1 (rNum s e).2.2).2.2).1)] else acc) (rNum (rNum s e).2.1 (rNum s e).2.2).1
        (rNum (rNum (rNum s e).2.1 (rNum s e).2.2).2.1 (rNum (rNum s e).2.1 (rNum s e).2.2).2.2).2.1 (rNum (rNum (rNum s e).2.1 (rNum s e).2.2).2.1 (rNum (rNum s e).2.1 (rNum s e).2.2).2.2).2.2
    else ([], (rNum (rNum (rNum s e).2.1 (rNum s e).2.2).2.1 (rNum (rNum s e).2.1 (rNum s e).2.2).2.2).2)
def rShards (s : ByteArray) (e : Int) : List Sd × ByteArray × Int := rSs (rNum s e).1.toNat [] 0 (rNum s e).2.1 (rNum s e).2.2
section
variable {n : Nat} {acc : List Sd} {lo e i h k e1 e2 e3 : Int} {s s1 s2 s3 : ByteArray} (h1 : rNum s e = (i, s1, e1)) (h2 : rNum s1 e1 = (h, s2, e2)) (h3 : rNum s2 e2 = (k, s3, e3))
include h1 h2 h3
theorem rSs_go (he : e3 = 0) : rSs (n + 1) acc lo s e = rSs n (if acc.length ≤ 24 then acc ++ [(i, lo, h, k)] else acc) h s3 e3 := by
  rw [rSs, h1]; dsimp only; rw [h2]; dsimp only; rw [h3, if_pos he]
theorem rSs_stop (he : e3 ≠ 0) : rSs (n + 1) acc lo s e = ([], s3, e3) := by
  rw [rSs, h1]; dsimp only; rw [h2]; dsimp only; rw [h3, if_neg he]
end
def ofC (l : List UInt8) : ByteArray := ⟨l.toArray⟩
theorem ofC_app (a b : List UInt8) : ofC (a ++ b) = ofC a ++ ofC b := ba_ext (by rw [ba_app]; simp [ofC])
theorem ofC_bl (s : ByteArray) : ofC (bl s) = s := ba_ext (by simp [ofC, bl])
theorem ofC_nil (r : ByteArray) : ofC [] ++ r = r := ba_ext (by rw [ba_app]; simp [ofC])
theorem shT_ba (s : Sd) (t : List Sd) (r : ByteArray) : ofC (shsT (s :: t)) ++ r = numS s.1 ++ (numS s.2.2.1 ++ (numS s.2.2.2 ++ (ofC (shsT t) ++ r))) := by
  show ofC (shT s ++ shsT t) ++ r = _
  unfold shT
  rw [ofC_app, ofC_app, ofC_app, ofC_bl, ofC_bl, ofC_bl]
  simp only [ba_assoc]
/-- What a chart's shards are, as far as their bytes ask. -/
def fitS (s : Sd) : Prop := 0 ≤ s.1 ∧ s.1 ≤ 65537 ∧ 0 ≤ s.2.2.1 ∧ s.2.2.1 ≤ 4096 ∧ 0 ≤ s.2.2.2 ∧ s.2.2.2 ≤ 4
def chainS (e : Int) : List Sd → Prop
  | [] => True
  | s :: t => s.2.1 = e ∧ chainS s.2.2.1 t
theorem covF_chain : ∀ (l : List Sd) (e : Int), covF e l = true → chainS e l
  | [], _, _ => trivial
  | s :: t, e, h => by
    unfold covF at h
    rw [Bool.and_eq_true, Bool.and_eq_true, decide_eq_true_iff] at h
    exact ⟨h.1.1, covF_chain t _ h.2⟩
theorem chk_fit {ep nx : Int} {l : List Sd} (h : chkC ep nx l = true) : ∀ s ∈ l, fitS s := fun s hs => by
  obtain ⟨_, hnx, _, _, _, ho⟩ := chkC_parts h
  have h1 := List.all_eq_true.1 ho s hs
  unfold okS at h1
  rw [Bool.and_eq_true, btwC_iff, btwC_iff] at h1
  have h2 := chk_one h hs
  unfold oneB at h2
  simp only [decide_eq_true_iff] at h2
  unfold fitS
  omega
theorem rSs_back : ∀ (m acc : List Sd) (lo : Int) (r : ByteArray), (∀ s ∈ m, fitS s) → chainS lo m → acc.length + m.length ≤ 25 → rSs m.length acc lo (ofC (shsT m) ++ r) 0 = (acc ++ m, r, 0)
  | [], acc, lo, r, _, _, _ => by
    rw [List.append_nil]
    show (acc, ofC [] ++ r, (0 : Int)) = _
    rw [ofC_nil]
  | s :: m, acc, lo, r, h, hc, hl => by
    obtain ⟨a0, a1, b0, b1, c0, c1⟩ := h s (by simp)
    rw [List.length_cons] at hl ⊢
    rw [shT_ba, rSs_go (rNum_back a0 (by omega) _) (rNum_back b0 (by omega) _) (rNum_back c0 (by omega) _) rfl, if_pos (by omega)]
    rw [rSs_back m _ _ r (fun q hq => h q (by simp [hq])) hc.2 (by rw [List.length_append]; simp; omega), ← hc.1]
    simp
theorem rSs_once : ∀ (n : Nat) (acc : List Sd) (lo : Int) (s : ByteArray) (l : List Sd) (t : ByteArray), rSs n acc lo s 0 = (l, t, 0) → ∃ m, (acc ++ m).length ≤ l.length ∧ (l.length ≤ 24 → l = acc ++ m ∧ m.length = n ∧ s = ofC (shsT m) ++ t)
  | 0, acc, lo, s, l, t, h => by
    rw [rSs] at h
    cases h
    exact ⟨[], by simp, fun _ => ⟨by simp, rfl, (ofC_nil s).symm⟩⟩
  | n + 1, acc, lo, s, l, t, h => by
    obtain ⟨x, s1, e1, hA⟩ : ∃ x s1 e3, rNum s 0 = (x, s1, e3) := ⟨_, _, _, rfl⟩
    obtain ⟨y, s2, e2, hB⟩ : ∃ y s2 e4, rNum s1 e1 = (y, s2, e4) := ⟨_, _, _, rfl⟩
    obtain ⟨z, s3, e3, hC⟩ : ∃ yy ss ee, rNum s2 e2 = (yy, ss, ee) := ⟨_, _, _, rfl⟩
    by_cases he : e3 = 0
    · rw [rSs_go hA hB hC he] at h
      subst he
      have k2 : e2 = 0 := by
        apply Classical.byContradiction
        intro hne
        rw [rNum_err hne] at hC
        cases hC
        exact hne rfl
      subst k2
      have k1 : e1 = 0 := by
        apply Classical.byContradiction
        intro hne
        rw [rNum_err hne] at hB
        cases hB
        exact hne rfl
      subst k1
      have w1 := rNum_once (s := s) (e := 0) (by rw [hA])
      have w2 := rNum_once (s := s1) (e := 0) (by rw [hB])
      have w3 := rNum_once (s := s2) (e := 0) (by rw [hC])
      rw [hA] at w1
      rw [hB] at w2
      rw [hC] at w3
      dsimp only at w1 w2 w3
      by_cases hl : acc.length ≤ 24
      · rw [if_pos hl] at h
        obtain ⟨m, h1, h2⟩ := rSs_once n _ _ _ _ _ h
        refine ⟨(x, lo, y, z) :: m, by simpa using h1, fun hle => ?_⟩
        obtain ⟨a, b, c⟩ := h2 hle
        refine ⟨by rw [a]; simp, by rw [List.length_cons, b], ?_⟩
        rw [shT_ba, ← c]
        dsimp only
        rw [w3, w2, w1]
      · rw [if_neg hl] at h
        obtain ⟨m, h1, h2⟩ := rSs_once n _ _ _ _ _ h
        rw [List.length_append] at h1
        exact ⟨m, by rw [List.length_append]; exact h1, fun hle => by omega⟩
    · rw [rSs_stop hA hB hC he] at h
      cases h
      exact absurd rfl he
def readC (s : ByteArray) : Int × Int × List Sd × Int :=
  if rEnd (rShards (rNum (rNum s 0).2.1 (rNum s 0).2.2).2.1 (rNum (rNum s 0).2.1 (rNum s 0).2.2).2.2).2.1 (rShards (rNum (rNum s 0).2.1 (rNum s 0).2.2).2.1 (rNum (rNum s 0).2.1 (rNum s 0).2.2).2.2).2.2 = 0 then
    (if chkC (rNum s 0).1 (rNum (rNum s 0).2.1 (rNum s 0).2.2).1 (rShards (rNum (rNum s 0).2.1 (rNum s 0).2.2).2.1 (rNum (rNum s 0).2.1 (rNum s 0).2.2).2.2).1 = true then
      ((rNum s 0).1, (rNum (rNum s 0).2.1 (rNum s 0).2.2).1, (rShards (rNum (rNum s 0).2.1 (rNum s 0).2.2).2.1 (rNum (rNum s 0).2.1 (rNum s 0).2.2).2.2).1, 0) else (0, 0, [], 3))
  else (0, 0, [], rEnd (rShards (rNum (rNum s 0).2.1 (rNum s 0).2.2).2.1 (rNum (rNum s 0).2.1 (rNum s 0).2.2).2.2).2.1 (rShards (rNum (rNum s 0).2.1 (rNum s 0).2.2).2.1 (rNum (rNum s 0).2.1 (rNum s 0).2.2).2.2).2.2)
theorem readC_eq {s s1 s2 t : ByteArray} {ep nx e1 e2 e : Int} {l : List Sd} (hA : rNum s 0 = (ep, s1, e1)) (hB : rNum s1 e1 = (nx, s2, e2)) (hC : rShards s2 e2 = (l, t, e)) :
    readC s = if rEnd t e = 0 then (if chkC ep nx l = true then (ep, nx, l, 0) else (0, 0, [], 3)) else (0, 0, [], rEnd t e) := by
  unfold readC
  rw [hA]; dsimp only
  rw [hB]; dsimp only
  rw [hC]
theorem readC_back {ep nx : Int} {l : List Sd} (h : chkC ep nx l = true) : readC (ofC (textC ep nx l)) = (ep, nx, l, 0) := by
  obtain ⟨hep, hnx, hl, hc, _, _⟩ := chkC_parts h
  rw [show textC ep nx l = bodyC ep nx l from if_pos h]
  have e : ofC (bodyC ep nx l) = numS ep ++ (numS nx ++ (numS (l.length : Int) ++ (ofC (shsT l) ++ ofC []))) := by
    unfold bodyC
    rw [ofC_app, ofC_app, ofC_app, ofC_bl, ofC_bl, ofC_bl, show ofC (shsT l) ++ ofC [] = ofC (shsT l) by rw [← ofC_app, List.append_nil]]
    simp only [ba_assoc]
  rw [e]
  have hs : rShards (numS (l.length : Int) ++ (ofC (shsT l) ++ ofC [])) 0 = (l, ofC [], 0) := by
    unfold rShards
    rw [rNum_back (by omega) (by omega)]
    dsimp only
    rw [Int.toNat_natCast, rSs_back l [] 0 (ofC []) (chk_fit h) (covF_chain l 0 hc) (by simp; omega)]
    rfl
  rw [readC_eq (rNum_back (by omega) (by omega) _) (rNum_back (by omega) (by omega) _) hs, if_pos (show rEnd (ofC []) 0 = 0 from rfl), if_pos h]
theorem readC_err (s : ByteArray) : (readC s).2.2.2 = 0 ∨ ((readC s).2.2.2 ≠ 0 ∧ (readC s).2.2.1 = []) := by
  unfold readC
  split
  · split
    · exact .inl rfl
    · exact .inr ⟨by simp, rfl⟩
  · rename_i h
    exact .inr ⟨h, rfl⟩
theorem readC_once {s : ByteArray} (h : (readC s).2.2.2 = 0) : chkC (readC s).1 (readC s).2.1 (readC s).2.2.1 = true ∧ ofC (textC (readC s).1 (readC s).2.1 (readC s).2.2.1) = s := by
  obtain ⟨ep, s1, e1, hA⟩ : ∃ x s1 e3, rNum s 0 = (x, s1, e3) := ⟨_, _, _, rfl⟩
  obtain ⟨nx, s2, e2, hB⟩ : ∃ y s2 e4, rNum s1 e1 = (y, s2, e4) := ⟨_, _, _, rfl⟩
  obtain ⟨l, t, e, hC⟩ : ∃ yy ss ee, rShards s2 e2 = (yy, ss, ee) := ⟨_, _, _, rfl⟩
  rw [readC_eq hA hB hC] at h ⊢
  by_cases hE : rEnd t e = 0
  · rw [if_pos hE] at h ⊢
    by_cases hk : chkC ep nx l = true
    · rw [if_pos hk] at h ⊢
      dsimp only
      refine ⟨hk, ?_⟩
      have he : e = 0 := by
        unfold rEnd at hE
        by_cases hq : e = 0
        · exact hq
        · rw [if_neg hq] at hE; exact hE
      subst he
      have ht : t.data.toList = [] := by
        unfold rEnd at hE
        rw [if_pos rfl] at hE
        cases hq : t.data.toList with
        | nil => rfl
        | cons a b => rw [hq] at hE; cases hE
      obtain ⟨n, s3, e3, hD⟩ : ∃ yy ss ee, rNum s2 e2 = (yy, ss, ee) := ⟨_, _, _, rfl⟩
      unfold rShards at hC
      rw [hD] at hC
      dsimp only at hC
      have h3 : e3 = 0 := by
        apply Classical.byContradiction
        intro hne
        cases hn : n.toNat with
        | zero => rw [hn, rSs] at hC; cases hC; exact hne rfl
        | succ m =>
          rw [hn] at hC
          have q1 : rNum s3 e3 = (0, s3, e3) := rNum_err hne
          rw [rSs_stop q1 q1 q1 hne] at hC
          cases hC
          exact hne rfl
      subst h3
      have k2 : e2 = 0 := by
        apply Classical.byContradiction
        intro hne
        rw [rNum_err hne] at hD
        cases hD
        exact hne rfl
      subst k2
      have k1 : e1 = 0 := by
        apply Classical.byContradiction
        intro hne
        rw [rNum_err hne] at hB
        cases hB
        exact hne rfl
      subst k1
      have w1 := rNum_once (s := s) (e := 0) (by rw [hA])
      have w2 := rNum_once (s := s1) (e := 0) (by rw [hB])
      have w3 := rNum_once (s := s2) (e := 0) (by rw [hD])
      rw [hA] at w1
      rw [hB] at w2
      rw [hD] at w3
      dsimp only at w1 w2 w3
      have hx := (rNum_val s2 0).1
      rw [hD] at hx
      dsimp only at hx
      obtain ⟨m, _, hm⟩ := rSs_once _ _ _ _ _ _ hC
      obtain ⟨a, b, c⟩ := hm (chkC_parts hk).2.2.1.2
      rw [List.nil_append] at a
      subst a
      rw [show textC ep nx l = bodyC ep nx l from if_pos hk]
      unfold bodyC
      rw [ofC_app, ofC_app, ofC_app, ofC_bl, ofC_bl, ofC_bl, b, Int.toNat_of_nonneg hx]
      rw [show ofC (shsT l) = s3 from ?_]
      · simp only [ba_assoc]
        rw [w3, w2, w1]
      · rw [c]; exact ba_ext (by rw [ba_app, ht, List.append_nil])
    · rw [if_neg hk] at h; cases h
  · rw [if_neg hE] at h; exact absurd h hE
end Go.Proofs.Ytcpcdinfagdlhaa
