/-
  CURSORS, plain: their bytes; what is written is read, and in one way.
-/
import Derived.Test.YtcpcdinfagdlhaaVA
import Derived.Test.YtcpcdinfagdlhaaScA
import Derived.Test.YtcpcdinfagdlhaaMA3
namespace Go.Proofs.Ytcpcdinfagdlhaa
open Go.RowKit Go.Shelf

def spT (s : Sp) : List UInt8 := bl (numS s.1) ++ bl (numS s.2)
def spsT : List Sp → List UInt8
  | [] => []
  | s :: t => spT s ++ spsT t
def bodyK (on : List Sp) (af lim : Int) : List UInt8 := bl (wholeS af) ++ bl (numS lim) ++ bl (numS (on.length : Int)) ++ spsT on
def textK (on : List Sp) (af lim : Int) : List UInt8 := if curB on af lim = true then bodyK on af lim else []
def rKs : Nat → List Sp → ByteArray → Int → List Sp × ByteArray × Int
  | 0, acc, s, e => (acc, s, e)
  | n + 1, acc, s, e => rKs n (acc ++ [((rNum s e).1, (rNum (rNum s e).2.1 (rNum s e).2.2).1)]) (rNum (rNum s e).2.1 (rNum s e).2.2).2.1 (rNum (rNum s e).2.1 (rNum s e).2.2).2.2
theorem rKs_go {n : Nat} {acc : List Sp} {s s1 s2 : ByteArray} {e e1 e2 x y : Int} (h1 : rNum s e = (x, s1, e1)) (h2 : rNum s1 e1 = (y, s2, e2)) : rKs (n + 1) acc s e = rKs n (acc ++ [(x, y)]) s2 e2 := by
  rw [rKs, h1]; dsimp only; rw [h2]
def ofK (l : List UInt8) : ByteArray := ⟨l.toArray⟩
theorem ofK_app (a b : List UInt8) : ofK (a ++ b) = ofK a ++ ofK b := ba_ext (by rw [ba_app]; simp [ofK])
theorem ofK_bl (s : ByteArray) : ofK (bl s) = s := ba_ext (by simp [ofK, bl])
theorem ofK_nil (r : ByteArray) : ofK [] ++ r = r := ba_ext (by rw [ba_app]; simp [ofK])
theorem spT_ba (s : Sp) (t : List Sp) (r : ByteArray) : ofK (spsT (s :: t)) ++ r = numS s.1 ++ (numS s.2 ++ (ofK (spsT t) ++ r)) := by
  show ofK (spT s ++ spsT t) ++ r = _
  unfold spT
  rw [ofK_app, ofK_app, ofK_bl, ofK_bl]
  simp only [ba_assoc]
theorem kErr0 {s : ByteArray} {e : Int} (h : (rNum s e).2.2 = 0) : e = 0 := by
  apply Classical.byContradiction
  intro hne
  rw [rNum_err hne] at h
  exact hne h
def fitK (s : Sp) : Prop := 0 ≤ s.1 ∧ s.1 ≤ 4096 ∧ 0 ≤ s.2 ∧ s.2 ≤ 4096
theorem canK : ∀ (l : List Sp) (e : Int), canB e l = true → ∀ q ∈ l, fitK q
  | [], _, _, q, hq => absurd hq (by simp)
  | s :: t, e, h, q, hq => by
    obtain ⟨h1, _, h3⟩ := (canB_cons e s t).1 h
    rcases List.mem_cons.1 hq with rfl | hq
    · unfold fitK; omega
    · exact canK t _ h3 q hq
theorem cur_parts {on : List Sp} {af lim : Int} (h : curB on af lim = true) : (∀ q ∈ on, fitK q) ∧ on.length ≤ 64 ∧ (-1 ≤ af ∧ af < 4096) ∧ (1 ≤ lim ∧ lim ≤ 500) ∧ chkB on = true := by
  unfold curB at h
  simp only [Bool.and_eq_true, decide_eq_true_iff] at h
  obtain ⟨h1, h2, h3, h4, h5⟩ := h
  have hc := h1
  unfold chkB at h1
  rw [Bool.and_eq_true, decide_eq_true_iff] at h1
  exact ⟨canK on _ h1.1, h1.2, ⟨h2, h3⟩, ⟨h4, h5⟩, hc⟩
theorem rKs_back : ∀ (m acc : List Sp) (r : ByteArray), (∀ s ∈ m, fitK s) → rKs m.length acc (ofK (spsT m) ++ r) 0 = (acc ++ m, r, 0)
  | [], acc, r, _ => by
    rw [List.append_nil]
    show (acc, ofK [] ++ r, (0 : Int)) = _
    rw [ofK_nil]
  | s :: m, acc, r, h => by
    obtain ⟨a0, a1, b0, b1⟩ := h s (by simp)
    rw [List.length_cons, spT_ba, rKs_go (rNum_back a0 (by omega) _) (rNum_back b0 (by omega) _), rKs_back m _ r (fun q hq => h q (by simp [hq]))]
    simp
theorem rKs_once : ∀ (n : Nat) (acc : List Sp) (s : ByteArray) (e : Int) (l : List Sp) (t : ByteArray), rKs n acc s e = (l, t, 0) → e = 0 ∧ ∃ m, l = acc ++ m ∧ m.length = n ∧ s = ofK (spsT m) ++ t
  | 0, acc, s, e, l, t, h => by
    rw [rKs] at h
    cases h
    exact ⟨rfl, [], by simp, rfl, (ofK_nil s).symm⟩
  | n + 1, acc, s, e, l, t, h => by
    obtain ⟨x, s1, e1, hA⟩ : ∃ x s1 e3, rNum s e = (x, s1, e3) := ⟨_, _, _, rfl⟩
    obtain ⟨y, s2, e2, hB⟩ : ∃ y s2 e4, rNum s1 e1 = (y, s2, e4) := ⟨_, _, _, rfl⟩
    rw [rKs_go hA hB] at h
    obtain ⟨he, m, h1, h2, h3⟩ := rKs_once n _ _ _ _ _ h
    subst he
    have k1 : e1 = 0 := kErr0 (s := s1) (by rw [hB])
    subst k1
    have k0 : e = 0 := kErr0 (s := s) (by rw [hA])
    subst k0
    have w1 := rNum_once (s := s) (e := 0) (by rw [hA])
    have w2 := rNum_once (s := s1) (e := 0) (by rw [hB])
    rw [hA] at w1
    rw [hB] at w2
    dsimp only at w1 w2
    refine ⟨rfl, (x, y) :: m, by rw [h1]; simp, by rw [List.length_cons, h2], ?_⟩
    rw [spT_ba, ← h3]
    dsimp only
    rw [w2, w1]
def finK (l : List Sp) (af lim m : Int) (t : ByteArray) (e : Int) : List Sp × Int × Int × Int :=
  if 64 < m ∧ e = 0 then ([], 0, 0, 3) else if rEnd t e = 0 then (if curB l af lim = true then (l, af, lim, 0) else ([], 0, 0, 3)) else ([], 0, 0, rEnd t e)
def readK (s : ByteArray) : List Sp × Int × Int × Int :=
  finK (rKs (min (rNum (rNum (rWhole s 0).2.1 (rWhole s 0).2.2).2.1 (rNum (rWhole s 0).2.1 (rWhole s 0).2.2).2.2).1 64).toNat [] (rNum (rNum (rWhole s 0).2.1 (rWhole s 0).2.2).2.1 (rNum (rWhole s 0).2.1 (rWhole s 0).2.2).2.2).2.1 (rNum (rNum (rWhole s 0).2.1 (rWhole s 0).2.2).2.1 (rNum (rWhole s 0).2.1 (rWhole s 0).2.2).2.2).2.2).1
    (rWhole s 0).1 (rNum (rWhole s 0).2.1 (rWhole s 0).2.2).1 (rNum (rNum (rWhole s 0).2.1 (rWhole s 0).2.2).2.1 (rNum (rWhole s 0).2.1 (rWhole s 0).2.2).2.2).1
    (rKs (min (rNum (rNum (rWhole s 0).2.1 (rWhole s 0).2.2).2.1 (rNum (rWhole s 0).2.1 (rWhole s 0).2.2).2.2).1 64).toNat [] (rNum (rNum (rWhole s 0).2.1 (rWhole s 0).2.2).2.1 (rNum (rWhole s 0).2.1 (rWhole s 0).2.2).2.2).2.1 (rNum (rNum (rWhole s 0).2.1 (rWhole s 0).2.2).2.1 (rNum (rWhole s 0).2.1 (rWhole s 0).2.2).2.2).2.2).2.1
    (rKs (min (rNum (rNum (rWhole s 0).2.1 (rWhole s 0).2.2).2.1 (rNum (rWhole s 0).2.1 (rWhole s 0).2.2).2.2).1 64).toNat [] (rNum (rNum (rWhole s 0).2.1 (rWhole s 0).2.2).2.1 (rNum (rWhole s 0).2.1 (rWhole s 0).2.2).2.2).2.1 (rNum (rNum (rWhole s 0).2.1 (rWhole s 0).2.2).2.1 (rNum (rWhole s 0).2.1 (rWhole s 0).2.2).2.2).2.2).2.2
theorem readK_eq {s s1 s2 s3 t : ByteArray} {af lim m e1 e2 e3 e : Int} {l : List Sp} (hA : rWhole s 0 = (af, s1, e1)) (hB : rNum s1 e1 = (lim, s2, e2)) (hN : rNum s2 e2 = (m, s3, e3)) (hC : rKs (min m 64).toNat [] s3 e3 = (l, t, e)) : readK s = finK l af lim m t e := by
  unfold readK
  rw [hA]; dsimp only
  rw [hB]; dsimp only
  rw [hN]; dsimp only
  rw [hC]
theorem readK_back {on : List Sp} {af lim : Int} (h : curB on af lim = true) : readK (ofK (textK on af lim)) = (on, af, lim, 0) := by
  obtain ⟨hf, hl, haf, hlim, _⟩ := cur_parts h
  rw [show textK on af lim = bodyK on af lim from if_pos h]
  have e : ofK (bodyK on af lim) = wholeS af ++ (numS lim ++ (numS (on.length : Int) ++ (ofK (spsT on) ++ ofK []))) := by
    unfold bodyK
    rw [ofK_app, ofK_app, ofK_app, ofK_bl, ofK_bl, ofK_bl, show ofK (spsT on) ++ ofK [] = ofK (spsT on) by rw [← ofK_app, List.append_nil]]
    simp only [ba_assoc]
  rw [e]
  have hm : (min (on.length : Int) 64).toNat = on.length := by rw [Int.min_eq_left (by omega), Int.toNat_natCast]
  rw [readK_eq (l := on) (t := ofK []) (e := 0) (rWhole_back (by unfold mayZ; exact decide_eq_true (by omega)) _) (rNum_back (by omega) (by omega) _) (rNum_back (by omega) (by omega) _) (by rw [hm]; exact rKs_back on [] (ofK []) hf)]
  unfold finK
  rw [if_neg (by rintro ⟨q, _⟩; omega), if_pos (show rEnd (ofK []) 0 = 0 from rfl), if_pos h]
theorem finK_err (l : List Sp) (af lim m : Int) (t : ByteArray) (e : Int) : (finK l af lim m t e).2.2.2 = 0 ∨ ((finK l af lim m t e).2.2.2 ≠ 0 ∧ (finK l af lim m t e).1 = [] ∧ (finK l af lim m t e).2.1 = 0 ∧ (finK l af lim m t e).2.2.1 = 0) := by
  unfold finK
  split
  · exact .inr ⟨by simp, rfl, rfl, rfl⟩
  · split
    · split
      · exact .inl rfl
      · exact .inr ⟨by simp, rfl, rfl, rfl⟩
    · rename_i h
      exact .inr ⟨h, rfl, rfl, rfl⟩
theorem readK_err (s : ByteArray) : (readK s).2.2.2 = 0 ∨ ((readK s).2.2.2 ≠ 0 ∧ (readK s).1 = [] ∧ (readK s).2.1 = 0 ∧ (readK s).2.2.1 = 0) := finK_err _ _ _ _ _ _
theorem readK_once {s : ByteArray} (h : (readK s).2.2.2 = 0) : curB (readK s).1 (readK s).2.1 (readK s).2.2.1 = true ∧ ofK (textK (readK s).1 (readK s).2.1 (readK s).2.2.1) = s := by
  obtain ⟨af, s1, e1, hA⟩ : ∃ x s1 e3, rWhole s 0 = (x, s1, e3) := ⟨_, _, _, rfl⟩
  obtain ⟨lim, s2, e2, hB⟩ : ∃ y s2 e4, rNum s1 e1 = (y, s2, e4) := ⟨_, _, _, rfl⟩
  obtain ⟨m, s3, e3, hN⟩ : ∃ yy ss ee, rNum s2 e2 = (yy, ss, ee) := ⟨_, _, _, rfl⟩
  obtain ⟨l, t, e, hC⟩ : ∃ y s2 e4, rKs (min m 64).toNat [] s3 e3 = (y, s2, e4) := ⟨_, _, _, rfl⟩
  have hm0 := (rNum_val s2 e2).1
  rw [hN] at hm0
  dsimp only at hm0
  rw [readK_eq hA hB hN hC] at h ⊢
  unfold finK at h ⊢
  by_cases h1 : 64 < m ∧ e = 0
  · rw [if_pos h1] at h; cases h
  · rw [if_neg h1] at h ⊢
    by_cases hE : rEnd t e = 0
    · rw [if_pos hE] at h ⊢
      by_cases hk : curB l af lim = true
      · rw [if_pos hk] at h ⊢
        dsimp only
        refine ⟨hk, ?_⟩
        have he : e = 0 := by
          unfold rEnd at hE
          by_cases hq : e = 0
          · exact hq
          · rw [if_neg hq] at hE; exact hE
        subst he
        have ht : t.data.toList = [] := by
          unfold rEnd at hE
          rw [if_pos rfl] at hE
          cases hq : t.data.toList with
          | nil => rfl
          | cons a b => rw [hq] at hE; cases hE
        have hm : ¬ 64 < m := fun q => h1 ⟨q, rfl⟩
        obtain ⟨k3, mm, a, b, c⟩ := rKs_once _ _ _ _ _ _ hC
        subst k3
        have k2 : e2 = 0 := kErr0 (s := s2) (by rw [hN])
        subst k2
        have k1 : e1 = 0 := kErr0 (s := s1) (by rw [hB])
        subst k1
        have w0 := rWhole_once (s := s) (e := 0) (by rw [hA])
        have w1 := rNum_once (s := s1) (e := 0) (by rw [hB])
        have w2 := rNum_once (s := s2) (e := 0) (by rw [hN])
        rw [hA] at w0
        rw [hB] at w1
        rw [hN] at w2
        dsimp only at w0 w1 w2
        rw [List.nil_append] at a
        subst a
        rw [Int.min_eq_left (by omega)] at b
        rw [show textK l af lim = bodyK l af lim from if_pos hk]
        unfold bodyK
        rw [ofK_app, ofK_app, ofK_app, ofK_bl, ofK_bl, ofK_bl, b, Int.toNat_of_nonneg hm0]
        rw [show ofK (spsT l) = s3 from ?_]
        · simp only [ba_assoc]
          rw [w2, w1, w0]
        · rw [c]; exact ba_ext (by rw [ba_app, ht, List.append_nil])
      · rw [if_neg hk] at h; cases h
    · rw [if_neg hE] at h; exact absurd h hE
end Go.Proofs.Ytcpcdinfagdlhaa
