/-
  DELTA, plain: what is written is read, and in one way alone.
-/
import Derived.Test.YtnjlbgnojlmmlaaDeM
namespace Go.Proofs.Ytnjlbgnojlmmlaa

def ofL (l : List UInt8) : ByteArray := ⟨l.toArray⟩
theorem ofL_app (a b : List UInt8) : ofL (a ++ b) = ofL a ++ ofL b := ba_ext (by rw [ba_app]; simp [ofL])
theorem ofL_bl (s : ByteArray) : ofL (bl s) = s := ba_ext (by simp [ofL, bl])
theorem ofL_nil (r : ByteArray) : ofL [] ++ r = r := ba_ext (by rw [ba_app]; simp [ofL])
/-- A turn's bytes. -/
theorem turnT_ba (z k v u : Int) (r : ByteArray) :
    (ofL (turnT z (k, (v, true), (u, true))) ++ r = numS (k - z - 1) ++ (numS 3 ++ (wholeS v ++ (wholeS (u - v) ++ r)))) ∧
    (ofL (turnT z (k, (v, true), (u, false))) ++ r = numS (k - z - 1) ++ (numS 1 ++ (wholeS v ++ r))) ∧
    (ofL (turnT z (k, (v, false), (u, true))) ++ r = numS (k - z - 1) ++ (numS 2 ++ (wholeS (u - v) ++ r))) ∧
    (ofL (turnT z (k, (v, false), (u, false))) ++ r = numS (k - z - 1) ++ (numS 0 ++ r)) := by
  unfold turnT kindT
  refine ⟨?_, ?_, ?_, ?_⟩
  all_goals
    simp only [if_true, Bool.false_eq_true, if_false, List.append_nil]
    simp only [ofL_app, ofL_bl, ba_assoc]
    rfl
theorem rTurn_back {z : Int} {t : Tn} (hz : -1 ≤ z) (h1 : z < t.1) (h2 : t.1 < 4096) (c1 : cellB t.2.1 = true) (c2 : cellB t.2.2 = true) (hne : t.2.1 ≠ t.2.2) (r : ByteArray) :
    rTurn (ofL (turnT z t) ++ r) 0 z = (t, true, r, 0) := by
  obtain ⟨k, ⟨v, a⟩, ⟨u, b⟩⟩ := t
  dsimp only at h1 h2
  have hv := cellB_bd c1
  have hu := cellB_bd c2
  obtain ⟨f3, f1, f2, _⟩ := turnT_ba z k v u r
  have g0 : ∀ q, rNum (numS (k - z - 1) ++ q) 0 = (k - z - 1, q, 0) := fun q => rNum_back (by omega) (by omega) q
  have mv : mayZ v = true := by unfold mayZ; exact decide_eq_true (by omega)
  have mu : mayZ (u - v) = true := by unfold mayZ; exact decide_eq_true (by omega)
  have hk : z + 1 + (k - z - 1) = k := by omega
  have hb : ¬ (4095 - z ≤ k - z - 1) := by omega
  unfold rTurn
  cases a with
  | true =>
    cases b with
    | true =>
      rw [f3, g0]
      dsimp only
      rw [rNum_back (n := 3) (by omega) (by omega)]
      dsimp only
      rw [rWhole_back mv]
      dsimp only
      rw [rWhole_back mu]
      dsimp only
      rw [if_neg (by omega), if_neg (by omega), if_neg (by omega), if_neg (by omega), hk, show v + (u - v) = u by omega]
      rfl
    | false =>
      have hu0 : u = 0 := by unfold cellB at c2; simpa using c2
      subst hu0
      rw [f1, g0]
      dsimp only
      rw [rNum_back (n := 1) (by omega) (by omega)]
      dsimp only
      rw [rWhole_back mv]
      dsimp only
      rw [if_neg (by omega), if_neg (by omega), if_pos rfl, hk]
      rfl
  | false =>
    have hv0 : v = 0 := by unfold cellB at c1; simpa using c1
    subst hv0
    cases b with
    | true =>
      rw [f2, g0]
      dsimp only
      rw [rNum_back (n := 2) (by omega) (by omega)]
      dsimp only
      rw [rWhole_back mu]
      dsimp only
      rw [if_neg (by omega), if_neg (by omega), if_neg (by omega), if_pos rfl, hk, Int.sub_zero]
      rfl
    | false =>
      have hu0 : u = 0 := by unfold cellB at c2; simpa using c2
      exact absurd (by rw [hu0]) hne
theorem rTs_back : ∀ (m acc : List Tn) (z : Int) (r : ByteArray), -1 ≤ z → chkF z m = true → rTs m.length acc z (ofL (turnsT z m) ++ r) 0 = some (acc ++ m, r, 0)
  | [], acc, z, r, _, _ => by
    rw [List.append_nil]
    show some (acc, ofL [] ++ r, (0 : Int)) = _
    rw [ofL_nil]
  | t :: m, acc, z, r, hz, h => by
    obtain ⟨h1, h2, h3, h4, h5, h6⟩ := chkF_cons h
    have e : ofL (turnsT z (t :: m)) ++ r = ofL (turnT z t) ++ (ofL (turnsT t.1 m) ++ r) := by
      show ofL (turnT z t ++ turnsT t.1 m) ++ r = _
      rw [ofL_app, ba_assoc]
    rw [e, List.length_cons, rTs_go (rTurn_back hz h1 h2 h3 h4 h5 _), rTs_back m (acc ++ [t]) t.1 r (by omega) h6]
    simp
theorem readD_back {l : List Tn} (h : chkB l = true) (hl : l.length ≤ 100000) : readD (ofL (textD l)) = (l, 0) := by
  unfold readD
  rw [show textD l = bl (numS (l.length : Int)) ++ turnsT (-1) l from if_pos h, ofL_app, ofL_bl, rNum_back (by omega) (by omega)]
  dsimp only
  have := rTs_back l [] (-1) (ofL []) (by omega) h
  rw [show ofL (turnsT (-1) l) ++ ofL [] = ofL (turnsT (-1) l) by rw [← ofL_app, List.append_nil]] at this
  rw [Int.toNat_natCast, this]
  dsimp only
  rw [List.nil_append, if_pos ⟨rfl, h⟩]
theorem num_err0 {s : ByteArray} {e : Int} (h : (rNum s e).2.2 = 0) : e = 0 := by
  apply Classical.byContradiction
  intro hne
  rw [rNum_err hne] at h
  exact hne h
theorem whole_err0 {s : ByteArray} {e : Int} (h : (rWhole s e).2.2 = 0) : e = 0 := num_err0 (s := s) h
theorem rTurn_once {s s2 : ByteArray} {e e2 z : Int} {t : Tn} (h : rTurn s e z = (t, true, s2, e2)) : e = 0 ∧ e2 = 0 ∧ s = ofL (turnT z t) ++ s2 := by
  obtain ⟨x, a1, e3, hA⟩ : ∃ x a1 e3, rNum s e = (x, a1, e3) := ⟨_, _, _, rfl⟩
  obtain ⟨y, a2, e4, hB⟩ : ∃ y a2 e4, rNum a1 e3 = (y, a2, e4) := ⟨_, _, _, rfl⟩
  have hy := (rNum_val a1 e3).1
  rw [hB] at hy
  dsimp only at hy
  have first : e4 = 0 → e = 0 ∧ numS x ++ (numS y ++ a2) = s := by
    intro h4
    subst h4
    have he3 : e3 = 0 := num_err0 (s := a1) (by rw [hB])
    subst he3
    have he : e = 0 := num_err0 (s := s) (by rw [hA])
    subst he
    have w1 := rNum_once (s := s) (e := 0) (by rw [hA])
    have w2 := rNum_once (s := a1) (e := 0) (by rw [hB])
    rw [hA] at w1
    rw [hB] at w2
    dsimp only at w1 w2
    exact ⟨rfl, by rw [w2, w1]⟩
  unfold rTurn at h
  rw [hA] at h
  dsimp only at h
  rw [hB] at h
  dsimp only at h
  split at h
  · cases h
  · rename_i hb
    split at h
    · rename_i hy0
      simp only [Prod.mk.injEq] at h
      obtain ⟨rfl, h2, rfl, rfl⟩ := h
      have h4 : e4 = 0 := by simpa using h2
      obtain ⟨f1, f2⟩ := first h4
      refine ⟨f1, h4, ?_⟩
      rw [(turnT_ba z _ _ _ _).2.2.2, ← f2, hy0, show z + 1 + x - z - 1 = x by omega]
    · obtain ⟨v, a3, e5, hC⟩ : ∃ v a3 e5, rWhole a2 e4 = (v, a3, e5) := ⟨_, _, _, rfl⟩
      rw [hC] at h
      dsimp only at h
      have second : e5 = 0 → e4 = 0 ∧ wholeS v ++ a3 = a2 := by
        intro h5
        subst h5
        have h4 : e4 = 0 := whole_err0 (s := a2) (by rw [hC])
        subst h4
        have w := rWhole_once (s := a2) (e := 0) (by rw [hC])
        rw [hC] at w
        exact ⟨rfl, w⟩
      split at h
      · rename_i hy1
        simp only [Prod.mk.injEq] at h
        obtain ⟨rfl, h2, rfl, rfl⟩ := h
        have h5 : e5 = 0 := by simpa using h2
        obtain ⟨g1, g2⟩ := second h5
        obtain ⟨f1, f2⟩ := first g1
        refine ⟨f1, h5, ?_⟩
        rw [(turnT_ba z _ _ _ _).2.1, ← f2, ← g2, hy1, show z + 1 + x - z - 1 = x by omega]
      · split at h
        · rename_i hy2
          simp only [Prod.mk.injEq] at h
          obtain ⟨rfl, h2, rfl, rfl⟩ := h
          have h5 : e5 = 0 := by simpa using h2
          obtain ⟨g1, g2⟩ := second h5
          obtain ⟨f1, f2⟩ := first g1
          refine ⟨f1, h5, ?_⟩
          rw [(turnT_ba z _ _ _ _).2.2.1, ← f2, ← g2, hy2, show z + 1 + x - z - 1 = x by omega, Int.sub_zero]
        · rename_i k0 k1 k2
          obtain ⟨u, a4, e6, hD⟩ : ∃ u a4 e6, rWhole a3 e5 = (u, a4, e6) := ⟨_, _, _, rfl⟩
          rw [hD] at h
          dsimp only at h
          simp only [Prod.mk.injEq] at h
          obtain ⟨rfl, h2, rfl, rfl⟩ := h
          have h6 : e6 = 0 := by simpa using h2
          subst h6
          have h5 : e5 = 0 := whole_err0 (s := a3) (by rw [hD])
          obtain ⟨g1, g2⟩ := second h5
          obtain ⟨f1, f2⟩ := first g1
          subst h5
          have w := rWhole_once (s := a3) (e := 0) (by rw [hD])
          rw [hD] at w
          dsimp only at w
          refine ⟨f1, rfl, ?_⟩
          have hy3 : y = 3 := by
            have : ¬ 3 < y := fun q => hb (.inr q)
            omega
          rw [(turnT_ba z _ _ _ _).1, ← f2, ← g2, ← w, hy3, show z + 1 + x - z - 1 = x by omega, show v + u - v = u by omega]
theorem rTs_once : ∀ (n : Nat) (acc : List Tn) (z : Int) (s : ByteArray) (e : Int) (l : List Tn) (t : ByteArray), rTs n acc z s e = some (l, t, 0) → ∃ m, l = acc ++ m ∧ m.length = n ∧ e = 0 ∧ s = ofL (turnsT z m) ++ t
  | 0, acc, z, s, e, l, t, h => by
    rw [rTs] at h
    cases h
    exact ⟨[], by simp, rfl, rfl, (ofL_nil s).symm⟩
  | n + 1, acc, z, s, e, l, t, h => by
    obtain ⟨tt, b, s2, e2, hq⟩ : ∃ tt b s2 e2, rTurn s e z = (tt, b, s2, e2) := ⟨_, _, _, _, rfl⟩
    cases b with
    | false => rw [rTs_stop hq] at h; cases h
    | true =>
      rw [rTs_go hq] at h
      obtain ⟨m, h1, h2, h3, h4⟩ := rTs_once n _ _ _ _ _ _ h
      obtain ⟨g1, g2, g3⟩ := rTurn_once hq
      refine ⟨tt :: m, by rw [h1]; simp, by rw [List.length_cons, h2], g1, ?_⟩
      rw [g3, h4]
      show _ = ofL (turnT z tt ++ turnsT tt.1 m) ++ t
      rw [ofL_app, ba_assoc]
theorem readD_err (s : ByteArray) : (readD s).2 = 0 ∨ ((readD s).2 = 3 ∧ (readD s).1 = []) := by
  unfold readD
  split
  · exact .inr ⟨rfl, rfl⟩
  · split
    · exact .inl rfl
    · exact .inr ⟨rfl, rfl⟩
theorem readD_once {s : ByteArray} (h : (readD s).2 = 0) : chkB (readD s).1 = true ∧ ofL (textD (readD s).1) = s := by
  obtain ⟨x, a1, e1, hA⟩ : ∃ x a1 e1, rNum s 0 = (x, a1, e1) := ⟨_, _, _, rfl⟩
  have hx := (rNum_val s 0).1
  rw [hA] at hx
  dsimp only at hx
  unfold readD at h ⊢
  rw [hA] at h ⊢
  dsimp only at h ⊢
  cases hr : rTs x.toNat [] (-1) a1 e1 with
  | none => rw [hr] at h; cases h
  | some q =>
    obtain ⟨l, t, e⟩ := q
    rw [hr] at h
    dsimp only at h ⊢
    by_cases hc : rEnd t e = 0 ∧ chkB l = true
    · rw [if_pos hc]
      dsimp only
      refine ⟨hc.2, ?_⟩
      have he : e = 0 := by
        have h1 := hc.1
        unfold rEnd at h1
        by_cases hq : e = 0
        · exact hq
        · rw [if_neg hq] at h1; exact h1
      have ht : t.data.toList = [] := by
        have h1 := hc.1
        unfold rEnd at h1
        rw [if_pos he] at h1
        cases hq : t.data.toList.isEmpty with
        | true => exact List.isEmpty_iff.1 hq
        | false => rw [hq] at h1; cases h1
      subst he
      obtain ⟨m, h1, h2, h3, h4⟩ := rTs_once _ _ _ _ _ _ _ hr
      rw [List.nil_append] at h1
      subst h1
      have w1 := rNum_once (s := s) (e := 0) (by rw [hA]; exact h3)
      rw [hA] at w1
      dsimp only at w1
      have hlen : (l.length : Int) = x := by omega
      rw [show textD l = bl (numS (l.length : Int)) ++ turnsT (-1) l from if_pos hc.2, ofL_app, ofL_bl, hlen, ← w1, h4]
      congr 1
      refine ba_ext ?_
      rw [ba_app, ht, List.append_nil]
    · rw [if_neg hc] at h; cases h
end Go.Proofs.Ytnjlbgnojlmmlaa
