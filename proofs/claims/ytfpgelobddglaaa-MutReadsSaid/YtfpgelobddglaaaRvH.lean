/-
  PLAIN MATHEMATICS: a mutation that is written is read as it was, and in one way.
-/
import Derived.Test.YtfpgelobddglaaaRvG
namespace Go.Proofs.Ytfpgelobddglaaa

theorem rNum_errE {s : ByteArray} {e : Int} (h : (rNum s e).2.2 = 0) : e = 0 := by
  apply Classical.byContradiction
  intro hne
  rw [rNum_err hne] at h
  exact hne h
theorem cPs_back (c : Nat) : ∀ (m acc : List Sp) (r : ByteArray), (∀ p ∈ m, 0 ≤ p.1 ∧ p.1 ≤ 4096 ∧ mayZ p.2 = true) → acc.length + m.length ≤ c + 1 → cPs c m.length acc (ofL (pairsT m) ++ r) 0 = (acc ++ m, r, 0)
  | [], acc, r, _, _ => by
    rw [List.append_nil]
    show (acc, ofL [] ++ r, (0 : Int)) = _
    rw [show ofL [] ++ r = r from ba_ext (by rw [ba_app]; simp [ofL])]
  | p :: m, acc, r, h, hl => by
    obtain ⟨h0, h1, h2⟩ := h p (by simp)
    rw [List.length_cons] at hl ⊢
    have e : ofL (pairsT (p :: m)) ++ r = numS p.1 ++ (wholeS p.2 ++ (ofL (pairsT m) ++ r)) := by rw [pairsT_cons, ofL_app, ofL_app, ofL_bl, ofL_bl, ba_assoc, ba_assoc]
    rw [e, cPs_go (rNum_back h0 (by omega) _) (rWhole_back h2 _) rfl, if_pos (by omega)]
    rw [cPs_back c m (acc ++ [(p.1, p.2)]) r (fun q hq => h q (by simp [hq])) (by rw [List.length_append]; simp; omega)]
    simp
theorem cPs_once (c : Nat) : ∀ (n : Nat) (acc : List Sp) (s : ByteArray) (l : List Sp) (t : ByteArray), cPs c n acc s 0 = (l, t, 0) → ∃ m, (acc ++ m).length ≤ l.length ∧ (l.length ≤ c → l = acc ++ m ∧ m.length = n ∧ s = ofL (pairsT m) ++ t)
  | 0, acc, s, l, t, h => by
    rw [cPs] at h
    cases h
    exact ⟨[], by simp, fun _ => ⟨by simp, rfl, ba_ext (by rw [ba_app]; simp [ofL, pairsT])⟩⟩
  | n + 1, acc, s, l, t, h => by
    obtain ⟨x, s1, e3, hA⟩ : ∃ x s1 e3, rNum s 0 = (x, s1, e3) := ⟨_, _, _, rfl⟩
    obtain ⟨y, s2, e4, hB⟩ : ∃ y s2 e4, rWhole s1 e3 = (y, s2, e4) := ⟨_, _, _, rfl⟩
    by_cases he : e4 = 0
    · rw [cPs_go hA hB he] at h
      subst he
      have he3 : e3 = 0 := rWhole_errE (s := s1) (by rw [hB])
      subst he3
      have w1 := rNum_once (s := s) (e := 0) (by rw [hA])
      rw [hA] at w1
      have w2 := rWhole_once (s := s1) (e := 0) (by rw [hB])
      rw [hB] at w2
      dsimp only at w1 w2
      by_cases hl : acc.length ≤ c
      · rw [if_pos hl] at h
        obtain ⟨m, h1, h2⟩ := cPs_once c n _ _ _ _ h
        refine ⟨(x, y) :: m, by simpa using h1, fun hle => ?_⟩
        obtain ⟨a, b, d⟩ := h2 hle
        refine ⟨by rw [a]; simp, by rw [List.length_cons, b], ?_⟩
        rw [pairsT_cons, ofL_app, ofL_app, ofL_bl, ofL_bl, ba_assoc, ba_assoc, ← d]
        dsimp only
        rw [w2, w1]
      · rw [if_neg hl] at h
        obtain ⟨m, h1, h2⟩ := cPs_once c n _ _ _ _ h
        rw [List.length_append] at h1
        exact ⟨m, by rw [List.length_append]; exact h1, fun hle => by omega⟩
    · rw [cPs_stop hA hB he] at h
      cases h
      exact absurd rfl he
theorem okPs_mem {l : List Sp} (h : okPs l = true) : ∀ p ∈ l, 0 ≤ p.1 ∧ p.1 ≤ 4096 ∧ mayZ p.2 = true := fun p hp => by
  have := List.all_eq_true.1 h p hp
  unfold okP at this
  rw [Bool.and_eq_true] at this
  have h1 := of_decide_eq_true this.1
  have h2 := (isVal_iff p.2).1 this.2
  exact ⟨by omega, by omega, decide_eq_true (by omega)⟩
theorem ofL_nil (a : ByteArray) : a ++ ofL [] = a := ba_ext (by rw [ba_app]; simp [ofL])
/-- What the fields of a mutation that may be are. -/
theorem chkM_facts {c q k : Int} {l : List Sp} {lo hi old : Int} (h : chkM c q k l lo hi old = true) :
    (1 ≤ c ∧ c ≤ 1048576) ∧ (1 ≤ q ∧ q ≤ 1073741824) ∧ (1 ≤ k ∧ k ≤ 5) ∧ (okPs l = true ∧ l.length ≤ 8) ∧ (k = 2 → 0 ≤ lo ∧ lo ≤ 4096 ∧ 0 ≤ hi ∧ hi ≤ 4096) ∧ (k ≠ 2 → lo = 0 ∧ hi = 0) ∧ (k ≠ 4 → old = 0) ∧ (k = 4 → mayZ old = true) := by
  obtain ⟨h1, h2, h3, h4⟩ := chkM_and h
  have hv := fits_kind h4
  refine ⟨of_decide_eq_true h1, of_decide_eq_true h2, ?_, ?_, ?_, ?_, ?_, ?_⟩
  · rcases hv with h | h <;> omega
  · rcases hv with h | h
    · rw [h.2.1]; exact ⟨rfl, by simp⟩
    · exact ⟨h.2.1, h.2.2.2⟩
  · intro hk
    rcases hv with ⟨_, _, e⟩ | ⟨e, _⟩
    · have := (oneB_iff (lo, hi)).1 e
      dsimp only at this
      omega
    · omega
  · intro hk
    unfold bareB at h3
    simp at h3
    rcases h3.1 with h | h
    · exact absurd h hk
    · exact h
  · intro hk
    unfold bareB at h3
    simp at h3
    rcases h3.2 with h | h
    · exact absurd h hk
    · exact h
  · intro hk
    subst hk
    unfold fitsB at h4
    simp at h4
    rcases h4.2 with h | h
    · have := (isVal_iff old).1 h
      exact decide_eq_true (by omega)
    · subst h; decide
theorem mRd_back {c q k : Int} {l : List Sp} {lo hi old : Int} (h : chkM c q k l lo hi old = true) : mRd cPairs (ofL (textT c q k l lo hi old)) = (⟨c, q, k, l, lo, hi, old⟩, 0) := by
  obtain ⟨⟨c0, c1⟩, ⟨q0, q1⟩, ⟨k0, k1⟩, ⟨hp, hl⟩, f2, n2, n4, f4⟩ := chkM_facts h
  have e : ofL (textT c q k l lo hi old) = numS c ++ (numS q ++ (numS k ++ (numS (l.length : Int) ++ (ofL (pairsT l) ++ ofL (tailT k lo hi old))))) := by
    rw [show textT c q k l lo hi old = bodyT c q k l lo hi old from if_pos h]
    unfold bodyT
    rw [ofL_app, ofL_app]
    apply ba_ext
    simp [ofL, numsT, bl]
  have hA := rNum_back (n := c) (by omega) (by omega) (numS q ++ (numS k ++ (numS (l.length : Int) ++ (ofL (pairsT l) ++ ofL (tailT k lo hi old)))))
  have hB := rNum_back (n := q) (by omega) (by omega) (numS k ++ (numS (l.length : Int) ++ (ofL (pairsT l) ++ ofL (tailT k lo hi old))))
  have hC := rNum_back (n := k) (by omega) (by omega) (numS (l.length : Int) ++ (ofL (pairsT l) ++ ofL (tailT k lo hi old)))
  have hD : cPairs (numS (l.length : Int) ++ (ofL (pairsT l) ++ ofL (tailT k lo hi old))) 0 = (l, ofL (tailT k lo hi old), 0) := by
    unfold cPairs
    rw [rNum_back (by omega) (by omega)]
    dsimp only
    rw [Int.toNat_natCast, cPs_back 8 l [] _ (okPs_mem hp) (by simp; omega)]
    rfl
  have hT : mTail k (ofL (tailT k lo hi old)) 0 = (lo, hi, old, ofL [], 0) := by
    by_cases h2 : k = 2
    · subst h2
      obtain ⟨a, b, d, f⟩ := f2 rfl
      have e0 : old = 0 := n4 (by decide)
      subst e0
      rw [show tailT 2 lo hi 0 = bl (numS lo) ++ bl (numS hi) from rfl, ofL_app, ofL_bl, ofL_bl]
      exact mTail_2 (rNum_back a (by omega) _) (by have := rNum_back d (by omega) (ofL []); rwa [ofL_nil] at this)
    · obtain ⟨rfl, rfl⟩ := n2 h2
      by_cases h4 : k = 4
      · subst h4
        rw [show tailT 4 0 0 old = bl (wholeS old) from rfl, ofL_bl]
        exact mTail_4 (by have := rWhole_back (f4 rfl) (ofL []); rwa [ofL_nil] at this)
      · have e0 : old = 0 := n4 h4
        subst e0
        rw [show tailT k 0 0 0 = [] from by unfold tailT; rw [if_neg h2, if_neg h4]]
        exact mTail_0 _ _ h2 h4
  rw [e, mRd_eq hA hB hC hD hT (rfl : rEnd (ofL []) 0 = 0)]
  unfold mFin
  rw [if_pos (show rEnd (ofL []) 0 = 0 from rfl), if_pos h]
theorem rEnd_zero {t : ByteArray} {e : Int} (h : rEnd t e = 0) : e = 0 ∧ t = ofL [] := by
  unfold rEnd at h
  by_cases hq : e = 0
  · refine ⟨hq, ?_⟩
    rw [if_pos hq] at h
    apply ba_ext
    cases hz : t.data.toList with
    | nil => rfl
    | cons a b => rw [hz] at h; cases h
  · rw [if_neg hq] at h
    exact absurd h hq
theorem mRd_once {s : ByteArray} (h : (mRd cPairs s).2 = 0) : ∃ c q k l lo hi old, mRd cPairs s = (⟨c, q, k, l, lo, hi, old⟩, 0) ∧ chkM c q k l lo hi old = true ∧ ofL (textT c q k l lo hi old) = s := by
  obtain ⟨c, s1, e1, hA⟩ : ∃ x s1 e1, rNum s 0 = (x, s1, e1) := ⟨_, _, _, rfl⟩
  obtain ⟨q, s2, e2, hB⟩ : ∃ x s2 e2, rNum s1 e1 = (x, s2, e2) := ⟨_, _, _, rfl⟩
  obtain ⟨k, s3, e3, hC⟩ : ∃ x s3 e3, rNum s2 e2 = (x, s3, e3) := ⟨_, _, _, rfl⟩
  obtain ⟨l, s4, e4, hD⟩ : ∃ x s4 e4, cPairs s3 e3 = (x, s4, e4) := ⟨_, _, _, rfl⟩
  obtain ⟨lo, hi, old, s5, e5, hT⟩ : ∃ lo hi old s5 e5, mTail k s4 e4 = (lo, hi, old, s5, e5) := ⟨_, _, _, _, _, rfl⟩
  have HR := mRd_eq hA hB hC hD hT rfl
  rw [HR] at h ⊢
  unfold mFin at h ⊢
  by_cases hx : rEnd s5 e5 = 0
  · rw [if_pos hx] at h ⊢
    by_cases hc : chkM c q k l lo hi old = true
    · rw [if_pos hc]
      refine ⟨c, q, k, l, lo, hi, old, rfl, hc, ?_⟩
      obtain ⟨he5, hs5⟩ := rEnd_zero hx
      subst he5
      subst hs5
      obtain ⟨⟨c0, c1⟩, ⟨q0, q1⟩, ⟨k0, k1⟩, ⟨hp, hl⟩, f2, n2, n4, f4⟩ := chkM_facts hc
      have ht : e4 = 0 ∧ s4 = ofL (tailT k lo hi old) := by
        unfold mTail at hT
        by_cases h2 : k = 2
        · subst h2
          rw [if_pos rfl] at hT
          obtain ⟨x, t1, g1, hE⟩ : ∃ x t1 g1, rNum s4 e4 = (x, t1, g1) := ⟨_, _, _, rfl⟩
          obtain ⟨y, t2, g2, hF⟩ : ∃ y t2 g2, rNum t1 g1 = (y, t2, g2) := ⟨_, _, _, rfl⟩
          rw [hE] at hT
          dsimp only at hT
          rw [hF] at hT
          have p1 : x = lo := congrArg (fun z => z.1) hT
          have p2 : y = hi := congrArg (fun z => z.2.1) hT
          have p3 : (0 : Int) = old := congrArg (fun z => z.2.2.1) hT
          have p4 : t2 = ofL [] := congrArg (fun z => z.2.2.2.1) hT
          have p5 : g2 = 0 := congrArg (fun z => z.2.2.2.2) hT
          clear hT
          have hg : g1 = 0 := rNum_errE (s := t1) (by rw [hF]; exact p5)
          rw [hg] at hF
          have he : e4 = 0 := rNum_errE (s := s4) (by rw [hE]; exact hg)
          rw [he] at hE
          have w1 := rNum_once (s := s4) (e := 0) (by rw [hE]; exact hg)
          have w2 := rNum_once (s := t1) (e := 0) (by rw [hF]; exact p5)
          rw [hE] at w1
          rw [hF] at w2
          dsimp only at w1 w2
          refine ⟨he, ?_⟩
          rw [p4] at w2
          rw [← p1, ← p2, ← p3, show tailT 2 x y 0 = bl (numS x) ++ bl (numS y) from rfl, ofL_app, ofL_bl, ofL_bl, ← w1, ← w2, ofL_nil]
        · rw [if_neg h2] at hT
          by_cases h4 : k = 4
          · subst h4
            rw [if_pos rfl] at hT
            obtain ⟨x, t1, g1, hE⟩ : ∃ x t1 g1, rWhole s4 e4 = (x, t1, g1) := ⟨_, _, _, rfl⟩
            rw [hE] at hT
            have p1 : (0 : Int) = lo := congrArg (fun z => z.1) hT
            have p2 : (0 : Int) = hi := congrArg (fun z => z.2.1) hT
            have p3 : x = old := congrArg (fun z => z.2.2.1) hT
            have p4 : t1 = ofL [] := congrArg (fun z => z.2.2.2.1) hT
            have p5 : g1 = 0 := congrArg (fun z => z.2.2.2.2) hT
            clear hT
            have he : e4 = 0 := rWhole_errE (s := s4) (by rw [hE]; exact p5)
            rw [he] at hE
            have w1 := rWhole_once (s := s4) (e := 0) (by rw [hE]; exact p5)
            rw [hE] at w1
            dsimp only at w1
            rw [p4] at w1
            refine ⟨he, ?_⟩
            rw [← p1, ← p2, ← p3, show tailT 4 0 0 x = bl (wholeS x) from rfl, ofL_bl, ← w1, ofL_nil]
          · rw [if_neg h4] at hT
            cases hT
            refine ⟨rfl, ?_⟩
            rw [show tailT k 0 0 0 = [] from by unfold tailT; rw [if_neg h2, if_neg h4]]
      obtain ⟨rfl, rfl⟩ := ht
      obtain ⟨x, t1, g1, hE⟩ : ∃ x t1 g1, rNum s3 e3 = (x, t1, g1) := ⟨_, _, _, rfl⟩
      unfold cPairs at hD
      rw [hE] at hD
      dsimp only at hD
      by_cases hg : g1 = 0
      · subst hg
        have he3 : e3 = 0 := rNum_errE (s := s3) (by rw [hE])
        subst he3
        have he2 : e2 = 0 := rNum_errE (s := s2) (by rw [hC])
        subst he2
        have he1 : e1 = 0 := rNum_errE (s := s1) (by rw [hB])
        subst he1
        have w0 := rNum_once (s := s) (e := 0) (by rw [hA])
        have w1 := rNum_once (s := s1) (e := 0) (by rw [hB])
        have w2 := rNum_once (s := s2) (e := 0) (by rw [hC])
        have w3 := rNum_once (s := s3) (e := 0) (by rw [hE])
        have hx0 := (rNum_val s3 0).1
        rw [hA] at w0
        rw [hB] at w1
        rw [hC] at w2
        rw [hE] at w3 hx0
        dsimp only at w0 w1 w2 w3 hx0
        obtain ⟨m, _, hm⟩ := cPs_once 8 _ _ _ _ _ hD
        obtain ⟨a, b, d⟩ := hm hl
        rw [List.nil_append] at a
        subst a
        rw [show textT c q k l lo hi old = bodyT c q k l lo hi old from if_pos hc, ← w0, ← w1, ← w2, ← w3, d]
        have hxl : x = (l.length : Int) := by rw [b, Int.toNat_of_nonneg hx0]
        rw [hxl]
        unfold bodyT
        rw [ofL_app, ofL_app]
        apply ba_ext
        simp [ofL, numsT, bl]
      · exfalso
        have hz := rNum_errZ (s := s3) (e := e3) (by rw [hE]; exact hg)
        rw [hE] at hz
        dsimp only at hz
        subst hz
        rw [show (0 : Int).toNat = 0 from rfl, cPs] at hD
        cases hD
        exact hg rfl
    · rw [if_neg hc] at h; cases h
  · rw [if_neg hx] at h; exact absurd h hx
theorem mRd_bad {P : ByteArray → Int → List Sp × ByteArray × Int} {s : ByteArray} (h : (mRd P s).2 ≠ 0) : (mRd P s).1 = noM := by
  unfold mRd mR2 mR3 mR4 mFin at h ⊢
  split
  · rename_i hx
    rw [if_pos hx] at h
    split
    · rename_i hc; rw [if_pos hc] at h; exact absurd rfl h
    · rfl
  · rfl
/-- Two mutations that may be have the same bytes just where they are the same. -/
theorem textT_inj {c q k : Int} {l : List Sp} {lo hi old c2 q2 k2 : Int} {l2 : List Sp} {lo2 hi2 old2 : Int} (h : chkM c q k l lo hi old = true) (h2 : chkM c2 q2 k2 l2 lo2 hi2 old2 = true) (e : textT c q k l lo hi old = textT c2 q2 k2 l2 lo2 hi2 old2) :
    c = c2 ∧ q = q2 ∧ k = k2 ∧ (lo, hi) = (lo2, hi2) ∧ old = old2 ∧ l = l2 := by
  have e1 := mRd_back h
  have e2 := mRd_back h2
  rw [e, e2] at e1
  cases e1
  exact ⟨rfl, rfl, rfl, rfl, rfl, rfl⟩
end Go.Proofs.Ytfpgelobddglaaa
