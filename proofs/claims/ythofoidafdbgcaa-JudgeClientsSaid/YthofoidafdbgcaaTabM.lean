/-
  WHAT A MUTATION LEAVES, plain: where it fails; where it has no key; twice; two that are far from one another.
-/
import Derived.Test.YthofoidafdbgcaaTB
import Derived.Test.YthofoidafdbgcaaMB2
namespace Go.Proofs.Ythofoidafdbgcaa
open Go.RowKit Go.Shelf

theorem all_has {j : Int} (h0 : 0 ≤ j) (h1 : j < 4096) : hasB [(0, 4096)] j = true := by
  rw [hasB_cons, hasB_nil, Bool.or_false, inB_iff]
  dsimp only
  omega
theorem all_chk : chkB [(0, 4096)] = true := by decide
theorem touch_range {c s k : Int} {ps : List Sp} {lo hi old key : Int} (hc : chkM c s k ps lo hi old = true) (h : touchesB k ps lo hi key = true) : 0 ≤ key ∧ key < 4096 := by
  obtain ⟨h1, h2, _⟩ := touch_math hc key
  rw [h] at h2
  exact hasB_range h2
theorem getC_tab {l : List Sp} (h : tblB l = true) (key : Int) : getC l key = getT l key := if_pos h
theorem fails_touch {l R : List Sp} {k : Int} {ps : List Sp} {lo hi old : Int} {on : List Sp} (h : Fails l R k ps old on) : ∃ key, touchesB k ps lo hi key = true ∧ hasB on key = true ∧ cellV k old ps key (getT l key) = none := by
  obtain ⟨_, k34, p, hp, hh, hn⟩ := h
  refine ⟨p.1, ?_, hh, hn⟩
  unfold touchesB
  rw [if_neg (by omega), hp]
  simp
theorem does_cell {l R : List Sp} {k : Int} {ps : List Sp} {lo hi old : Int} {on : List Sp} (h : Does l R k ps lo hi old on) {key : Int} (ht : touchesB k ps lo hi key = true) (ho : hasB on key = true) : cellV k old ps key (getT l key) = some (getT R key) := by
  have := h key
  rwa [ht, ho, Bool.true_and, if_pos rfl] at this
theorem does_else {l R : List Sp} {k : Int} {ps : List Sp} {lo hi old : Int} {on : List Sp} (h : Does l R k ps lo hi old on) {key : Int} (ht : (touchesB k ps lo hi key && hasB on key) = false) : getT R key = getT l key := by
  have := h key
  rwa [ht, if_neg (by simp)] at this

theorem tfails_math {l : List Sp} {c s k : Int} {ps : List Sp} {lo hi old key : Int} (hl : tblB l = true) (hc : chkM c s k ps lo hi old = true) :
    tblB (applyP l c s k ps lo hi old [(0, 4096)]).1 = true ∧ ((applyP l c s k ps lo hi old [(0, 4096)]).2 = false → aloneB c s k ps lo hi old = true ∧ (applyP l c s k ps lo hi old [(0, 4096)]).1 = l) ∧
      (touchesB k ps lo hi key = false → getC (applyP l c s k ps lo hi old [(0, 4096)]).1 key = getC l key) := by
  have e : applyP l c s k ps lo hi old [(0, 4096)] = appT l k ps lo hi old [(0, 4096)] := if_pos ⟨hl, hc, all_chk⟩
  rw [e]
  obtain ⟨t, d⟩ := appT_get (on := [(0, 4096)]) hc hl
  refine ⟨t, fun hf => ?_, fun ht => ?_⟩
  · rcases d with ⟨a1, _⟩ | ⟨_, a2⟩
    · rw [a1] at hf; cases hf
    · refine ⟨?_, a2.1⟩
      unfold aloneB
      rw [hc, Bool.and_true]
      rcases a2.2.1 with h | h <;> simp [h]
  · rw [getC_tab t, getC_tab hl]
    rcases d with ⟨_, a2⟩ | ⟨_, a2⟩
    · exact does_else a2 (by rw [ht]; rfl)
    · rw [a2.1]
theorem tnone_math {l on : List Sp} {c s k : Int} {ps : List Sp} {lo hi old : Int} (hl : tblB l = true) (hc : chkM c s k ps lo hi old = true) (ho : chkB on = true) (ht : touchB (touchL c s k ps lo hi old) on = false) :
    applyP l c s k ps lo hi old on = (l, true) := by
  have e : applyP l c s k ps lo hi old on = appT l k ps lo hi old on := if_pos ⟨hl, hc, ho⟩
  rw [e]
  have hno : ∀ key, (touchesB k ps lo hi key && hasB on key) = false := fun key => by
    obtain ⟨h1, h2, _⟩ := touch_math hc key
    rw [← h2]
    cases hq : (hasB (touchL c s k ps lo hi old) key && hasB on key)
    · rfl
    · have := meets_yes hq
      unfold touchB at ht
      rw [h1, ho, this] at ht
      cases ht
  obtain ⟨t, d⟩ := appT_get (on := on) hc hl
  rcases d with ⟨a1, a2⟩ | ⟨_, a2⟩
  · have : (appT l k ps lo hi old on).1 = l := tab_same t hl fun key => does_else a2 (hno key)
    exact Prod.ext this a1
  · obtain ⟨key, h1, h2, _⟩ := fails_touch (lo := lo) (hi := hi) a2
    have := hno key
    rw [h1, h2] at this
    cases this
theorem ttwice_math {l on a : List Sp} {x : Bool} {c s k : Int} {ps : List Sp} {lo hi old : Int} (hl : tblB l = true) (hc : chkM c s k ps lo hi old = true) (ho : chkB on = true) (ha : applyP l c s k ps lo hi old on = (a, x)) :
    tblB a = true ∧ ((k = 1 ∨ k = 2) → x = true ∧ applyP a c s k ps lo hi old on = (a, true)) ∧
      (k = 4 → x = true → (ps.getD 0 (0, 0)).2 ≠ old → hasB on (ps.getD 0 (0, 0)).1 = true → applyP a c s k ps lo hi old on = (a, false)) := by
  have e : applyP l c s k ps lo hi old on = appT l k ps lo hi old on := if_pos ⟨hl, hc, ho⟩
  rw [e] at ha
  obtain ⟨t, d⟩ := appT_get (on := on) hc hl
  rw [ha] at t d
  dsimp only at t d
  have e2 : applyP a c s k ps lo hi old on = appT a k ps lo hi old on := if_pos ⟨t, hc, ho⟩
  rw [e2]
  obtain ⟨t2, d2⟩ := appT_get (on := on) hc t
  refine ⟨t, fun hk => ?_, fun hk hx hv hh => ?_⟩
  · have nof : ∀ {X Y : List Sp}, Fails X Y k ps old on → False := fun h => by have := h.2.1; omega
    rcases d with ⟨a1, a2⟩ | ⟨_, a2⟩
    · refine ⟨a1, ?_⟩
      rcases d2 with ⟨b1, b2⟩ | ⟨_, b2⟩
      · refine Prod.ext (tab_same t2 t fun key => ?_) b1
        cases hq : (touchesB k ps lo hi key && hasB on key)
        · exact does_else b2 hq
        · rw [Bool.and_eq_true] at hq
          have i1 := does_cell a2 hq.1 hq.2
          have i2 := does_cell b2 hq.1 hq.2
          unfold cellV at i1 i2
          by_cases k2 : k = 2
          · rw [if_pos k2] at i1 i2
            rw [← Option.some.inj i2, Option.some.inj i1]
          · rw [if_neg k2, if_neg (by omega), if_neg (by omega)] at i1 i2
            have hg : touchesB k ps lo hi key = (getT ps key).isSome := by unfold touchesB; rw [if_neg k2]; exact get_any ps key
            rw [hq.1] at hg
            cases hgp : getT ps key with
            | none => rw [hgp] at hg; cases hg
            | some v =>
              rw [hgp] at i1 i2
              dsimp only at i1 i2
              rw [← Option.some.inj i2, Option.some.inj i1]
      · exact (nof b2).elim
    · exact (nof a2).elim
  · rcases d with ⟨_, a2⟩ | ⟨a1, _⟩
    · have hp : ∃ p, ps = [p] := by
        rcases fits_cases (chkM_and hc).2.2.2 with ⟨h, _⟩ | ⟨h, _⟩ | ⟨_, p, h, _⟩ | ⟨h, _⟩
        · omega
        · omega
        · exact ⟨p, h⟩
        · omega
      obtain ⟨p, rfl⟩ := hp
      have hv' : p.2 ≠ old := hv
      have hh' : hasB on p.1 = true := hh
      have htp : touchesB k [p] lo hi p.1 = true := by unfold touchesB; rw [if_neg (by omega)]; simp
      have hcell : ∀ g, cellV k old [p] p.1 g = (nextV k old 0 p g).map some := fun g => by unfold cellV; rw [if_neg (by omega), if_neg (by omega), if_pos (.inr hk)]; rfl
      have i1 := does_cell a2 htp hh'
      rw [hcell] at i1
      have hga : getT a p.1 = some p.2 := by
        unfold nextV at i1
        rw [if_neg (by omega), if_pos hk] at i1
        split at i1
        · simpa using i1.symm
        · cases i1
      have hn : cellV k old [p] p.1 (getT a p.1) = none := by
        rw [hcell, hga]
        unfold nextV
        rw [if_neg (by omega), if_pos hk, if_neg]
        · rfl
        · rintro (h | ⟨h, _⟩)
          · exact hv' (Option.some.inj h)
          · cases h
      rcases d2 with ⟨_, b2⟩ | ⟨b1, b2⟩
      · have := does_cell b2 htp hh'
        rw [hn] at this
        cases this
      · exact Prod.ext b2.1 b1
    · rw [hx] at a1; cases a1
theorem tfar_math {l : List Sp} {c s k : Int} {ps : List Sp} {lo hi old : Int} {c2 s2 k2 : Int} {ps2 : List Sp} {lo2 hi2 old2 : Int} {A AB B BA : List Sp} {p q r t : Bool} (hl : tblB l = true) (hm : chkM c s k ps lo hi old = true) (hn : chkM c2 s2 k2 ps2 lo2 hi2 old2 = true)
    (hd : touchB (touchL c s k ps lo hi old) (touchL c2 s2 k2 ps2 lo2 hi2 old2) = false)
    (eA : applyP l c s k ps lo hi old [(0, 4096)] = (A, p)) (eAB : applyP A c2 s2 k2 ps2 lo2 hi2 old2 [(0, 4096)] = (AB, q)) (eB : applyP l c2 s2 k2 ps2 lo2 hi2 old2 [(0, 4096)] = (B, r)) (eBA : applyP B c s k ps lo hi old [(0, 4096)] = (BA, t)) :
    p = t ∧ q = r ∧ AB = BA := by
  have hno : ∀ key, touchesB k ps lo hi key = true → touchesB k2 ps2 lo2 hi2 key = true → False := fun key h1 h2 => by
    obtain ⟨i1, i2, _⟩ := touch_math hm key
    obtain ⟨j1, j2, _⟩ := touch_math hn key
    have := meets_yes (A := touchL c s k ps lo hi old) (B := touchL c2 s2 k2 ps2 lo2 hi2 old2) (j := key) (by rw [i2, j2, h1, h2]; rfl)
    unfold touchB at hd
    rw [i1, j1, this] at hd
    cases hd
  have hall : ∀ key, touchesB k ps lo hi key = true → hasB [(0, 4096)] key = true := fun key h => by have := touch_range hm h; exact all_has this.1 this.2
  have hall2 : ∀ key, touchesB k2 ps2 lo2 hi2 key = true → hasB [(0, 4096)] key = true := fun key h => by have := touch_range hn h; exact all_has this.1 this.2
  rw [show applyP l c s k ps lo hi old [(0, 4096)] = appT l k ps lo hi old [(0, 4096)] from if_pos ⟨hl, hm, all_chk⟩] at eA
  rw [show applyP l c2 s2 k2 ps2 lo2 hi2 old2 [(0, 4096)] = appT l k2 ps2 lo2 hi2 old2 [(0, 4096)] from if_pos ⟨hl, hn, all_chk⟩] at eB
  obtain ⟨tA, dA⟩ := appT_get (on := [(0, 4096)]) hm hl
  rw [eA] at tA dA
  obtain ⟨tB, dB⟩ := appT_get (on := [(0, 4096)]) hn hl
  rw [eB] at tB dB
  dsimp only at tA dA tB dB
  rw [show applyP A c2 s2 k2 ps2 lo2 hi2 old2 [(0, 4096)] = appT A k2 ps2 lo2 hi2 old2 [(0, 4096)] from if_pos ⟨tA, hn, all_chk⟩] at eAB
  rw [show applyP B c s k ps lo hi old [(0, 4096)] = appT B k ps lo hi old [(0, 4096)] from if_pos ⟨tB, hm, all_chk⟩] at eBA
  obtain ⟨tAB, dAB⟩ := appT_get (on := [(0, 4096)]) hn tA
  rw [eAB] at tAB dAB
  obtain ⟨tBA, dBA⟩ := appT_get (on := [(0, 4096)]) hm tB
  rw [eBA] at tBA dBA
  dsimp only at tAB dAB tBA dBA
  have kA : ∀ key, touchesB k2 ps2 lo2 hi2 key = true → getT A key = getT l key := fun key h => by
    rcases dA with ⟨_, d⟩ | ⟨_, d⟩
    · refine does_else d ?_
      cases ht : touchesB k ps lo hi key
      · rfl
      · exact (hno key ht h).elim
    · rw [d.1]
  have kB : ∀ key, touchesB k ps lo hi key = true → getT B key = getT l key := fun key h => by
    rcases dB with ⟨_, d⟩ | ⟨_, d⟩
    · refine does_else d ?_
      cases ht : touchesB k2 ps2 lo2 hi2 key
      · rfl
      · exact (hno key h ht).elim
    · rw [d.1]
  have hpt : p = t := by
    rcases dA with ⟨a1, a2⟩ | ⟨a1, a2⟩ <;> rcases dBA with ⟨b1, b2⟩ | ⟨b1, b2⟩
    · rw [a1, b1]
    · obtain ⟨key, h1, h2, h3⟩ := fails_touch (lo := lo) (hi := hi) b2
      have := does_cell a2 h1 h2
      rw [kB key h1, this] at h3
      cases h3
    · obtain ⟨key, h1, h2, h3⟩ := fails_touch (lo := lo) (hi := hi) a2
      have := does_cell b2 h1 h2
      rw [kB key h1, h3] at this
      cases this
    · rw [a1, b1]
  have hqr : q = r := by
    rcases dB with ⟨a1, a2⟩ | ⟨a1, a2⟩ <;> rcases dAB with ⟨b1, b2⟩ | ⟨b1, b2⟩
    · rw [a1, b1]
    · obtain ⟨key, h1, h2, h3⟩ := fails_touch (lo := lo2) (hi := hi2) b2
      have := does_cell a2 h1 h2
      rw [kA key h1, this] at h3
      cases h3
    · obtain ⟨key, h1, h2, h3⟩ := fails_touch (lo := lo2) (hi := hi2) a2
      have := does_cell b2 h1 h2
      rw [kA key h1, h3] at this
      cases this
    · rw [b1, a1]
  refine ⟨hpt, hqr, tab_same tAB tBA fun key => ?_⟩
  have same1 : touchesB k ps lo hi key = true → getT A key = getT BA key := fun ht => by
    rcases dA with ⟨a1, a2⟩ | ⟨a1, a2⟩ <;> rcases dBA with ⟨b1, b2⟩ | ⟨b1, b2⟩
    · have i1 := does_cell a2 ht (hall key ht)
      have i2 := does_cell b2 ht (hall key ht)
      rw [kB key ht, i1] at i2
      exact Option.some.inj i2
    · rw [a1, b1] at hpt; cases hpt
    · rw [a1, b1] at hpt; cases hpt
    · rw [a2.1, b2.1, kB key ht]
  have same2 : touchesB k2 ps2 lo2 hi2 key = true → getT B key = getT AB key := fun ht => by
    rcases dB with ⟨a1, a2⟩ | ⟨a1, a2⟩ <;> rcases dAB with ⟨b1, b2⟩ | ⟨b1, b2⟩
    · have i1 := does_cell a2 ht (hall2 key ht)
      have i2 := does_cell b2 ht (hall2 key ht)
      rw [kA key ht, i1] at i2
      exact Option.some.inj i2
    · rw [a1, b1] at hqr; cases hqr
    · rw [a1, b1] at hqr; cases hqr
    · rw [a2.1, b2.1, kA key ht]
  have offA : touchesB k ps lo hi key = false → getT A key = getT l key := fun ht => by
    rcases dA with ⟨_, d⟩ | ⟨_, d⟩
    · exact does_else d (by rw [ht]; rfl)
    · rw [d.1]
  have offB : touchesB k2 ps2 lo2 hi2 key = false → getT B key = getT l key := fun ht => by
    rcases dB with ⟨_, d⟩ | ⟨_, d⟩
    · exact does_else d (by rw [ht]; rfl)
    · rw [d.1]
  have offAB : touchesB k2 ps2 lo2 hi2 key = false → getT AB key = getT A key := fun ht => by
    rcases dAB with ⟨_, d⟩ | ⟨_, d⟩
    · exact does_else d (by rw [ht]; rfl)
    · rw [d.1]
  have offBA : touchesB k ps lo hi key = false → getT BA key = getT B key := fun ht => by
    rcases dBA with ⟨_, d⟩ | ⟨_, d⟩
    · exact does_else d (by rw [ht]; rfl)
    · rw [d.1]
  cases h1 : touchesB k ps lo hi key <;> cases h2 : touchesB k2 ps2 lo2 hi2 key
  · rw [offAB h2, offA h1, offBA h1, offB h2]
  · rw [offBA h1, same2 h2]
  · rw [offAB h2, same1 h1]
  · exact (hno key h1 h2).elim
end Go.Proofs.Ythofoidafdbgcaa
