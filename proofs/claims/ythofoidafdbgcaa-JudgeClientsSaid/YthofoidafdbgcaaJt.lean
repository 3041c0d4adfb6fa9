/-
  A mutation makes of the parts of a table what it makes of the whole: by plain tables.
-/
import Derived.Test.YthofoidafdbgcaaJp
import Derived.Test.YthofoidafdbgcaaTabM
namespace Go.Proofs.Ythofoidafdbgcaa
open Go.RowKit Go.Shelf

def outV (k old : Int) (ps : List Sp) (lo hi : Int) (key : Int) (c : Option Int) : Option Int := if touchesB k ps lo hi key = true then (cellV k old ps key c).getD c else c
theorem tpart_get {l S : List Sp} {c s k : Int} {ps : List Sp} {lo hi old : Int} {r : List Sp} {z : Bool} (hl : tblB l = true) (hc : chkM c s k ps lo hi old = true) (hS : chkB S = true) (e : applyP (clipP l S) c s k ps lo hi old S = (r, z)) :
    tblB r = true ∧ (∀ key, getT r key = if hasB S key = true then outV k old ps lo hi key (getT l key) else none) ∧ (z = true ↔ ∀ key, touchesB k ps lo hi key = true → hasB S key = true → cellV k old ps key (getT l key) ≠ none) := by
  have hcl : clipP l S = l.filter fun p => hasB S p.1 := if_pos ⟨hl, hS⟩
  have hP : tblB (clipP l S) = true := by rw [hcl]; exact tblF_filter _ _ _ hl
  have hg : ∀ key, getT (clipP l S) key = if hasB S key = true then getT l key else none := fun key => by rw [hcl]; exact getT_filter (hasB S) l key
  have e' : applyP (clipP l S) c s k ps lo hi old S = appT (clipP l S) k ps lo hi old S := if_pos ⟨hP, hc, hS⟩
  rw [e'] at e
  obtain ⟨t, d⟩ := appT_get (on := S) hc hP
  rw [e] at t d
  refine ⟨t, ?_⟩
  rcases d with ⟨hz, d⟩ | ⟨hz, d⟩
  · dsimp only at hz d
    subst hz
    constructor
    · intro key
      have h := d key
      rw [hg] at h
      cases hh : hasB S key
      · rw [hh] at h
        simpa using h
      · rw [hh] at h
        rw [if_pos rfl]
        unfold outV
        cases ht : touchesB k ps lo hi key
        · rw [ht] at h; simpa using h
        · rw [ht] at h
          simp at h
          rw [if_pos rfl, h]; rfl
    · refine ⟨fun _ key ht hh => ?_, fun _ => rfl⟩
      have h := d key
      rw [hg, hh, ht] at h
      simp at h
      rw [h]; simp
  · obtain ⟨hr, k34, p, hp, hh, hn⟩ := d
    dsimp only at hz hr
    subst hz
    have htp : touchesB k ps lo hi p.1 = true := by unfold touchesB; rw [if_neg (by omega), hp]; simp
    have htk : ∀ key, touchesB k ps lo hi key = true → key = p.1 := fun key h => by
      unfold touchesB at h
      rw [if_neg (by omega), hp] at h
      simp at h
      exact h.symm
    rw [hg, if_pos hh] at hn
    constructor
    · intro key
      rw [hr, hg]
      cases hs : hasB S key
      · rfl
      · rw [if_pos rfl, if_pos rfl]
        unfold outV
        cases ht : touchesB k ps lo hi key
        · rfl
        · rw [if_pos rfl, htk key ht, hn]; rfl
    · exact ⟨fun h => Bool.noConfusion h, fun h => absurd hn (h p.1 htp hh)⟩

theorem clip_all {l : List Sp} (hl : tblB l = true) : clipP l [(0, 4096)] = l := by
  have h1 : chkB [((0 : Int), (4096 : Int))] = true := by decide
  rw [show clipP l [(0, 4096)] = l.filter fun p => hasB [(0, 4096)] p.1 from if_pos ⟨hl, h1⟩]
  refine filter_all fun x hx => ?_
  have := ((tblF_iff l (-1)).1 hl).1 x hx
  exact all_has (by omega) (by omega)
theorem tparts_math {l on off : List Sp} {c s k : Int} {ps : List Sp} {lo hi old : Int} {R a b J : List Sp} {z x y : Bool} {f : Int} (hl : tblB l = true) (hc : chkM c s k ps lo hi old = true) (he : lessP [(0, 4096)] on = (off, 0))
    (eR : applyP l c s k ps lo hi old [(0, 4096)] = (R, z)) (ea : applyP (clipP l on) c s k ps lo hi old on = (a, x)) (eb : applyP (clipP l off) c s k ps lo hi old off = (b, y)) (eJ : joinT a b = (J, f)) :
    f = 0 ∧ J = R ∧ z = (x && y) := by
  obtain ⟨h1, h2, h3⟩ := lessP_chk he
  have ho := lessP_has he
  obtain ⟨ta, ga, xa⟩ := tpart_get hl hc h2 ea
  obtain ⟨tb, gb, xb⟩ := tpart_get hl hc h3 eb
  rw [← clip_all hl] at eR
  obtain ⟨tR, gR, xR⟩ := tpart_get hl hc h1 eR
  have hoff : ∀ key, hasB on key = true → hasB off key = false := fun key h => by rw [ho, h]; simp
  have hon : ∀ key, hasB off key = false → hasB [(0, 4096)] key = true → hasB on key = true := fun key h h' => by
    rw [ho, h'] at h; simpa using h
  have hin : ∀ key, hasB off key = true → hasB [(0, 4096)] key = true := fun key h => by
    rw [ho] at h; simp at h; exact h.1
  have hin2 : ∀ key, hasB on key = true → hasB [(0, 4096)] key = true := fun key h => by
    obtain ⟨r1, r2⟩ := hasB_range h
    exact all_has r1 r2
  have hS : shareB a b = false := by
    cases hs : shareB a b with
    | false => rfl
    | true =>
      obtain ⟨u, hu, v, hv, huv⟩ := (share_iff tb).1 hs
      have g1 := ga u.1
      have g2 := gb u.1
      rw [(getT_mem a (-1) u.1 u.2 ta).2 hu] at g1
      rw [(getT_mem b (-1) u.1 v.2 tb).2 (by rw [huv]; exact hv)] at g2
      cases q : hasB on u.1
      · rw [q] at g1; simp at g1
      · rw [hoff _ q] at g2; simp at g2
  unfold joinT at eJ
  rw [if_pos ⟨ta, tb⟩, hS, if_neg (by simp)] at eJ
  obtain ⟨rfl, rfl⟩ := Prod.mk.inj eJ
  have ta' := ((tblF_iff a (-1)).1 ta).1
  refine ⟨rfl, tab_same (tblB_jn a b tb ta') tR fun key => ?_, ?_⟩
  · rw [getT_jn, ga, gb, gR]
    cases q : hasB on key
    · cases q2 : hasB off key
      · have : hasB [(0, 4096)] key = false := by
          cases q3 : hasB [(0, 4096)] key
          · rfl
          · rw [hon key q2 q3] at q; cases q
        rw [this]; simp
      · rw [hin key q2]; simp
    · rw [hoff key q, hin2 key q]; simp
  · rw [Bool.eq_iff_iff, Bool.and_eq_true, xR, xa, xb]
    constructor
    · exact fun h => ⟨fun key t g => h key t (hin2 key g), fun key t g => h key t (hin key g)⟩
    · rintro ⟨p, q⟩ key t g
      cases w : hasB off key
      · exact p key t (hon key w g)
      · exact q key t w
end Go.Proofs.Ythofoidafdbgcaa
