/-
  DELTA, plain: Between, Make, Back and Then, key by key; there and back; chains.
-/
import Derived.Test.YtnjlbgnojlmmlaaDlM
import Derived.Test.YtnjlbgnojlmmlaaDlO
namespace Go.Proofs.Ytnjlbgnojlmmlaa

theorem tbl_asc {a : List Pr} (h : tblB a = true) : asc kP (-1) a := ((tblB_iff a).1 h).1
theorem chk_asc {l : List Tn} (h : chkB l = true) : asc kT (-1) l := ((chkB_iff l).1 h).1
theorem mPP_asc {a b : List Pr} (ha : tblB a = true) (hb : tblB b = true) : asc Mt.key (-1) (meetsPP a b) := meets_asc _ _ _ _ a b _ (tbl_asc ha) (tbl_asc hb)
theorem mPT_asc {a : List Pr} {l : List Tn} (ha : tblB a = true) (hb : chkB l = true) : asc Mt.key (-1) (meetsPT a l) := meets_asc _ _ _ _ a l _ (tbl_asc ha) (chk_asc hb)
theorem mTT_asc {l m : List Tn} (ha : chkB l = true) (hb : chkB m = true) : asc Mt.key (-1) (meetsTT l m) := meets_asc _ _ _ _ l m _ (chk_asc ha) (chk_asc hb)
theorem mPP_fnd {a b : List Pr} (ha : tblB a = true) (hb : tblB b = true) (k : Int) : fnd Mt.key (meetsPP a b) k = mtO (0, 0) (0, 0) k (fnd kP a k) (fnd kP b k) := meets_fnd _ _ _ _ k a b _ (tbl_asc ha) (tbl_asc hb)
theorem mPT_fnd {a : List Pr} {l : List Tn} (ha : tblB a = true) (hb : chkB l = true) (k : Int) : fnd Mt.key (meetsPT a l) k = mtO (0, 0) (0, (0, false), (0, false)) k (fnd kP a k) (fnd kT l k) := meets_fnd _ _ _ _ k a l _ (tbl_asc ha) (chk_asc hb)
theorem mTT_fnd {l m : List Tn} (ha : chkB l = true) (hb : chkB m = true) (k : Int) : fnd Mt.key (meetsTT l m) k = mtO (0, (0, false), (0, false)) (0, (0, false), (0, false)) k (fnd kT l k) (fnd kT m k) := meets_fnd _ _ _ _ k l m _ (chk_asc ha) (chk_asc hb)

/-! Between. -/
def bF (x : Mt Pr Pr) : Option Tn := if ((x.a.2, x.inA) : Cl) = (x.b.2, x.inB) then none else some (x.key, (x.a.2, x.inA), (x.b.2, x.inB))
theorem bF_key (x : Mt Pr Pr) (y : Tn) (h : bF x = some y) : kT y = x.key := by
  unfold bF at h
  split at h
  · cases h
  · cases h; rfl
theorem betwS_fm (xs : List (Mt Pr Pr)) : betwS xs = xs.filterMap bF := by
  unfold betwS
  rw [foldl_fm (f := bF) (fun l x => by unfold stepB; rw [turnS_fm]; rfl)]
  simp
theorem betw_at {a b : List Pr} (ha : tblB a = true) (hb : tblB b = true) (k : Int) : turnAt (betwS (meetsPP a b)) k = if cellOf a k = cellOf b k then none else some (cellOf a k, cellOf b k) := by
  unfold turnAt
  rw [betwS_fm, fm_fnd bF_key k (mPP_asc ha hb), mPP_fnd ha hb]
  unfold cellOf
  cases fnd kP a k <;> cases fnd kP b k <;> simp only [mtO, Option.bind_none, Option.bind_some, Option.map_none, bF]
  all_goals first
    | rfl
    | (split <;> rfl)
theorem betw_chk {a b : List Pr} (ha : tblB a = true) (hb : tblB b = true) : chkB (betwS (meetsPP a b)) = true := by
  have hs : asc kT (-1) (betwS (meetsPP a b)) := by rw [betwS_fm]; exact fm_asc bF_key (mPP_asc ha hb)
  refine (chkB_iff _).2 ⟨hs, fun t ht => ?_⟩
  have h1 : turnAt (betwS (meetsPP a b)) t.1 = some t.2 := by unfold turnAt; rw [mem_fnd hs ht]; rfl
  rw [betw_at ha hb] at h1
  by_cases he : cellOf a t.1 = cellOf b t.1
  · rw [if_pos he] at h1; cases h1
  · rw [if_neg he] at h1
    have h2 : t.2 = (cellOf a t.1, cellOf b t.1) := (Option.some.inj h1).symm
    have hk : t.1 < 4096 := by
      by_cases h3 : (cellOf a t.1).2 = true
      · exact (cellOf_key ha h3).2
      · by_cases h4 : (cellOf b t.1).2 = true
        · exact (cellOf_key hb h4).2
        · exfalso
          apply he
          have e1 := cellOf_fnd (a := a) t.1
          have e2 := cellOf_fnd (a := b) t.1
          rw [if_neg h3] at e1
          rw [if_neg h4] at e2
          unfold cellOf
          rw [e1, e2]
    refine ⟨hk, ?_, ?_, ?_⟩
    · rw [h2]; exact cellOf_ok ha _
    · rw [h2]; exact cellOf_ok hb _
    · rw [h2]; exact he

/-! Fits, Make. -/
theorem fits_iff {a : List Pr} {l : List Tn} (ha : tblB a = true) (hl : chkB l = true) : fitsB a l = true ↔ ∀ k c, turnAt l k = some c → c.1 = cellOf a k := by
  unfold fitsB
  rw [ha, hl, Bool.true_and, Bool.true_and, List.all_eq_true]
  constructor
  · intro h k c hc
    have e1 := mPT_fnd ha hl k
    rw [turnAt_fnd, hc] at e1
    have hx : ∃ x, fnd Mt.key (meetsPT a l) k = some x ∧ x.inB = true ∧ x.b = (k, c) ∧ ((x.a.2, x.inA) : Cl) = cellOf a k := by
      unfold cellOf
      cases hp : fnd kP a k with
      | none => rw [hp] at e1; exact ⟨_, e1, rfl, rfl, rfl⟩
      | some p => rw [hp] at e1; exact ⟨_, e1, rfl, rfl, rfl⟩
    obtain ⟨x, hx, h1, h2, h3⟩ := hx
    have := h x (fnd_some hx).1
    unfold fitX at this
    rw [h1, h3, h2] at this
    simpa using this
  · intro h x hx
    have hf := mem_fnd (mPT_asc ha hl) hx
    rw [mPT_fnd ha hl] at hf
    unfold fitX
    cases hl2 : fnd kT l x.key with
    | none =>
      rw [hl2] at hf
      cases hp : fnd kP a x.key with
      | none => rw [hp] at hf; cases hf
      | some p => rw [hp] at hf; have := Option.some.inj hf; rw [← this]; rfl
    | some t =>
      rw [hl2] at hf
      have ht := h x.key t.2 (by unfold turnAt; rw [hl2]; rfl)
      unfold cellOf at ht
      cases hp : fnd kP a x.key with
      | none =>
        rw [hp] at hf ht
        have hf' := Option.some.inj hf
        rw [← hf']
        simp [ht]
      | some p =>
        rw [hp] at hf ht
        have hf' := Option.some.inj hf
        rw [← hf']
        simp [ht]
def mF (x : Mt Pr Tn) : Option Pr := if (isX x).2 then some (x.key, (isX x).1) else none
theorem mF_key (x : Mt Pr Tn) (y : Pr) (h : mF x = some y) : kP y = x.key := by
  unfold mF at h
  split at h
  · cases h; rfl
  · cases h
theorem makS_fm (xs : List (Mt Pr Tn)) : makS xs = xs.filterMap mF := by
  unfold makS
  rw [foldl_fm (f := mF) (fun l x => by unfold makX mF; split <;> simp)]
  simp
theorem mak_at {a : List Pr} {l : List Tn} (ha : tblB a = true) (hl : chkB l = true) (k : Int) : cellOf (makS (meetsPT a l)) k = match turnAt l k with | some c => c.2 | none => cellOf a k := by
  have e1 : fnd kP (makS (meetsPT a l)) k = (fnd Mt.key (meetsPT a l) k).bind mF := by rw [makS_fm, fm_fnd mF_key k (mPT_asc ha hl)]
  rw [mPT_fnd ha hl] at e1
  cases ht : turnAt l k with
  | none =>
    rw [turnAt_fnd, ht] at e1
    unfold cellOf
    rw [e1]
    cases fnd kP a k <;> rfl
  | some c =>
    have hok := (turnAt_ok hl ht).1.2.2.1
    rw [turnAt_fnd, ht] at e1
    have e2 : fnd kP (makS (meetsPT a l)) k = if c.2.2 = true then some (k, c.2.1) else none := by
      rw [e1]
      cases fnd kP a k <;> rfl
    unfold cellOf
    rw [e2]
    obtain ⟨c1, v, s⟩ := c
    cases s with
    | true => rfl
    | false =>
      unfold cellB at hok
      simp at hok
      simp [hok]
theorem mak_tbl {a : List Pr} {l : List Tn} (ha : tblB a = true) (hl : chkB l = true) : tblB (makS (meetsPT a l)) = true := by
  have hs : asc kP (-1) (makS (meetsPT a l)) := by rw [makS_fm]; exact fm_asc mF_key (mPT_asc ha hl)
  refine (tblB_iff _).2 ⟨hs, fun p hp => ?_⟩
  have h1 := mem_fnd hs hp
  have h2 : cellOf (makS (meetsPT a l)) p.1 = (p.2, true) := by unfold cellOf; rw [h1]
  rw [mak_at ha hl] at h2
  cases ht : turnAt l p.1 with
  | none =>
    rw [ht] at h2
    have h3 : cellOf a p.1 = (p.2, true) := h2
    have hk := cellOf_key ha (k := p.1) (by rw [h3])
    have hc := cellOf_ok ha p.1
    rw [h3] at hc
    unfold cellB at hc
    simp at hc
    exact ⟨hk.2, hc⟩
  | some c =>
    rw [ht] at h2
    have h3 : c.2 = (p.2, true) := h2
    have hk := turnAt_ok hl ht
    have hc := hk.1.2.2.1
    rw [show ((p.1, c) : Tn).2.2 = (p.2, true) from h3] at hc
    unfold cellB at hc
    simp at hc
    exact ⟨hk.1.1, hc⟩

/-! Back. -/
theorem flip_fnd : ∀ (l : List Tn) (k : Int), fnd kT (backS l) k = (fnd kT l k).map flipT
  | [], _ => rfl
  | t :: l, k => by
    show fnd kT (flipT t :: backS l) k = _
    rw [fnd_cons, fnd_cons, flip_fnd l k]
    show (if t.1 = k then _ else _) = _
    split <;> rfl
theorem back_at (l : List Tn) (k : Int) : turnAt (backS l) k = (turnAt l k).map (fun c => (c.2, c.1)) := by
  unfold turnAt
  rw [flip_fnd]
  cases fnd kT l k <;> rfl
theorem back_asc : ∀ (l : List Tn) (e : Int), asc kT e l → asc kT e (backS l)
  | [], _, _ => trivial
  | _ :: l, _, h => ⟨h.1, back_asc l _ h.2⟩
theorem back_chk {l : List Tn} (h : chkB l = true) : chkB (backS l) = true := by
  have h1 := (chkB_iff l).1 h
  refine (chkB_iff _).2 ⟨back_asc l _ h1.1, fun t ht => ?_⟩
  obtain ⟨s, hs, rfl⟩ := List.mem_map.1 ht
  obtain ⟨k1, k2, k3, k4⟩ := h1.2 s hs
  exact ⟨k1, k3, k2, k4.symm⟩
theorem back_back (l : List Tn) : backS (backS l) = l := by
  unfold backS
  rw [List.map_map]
  exact List.map_id' l
theorem back_betw {a b : List Pr} (ha : tblB a = true) (hb : tblB b = true) : backS (betwS (meetsPP a b)) = betwS (meetsPP b a) := by
  refine chk_ext (back_chk (betw_chk ha hb)) (betw_chk hb ha) (fun k => ?_)
  rw [back_at, betw_at ha hb, betw_at hb ha]
  by_cases h : cellOf a k = cellOf b k
  · rw [if_pos h, if_pos h.symm]; rfl
  · rw [if_neg h, if_neg (Ne.symm h)]; rfl

/-! There. -/
theorem betw_fits {a b : List Pr} (ha : tblB a = true) (hb : tblB b = true) : fitsB a (betwS (meetsPP a b)) = true := by
  refine (fits_iff ha (betw_chk ha hb)).2 (fun k c hc => ?_)
  rw [betw_at ha hb] at hc
  by_cases h : cellOf a k = cellOf b k
  · rw [if_pos h] at hc; cases hc
  · rw [if_neg h] at hc; cases hc; rfl
theorem betw_make {a b : List Pr} (ha : tblB a = true) (hb : tblB b = true) : makS (meetsPT a (betwS (meetsPP a b))) = b := by
  refine tbl_ext (mak_tbl ha (betw_chk ha hb)) hb (fun k => ?_)
  rw [mak_at ha (betw_chk ha hb), betw_at ha hb]
  by_cases h : cellOf a k = cellOf b k
  · rw [if_pos h]; exact h
  · rw [if_neg h]
theorem betw_self {a : List Pr} (ha : tblB a = true) : betwS (meetsPP a a) = [] := by
  refine chk_ext (betw_chk ha ha) (m := []) rfl (fun k => ?_)
  rw [betw_at ha ha, if_pos rfl]
  rfl

/-! Then. -/
def nF (x : Mt Tn Tn) : Option Tn := if wasT x = isTT x then none else some (x.key, wasT x, isTT x)
theorem nF_key (x : Mt Tn Tn) (y : Tn) (h : nF x = some y) : kT y = x.key := by
  unfold nF at h
  split at h
  · cases h
  · cases h; rfl
theorem thnS_fm (xs : List (Mt Tn Tn)) : thnS xs = xs.filterMap nF := by
  unfold thnS
  rw [foldl_fm (f := nF) (fun l x => by unfold stepN; rw [turnS_fm]; rfl)]
  simp
theorem thn_ok {l m : List Tn} (hl : chkB l = true) (hm : chkB m = true) : (meetsTT l m).all thnX = true ↔ ∀ k c d, turnAt l k = some c → turnAt m k = some d → c.2 = d.1 := by
  rw [List.all_eq_true]
  constructor
  · intro h k c d hc hd
    have e1 := mTT_fnd hl hm k
    rw [turnAt_fnd, turnAt_fnd, hc, hd] at e1
    have := h _ (fnd_some e1).1
    unfold thnX at this
    simpa using this
  · intro h x hx
    have hf := mem_fnd (mTT_asc hl hm) hx
    rw [mTT_fnd hl hm, turnAt_fnd, turnAt_fnd] at hf
    unfold thnX
    cases hc : turnAt l x.key with
    | none =>
      cases hd : turnAt m x.key with
      | none => rw [hc, hd] at hf; cases hf
      | some d => rw [hc, hd] at hf; have := Option.some.inj hf; rw [← this]; rfl
    | some c =>
      cases hd : turnAt m x.key with
      | none => rw [hc, hd] at hf; have := Option.some.inj hf; rw [← this]; rfl
      | some d => rw [hc, hd] at hf; have := Option.some.inj hf; rw [← this]; simp [h _ _ _ hc hd]
/-- What two turns of a key make, one behind the other. -/
def thenC : Option (Cl × Cl) → Option (Cl × Cl) → Option (Cl × Cl)
  | none, d => d
  | some c, none => some c
  | some c, some d => if c.1 = d.2 then none else some (c.1, d.2)
theorem thn_at {l m : List Tn} (hl : chkB l = true) (hm : chkB m = true) (k : Int) : turnAt (thnS (meetsTT l m)) k = thenC (turnAt l k) (turnAt m k) := by
  have e1 : fnd kT (thnS (meetsTT l m)) k = (fnd Mt.key (meetsTT l m) k).bind nF := by rw [thnS_fm, fm_fnd nF_key k (mTT_asc hl hm)]
  rw [mTT_fnd hl hm, turnAt_fnd l, turnAt_fnd m] at e1
  have e2 : turnAt (thnS (meetsTT l m)) k = (fnd kT (thnS (meetsTT l m)) k).map (·.2) := rfl
  rw [e2, e1]
  cases hc : turnAt l k with
  | none =>
    cases hd : turnAt m k with
    | none => rfl
    | some d =>
      have hne := (turnAt_ok hm hd).1.2.2.2
      show ((if d.1 = d.2 then none else some (k, d.1, d.2) : Option Tn)).map (·.2) = some d
      rw [if_neg hne]; rfl
  | some c =>
    cases hd : turnAt m k with
    | none =>
      have hne := (turnAt_ok hl hc).1.2.2.2
      show ((if c.1 = c.2 then none else some (k, c.1, c.2) : Option Tn)).map (·.2) = some c
      rw [if_neg hne]; rfl
    | some d =>
      show ((if c.1 = d.2 then none else some (k, c.1, d.2) : Option Tn)).map (·.2) = if c.1 = d.2 then none else some (c.1, d.2)
      split <;> rfl
theorem thn_chk {l m : List Tn} (hl : chkB l = true) (hm : chkB m = true) : chkB (thnS (meetsTT l m)) = true := by
  have hs : asc kT (-1) (thnS (meetsTT l m)) := by rw [thnS_fm]; exact fm_asc nF_key (mTT_asc hl hm)
  refine (chkB_iff _).2 ⟨hs, fun t ht => ?_⟩
  have h1 : turnAt (thnS (meetsTT l m)) t.1 = some t.2 := by unfold turnAt; rw [mem_fnd hs ht]; rfl
  rw [thn_at hl hm] at h1
  cases hc : turnAt l t.1 with
  | none =>
    cases hd : turnAt m t.1 with
    | none => rw [hc, hd] at h1; cases h1
    | some d => rw [hc, hd] at h1; cases Option.some.inj h1; exact (turnAt_ok hm hd).1
  | some c =>
    cases hd : turnAt m t.1 with
    | none => rw [hc, hd] at h1; cases Option.some.inj h1; exact (turnAt_ok hl hc).1
    | some d =>
      rw [hc, hd] at h1
      have h2 : (if c.1 = d.2 then none else some (c.1, d.2)) = some t.2 := h1
      by_cases he : c.1 = d.2
      · rw [if_pos he] at h2; cases h2
      · rw [if_neg he] at h2
        have h3 : t.2 = (c.1, d.2) := (Option.some.inj h2).symm
        refine ⟨(turnAt_ok hl hc).1.1, ?_, ?_, ?_⟩
        · rw [h3]; exact (turnAt_ok hl hc).1.2.1
        · rw [h3]; exact (turnAt_ok hm hd).1.2.2.1
        · rw [h3]; exact he
/-- From a first table to a second and to a third one is from the first to the third. -/
theorem thn_betw {a b c : List Pr} (ha : tblB a = true) (hb : tblB b = true) (hc : tblB c = true) : thenP (betwS (meetsPP a b)) (betwS (meetsPP b c)) = (betwS (meetsPP a c), 0) := by
  have h1 := betw_chk ha hb
  have h2 := betw_chk hb hc
  have hok : (meetsTT (betwS (meetsPP a b)) (betwS (meetsPP b c))).all thnX = true := by
    refine (thn_ok h1 h2).2 (fun k x y hx hy => ?_)
    rw [betw_at ha hb] at hx
    rw [betw_at hb hc] at hy
    split at hx
    · cases hx
    · split at hy
      · cases hy
      · cases hx; cases hy; rfl
  unfold thenP
  rw [h1, h2, Bool.true_and, if_pos rfl, if_pos hok]
  congr 1
  refine chk_ext (thn_chk h1 h2) (betw_chk ha hc) (fun k => ?_)
  rw [thn_at h1 h2, betw_at ha hb, betw_at hb hc, betw_at ha hc]
  by_cases e1 : cellOf a k = cellOf b k
  · rw [if_pos e1, e1]; rfl
  · rw [if_neg e1]
    by_cases e2 : cellOf b k = cellOf c k
    · rw [if_pos e2, ← e2, if_neg e1]; rfl
    · rw [if_neg e2]; rfl
end Go.Proofs.Ytnjlbgnojlmmlaa
