/-
  FOLDS, PLAIN: what mutations make of a table, one behind the other; a fold goes on; its parts on two sets.
-/
import Derived.Test.YthofoidafdbgcaaMv
import Derived.Test.YthofoidafdbgcaaJt
namespace Go.Proofs.Ythofoidafdbgcaa
open Go.RowKit Go.Shelf

def chkV (m : Mv) : Bool := chkM m.c m.s m.k m.ps m.lo m.hi m.old
def appM (l : List Sp) (m : Mv) (on : List Sp) : List Sp := (applyP l m.c m.s m.k m.ps m.lo m.hi m.old on).1
def foldM (t : List Sp) (l : List Mv) (on : List Sp) : List Sp := l.foldl (fun t m => appM t m on) t
def ontoP (base : List Sp) (l : List Mv) (on : List Sp) : List Sp := if tblB base = true ∧ chkB on = true ∧ l.all chkV = true then foldM base l on else []
def upE (l : List Ev) (mark : Int) : List Mv := (l.filter fun e => e.d && decide (e.t ≤ mark)).map (·.m)
def foldE (l : List Ev) (on : List Sp) (mark : Int) : List Sp := if l.all (fun e => chkV e.m) = true then ontoP [] (upE l mark) on else []
theorem tbl_nil : tblB [] = true := rfl
theorem appM_tbl {T S : List Sp} {m : Mv} (hT : tblB T = true) : tblB (appM T m S) = true := by
  unfold appM applyP
  split
  · rename_i h
    exact (appT_get (on := S) h.2.1 hT).1
  · rfl
theorem foldM_tbl {S : List Sp} : ∀ (l : List Mv) (T : List Sp), tblB T = true → l.all chkV = true → tblB (foldM T l S) = true
  | [], _, h, _ => h
  | m :: t, T, h, hc => by
    rw [List.all_cons, Bool.and_eq_true] at hc
    exact foldM_tbl t _ (appM_tbl h) hc.2
theorem ontoP_tbl (B : List Sp) (l : List Mv) (on : List Sp) : tblB (ontoP B l on) = true := by
  unfold ontoP
  split
  · rename_i h
    exact foldM_tbl _ _ h.1 h.2.2
  · rfl
theorem foldE_tbl (l : List Ev) (on : List Sp) (mark : Int) : tblB (foldE l on mark) = true := by
  unfold foldE
  split
  · exact ontoP_tbl _ _ _
  · rfl
theorem upE_chk {l : List Ev} {mark : Int} (h : l.all (fun e => chkV e.m) = true) : (upE l mark).all chkV = true := by
  unfold upE
  rw [List.all_map, List.all_eq_true]
  intro e he
  exact List.all_eq_true.1 h e (List.mem_filter.1 he).1
theorem foldM_snoc (T : List Sp) (l : List Mv) (m : Mv) (on : List Sp) : foldM T (l ++ [m]) on = appM (foldM T l on) m on := by
  unfold foldM
  rw [List.foldl_append]
  rfl
theorem upE_snoc (l : List Ev) (e : Ev) (mark : Int) : upE (l ++ [e]) mark = upE l mark ++ (if (e.d && decide (e.t ≤ mark)) = true then [e.m] else []) := by
  unfold upE
  rw [List.filter_append, List.map_append]
  congr 1
  rw [List.filter_cons]
  split <;> rfl
/-- A fold goes on. -/
def restE (l : List Ev) (a b : Int) : List Mv := (l.filter fun e => e.d && decide (a < e.t) && decide (e.t ≤ b)).map (·.m)
theorem up_rest : ∀ (l : List Ev) (a b : Int), a ≤ b → l.Pairwise (fun x y => x.t ≤ y.t) → upE l b = upE l a ++ restE l a b
  | [], _, _, _, _ => rfl
  | e :: t, a, b, hab, hp => by
    rw [List.pairwise_cons] at hp
    have ih := up_rest t a b hab hp.2
    unfold upE restE at ih ⊢
    by_cases h1 : e.t ≤ a
    · have h2 : e.t ≤ b := by omega
      have h3 : ¬ a < e.t := by omega
      cases hd : e.d
      · simpa [List.filter_cons, hd] using ih
      · simpa [List.filter_cons, hd, h1, h2, h3] using ih
    · have h0 : (t.filter fun e => e.d && decide (e.t ≤ a)) = [] := by
        rw [List.filter_eq_nil_iff]
        intro x hx
        have := hp.1 x hx
        have h5 : ¬ x.t ≤ a := by omega
        simp [h5]
      have h3 : a < e.t := by omega
      rw [h0] at ih
      cases hd : e.d
      · simpa [List.filter_cons, hd, h0] using ih
      · by_cases h2 : e.t ≤ b
        · simpa [List.filter_cons, hd, h1, h2, h3, h0] using ih
        · simpa [List.filter_cons, hd, h1, h2, h3, h0] using ih
theorem goesOn_math {l : List Ev} {a b : Int} {on : List Sp} (hab : a ≤ b) (hp : l.Pairwise (fun x y => x.t ≤ y.t)) (hc : l.all (fun e => chkV e.m) = true) : ontoP (foldE l on a) (restE l a b) on = foldE l on b := by
  have hrc : (restE l a b).all chkV = true := by
    unfold restE
    rw [List.all_map, List.all_eq_true]
    intro e he
    exact List.all_eq_true.1 hc e (List.mem_filter.1 he).1
  cases hon : chkB on
  · rw [show ontoP (foldE l on a) (restE l a b) on = [] from if_neg (by rw [hon]; simp)]
    unfold foldE
    rw [if_pos hc, show ontoP [] (upE l b) on = [] from if_neg (by rw [hon]; simp)]
  · rw [show ontoP (foldE l on a) (restE l a b) on = foldM (foldE l on a) (restE l a b) on from if_pos ⟨foldE_tbl _ _ _, hon, hrc⟩]
    unfold foldE
    rw [if_pos hc, if_pos hc, show ontoP [] (upE l b) on = foldM [] (upE l b) on from if_pos ⟨rfl, hon, upE_chk hc⟩, show ontoP [] (upE l a) on = foldM [] (upE l a) on from if_pos ⟨rfl, hon, upE_chk hc⟩, up_rest l a b hab hp]
    unfold foldM
    rw [List.foldl_append]
/-- What becomes of a key. -/
def outM (m : Mv) (key : Int) (c : Option Int) : Option Int := outV m.k m.old m.ps m.lo m.hi key c
theorem step_get {T S : List Sp} {g : Int → Option Int} {m : Mv} (hT : tblB T = true) (hS : chkB S = true) (hc : chkV m = true) (hg : ∀ key, getT T key = if hasB S key = true then g key else none) :
    tblB (appM T m S) = true ∧ ∀ key, getT (appM T m S) key = if hasB S key = true then outM m key (g key) else none := by
  have hcl : clipP T S = T := by
    have e : clipP T S = T.filter fun p => hasB S p.1 := if_pos ⟨hT, hS⟩
    rw [e]
    refine tab_same (tblF_filter _ _ _ hT) hT fun key => ?_
    rw [getT_filter (hasB S), hg]
    split <;> rfl
  obtain ⟨h1, h2, _⟩ := tpart_get (r := appM T m S) (z := (applyP T m.c m.s m.k m.ps m.lo m.hi m.old S).2) hT hc hS (by rw [hcl]; rfl)
  refine ⟨h1, fun key => ?_⟩
  rw [h2, hg]
  unfold outM
  cases hasB S key <;> rfl
theorem fold_get {S : List Sp} (hS : chkB S = true) : ∀ (l : List Mv) (T : List Sp) (g : Int → Option Int), l.all chkV = true → tblB T = true → (∀ key, getT T key = if hasB S key = true then g key else none) →
    ∀ key, getT (foldM T l S) key = if hasB S key = true then l.foldl (fun c m => outM m key c) (g key) else none
  | [], _, _, _, _, hg => hg
  | m :: t, T, g, hc, hT, hg => by
    rw [List.all_cons, Bool.and_eq_true] at hc
    obtain ⟨h1, h2⟩ := step_get hT hS hc.1 hg
    exact fold_get hS t (appM T m S) (fun key => outM m key (g key)) hc.2 h1 h2
theorem jparts_math {l : List Ev} {on off : List Sp} {mark : Int} (hc : l.all (fun e => chkV e.m) = true) (he : lessP [(0, 4096)] on = (off, 0)) :
    joinT (foldE l on mark) (foldE l off mark) = (foldE l [(0, 4096)] mark, 0) ∧ clipP (foldE l [(0, 4096)] mark) on = foldE l on mark := by
  obtain ⟨h1, h2, h3⟩ := lessP_chk he
  have ho := lessP_has he
  have hu := upE_chk (mark := mark) hc
  have fe : ∀ S, chkB S = true → foldE l S mark = foldM [] (upE l mark) S := fun S hS => by
    unfold foldE
    rw [if_pos hc]
    exact if_pos ⟨rfl, hS, hu⟩
  have fg : ∀ S, chkB S = true → ∀ key, getT (foldE l S mark) key = if hasB S key = true then (upE l mark).foldl (fun c m => outM m key c) none else none := fun S hS key => by
    rw [fe S hS]
    exact fold_get hS (upE l mark) [] (fun _ => none) hu rfl (fun key => by cases hasB S key <;> rfl) key
  generalize (upE l mark) = u at *
  have ga := fg on h2
  have gb := fg off h3
  have gR := fg [(0, 4096)] h1
  have ta := foldE_tbl l on mark
  have tb := foldE_tbl l off mark
  have tR := foldE_tbl l [(0, 4096)] mark
  generalize foldE l on mark = a at *
  generalize foldE l off mark = b at *
  generalize foldE l [(0, 4096)] mark = R at *
  have hoff : ∀ key, hasB on key = true → hasB off key = false := fun key h => by rw [ho, h]; simp
  have hon : ∀ key, hasB off key = false → hasB [(0, 4096)] key = true → hasB on key = true := fun key h h' => by
    rw [ho, h'] at h; simpa using h
  have hin : ∀ key, hasB off key = true → hasB [(0, 4096)] key = true := fun key h => by
    rw [ho] at h; simp at h; exact h.1
  have hin2 : ∀ key, hasB on key = true → hasB [(0, 4096)] key = true := fun key h => by
    obtain ⟨r1, r2⟩ := hasB_range h
    exact all_has r1 r2
  have hS : shareB a b = false := by
    cases hs : shareB a b with
    | false => rfl
    | true =>
      obtain ⟨u, hu, v, hv, huv⟩ := (share_iff tb).1 hs
      have g1 := ga u.1
      have g2 := gb u.1
      rw [(getT_mem a (-1) u.1 u.2 ta).2 hu] at g1
      rw [(getT_mem b (-1) u.1 v.2 tb).2 (by rw [huv]; exact hv)] at g2
      cases q : hasB on u.1
      · rw [q] at g1; simp at g1
      · rw [hoff _ q] at g2; simp at g2
  have ta' := ((tblF_iff a (-1)).1 ta).1
  constructor
  · unfold joinT
    rw [if_pos ⟨ta, tb⟩, hS, if_neg (by simp)]
    refine Prod.ext (tab_same (tblB_jn a b tb ta') tR fun key => ?_) rfl
    rw [getT_jn, ga, gb, gR]
    cases q : hasB on key
    · cases q2 : hasB off key
      · have : hasB [(0, 4096)] key = false := by
          cases q3 : hasB [(0, 4096)] key
          · rfl
          · rw [hon key q2 q3] at q; cases q
        rw [this]; simp
      · rw [hin key q2]; simp
    · rw [hoff key q, hin2 key q]; simp
  · rw [show clipP R on = R.filter fun p => hasB on p.1 from if_pos ⟨tR, h2⟩]
    refine tab_same (tblF_filter _ _ _ tR) ta fun key => ?_
    rw [getT_filter (hasB on), ga, gR]
    cases q : hasB on key
    · rfl
    · rw [hin2 key q]; rfl
end Go.Proofs.Ythofoidafdbgcaa
