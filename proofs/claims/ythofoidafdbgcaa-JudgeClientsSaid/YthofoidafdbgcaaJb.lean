/-
  CONTRACTS: the document's within, Cells: what a mutation makes of one cell.
-/
import Derived.Test.YthofoidafdbgcaaJa
import Derived.BigQuiet
namespace Go.Proofs.Ythofoidafdbgcaa
open Go.RowKit Go.Shelf

def within5 (v : Int) : Int := if 1099511627776 < v then 1099511627776 else if v < -1099511627776 then -1099511627776 else v
theorem rwithin_any (v : Int) (w : World) : Calls Try.prog 76 #[.int .i64 v] w fun e w' => e = .returned (.int .i64 (within5 v)) ∧ w = w' := by
  by_cases h1 : 1099511627776 < v
  · have hd : decide (v > 1099511627776) = true := decide_eq_true h1
    rw [show within5 v = 1099511627776 from if_pos h1]
    go_enter Try.func76, Try.ntmps76
    go_wp2
    go_ret
    exact ⟨rfl, rfl⟩
  · have hd : decide (v > 1099511627776) = false := decide_eq_false h1
    by_cases h2 : v < -1099511627776
    · rw [show within5 v = -1099511627776 by unfold within5; rw [if_neg h1, if_pos h2]]
      have hd2 : decide (v < -1099511627776) = true := decide_eq_true h2
      go_enter Try.func76, Try.ntmps76
      go_wp2
      go_ret
      exact ⟨rfl, rfl⟩
    · rw [show within5 v = v by unfold within5; rw [if_neg h1, if_neg h2]]
      have hd2 : decide (v < -1099511627776) = false := decide_eq_false h2
      go_enter Try.func76, Try.ntmps76
      go_wp2
      go_ret
      exact ⟨rfl, rfl⟩
/-- What a mutation makes of the cell of one key, as the document has it; false: it fails. -/
def cellD (k old : Int) (ps : List Sp) (key : Int) (c : Option Int) : Option Int × Bool :=
  if k = 2 then (none, true)
  else if k = 3 then (if c.getD 0 + (ps.getD 0 (0, 0)).2 < 0 ∨ 1099511627776 < c.getD 0 + (ps.getD 0 (0, 0)).2 then (c, false) else (some (c.getD 0 + (ps.getD 0 (0, 0)).2), true))
  else if k = 4 then (if c = some old ∨ (c = none ∧ old = 1099511627777) then (some (ps.getD 0 (0, 0)).2, true) else (c, false))
  else if k = 5 then (some (within5 (if key = (ps.getD 0 (0, 0)).1 then c.getD 0 - (ps.getD 0 (0, 0)).2 else c.getD 0 + (ps.getD 0 (0, 0)).2)), true)
  else match getT ps key with | some v => (some v, true) | none => (c, true)
theorem cellD_V {k old : Int} {ps : List Sp} {key : Int} {c : Option Int} (h5 : k = 5 → 0 ≤ (ps.getD 0 (0, 0)).2) (hc : -1099511627776 ≤ c.getD 0 ∧ c.getD 0 ≤ 1099511627776) :
    (∀ d, cellV k old ps key c = some d → cellD k old ps key c = (d, true)) ∧ (cellV k old ps key c = none → (cellD k old ps key c).2 = false) := by
  unfold cellV cellD nextV
  generalize ps.getD 0 (0, 0) = p at h5 ⊢
  by_cases h2 : k = 2
  · rw [if_pos h2, if_pos h2]
    exact ⟨fun d h => by injection h with h; rw [h], fun h => by cases h⟩
  rw [if_neg h2, if_neg h2]
  by_cases k3 : k = 3
  · subst k3
    simp only [Int.reduceEq, if_false, if_true, true_or]
    by_cases hr : 0 ≤ c.getD 0 + p.2 ∧ c.getD 0 + p.2 ≤ 1099511627776
    · rw [if_pos hr, if_neg (by omega)]
      exact ⟨fun d h => by simp at h; rw [h], fun h => by simp at h⟩
    · rw [if_neg hr, if_pos (by omega)]
      exact ⟨fun d h => by simp at h, fun _ => rfl⟩
  by_cases k4 : k = 4
  · subst k4
    simp only [Int.reduceEq, if_false, if_true, or_true]
    by_cases hr : c = some old ∨ (c = none ∧ old = 1099511627777)
    · rw [if_pos hr, if_pos hr]
      exact ⟨fun d h => by simp at h; rw [h], fun h => by simp at h⟩
    · rw [if_neg hr, if_neg hr]
      exact ⟨fun d h => by simp at h, fun _ => rfl⟩
  by_cases k5 : k = 5
  · have h0 := h5 k5
    subst k5
    simp only [Int.reduceEq, if_false, if_true]
    have e : (if (if p.1 = key then 0 else 1) = 0 then max (c.getD 0 - p.2) (-1099511627776) else min (c.getD 0 + p.2) 1099511627776) = within5 (if key = p.1 then c.getD 0 - p.2 else c.getD 0 + p.2) := by
      by_cases hk : p.1 = key
      · subst hk
        simp only [if_true]
        unfold within5
        split <;> (try split) <;> omega
      · have hk' : ¬ key = p.1 := fun h => hk h.symm
        simp only [hk, hk', if_false, Nat.one_ne_zero]
        unfold within5
        split <;> (try split) <;> omega
    rw [← e]
    exact ⟨fun d h => by change some (some _) = some d at h; injection h with h; rw [h], fun h => by cases h⟩
  rw [if_neg k5, if_neg (by omega), if_neg k3, if_neg k4, if_neg k5]
  cases getT ps key with
  | some v => exact ⟨fun d h => by simp at h; subst h; rfl, fun h => by simp at h⟩
  | none => exact ⟨fun d h => by simp at h; subst h; rfl, fun h => by simp at h⟩

/-- The keys one by one, as the document goes through them. -/
def docA (l : List Sp) (f : Int → Option Int × Bool) : List Int → List Sp → List Sp × Bool
  | [], O => (O, true)
  | x :: t, O => if (f x).2 = true then docA l f t (match (f x).1 with | some v => O ++ [(x, v)] | none => O) else (l, false)
def docF (l : List Sp) (k : Int) (ps : List Sp) (lo hi old : Int) (on : List Sp) (x : Int) : Option Int × Bool :=
  if (touchesB k ps lo hi x && hasB on x) = true then cellD k old ps x (getT l x) else (getT l x, true)
def pickT (R : List Sp) (K : List Int) : List Sp := K.filterMap fun x => (getT R x).map fun v => (x, v)
theorem pickT_cons (R : List Sp) (x : Int) (t : List Int) : pickT R (x :: t) = match getT R x with | some v => (x, v) :: pickT R t | none => pickT R t := by
  unfold pickT
  rw [List.filterMap_cons]
  cases getT R x <;> rfl
theorem docA_all (l R : List Sp) (f : Int → Option Int × Bool) : ∀ (K : List Int) (O : List Sp), (∀ x ∈ K, f x = (getT R x, true)) → docA l f K O = (O ++ pickT R K, true)
  | [], O, _ => by show (O, true) = _; simp [pickT]
  | x :: t, O, h => by
    have hx := h x List.mem_cons_self
    show (if (f x).2 = true then docA l f t (match (f x).1 with | some v => O ++ [(x, v)] | none => O) else (l, false)) = _
    rw [hx, if_pos rfl, docA_all l R f t _ fun y hy => h y (List.mem_cons_of_mem _ hy), pickT_cons]
    cases getT R x <;> simp
theorem docA_fail (l : List Sp) (f : Int → Option Int × Bool) : ∀ (K : List Int) (O : List Sp), (∃ x ∈ K, (f x).2 = false) → docA l f K O = (l, false)
  | [], _, h => by obtain ⟨x, hx, _⟩ := h; cases hx
  | x :: t, O, h => by
    show (if (f x).2 = true then docA l f t (match (f x).1 with | some v => O ++ [(x, v)] | none => O) else (l, false)) = _
    cases hf : (f x).2
    · rw [if_neg (by simp)]
    · rw [if_pos rfl]
      obtain ⟨y, hy, e⟩ := h
      rcases List.mem_cons.1 hy with rfl | hy
      · rw [hf] at e; cases e
      · exact docA_fail l f t _ ⟨y, hy, e⟩
theorem pick_tab {R : List Sp} (hR : tblB R = true) : ∀ (K : List Int) (e : Int), (∀ x ∈ K, e < x ∧ x < 4096) → K.Pairwise (· < ·) → tblF e (pickT R K) = true
  | [], _, _, _ => rfl
  | x :: t, e, h, hp => by
    obtain ⟨h1, h2⟩ := List.pairwise_cons.1 hp
    have hx := h x List.mem_cons_self
    have ih := pick_tab hR t x (fun y hy => ⟨h1 y hy, (h y (List.mem_cons_of_mem _ hy)).2⟩) h2
    rw [pickT_cons]
    cases hg : getT R x with
    | none => exact tblF_weak (by omega) ih
    | some v =>
      have := getT_range R (-1) x v hR hg
      exact (tblF_cons _ _ _).2 ⟨hx, this.2.2, ih⟩
theorem pick_get (R : List Sp) (key : Int) : ∀ (K : List Int), getT (pickT R K) key = if key ∈ K then getT R key else none
  | [] => rfl
  | x :: t => by
    have ih := pick_get R key t
    rw [pickT_cons]
    by_cases hx : x = key
    · subst hx
      rw [if_pos List.mem_cons_self]
      cases hg : getT R x with
      | none =>
        show getT (pickT R t) x = none
        rw [ih, hg]
        split <;> rfl
      | some v =>
        show (if x = x then some v else _) = some v
        rw [if_pos rfl]
    · have e : (key ∈ x :: t) ↔ key ∈ t := by rw [List.mem_cons]; exact ⟨fun h => h.resolve_left fun q => hx q.symm, .inr⟩
      have e2 : getT (match getT R x with | some v => (x, v) :: pickT R t | none => pickT R t) key = getT (pickT R t) key := by
        cases getT R x with
        | none => rfl
        | some v => show (if x = key then some v else getT (pickT R t) key) = _; rw [if_neg hx]
      rw [e2, ih]
      by_cases hk : key ∈ t
      · rw [if_pos hk, if_pos (e.2 hk)]
      · rw [if_neg hk, if_neg (fun q => hk (e.1 q))]
theorem getT_memJ : ∀ (l : List Sp) (key : Int), getT l key ≠ none → ∃ p ∈ l, p.1 = key
  | [], _, h => absurd rfl h
  | p :: t, key, h => by
    by_cases hp : p.1 = key
    · exact ⟨p, List.mem_cons_self, hp⟩
    · have e : getT (p :: t) key = getT t key := if_neg hp
      rw [e] at h
      obtain ⟨q, hq, hk⟩ := getT_memJ t key h
      exact ⟨q, List.mem_cons_of_mem _ hq, hk⟩
theorem tbl_memJ : ∀ (l : List Sp) (e : Int), tblF e l = true → ∀ p ∈ l, e < p.1 ∧ p.1 < 4096
  | [], _, _, p, hp => by cases hp
  | q :: t, e, h, p, hp => by
    rw [tblF_cons] at h
    rcases List.mem_cons.1 hp with rfl | hp
    · exact h.1
    · have := tbl_memJ t q.1 h.2.2 p hp
      omega
theorem okP_mem : ∀ (ps : List Sp), okPs ps = true → ∀ p ∈ ps, okP p = true := fun _ h p hp => List.all_eq_true.1 h p hp
theorem doc_apply {l : List Sp} {c s k : Int} {ps : List Sp} {lo hi old : Int} {on : List Sp} (hl : tblB l = true) (hc : chkM c s k ps lo hi old = true) :
    docA l (docF l k ps lo hi old on) (keysF (keysF [] l) ps) [] = appT l k ps lo hi old on := by
  obtain ⟨p1, m1⟩ := keysF_spec l [] List.Pairwise.nil
  obtain ⟨p2, m2⟩ := keysF_spec ps (keysF [] l) p1
  obtain ⟨K, hK⟩ : ∃ K, keysF (keysF [] l) ps = K := ⟨_, rfl⟩
  rw [hK] at p2 m2 ⊢
  have hm : ∀ x, x ∈ K ↔ (∃ p ∈ ps, p.1 = x) ∨ (∃ p ∈ l, p.1 = x) := fun x => by rw [m2, m1]; simp
  have hkind := fits_cases (chkM_and hc).2.2.2
  have hps : ∀ p ∈ ps, okP p = true := by
    rcases hkind with ⟨_, ho, _⟩ | ⟨_, rfl, _⟩ | ⟨_, p, rfl, hp⟩ | ⟨_, p, q, rfl, hp, hq, _⟩
    · exact okP_mem ps ho
    · intro p hp; cases hp
    · intro q hq; simp at hq; subst hq; exact hp
    · intro r hr; simp at hr; rcases hr with rfl | rfl <;> assumption
  have hb : ∀ x ∈ K, -1 < x ∧ x < 4096 := fun x hx => by
    rcases (hm x).1 hx with ⟨p, hp, rfl⟩ | ⟨p, hp, rfl⟩
    · have := okP_bd (hps p hp); omega
    · exact tbl_memJ l (-1) hl p hp
  have h5 : k = 5 → 0 ≤ (ps.getD 0 (0, 0)).2 := fun k5 => by
    rcases hkind with ⟨k1, _⟩ | ⟨k2, _⟩ | ⟨k34, _⟩ | ⟨_, p, q, rfl, _, _, _, _, h0⟩
    · omega
    · omega
    · omega
    · exact h0
  have htouch : ∀ x, touchesB k ps lo hi x = true → k = 2 ∨ ∃ p ∈ ps, p.1 = x := fun x h => by
    unfold touchesB at h
    by_cases k2 : k = 2
    · exact .inl k2
    · rw [if_neg k2] at h
      obtain ⟨p, hp, e⟩ := List.any_eq_true.1 h
      exact .inr ⟨p, hp, by simpa using e⟩
  obtain ⟨hR, hcase⟩ := appT_get (on := on) hc hl
  obtain ⟨⟨R, d⟩, hA⟩ : ∃ r, appT l k ps lo hi old on = r := ⟨_, rfl⟩
  rw [hA] at hR hcase ⊢
  dsimp only at hR hcase
  rcases hcase with ⟨rfl, hd⟩ | ⟨rfl, rfl, k34, p, rfl, hon, hcell⟩
  · have hf : ∀ x ∈ K, docF l k ps lo hi old on x = (getT R x, true) := fun x _ => by
      have hx := hd x
      unfold docF
      by_cases ht : (touchesB k ps lo hi x && hasB on x) = true
      · rw [if_pos ht] at hx ⊢
        exact (cellD_V h5 (getT_val hl)).1 _ hx
      · rw [if_neg ht] at hx ⊢
        rw [hx]
    rw [docA_all l R _ K [] hf, List.nil_append]
    congr 1
    refine tab_same (pick_tab hR K (-1) hb p2) hR fun key => ?_
    rw [pick_get]
    by_cases hk : key ∈ K
    · rw [if_pos hk]
    · rw [if_neg hk]
      have hn : ¬ ((∃ p ∈ ps, p.1 = key) ∨ (∃ p ∈ l, p.1 = key)) := fun h => hk ((hm key).2 h)
      have hln : getT l key = none := by
        cases hg : getT l key with
        | none => rfl
        | some v => exact absurd (.inr (getT_memJ l key (by rw [hg]; simp))) hn
      have hx := hd key
      by_cases ht : (touchesB k ps lo hi key && hasB on key) = true
      · rw [if_pos ht] at hx
        have ht1 := (Bool.and_eq_true _ _ ▸ ht : _ ∧ _).1
        rcases htouch key ht1 with rfl | h
        · unfold cellV at hx
          rw [if_pos rfl] at hx
          injection hx
        · exact absurd (.inl h) hn
      · rw [if_neg ht] at hx
        rw [hx, hln]
  · refine docA_fail R _ K [] ⟨p.1, (hm p.1).2 (.inl ⟨p, List.mem_cons_self, rfl⟩), ?_⟩
    have ht : touchesB k [p] lo hi p.1 = true := by
      unfold touchesB
      rw [if_neg (by omega)]
      simp
    unfold docF
    rw [ht, hon, if_pos (show (true && true) = true from rfl)]
    exact (cellD_V h5 (getT_val hl)).2 hcell
end Go.Proofs.Ythofoidafdbgcaa
