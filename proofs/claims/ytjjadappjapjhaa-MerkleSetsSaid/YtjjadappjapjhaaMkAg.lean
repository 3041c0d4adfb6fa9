/-
  PLAIN: the table that a tree stands for; rows of bools that came in.
-/
import Derived.Test.YtjjadappjapjhaaMkAf
namespace Go.Proofs.Ytjjadappjapjhaa
open Go.RowKit Go.Deep

def rngV (x : Int) : Prop := -1099511627776 ≤ x ∧ x ≤ 1099511627776
def VC (C : Nat → Option Int) : Prop := (∀ k x, C k = some x → rngV x) ∧ ∀ k, 4096 ≤ k → C k = none
theorem VC.upd {C : Nat → Option Int} (h : VC C) {k : Nat} (hk : k < 4096) {c : Option Int} (hc : ∀ x, c = some x → rngV x) : VC (updF C k c) := by
  refine ⟨fun j x hx => ?_, fun j hj => ?_⟩
  · unfold updF at hx
    by_cases hjk : j = k
    · rw [if_pos hjk] at hx; exact hc x hx
    · rw [if_neg hjk] at hx; exact h.1 j x hx
  · unfold updF
    rw [if_neg (by omega)]
    exact h.2 j hj
theorem tbl_mem : ∀ {l : List Pr} {e : Int}, tblF e l = true → -1 ≤ e → ∀ p ∈ l, 0 ≤ p.1 ∧ p.1 < 4096 ∧ rngV p.2
  | q :: t, e, h, he, p, hp => by
    simp only [tblF, Bool.and_eq_true, decide_eq_true_eq] at h
    rcases List.mem_cons.1 hp with rfl | hp
    · exact ⟨by omega, h.1.1.2, h.1.2⟩
    · exact tbl_mem h.2 (by omega) p hp
theorem VC.fold : ∀ (l : List Pr) (C : Nat → Option Int), VC C → (∀ p ∈ l, 0 ≤ p.1 ∧ p.1 < 4096 ∧ rngV p.2) → VC (l.foldl (fun C p => updF C p.1.toNat (some p.2)) C)
  | [], _, h, _ => h
  | q :: t, C, h, hp => by
    rw [List.foldl_cons]
    have hq := hp q (List.mem_cons_self ..)
    exact VC.fold t _ (h.upd (by omega) (fun x hx => by injection hx with hx; rw [← hx]; exact hq.2.2)) fun p hpt => hp p (List.mem_cons_of_mem _ hpt)
theorem VC.tab {l : List Pr} (h : tblB l = true) : VC (tabC l) := VC.fold l _ ⟨fun _ _ h => (by cases h), fun _ _ => rfl⟩ (tbl_mem h (by decide))
theorem VC.set {C : Nat → Option Int} (h : VC C) {k : Nat} (hk : k < 4096) {v : Int} {s : Bool} (hc : cellB (v, s) = true) : VC (updF C k (cO v s)) := by
  refine h.upd hk fun x hx => ?_
  cases s
  · cases hx
  · injection hx with hx
    subst hx
    unfold cellB at hc
    simpa [rngV] using hc
theorem tblF_range (C : Nat → Option Int) (h : VC C) : ∀ (n s : Nat) (e : Int), e < s → s + n ≤ 4096 → tblF e ((List.range' s n).filterMap fun j => (C j).map fun v => ((j : Int), v)) = true
  | 0, _, _, _, _ => rfl
  | n + 1, s, e, he, hn => by
    rw [List.range'_succ, List.filterMap_cons]
    cases hc : C s with
    | none => exact tblF_range C h n (s + 1) e (by omega) (by omega)
    | some x =>
      have hx := h.1 s x hc
      have ih := tblF_range C h n (s + 1) (s : Int) (by omega) (by omega)
      simp only [Option.map_some]
      unfold tblF
      rw [ih]
      simp only [Bool.and_true, Bool.and_eq_true, decide_eq_true_eq]
      exact ⟨⟨he, by omega⟩, hx⟩
theorem tabL_good {C : Nat → Option Int} (h : VC C) : tblB (tabL C 4096) = true := by
  have := tblF_range C h 4096 0 (-1) (by decide) (by decide)
  rw [← List.range_eq_range'] at this
  exact this
theorem tabC_tabL (C : Nat → Option Int) : ∀ n j, tabC (tabL C n) j = if j < n then C j else none
  | 0, j => by rw [if_neg (Nat.not_lt_zero _)]; rfl
  | n + 1, j => by
    rw [tabL_succ]
    cases hc : C n with
    | none =>
      simp only [List.append_nil]
      rw [tabC_tabL C n j]
      by_cases h : j < n
      · rw [if_pos h, if_pos (by omega)]
      · rw [if_neg h]
        by_cases h2 : j < n + 1
        · obtain rfl : j = n := by omega
          rw [if_pos h2, hc]
        · rw [if_neg h2]
    | some x =>
      rw [tabC_snoc]
      unfold updF
      by_cases h : j = n
      · subst h
        rw [if_pos (by simp), if_pos (by omega), hc]
      · rw [if_neg (by simpa using h), tabC_tabL C n j]
        by_cases h1 : j < n
        · rw [if_pos h1, if_pos (by omega)]
        · rw [if_neg h1, if_neg (by omega)]
theorem tabC_back {C : Nat → Option Int} (h : VC C) : tabC (tabL C 4096) = C := by
  funext j
  rw [tabC_tabL]
  by_cases hj : j < 4096
  · rw [if_pos hj]
  · rw [if_neg hj, h.2 j (by omega)]
def encO (b : Bool) : List Value := [.bool b]
theorem encO_len (b : Bool) : (encO b).length = 1 := rfl
set_option maxRecDepth 100000 in
theorem oCells {H : Type} {enc : TypeId × Value → H} {w : World} {base : Nat} {spare : Nat → Bool} {held : Bool} (n : Nat) (cs : List Value) (y : DataW H × List MemPlace)
    (h : DataW.trod enc Try.prog w base spare held n 4 cs = some y) : ∃ q : Bool, cs = encO q := by
  obtain ⟨x, e, _⟩ := DataW.trod_bool Try.underlying4 h
  exact ⟨x, e⟩
theorem oArg_of {H : Type} {enc : TypeId × Value → H} {w : World} {base : Nat} {spare : Nat → Bool} {held : Bool} {a : Option Addr} {len cap : Nat} {d : DataW H} {p : List MemPlace}
    (h : DataW.Trod enc Try.prog w base spare held 47 (.slice a len cap) d p) : ∃ l, RArg encO 1 w a len cap l := by
  obtain ⟨fuel, hf⟩ := h
  obtain ⟨a', n', c', l, e, hR⟩ := rarg_of encO 1 (by omega) encO_len Try.underlying47 (by kernel_rfl) oCells hf
  have e' : Value.slice a len cap = .slice a' n' c' := by simpa [Value.cells] using e
  cases e'
  exact ⟨l, hR⟩
theorem RArg.os {w : World} {a : Option Addr} {n c : Nat} {l : List Bool} (h : RArg encO 1 w a n c l) {k : Nat} (hk : k < l.length) :
    ∃ b off, a = some ⟨b, off, none⟩ ∧ b < w.heap.size ∧ w.cell? ⟨b, off + k, none⟩ = some (.bool l[k]!) := by
  obtain ⟨b, off, e, hb, hc⟩ := h.2.2.2.2 k hk
  exact ⟨b, off, e, hb, by have := hc 0 _ rfl; simpa using this⟩
end Go.Proofs.Ytjjadappjapjhaa
