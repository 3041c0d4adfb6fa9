/-
  DELTA: pairs and turns; what a table and turns are; the small calls: keys, cells, whether a cell may be.
-/
import Derived.Test.YtjjadappjapjhaaDlG
namespace Go.Proofs.Ytjjadappjapjhaa
open Go.RowKit Go.Deep

abbrev Pr := Int × Int
abbrev Cl := Int × Bool
def encP (p : Pr) : List Value := [.int .i64 p.1, .int .i64 p.2]
theorem encP_len (p : Pr) : (encP p).length = 2 := rfl
abbrev Tn := Int × Cl × Cl
def encT (t : Tn) : List Value := [.int .i64 t.1, .int .i64 t.2.1.1, .bool t.2.1.2, .int .i64 t.2.2.1, .bool t.2.2.2]
theorem encT_len (t : Tn) : (encT t).length = 5 := rfl
theorem RArg.prs {w : World} {a : Option Addr} {n c : Nat} {l : List Pr} (h : RArg encP 2 w a n c l) {k : Nat} (hk : k < l.length) :
    ∃ b off, a = some ⟨b, off, none⟩ ∧ b < w.heap.size ∧ w.cell? ⟨b, off + k * 2, none⟩ = some (.int .i64 l[k]!.1) ∧ w.cell? ⟨b, off + k * 2 + 1, none⟩ = some (.int .i64 l[k]!.2) := by
  obtain ⟨b, off, e, hb, hc⟩ := h.2.2.2.2 k hk
  exact ⟨b, off, e, hb, hc 0 _ rfl, hc 1 _ rfl⟩
theorem RArg.tns {w : World} {a : Option Addr} {n c : Nat} {l : List Tn} (h : RArg encT 5 w a n c l) {k : Nat} (hk : k < l.length) :
    ∃ b off, a = some ⟨b, off, none⟩ ∧ b < w.heap.size ∧ w.cell? ⟨b, off + k * 5, none⟩ = some (.int .i64 l[k]!.1) ∧ w.cell? ⟨b, off + k * 5 + 1, none⟩ = some (.int .i64 l[k]!.2.1.1) ∧
      w.cell? ⟨b, off + k * 5 + 2, none⟩ = some (.bool l[k]!.2.1.2) ∧ w.cell? ⟨b, off + k * 5 + 3, none⟩ = some (.int .i64 l[k]!.2.2.1) ∧ w.cell? ⟨b, off + k * 5 + 4, none⟩ = some (.bool l[k]!.2.2.2) := by
  obtain ⟨b, off, e, hb, hc⟩ := h.2.2.2.2 k hk
  exact ⟨b, off, e, hb, hc 0 _ rfl, hc 1 _ rfl, hc 2 _ rfl, hc 3 _ rfl, hc 4 _ rfl⟩
/-- The keys rise above e; keys and values may be. -/
def tblF (e : Int) : List Pr → Bool
  | [] => true
  | p :: t => (decide (e < p.1 ∧ p.1 < 4096) && decide (-1099511627776 ≤ p.2 ∧ p.2 ≤ 1099511627776)) && tblF p.1 t
def tblB (l : List Pr) : Bool := tblF (-1) l
def cellB (c : Cl) : Bool := if c.2 then decide (-1099511627776 ≤ c.1) && decide (c.1 ≤ 1099511627776) else c.1 == 0
def chkF (e : Int) : List Tn → Bool
  | [] => true
  | t :: r => (decide (e < t.1 ∧ t.1 < 4096) && cellB t.2.1 && cellB t.2.2 && !decide (t.2.1 = t.2.2)) && chkF t.1 r
def chkB (l : List Tn) : Bool := chkF (-1) l
/-- A table, checked. -/
theorem tcheck_any (a : Option Addr) (n c : Nat) (l : List Pr) (w : World) (h : RArg encP 2 w a n c l) : Calls Try.prog 37 #[.slice a n c] w (Gives w (.bool (tblB l))) := by
  have hp := h
  obtain ⟨rfl, hz, _, _, _⟩ := h
  obtain ⟨r, hr⟩ : ∃ r, tblB l = r := ⟨_, rfl⟩
  rw [hr]
  have H0 := Lib.hid (show tblF (-1) (l.drop 0) = r from hr)
  clear hr
  replace hp := Lib.hid hp
  go_enter Try.func37, Try.ntmps37
  go_wp2_with fail
  go_loopw [3, 5, 8] (fun en _ i wr => ∃ (k : Nat) (z : Int), i = .int .i64 (k : Int) ∧ en = .int .i64 z ∧ k ≤ l.length ∧ Hid (tblF z (l.drop k) = r) ∧ Below w.heap.size w wr)
    (fun _ _ i _ => l.length - (intOf i).toNat)
  case atStart => exact ⟨0, -1, rfl, rfl, by omega, H0, Below.refl _ _⟩
  case round =>
    obtain ⟨k, z, rfl, rfl, hk, HC, hbl⟩ := hrel
    by_cases hlt : k < l.length
    · have hkz : (k : Int) < (l.length : Int) := by omega
      obtain ⟨b, off, e, hb, c0, c1⟩ := (hp.out.below hbl).prs hlt
      subst e
      have hnext := HC.out
      rw [drop_moreG hlt] at hnext
      generalize l[k]! = s at c0 c1 hnext
      obtain ⟨x, y⟩ := s
      dsimp only at c0 c1
      have hd : tblF z ((x, y) :: l.drop (k + 1)) = ((decide (z < x ∧ x < 4096) && decide (-1099511627776 ≤ y ∧ y ≤ 1099511627776)) && tblF x (l.drop (k + 1))) := rfl
      rw [hd] at hnext
      clear hd
      by_cases h1 : x ≤ z
      · have hr := Lib.hid (show r = false by rw [← hnext, decide_eq_false (by omega)]; rfl)
        have d1 : decide (x ≤ z) = true := decide_eq_true h1
        clear hnext h1
        go_wp2_with fail
        go_ret
        exact ⟨ret_bool hr.out.symm, below_alloc hbl _⟩
      · have d1 : decide (x ≤ z) = false := decide_eq_false h1
        by_cases h2 : 4096 ≤ x
        · have hr := Lib.hid (show r = false by rw [← hnext, decide_eq_false (by omega)]; rfl)
          have d2 : decide (4096 ≤ x) = true := decide_eq_true h2
          clear hnext h1 h2
          go_wp2_with fail
          go_ret
          exact ⟨ret_bool hr.out.symm, below_alloc hbl _⟩
        · have d2 : decide (4096 ≤ x) = false := decide_eq_false h2
          by_cases h3 : y < -1099511627776
          · have hr := Lib.hid (show r = false by rw [← hnext, decide_eq_true (show z < x ∧ x < 4096 by omega), decide_eq_false (by omega)]; rfl)
            have d3 : decide (y < -1099511627776) = true := decide_eq_true h3
            clear hnext h1 h2 h3
            go_wp2_with fail
            go_ret
            exact ⟨ret_bool hr.out.symm, below_alloc hbl _⟩
          · have d3 : decide (y < -1099511627776) = false := decide_eq_false h3
            by_cases h4 : 1099511627776 < y
            · have hr := Lib.hid (show r = false by rw [← hnext, decide_eq_true (show z < x ∧ x < 4096 by omega), decide_eq_false (by omega)]; rfl)
              have d4 : decide (1099511627776 < y) = true := decide_eq_true h4
              clear hnext h1 h2 h3 h4
              go_wp2_with fail
              go_ret
              exact ⟨ret_bool hr.out.symm, below_alloc hbl _⟩
            · have d4 : decide (1099511627776 < y) = false := decide_eq_false h4
              have HN := Lib.hid (show tblF x (l.drop (k + 1)) = r by rw [← hnext, decide_eq_true (show z < x ∧ x < 4096 by omega), decide_eq_true (show -1099511627776 ≤ y ∧ y ≤ 1099511627776 by omega)]; rfl)
              clear hnext h1 h2 h3 h4
              go_wp2_with fail
              go_roundw
              case rel => exact ⟨k + 1, x, by go_num, rfl, by omega, HN, below_alloc hbl _⟩
              case measure => simp [intOf]; omega
    · have hkn : k = l.length := by omega
      subst hkn
      have hr := Lib.hid (show r = true by have := HC.out; rw [List.drop_length] at this; exact this.symm)
      clear HC
      have hkz : ¬ ((l.length : Int) < (l.length : Int)) := by omega
      go_wp2_with fail
      go_ret
      exact ⟨ret_bool hr.out.symm, hbl⟩
end Go.Proofs.Ytjjadappjapjhaa
