/-
  CONTRACTS of the document's Count, Set, Make.
-/
import Derived.Test.YtfnjadiibiedgaaRefC3
namespace Go.Proofs.Ytfnjadiibiedgaa
open Go.RowKit Go.Shelf

theorem cntB_chk' {l : List Sp} (h : chkB l = true) : cntB l = cardOf (hasB l) := by
  unfold cntB
  rw [if_pos h, sum_of_can (chkB_can h).1]
theorem limP_yes' {L : List Sp} (h : L.length ≤ 64) : limP L = (L, 0) := if_pos h
theorem limP_no' {L : List Sp} (h : ¬ L.length ≤ 64) : limP L = ([], 2) := if_neg h
/-- The set as Set has built it, below the key k. -/
def Runs (p : Int → Bool) (k : Nat) (L : List Sp) : Prop := canB (-1) L = true ∧ (∀ j, hasB L j = (decide (0 ≤ j ∧ j < k) && p j)) ∧ endOf (-1) L ≤ k ∧ (endOf (-1) L < k ∨ k = 4096 ∨ p k = false)
theorem Runs.start (p : Int → Bool) : Runs p 0 [] := ⟨rfl, fun j => by rw [hasB_nil, decide_eq_false (by omega)]; rfl, by show (-1 : Int) ≤ _; omega, .inl (by show (-1 : Int) < _; omega)⟩
theorem Runs.skip {p : Int → Bool} {k : Nat} {L : List Sp} (h : Runs p k L) (hp : p k = false) : Runs p (k + 1) L := by
  refine ⟨h.1, fun j => ?_, by have := h.2.2.1; omega, .inl (by have := h.2.2.1; omega)⟩
  rw [h.2.1]
  by_cases hj : j = k
  · subst hj; rw [hp, Bool.and_false, Bool.and_false]
  · rw [decide_eq_decide.2 (show (0 ≤ j ∧ j < (k : Int)) ↔ (0 ≤ j ∧ j < ((k + 1 : Nat) : Int)) by omega)]
theorem Runs.add {p : Int → Bool} {k m : Nat} {L : List Sp} (h : Runs p k L) (hkm : k < m) (hm : m ≤ 4096) (hall : ∀ i : Nat, k ≤ i → i < m → p i = true) (hend : m = 4096 ∨ p m = false) : Runs p m (L ++ [((k : Int), (m : Int))]) := by
  have hlt : endOf (-1) L < k := by
    rcases h.2.2.2 with h1 | h1 | h1
    · exact h1
    · omega
    · rw [hall k (Nat.le_refl _) hkm] at h1; cases h1
  refine ⟨(canB_snoc _ _ _).2 ⟨h.1, ⟨by dsimp only; omega, by dsimp only; omega, by dsimp only; omega⟩, hlt⟩, fun j => ?_, by rw [endOf_snoc]; exact Int.le_refl _, .inr hend⟩
  rw [hasB_append, h.2.1, hasB_cons, hasB_nil, Bool.or_false]
  by_cases hj : (k : Int) ≤ j ∧ j < m
  · have e := hall j.toNat (by omega) (by omega)
    rw [show ((j.toNat : Nat) : Int) = j by omega] at e
    rw [e, (inB_iff _ j).2 (by dsimp only; omega), Bool.or_true, decide_eq_true (by omega)]; rfl
  · have : inB ((k : Int), (m : Int)) j = false := by
      cases hi' : inB ((k : Int), (m : Int)) j
      · rfl
      · rw [inB_iff] at hi'; dsimp only at hi'; omega
    rw [this, Bool.or_false, decide_eq_decide.2 (show (0 ≤ j ∧ j < (k : Int)) ↔ (0 ≤ j ∧ j < (m : Int)) by omega)]
theorem Runs.done {p : Int → Bool} {L : List Sp} (h : Runs p 4096 L) : L = setOf p := setOf_eq h.1 fun j h0 h1 => by rw [h.2.1, decide_eq_true ⟨h0, h1⟩, Bool.true_and]
theorem Runs.len {p : Int → Bool} {k : Nat} {L : List Sp} (h : Runs p k L) : L.length ≤ 5000 := by
  by_cases hl : L = []
  · subst hl; simp
  · have := canB_len _ _ h.1 hl; omega

set_option maxRecDepth 100000 in
set_option maxHeartbeats 4000000 in
theorem rset_any (g cap : Nat) (p : Int → Bool) (w : World) (hk : KIn w g p) :
    Calls Try.prog 103 #[.slice (some ⟨g, 0, none⟩) 4096 cap] w (SetArg w (limP (setOf p))) := by
  obtain ⟨i0, hi, hz0, hz1, hz2⟩ := info_parts Try.infoRef
  replace hk := Lib.hid hk
  go_enter Try.func103, Try.ntmps103
  go_wp2_with fail
  go_loopw [4, 5, 6] (fun v i _ wr => ∃ (k : Nat) (L : List Sp), i = .int .i64 (k : Int) ∧ k ≤ 4096 ∧ Hid (OwnsP 33 wr w.heap.size v L ∧ Runs p k L) ∧ Below w.heap.size w wr)
    (fun _ i _ _ => 4096 - (intOf i).toNat)
  case atStart => exact ⟨0, [], rfl, by omega, Lib.hid ⟨OwnsP.nil _ _ _, Runs.start p⟩, Below.refl _ _⟩
  case round =>
    obtain ⟨k, L, rfl, hk4, HL, hbl⟩ := hrel
    have hsz := hbl.size
    have hlen := HL.out.2.len
    by_cases hlt : k < 4096
    · have hltz : (k : Int) < 4096 := by omega
      go_wp2_with fail
      go_loopw [5] (fun i wr' => ∃ (m : Nat), i = .int .i64 (m : Int) ∧ k ≤ m ∧ m ≤ 4096 ∧ Hid (∀ i : Nat, k ≤ i → i < m → p i = true) ∧ wr' = wr)
        (fun i _ => 4096 - (intOf i).toNat)
      case atStart => exact ⟨k, rfl, by omega, by omega, Lib.hid (fun i h1 h2 => by omega), rfl⟩
      case round =>
        obtain ⟨m, rfl, hm1, hm2, HM, rfl⟩ := hrel
        by_cases hml : m < 4096
        · have hmlz : (m : Int) < 4096 := by omega
          have cm := hk.out.2 m hml
          have cm' := (hbl.cell (p := ⟨g, m, none⟩) hk.out.1).trans cm
          clear cm
          cases hp : p (m : Int)
          · rw [hp] at cm'
            by_cases hkm : k < m
            · have hkmz : (k : Int) < (m : Int) := by omega
              have HR := Lib.hid (HL.out.2.add hkm hm2 HM.out (.inr hp))
              replace hp := Lib.hid hp
              go_wp2_with (at_builtin; refine wpList_append_own _ rfl _ _ 42 rfl w.heap.size 33 i0 (.agg #[.int .i64 0, .int .i64 0]) 2 16 Try.underlying42 hi hz0 hz1 hz2 rfl (by decide) _ _ _ rfl (World.ownsRow.alloc HL.out.1 _) ⟨wr.heap.size, 0, none⟩ 1 1 [.int .i64 (k : Int), .int .i64 (m : Int)] rfl rfl ?c1 ?c2 ?c3 ?c4 ?c5 ?_)
              case c1 =>
                intro j u hj
                match j, hj with
                | 0, hj => simp at hj; subst hj; simp [Addr.add]
                | 1, hj => simp at hj; subst hj; simp [Addr.add]
              case c2 => intro u hu; simp at hu; rcases hu with rfl | rfl <;> rfl
              case c3 => unfold maxLen; omega
              case c4 => omega
              case c5 => simp; omega
              · intro v' w1 hown' hgrow _
                have hb1 := (hbl.alloc hsz (.cells #[.int .i64 (k : Int), .int .i64 (m : Int)] 33)).grown hgrow (by simp; omega) (fun j hj => (HL.out.1.lt j hj).1)
                replace hown' := Lib.hid hown'
                go_wp2
                go_roundw
                case rel => exact ⟨m, L ++ [((k : Int), (m : Int))], rfl, hm2, Lib.hid ⟨OwnsP.snoc rfl hown'.out, HR.out⟩, hb1⟩
                case measure => simp [intOf]; omega
            · have hkm' : m = k := by omega
              subst hkm'
              have HR := Lib.hid (HL.out.2.skip hp)
              replace hp := Lib.hid hp
              go_wp2
              go_roundw
              case rel => exact ⟨m + 1, L, by go_num, by omega, Lib.hid ⟨HL.out.1, HR.out⟩, hbl⟩
              case measure => simp [intOf]; omega
          · rw [hp] at cm'
            have HM2 := Lib.hid (show ∀ i : Nat, k ≤ i → i < m + 1 → p i = true from fun i h1 h2 => by
              by_cases e : i = m
              · subst e; exact hp
              · exact HM.out i h1 (by omega))
            replace hp := Lib.hid hp
            go_wp2
            go_roundw
            case rel => exact ⟨m + 1, by go_num, by omega, by omega, HM2, trivial⟩
            case measure => simp [intOf]; omega
        · have hm4 : m = 4096 := by omega
          have hmlz : ¬ (m : Int) < 4096 := by omega
          have hkm : k < m := by omega
          have hkmz : (k : Int) < (m : Int) := by omega
          have HR := Lib.hid (HL.out.2.add hkm hm2 HM.out (.inl hm4))
          replace hm4 := Lib.hid hm4
          go_wp2_with (at_builtin; refine wpList_append_own _ rfl _ _ 42 rfl w.heap.size 33 i0 (.agg #[.int .i64 0, .int .i64 0]) 2 16 Try.underlying42 hi hz0 hz1 hz2 rfl (by decide) _ _ _ rfl (World.ownsRow.alloc HL.out.1 _) ⟨wr.heap.size, 0, none⟩ 1 1 [.int .i64 (k : Int), .int .i64 (m : Int)] rfl rfl ?_ ?_ ?_ ?_ ?_ ?_)
          · exact ⟨rfl, rfl⟩
          · unfold maxLen; omega
          · omega
          · omega
          · intro v' w1 hown' hgrow _
            have hb1 := (hbl.alloc hsz (.cells #[.int .i64 (k : Int), .int .i64 (m : Int)] 33)).grown hgrow (by simp; omega) (fun j hj => (HL.out.1.lt j hj).1)
            replace hown' := Lib.hid hown'
            go_wp2
            go_roundw
            case rel => exact ⟨m, L ++ [((k : Int), (m : Int))], rfl, hm2, Lib.hid ⟨OwnsP.snoc rfl hown'.out, HR.out⟩, hb1⟩
            case measure => simp [intOf]; omega
    · have hk' : k = 4096 := by omega
      have hnlt : ¬ (k : Int) < 4096 := by omega
      obtain ⟨ho, hr⟩ := HL.out
      rw [hk'] at hr
      have he := hr.done
      subst he
      obtain ⟨a6, c6, rfl, _⟩ := ho.arg
      have HA := Lib.hid (Arg.of_own ho rfl)
      replace hk' := Lib.hid hk'
      clear ho hr HL
      obtain ⟨S, hS⟩ : ∃ S, setOf p = S := ⟨_, rfl⟩
      rw [hS] at HA hlen ⊢
      replace hS := Lib.hid hS
      by_cases hL : S.length ≤ 64
      · have hLz : (S.length : Int) ≤ 64 := by omega
        have e := Lib.hid (limP_yes' hL)
        go_wp2
        go_ret2
        rw [hS.out, e.out]
        exact ⟨_, _, _, rfl, HA.out, hbl⟩
      · have hLz : ¬ (S.length : Int) ≤ 64 := by omega
        have e := Lib.hid (limP_no' hL)
        go_wp2
        go_ret2
        rw [hS.out, e.out]
        exact ⟨_, _, _, rfl, ⟨rfl, by simp, Nat.le_refl _, Nat.zero_le _, PIn.nil _ _ _⟩, hbl⟩

set_option maxRecDepth 100000 in
set_option maxHeartbeats 2000000 in
theorem rmake_any (a : Option Addr) (n c : Nat) (l : List Sp) (w : World) (h : Arg w a n c l) :
    Calls Try.prog 61 #[.slice a n c] w (SetArg w (makeP l)) := by
  have HA := Lib.hid h
  obtain ⟨hn, hz, _, _, hp⟩ := h
  have hnz : (n : Int) ≤ 9223372036854775807 := by omega
  replace hn := Lib.hid hn
  replace hp := Lib.hid hp
  go_enter Try.func61, Try.ntmps61
  go_wp2_with fail
  go_loopw [4] (fun i wr => ∃ (k : Nat), i = .int .i64 (k : Int) ∧ k ≤ n ∧ Hid (∀ s ∈ l.take k, oneB s = true) ∧ Below w.heap.size w wr)
    (fun i _ => n - (intOf i).toNat)
  case atStart => exact ⟨0, rfl, by omega, Lib.hid (by simp), Below.refl _ _⟩
  case round =>
    obtain ⟨k, rfl, hk, HK, hbl⟩ := hrel
    by_cases hlt : k < n
    · obtain ⟨b, off, e, hb, d0, d1⟩ := (hp.out.below hbl) k (by rw [← hn.out]; exact hlt)
      subst e
      obtain ⟨s, hs⟩ : ∃ s, l.getD k (0, 0) = s := ⟨_, rfl⟩
      rw [hs] at d0 d1
      have hkl : k < l.length := by rw [← hn.out]; exact hlt
      have hmem : s ∈ l := by rw [← hs]; exact List.mem_iff_getElem?.2 ⟨k, getD_of hkl⟩
      replace hs := Lib.hid hs
      obtain ⟨x, y⟩ := s
      dsimp only at d0 d1
      cases ho : oneB (x, y)
      · have hbad := Lib.hid (show makeP l = ([], 1) from if_neg fun hall => by rw [List.all_eq_true.1 hall _ hmem] at ho; cases ho)
        replace ho := Lib.hid ho
        go_wp2_with (go_at_call 55; (with_reducible refine (rone_any (x, y) _).mono ?_); rw [ho.out]; rintro e w2 ⟨rfl, b2⟩)
        go_ret2
        rw [hbad.out]
        exact ⟨_, _, _, rfl, ⟨rfl, by simp, Nat.le_refl _, Nat.zero_le _, PIn.nil _ _ _⟩, below_next hbl b2⟩
      · have HN := Lib.hid (show ∀ s ∈ l.take (k + 1), oneB s = true from fun s h => by
          rw [take_more hkl] at h
          rcases List.mem_append.1 h with h | h
          · exact HK.out s h
          · simp at h; rw [h]
            have := hs.out
            simp only [List.getD_eq_getElem?_getD] at this
            rw [this]; exact ho)
        replace ho := Lib.hid ho
        go_wp2_with (go_at_call 55; (with_reducible refine (rone_any (x, y) _).mono ?_); rw [ho.out]; rintro e w2 ⟨rfl, b2⟩)
        go_roundw
        case rel => exact ⟨k + 1, by go_num, by omega, HN, below_next hbl b2⟩
        case measure => simp [intOf]; omega
    · have hk' : l.take k = l := List.take_of_length_le (by rw [← hn.out]; omega)
      have hall := HK.out
      rw [hk'] at hall
      have hgood := Lib.hid (show makeP l = limP (setOf (hasB l)) from if_pos (List.all_eq_true.2 hall))
      obtain ⟨⟨S, x⟩, hS⟩ : ∃ r, limP (setOf (hasB l)) = r := ⟨_, rfl⟩
      replace hS := Lib.hid hS
      replace hk' := Lib.hid hk'
      clear hall HK
      go_wp2_with (first | (go_at_call 104; (with_reducible refine (keys_any a n c l _ (HA.out.below hbl)).mono ?_); rintro e w2 ⟨g, cap, rfl, hk2, b2⟩; have b12 := below_next hbl b2; replace hk2 := Lib.hid hk2) | (go_at_call 103; (with_reducible refine (rset_any g cap (hasB l) _ hk2.out).mono ?_); rw [hS.out]; rintro e w3 ⟨a3, n3, c3, rfl, h3, b3⟩))
      go_ret2
      rw [hgood.out, hS.out]
      exact ⟨_, _, _, rfl, h3, below_next b12 b3⟩
end Go.Proofs.Ytfnjadiibiedgaa
