/-
  CONTRACTS: the statements' own Refs, same, alike, few; the document's Same, on spans.
-/
import Derived.Test.YtfnjadiibiedgaaSpanH
namespace Go.Proofs.Ytfnjadiibiedgaa
open Go.RowKit Go.Shelf

theorem Try.infoRef : (Try.prog.info? 33).map (fun i => (i.zero, i.size, i.bytes)) = some (some (.agg #[.int .i64 0, .int .i64 0]), 2, 16) := by kernel_rfl
/-- A list of spans that was given, as arguments show it. -/
def ListArg (w : World) (l : List Sp) (e : Ending) (w' : World) : Prop := ∃ a n c, e = .returned (.slice a n c) ∧ Arg w' a n c l ∧ Below w.heap.size w w'
theorem Arg.of_own {t : TypeId} {w : World} {base : Nat} {a : Option Addr} {n c : Nat} {l : List Sp} (h : OwnsP t w base (.slice a n c) l) (hn : n = l.length) : Arg w a n c l := by
  subst hn
  obtain ⟨a', c', hv, h1, h2, h3, _⟩ := h.arg
  cases hv
  exact ⟨rfl, by unfold maxLen at h2; omega, h1, h2, h3⟩
theorem ownsP_of_row {t : TypeId} {w : World} {base n : Nat} {v : Value} {l : List Sp} (h : w.ownsRow base t 2 v n (flatP l)) (hn : n = l.length) : OwnsP t w base v l := by subst hn; exact h
theorem Arg.len {w : World} {a : Option Addr} {n c : Nat} {l : List Sp} (h : Arg w a n c l) : n = l.length := h.1

set_option maxRecDepth 100000 in
set_option maxHeartbeats 1000000 in
theorem refs_any (a : Option Addr) (n c : Nat) (l : List Sp) (w : World) (hz : l.length ≤ 100000) (h : Arg w a n c l) :
    Calls Try.prog 25 #[.slice a n c] w (ListArg w l) := by
  obtain ⟨i0, hi, hz0, hz1, hz2⟩ := info_parts Try.infoRef
  obtain ⟨hn, _, hc1, hc2, hp⟩ := h
  have hn1 : n ≤ 100000 := by omega
  replace hn := Lib.hid hn
  replace hp := Lib.hid hp
  go_enter Try.func25, Try.ntmps25
  go_wp2_with fail
  go_loopw [3, 4] (fun v i wr => ∃ (k : Nat), i = .int .i64 (k : Int) ∧ k ≤ n ∧ Hid (wr.ownsRow w.heap.size 33 2 v k (flatP (l.take k))) ∧ Below w.heap.size w wr)
    (fun _ i _ => n - (intOf i).toNat)
  case atStart => exact ⟨0, rfl, by omega, Lib.hid ⟨rfl, .inl ⟨rfl, rfl⟩⟩, Below.refl _ _⟩
  case round =>
    obtain ⟨k, rfl, hk, HO, hbl⟩ := hrel
    have hsz := hbl.size
    by_cases hlt : k < n
    · obtain ⟨b, off, e, hb, d0, d1⟩ := (hp.out.below hbl) k (by rw [← hn.out]; exact hlt)
      subst e
      obtain ⟨s, hs⟩ : ∃ s, l.getD k (0, 0) = s := ⟨_, rfl⟩
      rw [hs] at d0 d1
      replace hs := Lib.hid hs
      obtain ⟨x, y⟩ := s
      dsimp only at d0 d1
      go_wp2_with (at_builtin; refine wpList_append_own _ rfl _ _ 42 rfl w.heap.size 33 i0 (.agg #[.int .i64 0, .int .i64 0]) 2 16 Try.underlying42 hi hz0 hz1 hz2 rfl (by decide) _ _ _ rfl (HO.out.alloc _) ⟨wr.heap.size, 0, none⟩ 1 1 [.int .i64 x, .int .i64 y] rfl rfl ?c1 ?c2 ?c3 ?c4 ?c5 ?_)
      case c1 =>
        intro j u hj
        match j, hj with
        | 0, hj => simp at hj; subst hj; simp [Addr.add]
        | 1, hj => simp at hj; subst hj; simp [Addr.add]
      case c2 => intro u hu; simp at hu; rcases hu with rfl | rfl <;> rfl
      case c3 => unfold maxLen; omega
      case c4 => omega
      case c5 => simp; omega
      · intro v' w1 hown' hgrow _
        have hb1 := (hbl.alloc hsz (.cells #[.int .i64 x, .int .i64 y] 33)).grown hgrow (by simp; omega) (fun j hj => (HO.out.lt j hj).1)
        replace hown' := Lib.hid hown'
        go_wp2
        go_roundw
        case rel =>
          refine ⟨k + 1, by go_num, by omega, Lib.hid ?_, hb1⟩
          rw [take_more (by rw [← hn.out]; exact hlt), flatP_append, hs.out]
          exact hown'.out
        case measure => simp [intOf]; omega
    · have hk' : l.take k = l := List.take_of_length_le (by rw [← hn.out]; omega)
      have hkn : k = n := by omega
      subst hkn
      have ho := HO.out
      rw [hk'] at ho
      have ho' := ownsP_of_row ho hn.out
      obtain ⟨a6, c6, rfl, _⟩ := ho'.arg
      have HA := Lib.hid (Arg.of_own ho' rfl)
      replace hk' := Lib.hid hk'
      clear ho ho' HO
      go_wp2
      go_ret
      exact ⟨_, _, _, rfl, HA.out, hbl⟩

theorem neqRef (x y p q : Int) (w : World) : (binOp .neq 33 (.agg #[.int .i64 x, .int .i64 y]) (.agg #[.int .i64 p, .int .i64 q])).run Try.prog w = .ok (.bool (!decide ((x, y) = (p, q)))) w := by
  have u3 := Try.underlying3
  have a3 := Try.isAgg3
  have z3 := Try.sizeOf3
  have hS : Try.prog.underlying 33 = some (.struct (Try.prog.fieldsOf 33)) := by kernel_rfl
  have hp : Try.prog.stoodInHeld 33 = false := by kernel_rfl
  rw [run_neq_struct, show (10000 : Nat) = 9999 + 1 from rfl, run_equalIn_agg w 9999 33 _ _ hS hp]
  simp only [Program.fieldsOf, Try.underlying33]
  go_simp
  by_cases h1 : x = p <;> by_cases h2 : y = q <;> simp [h1, h2]

set_option maxRecDepth 100000 in
set_option maxHeartbeats 1000000 in
theorem same_any (a b : Option Addr) (n m c d : Nat) (l k : List Sp) (w : World) (hA : Arg w a n c l) (hB : Arg w b m d k) :
    Calls Try.prog 24 #[.slice a n c, .slice b m d] w (Gives w (.bool (decide (l = k)))) := by
  obtain ⟨hn, zn, hc1, hc2, hp⟩ := hA
  obtain ⟨hm, zm, hd1, hd2, hq⟩ := hB
  have zn' : (n : Int) ≤ 9223372036854775807 := by omega
  have zm' : (m : Int) ≤ 9223372036854775807 := by omega
  obtain ⟨r, hr⟩ : ∃ r, decide (l = k) = r := ⟨_, rfl⟩
  rw [hr]
  replace hr := Lib.hid hr
  replace hp := Lib.hid hp
  replace hq := Lib.hid hq
  replace hn := Lib.hid hn
  replace hm := Lib.hid hm
  by_cases hnm : n = m
  · subst hnm
    go_enter Try.func24, Try.ntmps24
    go_wp2_with fail
    go_loopw [5] (fun i wr => ∃ (j : Nat), i = .int .i64 (j : Int) ∧ j ≤ n ∧ Hid (l.take j = k.take j) ∧ Below w.heap.size w wr)
      (fun i _ => n - (intOf i).toNat)
    case atStart => exact ⟨0, rfl, by omega, Lib.hid rfl, Below.refl _ _⟩
    case round =>
      obtain ⟨j, rfl, hj, HJ, hbl⟩ := hrel
      by_cases hlt : j < n
      · obtain ⟨b1, o1, e1, _, x0, x1⟩ := (hp.out.below hbl) j (by rw [← hn.out]; exact hlt)
        obtain ⟨b2, o2, e2, _, y0, y1⟩ := (hq.out.below hbl) j (by rw [← hm.out]; exact hlt)
        subst e1
        subst e2
        obtain ⟨s, hs⟩ : ∃ s, l.getD j (0, 0) = s := ⟨_, rfl⟩
        obtain ⟨t, ht⟩ : ∃ s, k.getD j (0, 0) = s := ⟨_, rfl⟩
        rw [hs] at x0 x1
        rw [ht] at y0 y1
        replace hs := Lib.hid hs
        replace ht := Lib.hid ht
        obtain ⟨x, y⟩ := s
        obtain ⟨p, q⟩ := t
        dsimp only at x0 x1 y0 y1
        have NE := fun w => neqRef x y p q w
        have hltz : (j : Int) < (n : Int) := by omega
        cases hd : decide ((x, y) = (p, q))
        · simp only [hd] at NE
          replace hd := Lib.hid hd
          go_wp2_with fail
          go_quiet (fail)
          go_wp2
          go_ret
          refine ⟨ret_bool ?_, below_drewN hbl _⟩
          rw [← hr.out]
          refine (decide_eq_false fun e => ?_).symm
          have := of_decide_eq_false hd.out
          rw [← hs.out, ← ht.out, e] at this
          exact this rfl
        · simp only [hd] at NE
          replace hd := Lib.hid hd
          go_wp2_with fail
          go_quiet (fail)
          go_wp2
          go_roundw
          case rel =>
            refine ⟨j + 1, by go_num, by omega, Lib.hid ?_, below_drewN hbl _⟩
            rw [take_more (by rw [← hn.out]; exact hlt), take_more (by rw [← hm.out]; exact hlt), HJ.out, hs.out, ht.out, of_decide_eq_true hd.out]
          case measure => simp [intOf]; omega
      · have e1 : l.take j = l := List.take_of_length_le (by rw [← hn.out]; omega)
        have e2 : k.take j = k := List.take_of_length_le (by rw [← hm.out]; omega)
        have e := HJ.out
        rw [e1, e2] at e
        replace e := Lib.hid e
        clear e1 e2 HJ
        go_wp2
        go_ret
        exact ⟨ret_bool (by rw [← hr.out]; exact (decide_eq_true e.out).symm), hbl⟩
  · have hne : ¬ (n : Int) = (m : Int) := by omega
    have hnb : ((n : Int) != (m : Int)) = true := by simp; omega
    go_enter Try.func24, Try.ntmps24
    go_wp2
    go_ret
    refine ⟨ret_bool ?_, Below.refl _ _⟩
    rw [← hr.out]
    exact (decide_eq_false fun e => hnm (by rw [hn.out, hm.out, e])).symm

end Go.Proofs.Ytfnjadiibiedgaa
