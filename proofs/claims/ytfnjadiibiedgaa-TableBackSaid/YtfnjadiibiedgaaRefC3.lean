/-
  CONTRACTS of the document's Keys, Count.
-/
import Derived.Test.YtfnjadiibiedgaaRefB3
namespace Go.Proofs.Ytfnjadiibiedgaa
open Go.RowKit Go.Shelf

theorem Try.infoBool : (Try.prog.info? 4).map (fun i => (i.zero, i.size, i.bytes)) = some (some (.bool false), 1, 1) := by kernel_rfl
/-- The Bools that a test gives of the keys below n. -/
def tab (p : Int → Bool) (n : Nat) : List Value := (List.range n).map fun j : Nat => Value.bool (p (j : Int))
theorem tab_len (p : Int → Bool) (n : Nat) : (tab p n).length = n := by simp [tab]
theorem tab_get (p : Int → Bool) (n j : Nat) (h : j < n) : (tab p n)[j]? = some (.bool (p j)) := by simp [tab, h]
theorem tab_succ (p : Int → Bool) (n : Nat) : tab p (n + 1) = tab p n ++ [.bool (p n)] := by simp [tab, List.range_succ]
theorem tab_congr {p q : Int → Bool} {n : Nat} (h : ∀ j : Nat, j < n → p j = q j) : tab p n = tab q n := by
  unfold tab
  exact List.map_congr_left fun j hj => by rw [h j (List.mem_range.1 hj)]
theorem tab_set (p : Int → Bool) (n m : Nat) (h : m < n) : (tab p n).set m (.bool true) = tab (fun j => p j || decide (j = (m : Int))) n := by
  refine List.ext_getElem? fun j => ?_
  rw [List.getElem?_set]
  by_cases hj : j < n
  · have h2 : (tab (fun j => p j || decide (j = (m : Int))) n)[j]? = some (.bool (p j || decide ((j : Int) = (m : Int)))) := tab_get _ _ _ hj
    rw [h2]
    by_cases e : m = j
    · subst e
      rw [if_pos rfl, if_pos (by rw [tab_len]; exact h), decide_eq_true rfl, Bool.or_true]
    · rw [if_neg e, tab_get _ _ _ hj, decide_eq_false (by omega), Bool.or_false]
  · have h1 : (tab p n)[j]? = none := List.getElem?_eq_none (by rw [tab_len]; omega)
    have h2 : (tab (fun j => p j || decide (j = (m : Int))) n)[j]? = none := List.getElem?_eq_none (by rw [tab_len]; omega)
    rw [h2, if_neg (by omega), h1]
theorem row_below {t : TypeId} {size n base : Nat} {w w' : World} {v : Value} {xs : List Value} (h : w.ownsRow base t size v n xs) (hb : Below w.heap.size w w') : w'.ownsRow base t size v n xs :=
  World.ownsRow.kept h (row := none) ⟨hb.os, hb.tape, hb.output, hb.size, fun k hk _ => hb.block k hk⟩ (by cases hv : v.ownBlock <;> simp)
theorem row_form {t : TypeId} {size n base : Nat} {w : World} {v : Value} {xs : List Value} (h : w.ownsRow base t size v n xs) (hn : 0 < n) : ∃ g cap, v = .slice (some ⟨g, 0, none⟩) n cap ∧ base ≤ g ∧ g < w.heap.size := by
  rcases h.2 with ⟨_, h0⟩ | ⟨g, cap, cur, hv, hb, hg, _⟩
  · omega
  · exact ⟨g, cap, hv, hb, (Array.getElem?_eq_some_iff.1 hg).1⟩
/-- 4096 Bools in block g. -/
def KIn (w : World) (g : Nat) (p : Int → Bool) : Prop := g < w.heap.size ∧ ∀ j : Nat, j < 4096 → w.cell? ⟨g, j, none⟩ = some (.bool (p j))
theorem KIn.below {w w' : World} {g : Nat} {p : Int → Bool} (h : KIn w g p) (hb : Below w.heap.size w w') : KIn w' g p := ⟨Nat.lt_of_lt_of_le h.1 hb.size, fun j hj => (hb.cell (p := ⟨g, j, none⟩) h.1).trans (h.2 j hj)⟩
theorem KIn.of_row {w : World} {base g cap n : Nat} {p : Int → Bool} {t : TypeId} (hn : n = 4096) (h : w.ownsRow base t 1 (.slice (some ⟨g, 0, none⟩) n cap) n (tab p n)) : KIn w g p := by
  subst hn
  refine ⟨(h.lt g rfl).2, fun j hj => ?_⟩
  have := World.ownsRow.cellAt h j (by omega)
  rw [this, tab_get _ _ _ hj]
def KeysPost (w : World) (l : List Sp) (e : Ending) (w' : World) : Prop := ∃ g cap, e = .returned (.slice (some ⟨g, 0, none⟩) 4096 cap) ∧ KIn w' g (hasB l) ∧ Below w.heap.size w w'

set_option maxRecDepth 100000 in
set_option maxHeartbeats 4000000 in
theorem keys_any (a : Option Addr) (n c : Nat) (l : List Sp) (w : World) (h : Arg w a n c l) :
    Calls Try.prog 104 #[.slice a n c] w (KeysPost w l) := by
  obtain ⟨i0, hi, hz0, hz1, hz2⟩ := info_parts Try.infoBool
  obtain ⟨hn, hz, _, _, hp⟩ := h
  have hnz : (n : Int) ≤ 9223372036854775807 := by omega
  replace hn := Lib.hid hn
  replace hp := Lib.hid hp
  go_enter Try.func104, Try.ntmps104
  go_wp2_with fail
  go_loopw [3, 4] (fun v i wr => ∃ (k : Nat), i = .int .i64 (k : Int) ∧ k ≤ 4096 ∧ Hid (wr.ownsRow w.heap.size 4 1 v k (tab (fun _ => false) k)) ∧ Below w.heap.size w wr)
    (fun _ i _ => 4096 - (intOf i).toNat)
  case atStart => exact ⟨0, rfl, by omega, Lib.hid ⟨rfl, .inl ⟨rfl, rfl⟩⟩, Below.refl _ _⟩
  case round =>
    obtain ⟨k, rfl, hk, HO, hbl⟩ := hrel
    have hsz := hbl.size
    by_cases hlt : k < 4096
    · go_wp2_with (at_builtin; refine wpList_append_own _ rfl _ _ 143 rfl w.heap.size 4 i0 (.bool false) 1 1 Try.underlying143 hi hz0 hz1 hz2 rfl (by decide) _ _ _ rfl (HO.out.alloc _) ⟨wr.heap.size, 0, none⟩ 1 1 [.bool false] rfl rfl ?c1 ?c2 ?c3 ?c4 ?c5 ?_)
      case c1 =>
        intro j u hj
        match j, hj with
        | 0, hj => simp at hj; subst hj; simp [Addr.add]
      case c2 => intro u hu; simp at hu; subst hu; rfl
      case c3 => unfold maxLen; omega
      case c4 => omega
      case c5 => simp; omega
      · intro v' w1 hown' hgrow _
        have hb1 := (hbl.alloc hsz (.cells #[.bool false] 4)).grown hgrow (by simp; omega) (fun j hj => (HO.out.lt j hj).1)
        replace hown' := Lib.hid hown'
        go_wp2
        go_roundw
        case rel => exact ⟨k + 1, by go_num, by omega, Lib.hid (by rw [tab_succ]; exact hown'.out), hb1⟩
        case measure => simp [intOf]; omega
    · have hk4 : k = 4096 := by omega
      have ho := HO.out
      rw [hk4] at ho
      obtain ⟨g, cap, hv, hg1, hg2⟩ := row_form ho (by omega)
      subst hv
      rw [hk4] at hlt hk ⊢
      rw [show ((4096 : Nat) : Int) = 4096 from rfl]
      replace ho := Lib.hid ho
      replace hk4 := Lib.hid hk4
      clear HO
      go_wp2_with fail
      go_loopw [5, 6] (fun i _ wr2 => ∃ (k : Nat), i = .int .i64 (k : Int) ∧ k ≤ n ∧ Hid (wr2.ownsRow w.heap.size 4 1 (.slice (some ⟨g, 0, none⟩) 4096 cap) 4096 (tab (hasB (l.take k)) 4096)) ∧ Below w.heap.size w wr2)
        (fun i _ _ => n - (intOf i).toNat)
      case atStart => exact ⟨0, rfl, by omega, Lib.hid ho.out, hbl⟩
      case round =>
        obtain ⟨k2, rfl, hk2, HO, hbl2⟩ := hrel
        have hsz2 := hbl2.size
        by_cases hlt2 : k2 < n
        · obtain ⟨b, off, e, hb, d0, d1⟩ := (hp.out.below hbl2) k2 (by rw [← hn.out]; exact hlt2)
          subst e
          obtain ⟨s, hs⟩ : ∃ s, l.getD k2 (0, 0) = s := ⟨_, rfl⟩
          rw [hs] at d0 d1
          have hnext : ∀ j, hasB (l.take (k2 + 1)) j = (hasB (l.take k2) j || inB s j) := fun j => by
            rw [take_more (by rw [← hn.out]; exact hlt2), hasB_append, hasB_cons, hasB_nil, Bool.or_false, hs]
          replace hs := Lib.hid hs
          replace hnext := Lib.hid hnext
          obtain ⟨x, y⟩ := s
          dsimp only at d0 d1
          have hbb : b < wr.heap.size := Nat.lt_of_lt_of_le hb hsz2
          have hone := oneB_iff (x, y)
          cases ho1 : oneB (x, y)
          · have hin : ∀ j, inB (x, y) j = false := fun j => by unfold inB; rw [ho1]; rfl
            replace hin := Lib.hid hin
            replace ho1 := Lib.hid ho1
            clear hone
            go_wp2
            refine wp_loop_rounds 1 ?_
            rw [rounds_succ]
            go_wp2_with (go_at_call 55; (with_reducible refine (rone_any (x, y) _).mono ?_); rw [ho1.out]; rintro e w3 ⟨rfl, b3⟩)
            go_roundw
            case rel =>
              refine ⟨k2 + 1, by go_num, by omega, Lib.hid ?_, below_next hbl2 b3⟩
              have := row_below HO.out b3
              rwa [tab_congr (q := hasB (l.take (k2 + 1))) fun j _ => by rw [hnext.out, hin.out, Bool.or_false]] at this
            case measure => simp [intOf]; omega
          · have ho3 := hone.1 ho1
            dsimp only at ho3
            obtain ⟨o1, o2, o3⟩ := ho3
            obtain ⟨p, rfl⟩ : ∃ p : Nat, x = (p : Int) := ⟨x.toNat, by omega⟩
            replace ho1 := Lib.hid ho1
            clear hone
            go_wp2_with fail
            go_loopw [6] (fun s6 w3 => ∃ (m : Nat), s6 = .int .i64 (m : Int) ∧ p ≤ m ∧ (m : Int) ≤ y ∧ Hid (w3.ownsRow w.heap.size 4 1 (.slice (some ⟨g, 0, none⟩) 4096 cap) 4096 (tab (fun j => hasB (l.take k2) j || decide ((p : Int) ≤ j ∧ j < m)) 4096)) ∧ Below w.heap.size w w3)
              (fun s6 _ => (y - intOf s6).toNat)
            case atStart =>
              refine ⟨p, rfl, by omega, by omega, Lib.hid ?_, hbl2⟩
              rw [tab_congr (q := hasB (l.take k2)) fun j _ => by rw [decide_eq_false (by omega), Bool.or_false]]
              exact HO.out
            case round =>
              obtain ⟨m, rfl, hm1, hm2, HR, hbl3⟩ := hrel
              obtain ⟨b', off', e, _, e0, e1⟩ := (hp.out.below hbl3) k2 (by rw [← hn.out]; exact hlt2)
              cases e
              rw [hs.out] at e0 e1
              dsimp only at e0 e1
              have hbb3 : b < wr.heap.size := Nat.lt_of_lt_of_le hb hbl3.size
              by_cases hmy : (m : Int) < y
              · have hm4 : m < 4096 := by omega
                have hm4z : (m : Int) < 4096 := by omega
                go_wp2_with (go_at_call 55; (with_reducible refine (rone_any ((p : Int), y) _).mono ?_); rw [ho1.out]; rintro e w4 ⟨rfl, b4⟩; have f1 := (b4.cell (p := ⟨b, off + k2 * 2 + 1, none⟩) hbb3).trans e1; have cg := (World.ownsRow.cellAt (row_below HR.out b4) m (by omega)).trans (tab_get _ _ _ hm4); have fg := World.ownsRow.frozenAt (row_below HR.out b4) m)
                go_roundw
                case rel =>
                  refine ⟨m + 1, by go_num, by omega, by omega, Lib.hid ?_, (below_next hbl3 b4).setCell (by omega) _⟩
                  have := (World.ownsRow.stored (row_below HR.out b4) m (.bool true)).1
                  rw [tab_set _ _ _ hm4] at this
                  rwa [tab_congr (q := fun j => hasB (l.take k2) j || decide ((p : Int) ≤ j ∧ j < ((m + 1 : Nat) : Int))) fun j _ => ?_] at this
                  rw [Bool.or_assoc]
                  congr 1
                  rw [Bool.eq_iff_iff]
                  simp only [Bool.or_eq_true, decide_eq_true_eq]
                  omega
                case measure => simp [intOf]; omega
              · have hmy' : (m : Int) = y := by omega
                have hin : ∀ j, inB ((p : Int), y) j = decide ((p : Int) ≤ j ∧ j < m) := fun j => by
                  unfold inB
                  rw [ho1.out, Bool.true_and, hmy']
                replace hin := Lib.hid hin
                replace hmy' := Lib.hid hmy'
                go_wp2_with (go_at_call 55; (with_reducible refine (rone_any ((p : Int), y) _).mono ?_); rw [ho1.out]; rintro e w4 ⟨rfl, b4⟩; have f1 := (b4.cell (p := ⟨b, off + k2 * 2 + 1, none⟩) hbb3).trans e1)
                go_roundw
                case rel =>
                  refine ⟨k2 + 1, by go_num, by omega, Lib.hid ?_, below_next hbl3 b4⟩
                  have := row_below HR.out b4
                  rwa [tab_congr (q := hasB (l.take (k2 + 1))) fun j _ => by rw [hnext.out, hin.out]] at this
                case measure => simp [intOf]; omega
        · have hk' : l.take k2 = l := List.take_of_length_le (by rw [← hn.out]; omega)
          have hfin := HO.out
          rw [hk'] at hfin
          have HF := Lib.hid (KIn.of_row rfl hfin)
          replace hk' := Lib.hid hk'
          clear hfin HO
          go_wp2
          go_ret
          exact ⟨g, cap, rfl, HF.out, hbl2⟩
end Go.Proofs.Ytfnjadiibiedgaa
