/-
  SCAN: contracts of the statements' ref, and of the document's Same and Check of cursors.
-/
import Derived.Test.YtbpekloodjimoaaScN
namespace Go.Proofs.Ytbpekloodjimoaa
open Go.RowKit Go.Shelf

set_option maxRecDepth 100000 in
set_option maxHeartbeats 1000000 in
theorem refsN_any (a : Option Addr) (n c : Nat) (l : List Sp) (w : World) (hz : l.length ≤ 100000) (h : Arg w a n c l) :
    Calls Try.prog 16 #[.slice a n c] w (NewList w l) := by
  obtain ⟨i0, hi, hz0, hz1, hz2⟩ := info_parts Try.infoRef
  obtain ⟨hn, _, hc1, hc2, hp⟩ := h
  have hn1 : n ≤ 100000 := by omega
  replace hn := Lib.hid hn
  replace hp := Lib.hid hp
  go_enter Try.func16, Try.ntmps16
  go_wp2_with fail
  go_loopw [3, 4] (fun v i wr => ∃ (k : Nat), i = .int .i64 (k : Int) ∧ k ≤ n ∧ Hid (wr.ownsRow w.heap.size 85 2 v k (flatP (l.take k))) ∧ Below w.heap.size w wr)
    (fun _ i _ => n - (intOf i).toNat)
  case atStart => exact ⟨0, rfl, by omega, Lib.hid ⟨rfl, .inl ⟨rfl, rfl⟩⟩, Below.refl _ _⟩
  case round =>
    obtain ⟨k, rfl, hk, HO, hbl⟩ := hrel
    have hsz := hbl.size
    by_cases hlt : k < n
    · obtain ⟨b, off, e, hb, d0, d1⟩ := (hp.out.below hbl) k (by rw [← hn.out]; exact hlt)
      subst e
      obtain ⟨s, hs⟩ : ∃ s, l.getD k (0, 0) = s := ⟨_, rfl⟩
      rw [hs] at d0 d1
      replace hs := Lib.hid hs
      obtain ⟨x, y⟩ := s
      dsimp only at d0 d1
      go_wp2_with (at_builtin; refine wpList_append_own _ rfl _ _ 33 rfl w.heap.size 85 i0 (.agg #[.int .i64 0, .int .i64 0]) 2 16 Try.underlying33 hi hz0 hz1 hz2 rfl (by decide) _ _ _ rfl (HO.out.alloc _) ⟨wr.heap.size, 0, none⟩ 1 1 [.int .i64 x, .int .i64 y] rfl rfl ?c1 ?c2 ?c3 ?c4 ?c5 ?_)
      case c1 =>
        intro j u hj
        match j, hj with
        | 0, hj => simp at hj; subst hj; simp [Addr.add]
        | 1, hj => simp at hj; subst hj; simp [Addr.add]
      case c2 => intro u hu; simp at hu; rcases hu with rfl | rfl <;> rfl
      case c3 => unfold maxLen; omega
      case c4 => omega
      case c5 => simp; omega
      · intro v' w1 hown' hgrow _
        have hb1 := (hbl.alloc hsz (.cells #[.int .i64 x, .int .i64 y] 85)).grown hgrow (by simp; omega) (fun j hj => (HO.out.lt j hj).1)
        replace hown' := Lib.hid hown'
        go_wp2
        go_roundw
        case rel =>
          refine ⟨k + 1, by go_num, by omega, Lib.hid ?_, hb1⟩
          rw [take_more (by rw [← hn.out]; exact hlt), flatP_append, hs.out]
          exact hown'.out
        case measure => simp [intOf]; omega
    · have hk' : l.take k = l := List.take_of_length_le (by rw [← hn.out]; omega)
      have hkn : k = n := by omega
      subst hkn
      have ho := HO.out
      rw [hk'] at ho
      have ho' := ownsP_of_row ho hn.out
      obtain ⟨a6, c6, rfl, _, _, _, hnew⟩ := ho'.arg
      have HNW := Lib.hid (show l ≠ [] → ∃ g o, a6 = some ⟨g, o, none⟩ ∧ w.heap.size ≤ g from fun q => by obtain ⟨g, e, hg, _⟩ := hnew q; exact ⟨g, 0, e, hg⟩)
      clear hnew
      have HA := Lib.hid (Arg.of_own ho' rfl)
      replace hk' := Lib.hid hk'
      clear ho ho' HO
      go_wp2
      go_ret
      exact ⟨_, _, _, rfl, HA.out, HNW.out, hbl⟩

def CurPost (on : List Sp) (af lim : Int) (w : World) (e : Ending) (w' : World) : Prop := ∃ a n c, e = .returned (.agg #[.slice a n c, .int .i64 af, .int .i64 lim]) ∧ Arg w' a n c on ∧ (on ≠ [] → ∃ g o, a = some ⟨g, o, none⟩ ∧ w.heap.size ≤ g) ∧ Below w.heap.size w w'
set_option maxRecDepth 100000 in
set_option maxHeartbeats 2000000 in
theorem ref22_any (a : Option Addr) (n c : Nat) (on : List Sp) (af lim : Int) (w : World) (h : Arg w a n c on) (zo : on.length ≤ 100000) :
    Calls Try.prog 11 #[.agg #[.slice a n c, .int .i64 af, .int .i64 lim]] w (CurPost on af lim w) := by
  obtain ⟨W1, hW1⟩ : ∃ W1, w.alloc (.cells #[.slice a n c, .int .i64 af, .int .i64 lim] 25) = W1 := ⟨_, rfl⟩
  have bw : Below w.heap.size w W1 := by rw [← hW1]; exact (Below.refl _ _).alloc (Nat.le_refl _) _
  have g1 : w.heap.size < W1.heap.size := by rw [← hW1]; simp
  have hr1 : W1.heap[w.heap.size]? = some (.cells #[.slice a n c, .int .i64 af, .int .i64 lim] 25) := by rw [← hW1]; exact heap_alloc_new _ _
  obtain ⟨W2, hW2⟩ : ∃ W2, W1.alloc (.cells #[.slice none 0 0, .int .i64 0, .int .i64 0] 35) = W2 := ⟨_, rfl⟩
  have b2 : Below W1.heap.size W1 W2 := by rw [← hW2]; exact (Below.refl _ _).alloc (Nat.le_refl _) _
  have g2 : W1.heap.size < W2.heap.size := by rw [← hW2]; simp
  have hr2 : W2.heap[W1.heap.size]? = some (.cells #[.slice none 0 0, .int .i64 0, .int .i64 0] 35) := by rw [← hW2]; exact heap_alloc_new _ _
  have hr12 := (b2.block _ g1).trans hr1
  obtain ⟨q0, q1, q2⟩ := cell3 hr12
  have KS := Lib.hid (fun W (h : Below W1.heap.size W2 W) => cell3 ((h.block _ g1).trans hr12))
  have RF := Lib.hid (fun W (hb : Below W2.heap.size W2 W) => refsN_any a n c on W zo (((h.below bw).below b2).below hb))
  have HBD : Below W2.heap.size W2 W2 := Below.refl _ _
  have HBS : Below W1.heap.size W2 W2 := Below.refl _ _
  have hle : W1.heap.size ≤ W2.heap.size := Nat.le_of_lt g2
  clear h hr1 hr12
  go_enter Try.func11, Try.ntmps11
  go_wp2_with fail
  replace hW1 := Lib.hid hW1
  replace hW2 := Lib.hid hW2
  go_region_held3 (fun W => W.cell? ⟨w.heap.size, 0, none⟩ = some (.slice a n c) ∧ W.cell? ⟨w.heap.size, 1, none⟩ = some (.int .i64 af) ∧ W.cell? ⟨w.heap.size, 2, none⟩ = some (.int .i64 lim)) (exact KS.out _ (by repeat (first | with_reducible exact HBS | with_reducible refine toDS ?_ | with_reducible refine Below.setCell ?_ (by first | with_reducible exact Nat.le_refl _ | (dsimp only; omega)) _))) ((first | (go_at_call 16; (with_reducible refine (RF.out _ (by repeat (first | with_reducible exact HBD | with_reducible refine toDS ?_ | with_reducible refine Below.alloc ?_ (by first | omega | (simp; omega)) _))).mono ?_); rintro e wz ⟨a9, n9, c9, rfl, h9, hn9, hbz⟩; have HN9 := Lib.hid (show on ≠ [] → ∃ b o, a9 = some ⟨b, o, none⟩ ∧ b ≠ W1.heap.size from fun q => (by obtain ⟨g, o, e, hg⟩ := hn9 q; have hg' : W2.heap.size ≤ g := hg; exact ⟨g, o, e, by omega⟩)); have HN8 := Lib.hid (show on ≠ [] → ∃ b o, a9 = some ⟨b, o, none⟩ ∧ w.heap.size ≤ b from fun q => (by obtain ⟨g, o, e, hg⟩ := hn9 q; have hg' : W2.heap.size ≤ g := hg; exact ⟨g, o, e, by omega⟩)); have HBD := below_next (w := W2) (by repeat (first | with_reducible exact HBD | with_reducible refine toDS ?_ | with_reducible refine Below.alloc ?_ (by first | omega | (simp; omega)) _)) hbz; have HBS := HBD.mono hle; have hrz := (HBD.block _ g2).trans hr2; obtain ⟨y0, y1, y2⟩ := cell3 hrz; obtain ⟨e0, e1, e2⟩ := froz3 hrz; have h9s := h9.2.2.2.2) | fail))
  all_goals
    go_wp2_with fail
    exact bodyPost_ret (v := .agg #[.slice a9 n9 c9, .int .i64 af, .int .i64 lim]) (by simp [results, Try.results11, go_sem, y0, y1, y2]) rfl ⟨a9, n9, c9, rfl, h9.only (g := W1.heap.size) (by repeat (first | with_reducible exact OnlyS.refl _ _ | with_reducible refine OnlyS.drewR ?_ | with_reducible refine OnlyS.set ?_ _ _)) HN9.out, HN8.out, (by repeat (first | with_reducible exact below_next bw (below_next b2 HBD) | with_reducible refine toDS ?_ | with_reducible refine Below.setCell ?_ (by first | with_reducible exact Nat.le_refl _ | (dsimp only; omega)) _))⟩
set_option maxRecDepth 100000 in
set_option maxHeartbeats 2000000 in
theorem rcur_any (a : Option Addr) (n c : Nat) (on : List Sp) (af lim : Int) (w : World) (h : Arg w a n c on) :
    Calls Try.prog 29 #[.agg #[.slice a n c, .int .i64 af, .int .i64 lim]] w (Gives w (.bool (curB on af lim))) := by
  obtain ⟨W1, hW1⟩ : ∃ W1, w.alloc (.cells #[.slice a n c, .int .i64 af, .int .i64 lim] 35) = W1 := ⟨_, rfl⟩
  have bw : Below w.heap.size w W1 := by rw [← hW1]; exact (Below.refl _ _).alloc (Nat.le_refl _) _
  have K := Lib.hid (fun W (h : Below W1.heap.size W1 W) => box3C (w := w) (t := 35) (x := .slice a n c) (y := .int .i64 af) (z := .int .i64 lim) (W := W) (by rw [hW1]; exact h))
  obtain ⟨q0, q1, q2⟩ := K.out _ (Below.refl _ _)
  have CK := Lib.hid (rcheck_any a n c on W1 (h.below bw))
  obtain ⟨r, hr⟩ : ∃ r, curB on af lim = r := ⟨_, rfl⟩
  rw [hr]
  have HR := Lib.hid hr
  unfold curB at HR
  obtain ⟨d0, h0⟩ : ∃ d, chkB on = d := ⟨_, rfl⟩
  obtain ⟨d1, h1⟩ : ∃ d, decide (-1 ≤ af) = d := ⟨_, rfl⟩
  obtain ⟨d2, h2⟩ : ∃ d, decide (af < 4096) = d := ⟨_, rfl⟩
  obtain ⟨d3, h3⟩ : ∃ d, decide (1 ≤ lim) = d := ⟨_, rfl⟩
  obtain ⟨d4, h4⟩ : ∃ d, decide (lim ≤ 500) = d := ⟨_, rfl⟩
  rw [h0] at CK HR
  rw [h1, h2, h3, h4] at HR
  clear h hr h0
  cases d0 <;> cases d1 <;> cases d2 <;> cases d3 <;> cases d4
  all_goals
    go_enter Try.func29, Try.ntmps29
    go_wp2_with (go_at_call 37; (with_reducible refine CK.out.mono ?_); rintro e w2 ⟨rfl, b2⟩; obtain ⟨q0, q1, q2⟩ := K.out _ b2)
    go_ret
    exact ⟨ret_bool (by rw [← HR.out]; rfl), below_next bw b2⟩
end Go.Proofs.Ytbpekloodjimoaa
