/-
  CONTRACT: slices.Concat of two rows of pairs.
-/
import Derived.Test.YthofoidafdbgcaaJn
namespace Go.Proofs.Ythofoidafdbgcaa
open Go.RowKit Go.Shelf

set_option maxRecDepth 100000 in
set_option maxHeartbeats 2000000 in
theorem concat_any (q : Nat) (cc : Nat) (a : Option Addr) (n cp : Nat) (l : List Sp) (b : Option Addr) (m cq : Nat) (k : List Sp) (w : World) (hA : Arg w a n cp l) (hB : Arg w b m cq k) (hl : l.length ≤ 4096) (hk : k.length ≤ 4096)
    (h0 : w.cell? ⟨q, 0, none⟩ = some (.slice a n cp)) (h1 : w.cell? ⟨q, 1, none⟩ = some (.slice b m cq)) (hq : q < w.heap.size) :
    Calls Try.prog 42 #[.slice (some ⟨q, 0, none⟩) 2 cc] w (RowPost (l ++ k) w) := by
  have hn := hA.1
  have hm := hB.1
  have hn1 : n ≤ 4096 := by omega
  have hm1 : m ≤ 4096 := by omega
  have CG : Hid (∀ W, Calls Try.prog 65 #[.slice none 0 0, .int .i64 ((n : Int) + (m : Int))] W (RowPost [] W)) := Lib.hid fun W => by
    have := grow_nil (n + m) W (by omega)
    rwa [Int.natCast_add] at this
  obtain ⟨i0, hi, hz0, hz1, hz2⟩ := info_parts Try.infoPair
  have HA := Lib.hid hA
  have HB := Lib.hid hB
  replace hn := Lib.hid hn
  replace hm := Lib.hid hm
  clear hA hB
  go_enter Try.func42, Try.ntmps42
  go_wp2_with fail
  go_loopw [3, 5, 11] (fun z _ i wr => w = wr ∧ ((i = .int .i64 0 ∧ z = .int .i64 0) ∨ (i = .int .i64 1 ∧ z = .int .i64 (n : Int)) ∨ (i = .int .i64 2 ∧ z = .int .i64 ((n : Int) + (m : Int)))))
    (fun _ _ i _ => 2 - (intOf i).toNat)
  case atStart => exact ⟨rfl, .inl ⟨rfl, rfl⟩⟩
  case round =>
    obtain ⟨rfl, ⟨rfl, rfl⟩ | ⟨rfl, rfl⟩ | ⟨rfl, rfl⟩⟩ := hrel
    · go_wp2_with fail
      go_roundw
      case rel => exact ⟨trivial, .inr (.inl ⟨rfl, rfl⟩)⟩
      case measure => simp [intOf]
    · go_wp2_with fail
      go_roundw
      case rel => exact ⟨trivial, .inr (.inr ⟨rfl, rfl⟩)⟩
      case measure => simp [intOf]
    · go_wp2_with (go_at_call 65; (with_reducible refine (CG.out _).mono ?_); rintro e w1 ⟨v1, rfl, o1, b1⟩)
      have h0' := (b1.cell (p := ⟨q, 0, none⟩) hq).trans h0
      have h1' := (b1.cell (p := ⟨q, 1, none⟩) hq).trans h1
      replace h0 := Lib.hid h0
      replace h1 := Lib.hid h1
      go_loopw [6, 8, 27] (fun v _ i wr => ((i = .int .i64 0 ∧ OwnsP 65 wr w.heap.size v []) ∨ (i = .int .i64 1 ∧ OwnsP 65 wr w.heap.size v ([] ++ l)) ∨ (i = .int .i64 2 ∧ OwnsP 65 wr w.heap.size v ([] ++ l ++ k))) ∧ Below w.heap.size w wr)
        (fun _ _ i _ => 2 - (intOf i).toNat)
      case atStart => exact ⟨.inl ⟨rfl, o1⟩, b1⟩
      case round =>
      obtain ⟨⟨rfl, ho⟩ | ⟨rfl, ho⟩ | ⟨rfl, ho⟩, hbl⟩ := hrel
      all_goals
        have g0 := (hbl.cell (p := ⟨q, 0, none⟩) hq).trans h0.out
        have g1 := (hbl.cell (p := ⟨q, 1, none⟩) hq).trans h1.out
        clear h0' h1' b1 o1
      · by_cases hl0 : l = []
        · have hn0 : n = 0 := by rw [hn.out, hl0]; rfl
          have hz := Lib.hid hn0
          have ho2 := (show ∀ v, OwnsP 65 wr w.heap.size v [] → OwnsP 65 wr w.heap.size v ([] ++ l) from fun v h => by rw [hl0, List.append_nil]; exact h) _ ho
          replace hl0 := Lib.hid hl0
          clear hn0
          go_wp2_with (at_builtin; refine Lib.wpList_append_run _ rfl _ _ 29 29 rfl _ _ rfl rfl _ _ (app_zero 29 _ i0 Try.underlying29 hi _ _ _ ho _ n _ hz.out) ?_)
          go_wp2
          go_roundw
          case rel => exact ⟨.inr (.inl ⟨rfl, ho2⟩), hbl⟩
          case measure => simp [intOf]
        · obtain ⟨b0, off0, ea, hb0⟩ := HA.out.2.2.2.2.some' hl0
          subst ea
          have hcell : ∀ j u, (flatP l)[j]? = some u → wr.cell? ⟨b0, off0 + j, none⟩ = some u := fun j u hu => flatP_hc (HA.out.below hbl).2.2.2.2 j u hu
          replace hcell := Lib.hid hcell
          replace hl0 := Lib.hid hl0
          have hncp : n ≤ cp := by have := HA.out.2.2.1; have := hn.out; omega
          have hszz := hbl.size
          go_wp2_with (at_builtin; refine wpList_append_own _ rfl _ _ 29 rfl w.heap.size 65 i0 (.agg #[.int .i64 0, .int .i64 0]) 2 16 Try.underlying29 hi hz0 hz1 hz2 rfl (by decide) _ _ _ rfl ho ⟨b0, off0, none⟩ n cp (flatP l) rfl ?da1 ?da2 ?da3 ?da4 ?da5 ?da6 ?_)
          case da1 => rw [flatP_length, hn.out]
          case da2 =>
            intro j u hu
            rw [addr_add]
            exact hcell.out j u hu
          case da3 => exact flatP_one _
          case da4 =>
            have : (0 : Nat) + n ≤ maxLen := by unfold maxLen; omega
            exact this
          case da5 => show ((0 : Nat) + n) * 16 ≤ 140737488355328; omega
          case da6 => omega
          intro v' w2 hown' hgrow _
          have hb2 := hbl.grown hgrow hszz (fun k hk => (World.ownsRow.lt ho k hk).1)
          have ho2 : OwnsP 65 w2 w.heap.size v' (([] : List Sp) ++ l) := by
            have := hown'
            rw [← flatP_append] at this
            exact ownsP_of_row this (by have := hn.out; simp; omega)
          clear hown' hgrow
          go_wp2
          go_roundw
          case rel => exact ⟨.inr (.inl ⟨rfl, ho2⟩), hb2⟩
          case measure => simp [intOf]
      · by_cases hl0 : k = []
        · have hn0 : m = 0 := by rw [hm.out, hl0]; rfl
          have hz := Lib.hid hn0
          have ho2 := (show ∀ v, OwnsP 65 wr w.heap.size v ([] ++ l) → OwnsP 65 wr w.heap.size v ([] ++ l ++ k) from fun v h => by rw [hl0, List.append_nil]; exact h) _ ho
          replace hl0 := Lib.hid hl0
          clear hn0
          go_wp2_with (at_builtin; refine Lib.wpList_append_run _ rfl _ _ 29 29 rfl _ _ rfl rfl _ _ (app_zero 29 _ i0 Try.underlying29 hi _ _ _ ho _ m _ hz.out) ?_)
          go_wp2
          go_roundw
          case rel => exact ⟨.inr (.inr ⟨rfl, ho2⟩), hbl⟩
          case measure => simp [intOf]
        · obtain ⟨b0, off0, ea, hb0⟩ := HB.out.2.2.2.2.some' hl0
          subst ea
          have hcell : ∀ j u, (flatP k)[j]? = some u → wr.cell? ⟨b0, off0 + j, none⟩ = some u := fun j u hu => flatP_hc (HB.out.below hbl).2.2.2.2 j u hu
          replace hcell := Lib.hid hcell
          replace hl0 := Lib.hid hl0
          have hncp : m ≤ cq := by have := HB.out.2.2.1; have := hm.out; omega
          have hszz := hbl.size
          go_wp2_with (at_builtin; refine wpList_append_own _ rfl _ _ 29 rfl w.heap.size 65 i0 (.agg #[.int .i64 0, .int .i64 0]) 2 16 Try.underlying29 hi hz0 hz1 hz2 rfl (by decide) _ _ _ rfl ho ⟨b0, off0, none⟩ m cq (flatP k) rfl ?db1 ?db2 ?db3 ?db4 ?db5 ?db6 ?_)
          case db1 => rw [flatP_length, hm.out]
          case db2 =>
            intro j u hu
            rw [addr_add]
            exact hcell.out j u hu
          case db3 => exact flatP_one _
          case db4 =>
            have : l.length + m ≤ maxLen := by unfold maxLen; omega
            exact this
          case db5 => show (l.length + m) * 16 ≤ 140737488355328; omega
          case db6 => omega
          intro v' w2 hown' hgrow _
          have hb2 := hbl.grown hgrow hszz (fun k hk => (World.ownsRow.lt ho k hk).1)
          have ho2 : OwnsP 65 w2 w.heap.size v' (([] ++ l) ++ k) := by
            have := hown'
            rw [← flatP_append] at this
            exact ownsP_of_row this (by have := hm.out; simp; omega)
          clear hown' hgrow
          go_wp2
          go_roundw
          case rel => exact ⟨.inr (.inr ⟨rfl, ho2⟩), hb2⟩
          case measure => simp [intOf]
      · go_wp2
        go_ret
        rw [List.nil_append] at ho
        exact ⟨_, rfl, ho, hbl⟩
end Go.Proofs.Ythofoidafdbgcaa
