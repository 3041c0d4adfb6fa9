/-
  CONTRACT of Diff.
-/
import Derived.Test.YtjjadappjapjhaaMkH
namespace Go.Proofs.Ytjjadappjapjhaa
open Go.RowKit Go.Deep

/-- A tree, or none, which stands for the empty table's. -/
def TrP (w : World) (p : Value) (C : Nat → Option Int) : Prop := (p = .pointer none ∧ C = tabC []) ∨ ∃ b, p = .pointer (some ⟨b, 0, none⟩) ∧ TreeOf w b C
theorem TrP.below {w w' : World} {p : Value} {C : Nat → Option Int} (h : TrP w p C) (hb : Below w.heap.size w w') : TrP w' p C := by
  rcases h with h | ⟨b, h, t⟩
  · exact .inl h
  · exact .inr ⟨b, h, t.below hb⟩
def MadeP (C : Nat → Option Int) (w : World) (e : Ending) (w' : World) : Prop := ∃ b, e = .returned (.pointer (some ⟨b, 0, none⟩)) ∧ TreeOf w' b C ∧ Below w.heap.size w w'
theorem made_all (p : Value) (C : Nat → Option Int) (w : World) (h : TrP w p C) : Calls Try.prog 42 #[p] w (MadeP C w) := by
  rcases h with ⟨rfl, rfl⟩ | ⟨b, rfl, t⟩
  · exact (made_nil w).mono fun e w' ⟨b, h1, h2, _, h4⟩ => ⟨b, h1, h2, h4⟩
  · exact (made_any b w).mono fun e w' ⟨h1, h2⟩ => ⟨b, h1, h2 ▸ t, h2 ▸ Below.refl _ _⟩
theorem one_row (w : World) (q : Nat) : RArg encK 1 (w.alloc (.cells #[.int .i64 (q : Int)] 3)) (some ⟨w.heap.size, 0, none⟩) 1 1 [q] := by
  refine ⟨rfl, (by decide : (1 : Int) ≤ 9223372036854775807), Nat.le_refl _, (by decide : 1 ≤ maxLen), fun j hj => ⟨w.heap.size, 0, rfl, by simp, fun i u hi => ?_⟩⟩
  have hj0 : j = 0 := by simpa using hj
  subst hj0
  have hi2 : [Value.int .i64 (q : Int)][i]? = some u := hi
  have := cells_newM w #[.int .i64 (q : Int)] 3 i u hi2
  rw [addr_add] at this
  simpa using this
theorem one_row0 (w : World) : RArg encK 1 (w.alloc (.cells #[.int .i64 0] 3)) (some ⟨w.heap.size, 0, none⟩) 1 1 [0] := one_row w 0
theorem OwnsR.low20 {α : Type} {enc : α → List Value} {k : Nat} {t : TypeId} {w : World} {b b' : Nat} {v : Value} {l : List α} (h : OwnsR enc k t w b v l) (hb : b' ≤ b) : OwnsR enc k t w b' v l := by
  refine ⟨h.1, ?_⟩
  rcases h.2 with hn | ⟨g, cap, cur, e, hg, rest⟩
  · exact .inl hn
  · exact .inr ⟨g, cap, cur, e, Nat.le_trans hb hg, rest⟩
theorem OwnsR.argN {α : Type} [Inhabited α] {enc : α → List Value} {k : Nat} (hk : ∀ x, (enc x).length = k) {t : TypeId} {w : World} {base : Nat} {v : Value} {l : List α} (h : OwnsR enc k t w base v l) : ∃ a n c, v = .slice a n c ∧ RArg enc k w a n c l := by
  obtain ⟨a, c, e, h⟩ := h.arg hk
  exact ⟨a, _, c, e, h⟩
set_option maxRecDepth 100000 in
set_option maxHeartbeats 1000000 in
theorem diff_any (p1 p2 : Value) (C1 C2 : Nat → Option Int) (w : World) (h1 : TrP w p1 C1) (h2 : TrP w p2 C2) :
    Calls Try.prog 24 #[p1, p2] w (RowS (spansL (difL C1 C2 3)) w) := by
  have H1 := Lib.hid h1
  have H2 := Lib.hid h2
  clear h1 h2
  go_enter Try.func24, Try.ntmps24
  go_wp2_with (go_at_call 42; (with_reducible refine (made_all p1 C1 _ H1.out).mono ?_); rintro e w1 ⟨b1, rfl, t1, hb1⟩)
  go_wp2_with (go_at_call 42; (with_reducible refine (made_all p2 C2 _ (H2.out.below hb1)).mono ?_); rintro e w2 ⟨b2, rfl, t2, hb2⟩)
  have T1 := Lib.hid (t1.below hb2)
  have T2 := Lib.hid t2
  have hb12 := Lib.hid (below_next hb1 hb2)
  have ba : Below w2.heap.size w2 (w2.alloc (.cells #[.int .i64 0] 3)) := (Below.refl _ _).alloc (Nat.le_refl _) _
  have D0 := Lib.hid (differing_any b1 b2 3 C1 C2 2 _ _ _ [0] _ (T1.out.below ba) (T2.out.below ba) rfl (by decide) (one_row0 w2) (by decide) (by decide))
  have BA := Lib.hid ba
  clear t1 t2 hb1 hb2 ba
  go_wp2_with (go_at_call 44; (with_reducible refine D0.out.mono ?_); rintro e w3 ⟨v3, rfl, o3, hb3⟩)
  have hb23 := Lib.hid (below_next BA.out hb3)
  have o3' := Lib.hid o3
  clear o3
  go_loopw [5, 6] (fun v i wr => ∃ (d : Nat) (bs : Nat), i = .int .i64 (1 - (d : Int)) ∧ d ≤ 3 ∧ w2.heap.size ≤ bs ∧ Hid (OwnsR encK 1 3 wr bs v (difL C1 C2 d)) ∧ Hid (Below w2.heap.size w2 wr))
    (fun _ i _ => (intOf i + 2).toNat)
  case atStart => exact ⟨0, _, rfl, by omega, by simp, o3', hb23⟩
  case round =>
    obtain ⟨d, bs, rfl, hd, hbs, HO, HB⟩ := hrel
    obtain ⟨a, n, c, rfl, hA⟩ := OwnsR.argN encK_len HO.out
    have HA := Lib.hid hA
    have hle := difL_len C1 C2 d
    have hlt := difL_lt C1 C2 d hd
    by_cases hd3 : d < 3
    · have hp : 16 ^ d ≤ 256 := by
        have : d = 0 ∨ d = 1 ∨ d = 2 := by omega
        rcases this with rfl | rfl | rfl <;> decide
      have h256 : ∀ k ∈ difL C1 C2 d, k < 256 := fun k hk => by
        have := hlt k hk
        have h2 : szA (3 - d) ≤ 256 := by
          have : d = 0 ∨ d = 1 ∨ d = 2 := by omega
          rcases this with rfl | rfl | rfl <;> decide
        omega
      have CH := Lib.hid (children_any a n c (difL C1 C2 d) wr hA h256 (by omega))
      have hkl := kidsL_lt (d := d) (by omega) hlt
      have hfl := kids_flat (difL C1 C2 d)
      have DF := Lib.hid (fun (W : World) a' n' c' (hb : Below wr.heap.size wr W) (hr : RArg encK 1 W a' n' c' ((difL C1 C2 d).flatMap kidsL)) => differing_any b1 b2 (2 - d) C1 C2 (1 - (d : Int)) a' n' c' _ W (T1.out.below (HB.out.trans (hb.mono HB.out.size))) (T2.out.below (HB.out.trans (hb.mono HB.out.size))) (by omega) (by omega) hr hkl (by omega))
      have hdi : ¬ (1 - (d : Int)) < -1 := by omega
      have hdi2 : -1 ≤ (1 - (d : Int)) := by omega
      clear hA hle hlt hp h256 hkl hfl
      go_wp2_with (first | (go_at_call 45; (with_reducible refine CH.out.mono ?_); rintro e w4 ⟨v4, rfl, o4, hb4⟩; obtain ⟨a4, n4, c4, rfl, hr4⟩ := OwnsR.argN encK_len o4; replace hr4 := Lib.hid hr4) | (go_at_call 44; (with_reducible refine (DF.out _ _ _ _ hb4 hr4.out).mono ?_); rintro e w5 ⟨v5, rfl, o5, hb5⟩; replace o5 := Lib.hid o5) | fail)
      go_roundw
      case rel => exact ⟨d + 1, _, by rw [show (1 : Int) - ((d + 1 : Nat) : Int) = 1 - (d : Int) - 1 by omega], by omega, Nat.le_trans HB.out.size hb4.size, o5, Lib.hid (HB.out.trans ((below_next hb4 hb5).mono HB.out.size))⟩
      case measure => simp [intOf]; omega
    · obtain rfl : d = 3 := by omega
      have SP := Lib.hid (spans_any a n c (difL C1 C2 3) wr hA hlt)
      clear hA hle hlt
      go_wp2_with (first | (go_at_call 46; (with_reducible refine SP.out.mono ?_); rintro e w4 ⟨v4, rfl, o4, hb4⟩; replace o4 := Lib.hid o4) | fail)
      go_ret
      have hb24 := HB.out.trans (hb4.mono HB.out.size)
      exact ⟨_, rfl, o4.out.low20 (Nat.le_trans hb12.out.size HB.out.size), hb12.out.trans (hb24.mono hb12.out.size)⟩
end Go.Proofs.Ytjjadappjapjhaa
