/-
  THE WALK of TableChecks.
-/
import Derived.Test.YtfnjadiibiedgaaTabR
namespace Go.Proofs.Ytfnjadiibiedgaa
open Go.RowKit Go.Shelf Go.ChangeShapes Go.WideShapes Go.Deep

theorem boxC {w w' : World} {t : TypeId} {x y : Value} (h : Below (w.alloc (.cells #[x, y] t)).heap.size (w.alloc (.cells #[x, y] t)) w') : w'.cell? ⟨w.heap.size, 0, none⟩ = some x ∧ w'.cell? ⟨w.heap.size, 1, none⟩ = some y := box2 h
theorem boxF {w w' : World} {t : TypeId} {x y : Value} (h : Below (w.alloc (.cells #[x, y] t)).heap.size (w.alloc (.cells #[x, y] t)) w') (i : Nat) : w'.frozen? ⟨w.heap.size, i, none⟩ = false :=
  (h.frozen (p := ⟨w.heap.size, i, none⟩) (by simp)).trans (frozen_of_row _ _ _ _ _ (heap_alloc_new w _))
/-- A cell that is set anew, behind calls. -/
theorem set2 {g : Nat} {W w' : World} {x y u z : Value} (h0 : W.cell? ⟨g, 0, none⟩ = some x) (h1 : W.cell? ⟨g, 1, none⟩ = some y) (hg : g < W.heap.size)
    (h : Below ((W.setCell ⟨g, 0, none⟩ u).setCell ⟨g, 1, none⟩ z).heap.size ((W.setCell ⟨g, 0, none⟩ u).setCell ⟨g, 1, none⟩ z) w') : w'.cell? ⟨g, 0, none⟩ = some u ∧ w'.cell? ⟨g, 1, none⟩ = some z := by
  have s : ((W.setCell ⟨g, 0, none⟩ u).setCell ⟨g, 1, none⟩ z).heap.size = W.heap.size := by simp
  have a := h.cell (p := ⟨g, 0, none⟩) (by rw [s]; exact hg)
  have b := h.cell (p := ⟨g, 1, none⟩) (by rw [s]; exact hg)
  rw [a, b]
  have n1 : (⟨g, 1, none⟩ : Addr) ≠ ⟨g, 0, none⟩ := fun e => by cases e
  have n0 : (⟨g, 0, none⟩ : Addr) ≠ ⟨g, 1, none⟩ := fun e => by cases e
  exact ⟨(World.cell?_setCell_other _ _ _ _ n1).trans (World.cell?_setCell_same _ _ _ h0), World.cell?_setCell_same (u := y) _ _ _ ((World.cell?_setCell_other _ _ _ _ n0).trans h1)⟩

set_option maxRecDepth 100000 in
set_option maxHeartbeats 4000000 in
theorem tableChecks_walk (a : Option Addr) (n cp : Nat) (l : List Sp) (key : Int) (w : World) (hL : Arg w a n cp l) (_hkey : (Lit.int .i64 key).wf = true) :
    Calls Try.prog 9 #[.slice a n cp, .int .i64 key] w (TruePost w) := by
  have z1 : (n : Int) ≤ 9223372036854775807 := by have := hL.1; have := hL.2.1; omega
  have HS := Lib.hid ((Env.mk (L := []) (Below.refl w.heap.size w) (by simp)).add hL)
  have HL := Lib.hid (fun W (h : Below w.heap.size w W) => hL.below h)
  have F1 := Lib.hid (fun W => few5_any a n cp 0 0 0 none 0 0 0 0 0 none 0 0 W z1 (by omega) (by omega))
  cases hf : fewB n 0 0
  · rw [hf] at F1
    clear hL hf
    go_enter Try.func9, Try.ntmps9
    go_wp2_with (first | (go_at_call 36; (with_reducible refine (F1.out _).mono ?_); rintro e w' ⟨rfl, hb⟩; replace HS := Lib.hid (HS.out.step hb); clear hb) | (go_at_call 37; (with_reducible refine (awake5_any _).mono ?_); rintro e w' ⟨rfl, hb⟩; replace HS := Lib.hid (HS.out.step hb); clear hb))
    go_ret
    exact ⟨rfl, HS.out.low⟩
  · rw [hf] at F1
    have zl : l.length ≤ 100000 := by unfold fewB at hf; simp at hf; have := hL.1; omega
    obtain ⟨v2, s2, hg2⟩ : ∃ v s, cellA (getT l key) = .agg #[.int .i64 v, .bool s] := ⟨_, _, rfl⟩
    have RG := Lib.hid (fun a n c W h => hg2 ▸ rget_any a n c l key W h)
    cases ht : tblB l
    · have hc : cellOut (getC l key) = .tuple #[.int .i64 0, .bool false] := by unfold getC; rw [if_neg (by rw [ht]; simp)]; rfl
      have G1 := Lib.hid (fun W h => hc ▸ get_tab a n cp l key W h)
      have T1 := Lib.hid (fun W h => ht ▸ tcheck_any a n cp l W h)
      have R1 := Lib.hid (fun a n c W h => ht ▸ rtcheck_any a n c l W h)
      replace ht := Lib.hid ht
      replace hg2 := Lib.hid hg2
      replace hc := Lib.hid hc
      clear hL hf
      go_enter Try.func9, Try.ntmps9
      go_wp2_with (first | (go_at_call 36; (with_reducible refine (F1.out _).mono ?_); rintro e w' ⟨rfl, hb⟩; replace HS := Lib.hid (HS.out.step hb); clear hb) | (go_at_call 38; (with_reducible refine (G1.out _ (HS.out.get (by repeat (first | exact List.mem_cons_self | apply List.mem_cons_of_mem)))).mono ?_); rintro e w' ⟨rfl, hb⟩; replace HS := Lib.hid (HS.out.step hb); clear hb) | (go_at_call 40; (with_reducible refine (refs5_any a n cp l _ zl (HS.out.get (by repeat (first | exact List.mem_cons_self | apply List.mem_cons_of_mem)))).mono ?_); rintro e w' ⟨av, nv, cv, rfl, hv, hb⟩; replace HB := Lib.hid (below_next HB.out hb); obtain ⟨e0, e1⟩ := KB.out _ HB.out; replace HS := Lib.hid ((HS.out.step hb).add hv); clear hb hv) | (go_at_call 40; (with_reducible refine (refs5_any a n cp l _ zl (HS.out.get (by repeat (first | exact List.mem_cons_self | apply List.mem_cons_of_mem)))).mono ?_); rintro e w' ⟨au, nu, cu, rfl, hu, hb⟩; replace HS := Lib.hid ((HS.out.step hb).add hu); clear hb hu) | (go_at_call 39; (with_reducible refine (RG.out au nu cu _ (HS.out.get (by repeat (first | exact List.mem_cons_self | apply List.mem_cons_of_mem)))).mono ?_); rintro e wg ⟨rfl, hb⟩; replace HS := Lib.hid (HS.out.step hb); clear hb; obtain ⟨W6, hW6⟩ : ∃ W6, wg.alloc (.cells #[.int .i64 v2, .bool s2] 66) = W6 := ⟨_, rfl⟩; have b6 : Below wg.heap.size wg W6 := (by rw [← hW6]; exact (Below.refl _ _).alloc (Nat.le_refl _) _); have KB := Lib.hid (fun W (h : Below W6.heap.size W6 W) => boxC (w := wg) (t := 66) (x := .int .i64 v2) (y := .bool s2) (w' := W) (by rw [hW6]; exact h)); have HB := Lib.hid (Below.refl W6.heap.size W6); have g6 : wg.heap.size < W6.heap.size := (by rw [← hW6]; simp); have gw := HS.out.low.size; replace HS := Lib.hid (HS.out.step b6); obtain ⟨e0, e1⟩ := KB.out _ HB.out) | (go_at_call 41; (with_reducible refine (R1.out av nv cv _ (HS.out.get (by repeat (first | exact List.mem_cons_self | apply List.mem_cons_of_mem)))).mono ?_); rintro e w8 ⟨rfl, hb⟩; replace HS := Lib.hid (HS.out.step hb); replace HB := Lib.hid (below_next HB.out hb); obtain ⟨e0, e1⟩ := KB.out _ HB.out; clear hb; have x0 := e0; have x1 := e1; have f0 : w8.frozen? ⟨wg.heap.size, 0, none⟩ = false := (by have hh := HB.out; rw [← hW6] at hh; exact boxF hh 0); have f1 : w8.frozen? ⟨wg.heap.size, 1, none⟩ = false := (by have hh := HB.out; rw [← hW6] at hh; exact boxF hh 1); have lo8 := HS.out.low; have g8 : wg.heap.size < w8.heap.size := Nat.lt_of_lt_of_le g6 HB.out.size) | (go_at_call 37; (with_reducible refine (awake5_any _).mono ?_); rintro e w9 ⟨rfl, b9⟩; have bs := b9.size; have b0x : Below w.heap.size w w9 := ((lo8.setCell (p := ⟨wg.heap.size, 0, none⟩) gw _).setCell (p := ⟨wg.heap.size, 1, none⟩) gw _).trans (b9.mono (by have := lo8.size; simp; omega)); obtain ⟨e0, e1⟩ := set2 x0 x1 g8 b9) | (go_at_call 42; (with_reducible refine (T1.out _ (HL.out _ b0x)).mono ?_); rintro e w10 ⟨rfl, b10⟩; have e0 := (b10.cell (p := ⟨wg.heap.size, 0, none⟩) (show wg.heap.size < w9.heap.size by simp at bs; omega)).trans e0; have e1 := (b10.cell (p := ⟨wg.heap.size, 1, none⟩) (show wg.heap.size < w9.heap.size by simp at bs; omega)).trans e1))
      go_ret
      exact ⟨rfl, below_next b0x b10⟩
    · have hc : cellOut (getC l key) = .tuple #[.int .i64 v2, .bool s2] := by
        unfold getC
        rw [if_pos ht]
        unfold cellA at hg2
        unfold cellOut
        simp at hg2
        rw [hg2.1, hg2.2]
      have G1 := Lib.hid (fun W h => hc ▸ get_tab a n cp l key W h)
      have T1 := Lib.hid (fun W h => ht ▸ tcheck_any a n cp l W h)
      have R1 := Lib.hid (fun a n c W h => ht ▸ rtcheck_any a n c l W h)
      replace ht := Lib.hid ht
      replace hg2 := Lib.hid hg2
      replace hc := Lib.hid hc
      clear hL hf
      go_enter Try.func9, Try.ntmps9
      go_wp2_with (first | (go_at_call 36; (with_reducible refine (F1.out _).mono ?_); rintro e w' ⟨rfl, hb⟩; replace HS := Lib.hid (HS.out.step hb); clear hb) | (go_at_call 38; (with_reducible refine (G1.out _ (HS.out.get (by repeat (first | exact List.mem_cons_self | apply List.mem_cons_of_mem)))).mono ?_); rintro e w' ⟨rfl, hb⟩; replace HS := Lib.hid (HS.out.step hb); clear hb) | (go_at_call 40; (with_reducible refine (refs5_any a n cp l _ zl (HS.out.get (by repeat (first | exact List.mem_cons_self | apply List.mem_cons_of_mem)))).mono ?_); rintro e w' ⟨av, nv, cv, rfl, hv, hb⟩; replace HB := Lib.hid (below_next HB.out hb); obtain ⟨e0, e1⟩ := KB.out _ HB.out; replace HS := Lib.hid ((HS.out.step hb).add hv); clear hb hv) | (go_at_call 40; (with_reducible refine (refs5_any a n cp l _ zl (HS.out.get (by repeat (first | exact List.mem_cons_self | apply List.mem_cons_of_mem)))).mono ?_); rintro e w' ⟨au, nu, cu, rfl, hu, hb⟩; replace HS := Lib.hid ((HS.out.step hb).add hu); clear hb hu) | (go_at_call 39; (with_reducible refine (RG.out au nu cu _ (HS.out.get (by repeat (first | exact List.mem_cons_self | apply List.mem_cons_of_mem)))).mono ?_); rintro e wg ⟨rfl, hb⟩; replace HS := Lib.hid (HS.out.step hb); clear hb; obtain ⟨W6, hW6⟩ : ∃ W6, wg.alloc (.cells #[.int .i64 v2, .bool s2] 66) = W6 := ⟨_, rfl⟩; have b6 : Below wg.heap.size wg W6 := (by rw [← hW6]; exact (Below.refl _ _).alloc (Nat.le_refl _) _); have KB := Lib.hid (fun W (h : Below W6.heap.size W6 W) => boxC (w := wg) (t := 66) (x := .int .i64 v2) (y := .bool s2) (w' := W) (by rw [hW6]; exact h)); have HB := Lib.hid (Below.refl W6.heap.size W6); have g6 : wg.heap.size < W6.heap.size := (by rw [← hW6]; simp); have gw := HS.out.low.size; replace HS := Lib.hid (HS.out.step b6); obtain ⟨e0, e1⟩ := KB.out _ HB.out) | (go_at_call 41; (with_reducible refine (R1.out av nv cv _ (HS.out.get (by repeat (first | exact List.mem_cons_self | apply List.mem_cons_of_mem)))).mono ?_); rintro e w' ⟨rfl, hb⟩; replace HS := Lib.hid (HS.out.step hb); replace HB := Lib.hid (below_next HB.out hb); obtain ⟨e0, e1⟩ := KB.out _ HB.out; clear hb) | (go_at_call 37; (with_reducible refine (awake5_any _).mono ?_); rintro e w' ⟨rfl, hb⟩; replace HS := Lib.hid (HS.out.step hb); replace HB := Lib.hid (below_next HB.out hb); obtain ⟨e0, e1⟩ := KB.out _ HB.out; clear hb) | (go_at_call 42; (with_reducible refine (T1.out _ (HS.out.get (by repeat (first | exact List.mem_cons_self | apply List.mem_cons_of_mem)))).mono ?_); rintro e w' ⟨rfl, hb⟩; replace HS := Lib.hid (HS.out.step hb); replace HB := Lib.hid (below_next HB.out hb); obtain ⟨e0, e1⟩ := KB.out _ HB.out; clear hb))
      go_ret
      exact ⟨rfl, HS.out.low⟩
end Go.Proofs.Ytfnjadiibiedgaa
