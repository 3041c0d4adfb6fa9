/-
  CHARTS: contracts of the statements' Ref, and of the document's SameList and Same where both are the same.
-/
import Derived.Test.YtihpojllalnmcaaChM
namespace Go.Proofs.Ytihpojllalnmcaa
open Go.RowKit Go.Shelf Go.ChangeShapes Go.WideShapes Go.Deep

theorem c3K {W : World} {b : Nat} {x y z : Value} {t : TypeId} (h : W.heap[b]? = some (.cells #[x, y, z] t)) : W.cell? ⟨b, 0, none⟩ = some x ∧ W.cell? ⟨b, 1, none⟩ = some y ∧ W.cell? ⟨b, 2, none⟩ = some z :=
  ⟨cell_of_row _ _ 0 _ _ _ h, cell_of_row _ _ 1 _ _ _ h, cell_of_row _ _ 2 _ _ _ h⟩
theorem f3K {W : World} {b : Nat} {x y z : Value} {t : TypeId} (h : W.heap[b]? = some (.cells #[x, y, z] t)) : W.frozen? ⟨b, 0, none⟩ = false ∧ W.frozen? ⟨b, 1, none⟩ = false ∧ W.frozen? ⟨b, 2, none⟩ = false :=
  ⟨frozen_of_row _ _ 0 _ _ h, frozen_of_row _ _ 1 _ _ h, frozen_of_row _ _ 2 _ _ h⟩
theorem RArg.onlyN {g : Nat} {W W' : World} {a : Option Addr} {n c : Nat} {l : List Sd} (h : RArg encS 4 W a n c l) (ho : Only g W W') (hne : l ≠ [] → ∃ b o, a = some ⟨b, o, none⟩ ∧ b ≠ g) : RArg encS 4 W' a n c l := by
  refine ⟨h.1, h.2.1, h.2.2.1, h.2.2.2.1, fun j hj => ?_⟩
  obtain ⟨b, off, e, hb, hc⟩ := h.2.2.2.2 j hj
  obtain ⟨b', o', e', hg⟩ := hne (fun q => by rw [q] at hj; simp at hj)
  subst e
  cases e'
  exact ⟨b, off, rfl, by rw [ho.1]; exact hb, fun i v hv => (ho.cell (p := ⟨b, off + j * 4 + i, none⟩) hg).trans (hc i v hv)⟩
def ChPost (ep nx : Int) (l : List Sd) (w : World) (e : Ending) (w' : World) : Prop := ∃ a n c, e = .returned (.agg #[.int .i64 ep, .int .i64 nx, .slice a n c]) ∧ RArg encS 4 w' a n c l ∧ (l ≠ [] → ∃ g o, a = some ⟨g, o, none⟩ ∧ w.heap.size ≤ g) ∧ Below w.heap.size w w'
set_option maxRecDepth 100000 in
set_option maxHeartbeats 2000000 in
theorem ref8_any (ep nx : Int) (a : Option Addr) (n c : Nat) (l : List Sd) (w : World) (h : RArg encS 4 w a n c l) (zl : l.length ≤ 100000) :
    Calls Try.prog 10 #[.agg #[.int .i64 ep, .int .i64 nx, .slice a n c]] w (ChPost ep nx l w) := by
  obtain ⟨W1, hW1⟩ : ∃ W1, w.alloc (.cells #[.int .i64 ep, .int .i64 nx, .slice a n c] 24) = W1 := ⟨_, rfl⟩
  have bw : Below w.heap.size w W1 := by rw [← hW1]; exact (Below.refl _ _).alloc (Nat.le_refl _) _
  have g1 : w.heap.size < W1.heap.size := by rw [← hW1]; simp
  have hr1 : W1.heap[w.heap.size]? = some (.cells #[.int .i64 ep, .int .i64 nx, .slice a n c] 24) := by rw [← hW1]; exact heap_alloc_new _ _
  obtain ⟨W2, hW2⟩ : ∃ W2, W1.alloc (.cells #[.int .i64 0, .int .i64 0, .slice none 0 0] 42) = W2 := ⟨_, rfl⟩
  have b2 : Below W1.heap.size W1 W2 := by rw [← hW2]; exact (Below.refl _ _).alloc (Nat.le_refl _) _
  have g2 : W1.heap.size < W2.heap.size := by rw [← hW2]; simp
  have hr2 : W2.heap[W1.heap.size]? = some (.cells #[.int .i64 0, .int .i64 0, .slice none 0 0] 42) := by rw [← hW2]; exact heap_alloc_new _ _
  have hr12 := (b2.block _ g1).trans hr1
  obtain ⟨q0, q1, q2⟩ := c3K hr12
  have KS := Lib.hid (fun W (h : Below W1.heap.size W2 W) => c3K ((h.block _ g1).trans hr12))
  have RF := Lib.hid (fun W (hb : Below W2.heap.size W2 W) => refs8_any a n c l W zl (((h.below bw).below b2).below hb))
  have HBD : Below W2.heap.size W2 W2 := Below.refl _ _
  have HBS : Below W1.heap.size W2 W2 := Below.refl _ _
  have hle : W1.heap.size ≤ W2.heap.size := Nat.le_of_lt g2
  clear h hr1 hr12
  go_enter Try.func10, Try.ntmps10
  go_wp2_with fail
  replace hW1 := Lib.hid hW1
  replace hW2 := Lib.hid hW2
  go_region_held3 (fun W => W.cell? ⟨w.heap.size, 0, none⟩ = some (.int .i64 ep) ∧ W.cell? ⟨w.heap.size, 1, none⟩ = some (.int .i64 nx) ∧ W.cell? ⟨w.heap.size, 2, none⟩ = some (.slice a n c)) (exact KS.out _ (by repeat (first | with_reducible exact HBS | with_reducible refine toDK ?_ | with_reducible refine Below.setCell ?_ (by first | with_reducible exact Nat.le_refl _ | (dsimp only; omega)) _))) ((first | (go_at_call 30; (with_reducible refine (RF.out _ (by repeat (first | with_reducible exact HBD | with_reducible refine toDK ?_ | with_reducible refine Below.alloc ?_ (by first | omega | (simp; omega)) _))).mono ?_); rintro e wz ⟨a9, n9, c9, rfl, h9, hn9, hbz⟩; have HN9 := Lib.hid (show l ≠ [] → ∃ b o, a9 = some ⟨b, o, none⟩ ∧ b ≠ W1.heap.size from fun q => (by obtain ⟨g, o, e, hg⟩ := hn9 q; have hg' : W2.heap.size ≤ g := hg; exact ⟨g, o, e, by omega⟩)); have HN8 := Lib.hid (show l ≠ [] → ∃ b o, a9 = some ⟨b, o, none⟩ ∧ w.heap.size ≤ b from fun q => (by obtain ⟨g, o, e, hg⟩ := hn9 q; have hg' : W2.heap.size ≤ g := hg; exact ⟨g, o, e, by omega⟩)); have HBD := below_next (w := W2) (by repeat (first | with_reducible exact HBD | with_reducible refine toDK ?_ | with_reducible refine Below.alloc ?_ (by first | omega | (simp; omega)) _)) hbz; have HBS := HBD.mono hle; have hrz := (HBD.block _ g2).trans hr2; obtain ⟨y0, y1, y2⟩ := c3K hrz; obtain ⟨e0, e1, e2⟩ := f3K hrz) | fail))
  all_goals
    go_wp2_with fail
    exact bodyPost_ret (v := .agg #[.int .i64 ep, .int .i64 nx, .slice a9 n9 c9]) (by simp [results, Try.results10, go_sem, y0, y1, y2]) rfl ⟨a9, n9, c9, rfl, h9.onlyN (g := W1.heap.size) (by repeat (first | with_reducible exact Only.refl _ _ | with_reducible refine Only.drewR ?_ | with_reducible refine Only.set ?_ _ _)) HN9.out, HN8.out, (by repeat (first | with_reducible exact below_next bw (below_next b2 HBD) | with_reducible refine toDK ?_ | with_reducible refine Below.setCell ?_ (by first | with_reducible exact Nat.le_refl _ | (dsimp only; omega)) _))⟩
set_option maxRecDepth 100000 in
set_option maxHeartbeats 1000000 in
theorem samel8_any (a b : Option Addr) (n m c d : Nat) (l : List Sd) (w : World) (hA : RArg encS 4 w a n c l) (hB : RArg encS 4 w b m d l) :
    Calls Try.prog 32 #[.slice a n c, .slice b m d] w (Gives w (.bool true)) := by
  obtain ⟨hn, zn, hc1, hc2, hp⟩ := hA
  obtain ⟨hm, zm, hd1, hd2, hq⟩ := hB
  have zn' : (n : Int) ≤ 9223372036854775807 := by omega
  obtain rfl : m = n := by omega
  replace hp := Lib.hid hp
  replace hq := Lib.hid hq
  replace hn := Lib.hid hn
  clear hm zm zn
  go_enter Try.func32, Try.ntmps32
  go_wp2_with fail
  go_loopw [5] (fun i wr => ∃ (j : Nat), i = .int .i64 (j : Int) ∧ j ≤ m ∧ Below w.heap.size w wr)
    (fun i _ => m - (intOf i).toNat)
  case atStart => exact ⟨0, rfl, by omega, Below.refl _ _⟩
  case round =>
    obtain ⟨j, rfl, hj, hbl⟩ := hrel
    by_cases hlt : j < m
    · have hjl : j < l.length := by rw [← hn.out]; exact hlt
      obtain ⟨b1, o1, e1, _, x0, x1, x2, x3⟩ := (hp.out.below hbl).shard j hjl
      obtain ⟨b2, o2, e2, _, y0, y1, y2, y3⟩ := (hq.out.below hbl).shard j hjl
      subst e1
      subst e2
      generalize l[j]! = s at x0 x1 x2 x3 y0 y1 y2 y3
      obtain ⟨i1, lo, hi, nd⟩ := s
      dsimp only at x0 x1 x2 x3 y0 y1 y2 y3
      have NE := fun w => neqSdR (i1, lo, hi, nd) w
      dsimp only at NE
      have hltz : (j : Int) < (m : Int) := by omega
      go_wp2_with fail
      go_quiet (fail)
      go_wp2
      go_roundw
      case rel => exact ⟨j + 1, by go_num, by omega, below_drewN hbl _⟩
      case measure => simp [intOf]; omega
    · have hltz : ¬ (j : Int) < (m : Int) := by omega
      go_wp2
      go_ret
      exact ⟨rfl, hbl⟩
theorem same8_any (ep nx : Int) (a b : Option Addr) (n m c d : Nat) (l : List Sd) (w : World) (hA : RArg encS 4 w a n c l) (hB : RArg encS 4 w b m d l) :
    Calls Try.prog 14 #[.agg #[.int .i64 ep, .int .i64 nx, .slice a n c], .agg #[.int .i64 ep, .int .i64 nx, .slice b m d]] w (Gives w (.bool true)) := by
  have SM := Lib.hid (fun W (hb : Below w.heap.size w W) => samel8_any a b n m c d l W (hA.below hb) (hB.below hb))
  clear hA hB
  go_enter Try.func14, Try.ntmps14
  go_wp2_with (go_at_call 32; (with_reducible refine (SM.out _ (((Below.refl w.heap.size w).alloc (Nat.le_refl _) _).alloc (by simp) _)).mono ?_); rintro e w3 ⟨rfl, b3⟩; have b1 := below_next (((Below.refl w.heap.size w).alloc (Nat.le_refl _) _).alloc (by simp) _) b3)
  go_ret
  exact ⟨rfl, b1⟩
end Go.Proofs.Ytihpojllalnmcaa
