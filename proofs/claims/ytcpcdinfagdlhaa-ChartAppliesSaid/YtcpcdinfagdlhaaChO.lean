/-
  CONTRACT: chart.Owners.
-/
import Derived.Test.YtcpcdinfagdlhaaVA
import Derived.Test.YtcpcdinfagdlhaaChS
import Derived.Test.YtcpcdinfagdlhaaChG
namespace Go.Proofs.Ytcpcdinfagdlhaa
open Go.RowKit Go.Shelf

/-- Numbers that were given, in a row of the call's own. -/
def IntsRet (zs : List Int) (w : World) (e : Ending) (w' : World) : Prop := ∃ v, e = .returned v ∧ OwnsI w' w.heap.size v zs ∧ Below w.heap.size w w'
theorem OwnsI.low {w : World} {base base' : Nat} {v : Value} {l : List Int} (h : OwnsI w base v l) (hb : base' ≤ base) : OwnsI w base' v l := by
  refine ⟨h.1, ?_⟩
  rcases h.2 with hn | ⟨k, cap, cur, rfl, hk, rest⟩
  · exact .inl hn
  · exact .inr ⟨k, cap, cur, rfl, Nat.le_trans hb hk, rest⟩
theorem OwnsI.below {w w' : World} {base : Nat} {v : Value} {l : List Int} (h : OwnsI w base v l) (hb : Below w.heap.size w w') : OwnsI w' base v l := by
  refine ⟨h.1, ?_⟩
  rcases h.2 with hn | ⟨g, cap, cur, rfl, hbb, hg, rest⟩
  · exact .inl hn
  · exact .inr ⟨g, cap, cur, rfl, hbb, (hb.block g (World.ownsRow.lt h g rfl).2).trans hg, rest⟩
theorem ownL_more {K : List Sp} {l : List Sd} {k : Nat} (h : k < l.length) {i lo hi nd : Int} (hs : l[k]! = (i, lo, hi, nd)) (ht : touchB [(lo, hi)] K = true) : ownL K (l.take (k + 1)) = ownL K (l.take k) ++ [i] := by
  rw [take_moreG h, hs]
  unfold ownL
  rw [List.filter_append, List.map_append]
  simp [ht]
theorem ownL_skip {K : List Sp} {l : List Sd} {k : Nat} (h : k < l.length) {i lo hi nd : Int} (hs : l[k]! = (i, lo, hi, nd)) (ht : touchB [(lo, hi)] K = false) : ownL K (l.take (k + 1)) = ownL K (l.take k) := by
  rw [take_moreG h, hs]
  unfold ownL
  rw [List.filter_append, List.map_append]
  simp [ht]
theorem ownL_len (K : List Sp) (l : List Sd) : (ownL K l).length ≤ l.length := by
  unfold ownL
  rw [List.length_map]
  exact List.length_filter_le _ _
theorem span_new (w : World) (lo hi : Int) (t : TypeId) : Arg (w.alloc (.cells #[.int .i64 lo, .int .i64 hi] t)) (some ⟨w.heap.size, 0, none⟩) 1 1 [(lo, hi)] := by
  refine ⟨rfl, by simp, by simp, by unfold maxLen; omega, fun j hj => ?_⟩
  have hj0 : j = 0 := by simpa using hj
  subst hj0
  exact ⟨w.heap.size, 0, rfl, by simp, cell_of_row _ _ 0 _ _ _ (heap_alloc_new _ _), cell_of_row _ _ 1 _ _ _ (heap_alloc_new _ _)⟩
set_option maxRecDepth 100000 in
set_option maxHeartbeats 2000000 in
theorem owners_any (ep nx : Int) (a : Option Addr) (n c : Nat) (l : List Sd) (a3 : Option Addr) (n3 c3 : Nat) (K : List Sp) (w : World) (h : RArg encS 4 w a n c l) (hK : Arg w a3 n3 c3 K) :
    Calls Try.prog 22 #[.agg #[.int .i64 ep, .int .i64 nx, .slice a n c], .slice a3 n3 c3] w (IntsRet (ownersC ep nx l K) w) := by
  obtain ⟨i0, hi0, hz0, hz1, hz2⟩ := info_parts Try.infoInt
  obtain ⟨R, hR⟩ : ∃ R, ownersC ep nx l K = R := ⟨_, rfl⟩
  rw [hR]
  obtain ⟨W1, hW1⟩ : ∃ W1, w.alloc (.cells #[.int .i64 ep, .int .i64 nx, .slice a n c] 24) = W1 := ⟨_, rfl⟩
  have bw : Below w.heap.size w W1 := by rw [← hW1]; exact (Below.refl _ _).alloc (Nat.le_refl _) _
  have KX := Lib.hid (fun W (h : Below W1.heap.size W1 W) => box3D (w := w) (t := 24) (x := .int .i64 ep) (y := .int .i64 nx) (z := .slice a n c) (w' := W) (by rw [hW1]; exact h))
  have HP := Lib.hid (h.below bw)
  have HK := Lib.hid (hK.below bw)
  obtain ⟨q0, q1, q2⟩ := KX.out _ (Below.refl _ _)
  obtain ⟨r, hr⟩ : ∃ r, chkC ep nx l = r := ⟨_, rfl⟩
  have CK := Lib.hid (fun W hh => hr ▸ chk_any ep nx a n c l W hh)
  cases r
  · have HR := Lib.hid (show R = [] by rw [← hR]; unfold ownersC; rw [hr]; rfl)
    clear h hK hr hR
    go_enter Try.func22, Try.ntmps22
    go_wp2_with (go_at_call 19; (with_reducible refine (CK.out _ HP.out).mono ?_); rintro e w' ⟨rfl, hb⟩)
    go_ret
    exact ⟨_, rfl, by rw [HR.out]; exact OwnsI.nil _ _, below_next bw hb⟩
  · have HR := Lib.hid (show R = ownL K l by rw [← hR]; unfold ownersC; rw [if_pos hr])
    have hn24 := (chkC_parts hr).2.2.1.2
    have hn := h.1
    have hn2 : n ≤ 24 := by omega
    have TC := Lib.hid (fun W (a8 : Option Addr) (lo hi : Int) (r : Bool) (hr : touchB [(lo, hi)] K = r) (hA : Arg W a8 1 1 [(lo, hi)]) (hB : Arg W a3 n3 c3 K) => hr ▸ touch_any [(lo, hi)] K a8 a3 1 n3 1 c3 W hA hB)
    clear h hK hr hR hn24
    replace hn := Lib.hid hn
    go_enter Try.func22, Try.ntmps22
    go_wp2_with (go_at_call 19; (with_reducible refine (CK.out _ HP.out).mono ?_); rintro e w2 ⟨rfl, hb⟩; obtain ⟨q0, q1, q2⟩ := KX.out _ hb)
    replace hW1 := Lib.hid hW1
    go_loopw [5, 7, 14] (fun v _ i wr => ∃ (k : Nat), i = .int .i64 (k : Int) ∧ k ≤ n ∧ Hid (OwnsI wr W1.heap.size v (ownL K (l.take k))) ∧ Below W1.heap.size W1 wr)
      (fun _ _ i _ => n - (intOf i).toNat)
    case atStart => exact ⟨0, rfl, by omega, Lib.hid (OwnsI.nil _ _), hb⟩
    case round =>
      obtain ⟨k, rfl, hk, HO, hbl⟩ := hrel
      by_cases hlt : k < n
      · have hkl : k < l.length := by rw [← hn.out]; exact hlt
        have hkz : (k : Int) < (n : Int) := by omega
        obtain ⟨b, off, e, hb9, c0, c1, c2, c3'⟩ := (HP.out.below hbl).2.2.2.2.shard k hkl
        subst e
        obtain ⟨⟨i, lo, hi, nd⟩, hs⟩ : ∃ s, l[k]! = s := ⟨_, rfl⟩
        rw [hs] at c0 c1 c2 c3'
        dsimp only at c0 c1 c2 c3'
        obtain ⟨W4, hW4⟩ : ∃ W4, wr.alloc (.cells #[.int .i64 i, .int .i64 lo, .int .i64 hi, .int .i64 nd] 35) = W4 := ⟨_, rfl⟩
        have b4 : Below wr.heap.size wr W4 := by rw [← hW4]; exact (Below.refl _ _).alloc (Nat.le_refl _) _
        have g4 : wr.heap.size < W4.heap.size := by rw [← hW4]; simp
        have hr4 : W4.heap[wr.heap.size]? = some (.cells #[.int .i64 i, .int .i64 lo, .int .i64 hi, .int .i64 nd] 35 (0, 0)) := by rw [← hW4]; exact heap_alloc_new _ _
        have x0 : W4.cell? ⟨wr.heap.size, 0, none⟩ = some (.int .i64 i) := cell_of_row _ _ 0 _ _ _ hr4
        have x1 : W4.cell? ⟨wr.heap.size, 1, none⟩ = some (.int .i64 lo) := cell_of_row _ _ 1 _ _ _ hr4
        have x2 : W4.cell? ⟨wr.heap.size, 2, none⟩ = some (.int .i64 hi) := cell_of_row _ _ 2 _ _ _ hr4
        have X0 := Lib.hid (fun W (hb : Below W4.heap.size W4 W) => (hb.cell (p := ⟨wr.heap.size, 0, none⟩) g4).trans x0)
        have HA := Lib.hid (show Arg (W4.alloc (.cells #[.int .i64 lo, .int .i64 hi] 33)) (some ⟨W4.heap.size, 0, none⟩) 1 1 [(lo, hi)] from span_new _ _ _ _)
        have HB := Lib.hid (show Arg (W4.alloc (.cells #[.int .i64 lo, .int .i64 hi] 33)) a3 n3 c3 K from (((HK.out.below hbl).below b4).below ((Below.refl _ _).alloc (Nat.le_refl _) _)))
        have b5 : Below W4.heap.size W4 (W4.alloc (.cells #[.int .i64 lo, .int .i64 hi] 33)) := (Below.refl _ _).alloc (Nat.le_refl _) _
        have B5 := Lib.hid b5
        have hb4 := below_next hbl b4
        have HOW := Lib.hid (fun W (hb : Below wr.heap.size wr W) => (HO.out.below hb))
        clear hr4 b5
        obtain ⟨r, ht⟩ : ∃ r, touchB [(lo, hi)] K = r := ⟨_, rfl⟩
        have TX := Lib.hid (TC.out _ _ lo hi r ht HA.out HB.out)
        have hs' := Lib.hid hs
        cases r
        · have HN := Lib.hid (ownL_skip hkl hs ht)
          clear hs ht
          go_wp2_with (go_at_call 64; (with_reducible refine TX.out.mono ?_); rintro e w6 ⟨rfl, hb6⟩)
          go_roundw
          case rel => exact ⟨k + 1, by go_num, by omega, Lib.hid (by rw [HN.out]; exact HOW.out _ (below_next b4 (below_next B5.out hb6))), below_next hb4 (below_next B5.out hb6)⟩
          case measure => simp [intOf]; omega
        · have HN := Lib.hid (ownL_more hkl hs ht)
          have hol := ownL_len K (l.take k)
          have holk : (ownL K (l.take k)).length ≤ 24 := by rw [List.length_take] at hol; omega
          obtain ⟨O, hO⟩ : ∃ O, ownL K (l.take k) = O := ⟨_, rfl⟩
          rw [hO] at HN HOW holk
          clear hs ht hol hO
          go_wp2_with (first | (go_at_call 64; (with_reducible refine TX.out.mono ?_); rintro e w6 ⟨rfl, hb6⟩; have b46 := below_next B5.out hb6; have y0 := X0.out _ b46; have b6 := below_next b4 b46; have HO6 := Lib.hid (show w6.ownsRow W1.heap.size 3 1 _ O.length (O.map (Value.int .i64)) from HOW.out _ b6); have hb16 := below_next hbl b6) | (at_builtin; refine wpList_append_own _ rfl _ _ 42 rfl W1.heap.size 3 i0 (.int .i64 0) 1 8 Try.underlying42 hi0 hz0 hz1 hz2 rfl (by decide) _ _ _ rfl (HO6.out.alloc _) ⟨w6.heap.size, 0, none⟩ 1 1 [.int .i64 i] rfl rfl ?c1 ?c2 ?c3 ?c4 ?c5 ?_))
          case c1 => exact cell_one_new _ _ _
          case c2 => intro x hx; simp at hx; subst hx; rfl
          case c3 => unfold maxLen; omega
          case c4 => omega
          case c5 => have := hb16.size; simp; omega
          intro v' w7 hown hgrow _
          have hb17 := (hb16.alloc hb16.size (.cells #[.int .i64 i] 3)).grown hgrow (by have := hb16.size; simp; omega) (fun j hj => (HO6.out.lt j hj).1)
          have HO7 := Lib.hid (OwnsI.push hown)
          clear hown hgrow
          go_wp2
          go_roundw
          case rel => exact ⟨k + 1, by go_num, by omega, Lib.hid (by rw [HN.out]; exact HO7.out), hb17⟩
          case measure => simp [intOf]; omega
      · have hkz : ¬ (k : Int) < (n : Int) := by omega
        have hk' : l.take k = l := List.take_of_length_le (by rw [← hn.out]; omega)
        have ho := HO.out
        rw [hk'] at ho
        have HF := Lib.hid ho
        clear ho hk'
        go_wp2
        go_ret
        exact ⟨_, rfl, by rw [HR.out]; exact HF.out.low bw.size, below_next bw hbl⟩
end Go.Proofs.Ytcpcdinfagdlhaa
