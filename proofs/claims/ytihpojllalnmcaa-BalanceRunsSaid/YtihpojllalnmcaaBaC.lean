/-
  CONTRACTS: balance.only at its types.
-/
import Derived.Test.YtihpojllalnmcaaBaB
namespace Go.Proofs.Ytihpojllalnmcaa
open Go.RowKit Go.Shelf

theorem cellD6B (w : World) (x y z u v s : Value) (t : TypeId) : ∀ j q, [x, y, z, u, v, s][j]? = some q → (w.alloc (.cells #[x, y, z, u, v, s] t)).cell? ((⟨w.heap.size, 0, none⟩ : Addr).add j) = some q := by
  intro j q hj
  rw [addr_add, Nat.zero_add]
  have e := cell_of_row (w.alloc (.cells #[x, y, z, u, v, s] t)) w.heap.size j _ _ _ (heap_alloc_new _ _)
  rw [e]
  simpa using hj
theorem Try.infoPart : (Try.prog.info? 101).map (fun i => (i.zero, i.size, i.bytes)) = some (some (.agg #[.int .i64 0, .int .i64 0, .int .i64 0, .int .i64 0, .slice none 0 0, .int .i64 0]), 6, 64) := by kernel_rfl
set_option maxRecDepth 100000 in
set_option maxHeartbeats 4000000 in
theorem onlyPart_any (p : Pt → Bool) (g : Nat) (lb : Array Value) (eg : ∀ args w, (callFunc g args).run Try.prog w = .ok (.enter g args) w) (a : Option Addr) (n c : Nat) (l : List Pt) (w : World) (h : RArg encPt 6 w a n c l)
    (hm : MayG g lb (fun x => .agg #[.int .i64 x.s.1, .int .i64 x.s.2.1, .int .i64 x.s.2.2.1, .int .i64 x.s.2.2.2, .slice x.a x.n x.c, .int .i64 x.v]) p l w) (hsm : n ≤ 100) :
    Calls Try.prog 60 #[.slice a n c, .func (.func g) #[] lb] w fun e w' => ∃ v, e = .returned v ∧ OwnsR encPt 6 101 w' w.heap.size v (l.filter p) ∧ Below w.heap.size w w' := by
  obtain ⟨i0, hi0, hz0, hz1, hz2⟩ := info_parts Try.infoPart
  obtain ⟨hn, hz, hc1, hc2, hp⟩ := h
  have hnz : (n : Int) ≤ 9223372036854775807 := by omega
  replace hn := Lib.hid hn
  replace hp := Lib.hid hp
  replace hm := Lib.hid hm
  go_enter Try.func60, Try.ntmps60
  go_wp2_with fail
  go_loopw [5, 10] (fun v i wr => ∃ (k : Nat), i = .int .i64 (k : Int) ∧ k ≤ n ∧ Hid (OwnsR encPt 6 101 wr w.heap.size v ((l.take k).filter p)) ∧ Below w.heap.size w wr)
    (fun _ i _ => n - (intOf i).toNat)
  case atStart => exact ⟨0, rfl, by omega, Lib.hid (OwnsR.nil _ _ _ _ _), Below.refl _ _⟩
  case round =>
    obtain ⟨k, rfl, hk, HO, hbl⟩ := hrel
    by_cases hlt : k < n
    · have hkl : k < l.length := by rw [← hn.out]; exact hlt
      have hkz : (k : Int) < (n : Int) := by omega
      have hmem := mem_bang hkl
      have hmore := filt_more p hkl
      have hlen := filt_len p l k
      obtain ⟨bb, off, e, hb9, hcs⟩ := (hp.out.below hbl) k hkl
      subst e
      obtain ⟨y, hy⟩ : ∃ y, l[k]! = y := ⟨_, rfl⟩
      rw [hy] at hmem hmore hcs
      clear hy
      have hmy := fun W (hb : Below w.heap.size w W) => hm.out W y hb hmem
      clear hmem
      obtain ⟨r, hr⟩ : ∃ r, p y = r := ⟨_, rfl⟩
      dsimp only at hmy
      rw [hr] at hmy hmore
      obtain ⟨O, hO⟩ : ∃ O, (l.take k).filter p = O := ⟨_, rfl⟩
      rw [hO] at HO hmore hlen
      clear hO
      have HOW := Lib.hid (fun W (hb : Below wr.heap.size wr W) => (HO.out.below hb))
      obtain ⟨⟨i1, i2, i3, i4⟩, a9, n9, c9, ps9, v9⟩ := y
      have c0 := hcs 0 (.int .i64 i1) rfl
      rw [show off + k * 6 + 0 = off + k * 6 by omega] at c0
      have c1 := hcs 1 (.int .i64 i2) rfl
      have c2 := hcs 2 (.int .i64 i3) rfl
      have c3 := hcs 3 (.int .i64 i4) rfl
      have c4 := hcs 4 (.slice a9 n9 c9) rfl
      have c5 := hcs 5 (.int .i64 v9) rfl
      clear hcs hr
      obtain ⟨W4, hW4⟩ : ∃ W4, wr.alloc (.cells #[.int .i64 i1, .int .i64 i2, .int .i64 i3, .int .i64 i4, .slice a9 n9 c9, .int .i64 v9] 101) = W4 := ⟨_, rfl⟩
      have b4 : Below wr.heap.size wr W4 := by rw [← hW4]; exact (Below.refl _ _).alloc (Nat.le_refl _) _
      have g4 : wr.heap.size < W4.heap.size := by rw [← hW4]; simp
      have hr4 : W4.heap[wr.heap.size]? = some (.cells #[.int .i64 i1, .int .i64 i2, .int .i64 i3, .int .i64 i4, .slice a9 n9 c9, .int .i64 v9] 101) := by rw [← hW4]; exact heap_alloc_new _ _
      have HM := Lib.hid (fun W (hb : Below w.heap.size w W) => hmy W hb)
      have X4 := Lib.hid (fun W (hb : Below W4.heap.size W4 W) => (cells6B ((hb.block _ g4).trans hr4)).1)
      have hbl4 := below_next hbl b4
      have b4' := Lib.hid b4
      obtain ⟨x0, x1, x2, x3, x4, x5⟩ := X4.out _ (Below.refl _ _)
      clear hmy hr4 b4
      cases r
      · have HN := Lib.hid (show (l.take (k + 1)).filter p = O by rw [hmore]; simp)
        clear hmore
        go_wp2_with (go_at_fn g; (with_reducible refine (HM.out _ hbl4).mono ?_); rintro e w6 ⟨rfl, hb6⟩; obtain ⟨y0, y1, y2, y3, y4, y5⟩ := X4.out _ hb6; have HO6 := Lib.hid (show w6.ownsRow w.heap.size 101 6 _ O.length (flatR encPt O) from HOW.out _ (below_next b4'.out hb6)); have hb46 := below_next hbl4 hb6)
        go_roundw
        case rel => exact ⟨k + 1, by go_num, by omega, Lib.hid (by rw [HN.out]; exact HO6.out), hb46⟩
        case measure => simp [intOf]; omega
      · have HN := Lib.hid (show (l.take (k + 1)).filter p = O ++ [⟨⟨i1, i2, i3, i4⟩, a9, n9, c9, ps9, v9⟩] by rw [hmore]; simp)
        clear hmore
        go_wp2_with (first | (go_at_fn g; (with_reducible refine (HM.out _ hbl4).mono ?_); rintro e w6 ⟨rfl, hb6⟩; obtain ⟨y0, y1, y2, y3, y4, y5⟩ := X4.out _ hb6; have HO6 := Lib.hid (show w6.ownsRow w.heap.size 101 6 _ O.length (flatR encPt O) from HOW.out _ (below_next b4'.out hb6)); have hb46 := below_next hbl4 hb6) | (at_builtin; refine wpList_append_own _ rfl _ _ 72 rfl w.heap.size 101 i0 (.agg #[.int .i64 0, .int .i64 0, .int .i64 0, .int .i64 0, .slice none 0 0, .int .i64 0]) 6 64 Try.underlying72 hi0 hz0 hz1 hz2 rfl (by decide) _ _ _ rfl (HO6.out.alloc _) ⟨w6.heap.size, 0, none⟩ 1 1 [.int .i64 i1, .int .i64 i2, .int .i64 i3, .int .i64 i4, .slice a9 n9 c9, .int .i64 v9] rfl rfl ?c1 ?c2 ?c3 ?c4 ?c5 ?_))
        case c1 => exact cellD6B _ _ _ _ _ _ _ _
        case c2 => intro x hx; simp at hx; rcases hx with rfl | rfl | rfl | rfl | rfl | rfl <;> rfl
        case c3 => unfold maxLen; omega
        case c4 => omega
        case c5 => have := hb46.size; simp; omega
        intro v' w7 hown hgrow _
        have hb17 := (hb46.alloc hb46.size (.cells #[.int .i64 i1, .int .i64 i2, .int .i64 i3, .int .i64 i4, .slice a9 n9 c9, .int .i64 v9] 101)).grown hgrow (by have := hb46.size; simp; omega) (fun j hj => (HO6.out.lt j hj).1)
        have HO7 := Lib.hid (OwnsR.snoc (enc := encPt) (x := ⟨⟨i1, i2, i3, i4⟩, a9, n9, c9, ps9, v9⟩) rfl hown)
        clear hown hgrow
        go_wp2
        go_roundw
        case rel => exact ⟨k + 1, by go_num, by omega, Lib.hid (by rw [HN.out]; exact HO7.out), hb17⟩
        case measure => simp [intOf]; omega
    · have hkz : ¬ (k : Int) < (n : Int) := by omega
      have ho := HO.out
      rw [List.take_of_length_le (by rw [← hn.out]; omega)] at ho
      have HF := Lib.hid ho
      clear ho
      go_wp2
      go_ret
      exact ⟨_, rfl, HF.out, hbl⟩
theorem Try.infoWin : (Try.prog.info? 72).map (fun i => (i.zero, i.size, i.bytes)) = some (some (.slice none 0 0), 1, 24) := by kernel_rfl
set_option maxRecDepth 100000 in
set_option maxHeartbeats 4000000 in
theorem onlyWin_any (p : Wn → Bool) (g : Nat) (lb : Array Value) (eg : ∀ args w, (callFunc g args).run Try.prog w = .ok (.enter g args) w) (a : Option Addr) (n c : Nat) (l : List Wn) (w : World) (h : RArg encWn 1 w a n c l)
    (hm : MayG g lb (fun x => .slice x.a 2 x.c) p l w) (hsm : n ≤ 100) :
    Calls Try.prog 73 #[.slice a n c, .func (.func g) #[] lb] w fun e w' => ∃ v, e = .returned v ∧ OwnsR encWn 1 72 w' w.heap.size v (l.filter p) ∧ Below w.heap.size w w' := by
  obtain ⟨i0, hi0, hz0, hz1, hz2⟩ := info_parts Try.infoWin
  obtain ⟨hn, hz, hc1, hc2, hp⟩ := h
  have hnz : (n : Int) ≤ 9223372036854775807 := by omega
  replace hn := Lib.hid hn
  replace hp := Lib.hid hp
  replace hm := Lib.hid hm
  go_enter Try.func73, Try.ntmps73
  go_wp2_with fail
  go_loopw [5, 10] (fun v i wr => ∃ (k : Nat), i = .int .i64 (k : Int) ∧ k ≤ n ∧ Hid (OwnsR encWn 1 72 wr w.heap.size v ((l.take k).filter p)) ∧ Below w.heap.size w wr)
    (fun _ i _ => n - (intOf i).toNat)
  case atStart => exact ⟨0, rfl, by omega, Lib.hid (OwnsR.nil _ _ _ _ _), Below.refl _ _⟩
  case round =>
    obtain ⟨k, rfl, hk, HO, hbl⟩ := hrel
    by_cases hlt : k < n
    · have hkl : k < l.length := by rw [← hn.out]; exact hlt
      have hkz : (k : Int) < (n : Int) := by omega
      have hmem := mem_bang hkl
      have hmore := filt_more p hkl
      have hlen := filt_len p l k
      obtain ⟨bb, off, e, hb9, hcs⟩ := (hp.out.below hbl) k hkl
      subst e
      obtain ⟨y, hy⟩ : ∃ y, l[k]! = y := ⟨_, rfl⟩
      rw [hy] at hmem hmore hcs
      clear hy
      have hmy := fun W (hb : Below w.heap.size w W) => hm.out W y hb hmem
      clear hmem
      obtain ⟨r, hr⟩ : ∃ r, p y = r := ⟨_, rfl⟩
      dsimp only at hmy
      rw [hr] at hmy hmore
      obtain ⟨O, hO⟩ : ∃ O, (l.take k).filter p = O := ⟨_, rfl⟩
      rw [hO] at HO hmore hlen
      clear hO
      have HOW := Lib.hid (fun W (hb : Below wr.heap.size wr W) => (HO.out.below hb))
      obtain ⟨a9, c9, x9, y9⟩ := y
      have c0 := hcs 0 (.slice a9 2 c9) rfl
      rw [show off + k * 1 + 0 = off + k by omega] at c0
      clear hcs hr
      have HM := Lib.hid (fun W (hb : Below w.heap.size w W) => hmy W hb)
      clear hmy
      cases r
      · have HN := Lib.hid (show (l.take (k + 1)).filter p = O by rw [hmore]; simp)
        clear hmore
        go_wp2_with (go_at_fn g; (with_reducible refine (HM.out _ hbl).mono ?_); rintro e w6 ⟨rfl, hb6⟩; have HO6 := Lib.hid (show w6.ownsRow w.heap.size 72 1 _ O.length (flatR encWn O) from HOW.out _ hb6); have hb46 := below_next hbl hb6)
        go_roundw
        case rel => exact ⟨k + 1, by go_num, by omega, Lib.hid (by rw [HN.out]; exact HO6.out), hb46⟩
        case measure => simp [intOf]; omega
      · have HN := Lib.hid (show (l.take (k + 1)).filter p = O ++ [⟨a9, c9, x9, y9⟩] by rw [hmore]; simp)
        clear hmore
        go_wp2_with (first | (go_at_fn g; (with_reducible refine (HM.out _ hbl).mono ?_); rintro e w6 ⟨rfl, hb6⟩; have HO6 := Lib.hid (show w6.ownsRow w.heap.size 72 1 _ O.length (flatR encWn O) from HOW.out _ hb6); have hb46 := below_next hbl hb6) | (at_builtin; refine wpList_append_own _ rfl _ _ 128 rfl w.heap.size 72 i0 (.slice none 0 0) 1 24 Try.underlying128 hi0 hz0 hz1 hz2 rfl (by decide) _ _ _ rfl (HO6.out.alloc _) ⟨w6.heap.size, 0, none⟩ 1 1 [.slice a9 2 c9] rfl rfl ?c1 ?c2 ?c3 ?c4 ?c5 ?_))
        case c1 => exact cell_one_new _ _ _
        case c2 => intro x hx; simp at hx; rcases hx with rfl <;> rfl
        case c3 => unfold maxLen; omega
        case c4 => omega
        case c5 => have := hb46.size; simp; omega
        intro v' w7 hown hgrow _
        have hb17 := (hb46.alloc hb46.size (.cells #[.slice a9 2 c9] 72)).grown hgrow (by have := hb46.size; simp; omega) (fun j hj => (HO6.out.lt j hj).1)
        have HO7 := Lib.hid (OwnsR.snoc (enc := encWn) (x := ⟨a9, c9, x9, y9⟩) rfl hown)
        clear hown hgrow
        go_wp2
        go_roundw
        case rel => exact ⟨k + 1, by go_num, by omega, Lib.hid (by rw [HN.out]; exact HO7.out), hb17⟩
        case measure => simp [intOf]; omega
    · have hkz : ¬ (k : Int) < (n : Int) := by omega
      have ho := HO.out
      rw [List.take_of_length_le (by rw [← hn.out]; omega)] at ho
      have HF := Lib.hid ho
      clear ho
      go_wp2
      go_ret
      exact ⟨_, rfl, HF.out, hbl⟩
end Go.Proofs.Ytihpojllalnmcaa
