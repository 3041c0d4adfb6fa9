/-
  CONTRACT of the document's Read, of charts; it is the program's.
-/
import Derived.Test.YtcpcdinfagdlhaaChTx
import Derived.Test.YtcpcdinfagdlhaaChZ
namespace Go.Proofs.Ytcpcdinfagdlhaa
open Go.RowKit Go.Shelf Go.ChangeShapes Go.WideShapes Go.Deep

def dSs : Nat → List Sd → Int → ByteArray → Int → List Sd × ByteArray × Int
  | 0, acc, _, s, e => (acc, s, e)
  | n + 1, acc, lo, s, e =>
    if e = 0 then dSs n (acc ++ [((rNum s 0).1, lo, (rNum (rNum s 0).2.1 (rNum s 0).2.2).1, (rNum (rNum (rNum s 0).2.1 (rNum s 0).2.2).2.1 (rNum (rNum s 0).2.1 (rNum s 0).2.2).2.2).1)]) (rNum (rNum s 0).2.1 (rNum s 0).2.2).1
        (rNum (rNum (rNum s 0).2.1 (rNum s 0).2.2).2.1 (rNum (rNum s 0).2.1 (rNum s 0).2.2).2.2).2.1 (rNum (rNum (rNum s 0).2.1 (rNum s 0).2.2).2.1 (rNum (rNum s 0).2.1 (rNum s 0).2.2).2.2).2.2
    else (acc, s, e)
theorem dSs_go {n : Nat} {acc : List Sd} {lo i h k e1 e2 e3 : Int} {s s1 s2 s3 : ByteArray} (h1 : rNum s 0 = (i, s1, e1)) (h2 : rNum s1 e1 = (h, s2, e2)) (h3 : rNum s2 e2 = (k, s3, e3)) : dSs (n + 1) acc lo s 0 = dSs n (acc ++ [(i, lo, h, k)]) h s3 e3 := by
  rw [dSs, if_pos rfl, h1]; dsimp only; rw [h2]; dsimp only; rw [h3]
theorem dSs_err (n : Nat) (acc : List Sd) (lo : Int) (s : ByteArray) {e : Int} (h : e ≠ 0) : dSs n acc lo s e = (acc, s, e) := by
  cases n with
  | zero => rfl
  | succ n => rw [dSs, if_neg h]
theorem dSs_rSs : ∀ (n : Nat) (acc acc' : List Sd) (lo : Int) (s : ByteArray), acc' = acc.take 25 → (rSs n acc' lo s 0).2 = (dSs n acc lo s 0).2 ∧ ((rSs n acc' lo s 0).2.2 = 0 → (rSs n acc' lo s 0).1 = (dSs n acc lo s 0).1.take 25)
  | 0, acc, acc', lo, s, h => ⟨rfl, fun _ => h⟩
  | n + 1, acc, acc', lo, s, h => by
    obtain ⟨x, s1, e1, hA⟩ : ∃ x s1 e3, rNum s 0 = (x, s1, e3) := ⟨_, _, _, rfl⟩
    obtain ⟨y, s2, e2, hB⟩ : ∃ y s2 e4, rNum s1 e1 = (y, s2, e4) := ⟨_, _, _, rfl⟩
    obtain ⟨z, s3, e3, hC⟩ : ∃ yy ss ee, rNum s2 e2 = (yy, ss, ee) := ⟨_, _, _, rfl⟩
    rw [dSs_go hA hB hC]
    by_cases he : e3 = 0
    · rw [rSs_go hA hB hC he]
      subst he
      refine dSs_rSs n _ _ y s3 ?_
      by_cases hl : acc'.length ≤ 24
      · rw [if_pos hl]
        have h1 : acc.length ≤ 24 := by rw [h, List.length_take] at hl; omega
        have h2 : acc' = acc := by rw [h]; exact List.take_of_length_le (by omega)
        rw [h2, List.take_of_length_le (by rw [List.length_append]; simp; omega)]
      · rw [if_neg hl]
        have h1 : 25 ≤ acc.length := by rw [h, List.length_take] at hl; omega
        rw [h, List.take_append_of_le_length h1]
    · rw [rSs_stop hA hB hC he, dSs_err _ _ _ _ he]
      exact ⟨rfl, fun q => absurd q he⟩
def finC (ep nx : Int) (l : List Sd) (t : ByteArray) (e : Int) : Int × Int × List Sd × Int := if rEnd t e = 0 then (if chkC ep nx l = true then (ep, nx, l, 0) else (0, 0, [], 3)) else (0, 0, [], rEnd t e)
theorem rEnd_err {t : ByteArray} {e : Int} (h : rEnd t e = 0) : e = 0 := by
  unfold rEnd at h
  by_cases hq : e = 0
  · exact hq
  · rw [if_neg hq] at h; exact h
/-- The document's Read is the program's. -/
theorem docC_is {s s1 s2 s3 t : ByteArray} {ep nx n e1 e2 e3 e : Int} {l : List Sd} (hA : rNum s 0 = (ep, s1, e1)) (hB : rNum s1 e1 = (nx, s2, e2)) (hN : rNum s2 e2 = (n, s3, e3)) (hD : dSs n.toNat [] 0 s3 e3 = (l, t, e)) : finC ep nx l t e = readC s := by
  obtain ⟨l', t', e', hR⟩ : ∃ l' t' e', rShards s2 e2 = (l', t', e') := ⟨_, _, _, rfl⟩
  rw [readC_eq hA hB hR]
  unfold rShards at hR
  rw [hN] at hR
  dsimp only at hR
  by_cases h3 : e3 = 0
  · subst h3
    obtain ⟨k1, k2⟩ := dSs_rSs n.toNat [] [] 0 s3 rfl
    rw [hR, hD] at k1 k2
    dsimp only at k1 k2
    cases k1
    unfold finC
    by_cases hE : rEnd t e = 0
    · rw [if_pos hE, if_pos hE]
      have hl := k2 (rEnd_err hE)
      subst hl
      by_cases h25 : l.length ≤ 25
      · rw [List.take_of_length_le h25]
      · have n1 : chkC ep nx l = false := by
          cases hc : chkC ep nx l with
          | false => rfl
          | true => have := (chkC_parts hc).2.2.1.2; omega
        have n2 : chkC ep nx (l.take 25) = false := by
          cases hc : chkC ep nx (l.take 25) with
          | false => rfl
          | true => have := (chkC_parts hc).2.2.1.2; rw [List.length_take] at this; omega
        rw [if_neg (by rw [n1]; simp), if_neg (by rw [n2]; simp)]
    · rw [if_neg hE, if_neg hE]
  · rw [dSs_err _ _ _ _ h3] at hD
    cases hD
    have hr : rEnd s3 e3 = e3 := by unfold rEnd; rw [if_neg h3]
    have hR2 : t' = s3 ∧ e' = e3 := by
      cases hn : n.toNat with
      | zero => rw [hn, rSs] at hR; cases hR; exact ⟨rfl, rfl⟩
      | succ m =>
        rw [hn] at hR
        have q1 : rNum s3 e3 = (0, s3, e3) := rNum_err h3
        rw [rSs_stop q1 q1 q1 h3] at hR
        cases hR
        exact ⟨rfl, rfl⟩
    obtain ⟨rfl, rfl⟩ := hR2
    unfold finC
    rw [hr, if_neg h3, if_neg h3]
/-- A box. -/
def XB (t : TypeId) (w : World) (x : Nat) (cs : List Value) : Prop := w.heap[x]? = some (.cells cs.toArray t)
theorem XB.lt {t : TypeId} {w : World} {x : Nat} {cs : List Value} (h : XB t w x cs) : x < w.heap.size := (Array.getElem?_eq_some_iff.1 h).1
theorem XB.below {t : TypeId} {w w' : World} {x : Nat} {cs : List Value} (h : XB t w x cs) (hb : Below w.heap.size w w') : XB t w' x cs := (hb.block x h.lt).trans h
theorem XB.at {t : TypeId} {w : World} {x : Nat} {cs : List Value} (h : XB t w x cs) (i : Nat) (v : Value) (hv : cs[i]? = some v) : w.cell? ⟨x, i, none⟩ = some v := cell_of_row _ _ i _ _ _ (show w.heap[x]? = _ from h) |>.trans (by simpa using hv)
theorem XB.free {t : TypeId} {w : World} {x : Nat} {cs : List Value} (h : XB t w x cs) (i : Nat) : w.frozen? ⟨x, i, none⟩ = false := frozen_of_row _ _ i _ _ h
theorem XB.set {t : TypeId} {w : World} {x : Nat} {cs : List Value} (h : XB t w x cs) (i : Nat) (v : Value) : XB t (w.setCell ⟨x, i, none⟩ v) x (cs.set i v) := by
  have := heap_setCell_same _ _ i _ _ v (show w.heap[x]? = _ from h)
  rw [List.setIfInBounds_toArray] at this
  exact this
theorem XB.kept {t : TypeId} {w w' : World} {x : Nat} {cs : List Value} {row : Option Nat} (h : XB t w x cs) (hg : w.grownBy w' row) (hne : some x ≠ row) : XB t w' x cs := (hg.block x h.lt hne).trans h
theorem XB.not_row {t t' : TypeId} {w : World} {x : Nat} {cs : List Value} {base n k : Nat} {v : Value} {l : List Value} (hne : t ≠ t') (h : XB t w x cs) (hr : w.ownsRow base t' k v n l) : some x ≠ v.ownBlock := by
  rcases hr.2 with ⟨rfl, _⟩ | ⟨g, cap, cur, rfl, _, hg, _⟩
  · simp [Value.ownBlock]
  · intro e
    obtain rfl : x = g := by simpa [Value.ownBlock] using e
    rw [show w.heap[x]? = _ from h] at hg
    cases hg
    exact hne rfl
theorem XB.far {t : TypeId} {w : World} {x : Nat} {cs : List Value} (h : XB t w x cs) (p : Addr) (u : Value) (hp : p.block ≠ x) : XB t (w.setCell p u) x cs := XB.kept h (grown_setCell w p u) (by simp; omega)
theorem XB.more {t : TypeId} {w : World} {x : Nat} {cs : List Value} (h : XB t w x cs) (ob : Obj) : XB t (w.alloc ob) x cs := XB.kept h (World.grownBy_alloc w ob none) (by simp)
theorem OwnsR.far {α : Type} {enc : α → List Value} {k : Nat} {t : TypeId} {w : World} {base : Nat} {v : Value} {l : List α} (h : OwnsR enc k t w base v l) (p : Addr) (u : Value) (hp : some p.block ≠ v.ownBlock) : OwnsR enc k t (w.setCell p u) base v l := World.ownsRow.kept h (grown_setCell w p u) (.inr (fun e => hp e.symm))
theorem OwnsR.more {α : Type} {enc : α → List Value} {k : Nat} {t : TypeId} {w : World} {base : Nat} {v : Value} {l : List α} (h : OwnsR enc k t w base v l) (ob : Obj) : OwnsR enc k t (w.alloc ob) base v l := World.ownsRow.alloc h ob
/-- The reader, the chart that is made, the answer's variable, the shards that were read. -/
structure St8 (w : World) (T C : Nat) (v : Value) (acc : List Sd) (t : ByteArray) (e ep nx : Int) (W : World) : Prop where
  rd : XB 133 W T [.string t, .int .i64 e]
  ch : XB 30 W C [.int .i64 ep, .int .i64 nx, v]
  re : XB 30 W w.heap.size [.int .i64 0, .int .i64 0, .slice none 0 0]
  row : OwnsR encS 4 113 W w.heap.size v acc
  low : Below w.heap.size w W
section
variable {w W W' : World} {T C : Nat} {v : Value} {acc : List Sd} {t : ByteArray} {e ep nx : Int} (h : St8 w T C v acc t e ep nx W)
include h
theorem St8.call (hb : Below W.heap.size W W') : St8 w T C v acc t e ep nx W' := ⟨h.rd.below hb, h.ch.below hb, h.re.below hb, OwnsR.below h.row hb, below_next h.low hb⟩
theorem St8.more (ob : Obj) : St8 w T C v acc t e ep nx (W.alloc ob) := ⟨h.rd.more _, h.ch.more _, h.re.more _, h.row.more _, h.low.alloc h.low.size _⟩
theorem St8.far (p : Addr) (u : Value) (h1 : p.block ≠ T) (h2 : p.block ≠ C) (h3 : w.heap.size < p.block) (h4 : some p.block ≠ v.ownBlock) : St8 w T C v acc t e ep nx (W.setCell p u) := ⟨h.rd.far _ _ h1, h.ch.far _ _ h2, h.re.far _ _ (by omega), h.row.far _ _ h4, h.low.setCell (Nat.le_of_lt h3) _⟩
theorem St8.read (hTC : T ≠ C) (hT : w.heap.size < T) (t' : ByteArray) (e' : Int) : St8 w T C v acc t' e' ep nx ((W.setCell ⟨T, 0, none⟩ (.string t')).setCell ⟨T, 1, none⟩ (.int .i64 e')) := by
  have hr : some T ≠ v.ownBlock := XB.not_row (by decide) h.rd h.row
  exact ⟨(h.rd.set 0 _).set 1 _, (h.ch.far _ _ hTC).far _ _ hTC, (h.re.far _ _ (by show T ≠ _; omega)).far _ _ (by show T ≠ _; omega), (h.row.far _ _ hr).far _ _ hr, (h.low.setCell (by show _ ≤ T; omega) _).setCell (by show _ ≤ T; omega) _⟩
theorem St8.epoch (hTC : T ≠ C) (hC : w.heap.size < C) (x : Int) : St8 w T C v acc t e x nx (W.setCell ⟨C, 0, none⟩ (.int .i64 x)) := by
  have hr : some C ≠ v.ownBlock := XB.not_row (by decide) h.ch h.row
  exact ⟨h.rd.far _ _ (Ne.symm hTC), h.ch.set 0 _, h.re.far _ _ (by show C ≠ _; omega), h.row.far _ _ hr, h.low.setCell (by show _ ≤ C; omega) _⟩
theorem St8.next (hTC : T ≠ C) (hC : w.heap.size < C) (x : Int) : St8 w T C v acc t e ep x (W.setCell ⟨C, 1, none⟩ (.int .i64 x)) := by
  have hr : some C ≠ v.ownBlock := XB.not_row (by decide) h.ch h.row
  exact ⟨h.rd.far _ _ (Ne.symm hTC), h.ch.set 1 _, h.re.far _ _ (by show C ≠ _; omega), h.row.far _ _ hr, h.low.setCell (by show _ ≤ C; omega) _⟩
end
set_option maxRecDepth 100000 in
set_option maxHeartbeats 8000000 in
theorem rread8_any (s : ByteArray) (w : World) (hs : (s.size : Int) ≤ 4000) : Calls Try.prog 31 #[.string s] w (ReadPost (readC s) w) := by
  obtain ⟨i0, hi, hz0, hz1, hz2⟩ := info_parts Try.infoRSd
  obtain ⟨ep, s1, e1, hA⟩ : ∃ x s1 e3, rNum s 0 = (x, s1, e3) := ⟨_, _, _, rfl⟩
  obtain ⟨nx, s2, e2, hB⟩ : ∃ y s2 e4, rNum s1 e1 = (y, s2, e4) := ⟨_, _, _, rfl⟩
  obtain ⟨n0, s3, e3, hN⟩ : ∃ yy ss ee, rNum s2 e2 = (yy, ss, ee) := ⟨_, _, _, rfl⟩
  have z1 : s1.size ≤ s.size := by have := rNum_size s 0; rw [hA] at this; exact this
  have z2 : s2.size ≤ s1.size := by have := rNum_size s1 e1; rw [hB] at this; exact this
  have z3 : s3.size ≤ s2.size := by have := rNum_size s2 e2; rw [hN] at this; exact this
  obtain ⟨v0, v1⟩ := rNum_val s2 e2
  rw [hN] at v0 v1
  dsimp only at v0 v1
  obtain ⟨n, rfl⟩ : ∃ n : Nat, n0 = (n : Int) := ⟨n0.toNat, by omega⟩
  have hn1 : (n : Int) ≤ 9223372036854775807 := v1
  obtain ⟨R, hR⟩ : ∃ R, readC s = R := ⟨_, rfl⟩
  have HDE := Lib.hid (fun l t e (h : dSs n [] 0 s3 e3 = (l, t, e)) => (docC_is (l := l) (t := t) (e := e) hA hB hN (by rw [Int.toNat_natCast]; exact h)).trans hR)
  have CA := Lib.hid (fun W => (show Calls Try.prog 77 #[rdV s 0] W (RdNumPost (ep, s1, e1) W) by have := refNumR_any s 0 W (by omega); rwa [hA] at this))
  have CB := Lib.hid (fun W => (show Calls Try.prog 77 #[rdV s1 e1] W (RdNumPost (nx, s2, e2) W) by have := refNumR_any s1 e1 W (by omega); rwa [hB] at this))
  have CN := Lib.hid (fun W => (show Calls Try.prog 77 #[rdV s2 e2] W (RdNumPost ((n : Int), s3, e3) W) by have := refNumR_any s2 e2 W (by omega); rwa [hN] at this))
  rw [hR]
  obtain ⟨W1, hW1⟩ : ∃ W1, w.alloc (.cells #[.int .i64 0, .int .i64 0, .slice none 0 0] 30) = W1 := ⟨_, rfl⟩
  obtain ⟨W2, hW2⟩ : ∃ W2, W1.alloc (.cells #[.int .i64 0, .int .i64 0, .slice none 0 0] 30) = W2 := ⟨_, rfl⟩
  have m1 : W1.heap.size = w.heap.size + 1 := by rw [← hW1]; simp
  have m2 : W2.heap.size = W1.heap.size + 1 := by rw [← hW2]; simp
  have S0 : Hid (St8 w W2.heap.size W1.heap.size (.slice none 0 0) [] s 0 0 0 (W2.alloc (.cells #[.string s, .int .i64 0] 133))) := Lib.hid ⟨heap_alloc_new _ _,
    XB.more (show XB 30 W2 W1.heap.size _ by rw [← hW2]; exact heap_alloc_new _ _) _,
    XB.more (show XB 30 W2 w.heap.size _ by rw [← hW2]; exact XB.more (show XB 30 W1 w.heap.size _ by rw [← hW1]; exact heap_alloc_new _ _) _) _,
    OwnsR.nil _ _ _ _ _, by rw [← hW2, ← hW1]; exact (((Below.refl _ _).alloc (Nat.le_refl _) _).alloc (by simp) _).alloc (by simp <;> omega) _⟩
  obtain ⟨T, hT⟩ : ∃ T, W2.heap.size = T := ⟨_, rfl⟩
  obtain ⟨C, hC⟩ : ∃ C, W1.heap.size = C := ⟨_, rfl⟩
  rw [hT, hC] at S0
  rw [hT, hC] at m2
  rw [hC] at m1
  have hTC : T ≠ C := by omega
  have hTw : w.heap.size < T := by omega
  have hCw : w.heap.size < C := by omega
  have hTC1 : (T = C) = False := eq_false (by omega)
  have hTC2 : (C = T) = False := eq_false (by omega)
  clear hA hB hN hR m1 m2 v0
  go_enter Try.func31, Try.ntmps31
  go_wp2_with (first
    | (go_at_call 77; (with_reducible refine (CA.out _).mono ?_); rintro en w3 ⟨rfl, bw3⟩; have Sa := (S0.out.call bw3).more (.cells #[.string s1, .int .i64 e1] 133); have g0 := Sa.rd.at 0 _ rfl; have g1 := Sa.rd.at 1 _ rfl; have g2 := Sa.rd.free 0; have g3 := Sa.rd.free 1; obtain ⟨WA, hWA⟩ : ∃ WA, ((w3.alloc (.cells #[.string s1, .int .i64 e1] 133)).setCell ⟨T, 0, none⟩ (.string s1)).setCell ⟨T, 1, none⟩ (.int .i64 e1) = WA := ⟨_, rfl⟩; have SA := (show St8 w T C _ _ s1 e1 _ _ WA by rw [← hWA]; exact Sa.read hTC hTw s1 e1); clear Sa; have x0 := SA.ch.at 0 _ rfl; have x1 := SA.ch.free 0; obtain ⟨WAx, hWAx⟩ : ∃ W9, WA.setCell ⟨C, 0, none⟩ (.int .i64 ep) = W9 := ⟨_, rfl⟩; have SAx := (show St8 w T C _ _ s1 e1 _ _ WAx by rw [← hWAx]; exact SA.epoch hTC hCw ep); have y0 := SAx.rd.at 0 _ rfl; have y1 := SAx.rd.at 1 _ rfl; replace SA := Lib.hid SAx; clear SAx)
    | (go_at_call 77; (with_reducible refine (CB.out _).mono ?_); rintro en w4 ⟨rfl, bw4⟩; have Sa := (SA.out.call bw4).more (.cells #[.string s2, .int .i64 e2] 133); have g0 := Sa.rd.at 0 _ rfl; have g1 := Sa.rd.at 1 _ rfl; have g2 := Sa.rd.free 0; have g3 := Sa.rd.free 1; obtain ⟨WB, hWB⟩ : ∃ WB, ((w4.alloc (.cells #[.string s2, .int .i64 e2] 133)).setCell ⟨T, 0, none⟩ (.string s2)).setCell ⟨T, 1, none⟩ (.int .i64 e2) = WB := ⟨_, rfl⟩; have SB := (show St8 w T C _ _ s2 e2 _ _ WB by rw [← hWB]; exact Sa.read hTC hTw s2 e2); clear Sa; have x0 := SB.ch.at 1 _ rfl; have x1 := SB.ch.free 1; obtain ⟨WBx, hWBx⟩ : ∃ W9, WB.setCell ⟨C, 1, none⟩ (.int .i64 nx) = W9 := ⟨_, rfl⟩; have SBx := (show St8 w T C _ _ s2 e2 _ _ WBx by rw [← hWBx]; exact SB.next hTC hCw nx); have y0 := SBx.rd.at 0 _ rfl; have y1 := SBx.rd.at 1 _ rfl; replace SB := Lib.hid SBx; clear SBx)
    | (go_at_call 77; (with_reducible refine (CN.out _).mono ?_); rintro en w5 ⟨rfl, bw5⟩; have Sa := (SB.out.call bw5); have g0 := Sa.rd.at 0 _ rfl; have g1 := Sa.rd.at 1 _ rfl; have g2 := Sa.rd.free 0; have g3 := Sa.rd.free 1; obtain ⟨WC, hWC⟩ : ∃ WC, (w5.setCell ⟨T, 0, none⟩ (.string s3)).setCell ⟨T, 1, none⟩ (.int .i64 e3) = WC := ⟨_, rfl⟩; have SC := (show St8 w T C _ _ s3 e3 _ _ WC by rw [← hWC]; exact Sa.read hTC hTw s3 e3); clear Sa; replace SC := Lib.hid SC))
  replace hW1 := Lib.hid hW1
  replace hW2 := Lib.hid hW2
  replace hT := Lib.hid hT
  replace hC := Lib.hid hC
  go_loopw [6, 12, 13, 14, 15, 16, 17, 18, 19] (fun ao i _ _ _ _ _ _ _ wr => ∃ (k : Nat) (acc : List Sd) (lo : Int) (t : ByteArray) (e4 : Int) (v : Value), i = .int .i64 (k : Int) ∧ ao = .int .i64 lo ∧ k ≤ n ∧ Hid (acc.length = k) ∧ k ≤ s.size + 1 ∧ Hid (e4 = 0 → k + t.size ≤ s.size) ∧ t.size ≤ s.size ∧ Hid (St8 w T C v acc t e4 ep nx wr) ∧ Hid (dSs (n - k) acc lo t e4 = dSs n [] 0 s3 e3))
    (fun _ i _ _ _ _ _ _ _ _ => n - (intOf i).toNat)
  case atStart => exact ⟨0, [], 0, s3, e3, _, rfl, rfl, by omega, Lib.hid rfl, by omega, Lib.hid (fun _ => by omega), by omega, SC, Lib.hid rfl⟩
  case round =>
    obtain ⟨k, acc, lo, t, e4, v, rfl, rfl, hk, HLn, hks, HL, hts, HS, HE⟩ := hrel
    have c0 := HS.out.rd.at 0 _ rfl
    have c1 := HS.out.rd.at 1 _ rfl
    by_cases hgo : k < n ∧ e4 = 0
    · obtain ⟨hlt, rfl⟩ := hgo
      have hkz : (k : Int) < (n : Int) := by omega
      have hsum := HL.out rfl
      obtain ⟨i, a1, f1, hA⟩ : ∃ x s1 e3, rNum t 0 = (x, s1, e3) := ⟨_, _, _, rfl⟩
      obtain ⟨y, a2, f2, hB⟩ : ∃ y s2 e4, rNum a1 f1 = (y, s2, e4) := ⟨_, _, _, rfl⟩
      obtain ⟨q, a3, f3, hD⟩ : ∃ y s2 e4, rNum a2 f2 = (y, s2, e4) := ⟨_, _, _, rfl⟩
      have t1 : a1.size ≤ t.size := by have := rNum_size t 0; rw [hA] at this; exact this
      have t2 : a2.size ≤ a1.size := by have := rNum_size a1 f1; rw [hB] at this; exact this
      have t3 : a3.size ≤ a2.size := by have := rNum_size a2 f2; rw [hD] at this; exact this
      have hlN : Hid (f3 = 0 → k + 1 + a3.size ≤ s.size) := Lib.hid fun h => by
        have g1 := rNum_less (s := a2) (e := f2) (by rw [hD]; exact h)
        rw [hD] at g1
        dsimp only at g1
        omega
      have CX := Lib.hid (fun W => (show Calls Try.prog 77 #[rdV t 0] W (RdNumPost (i, a1, f1) W) by have := refNumR_any t 0 W (by omega); rwa [hA] at this))
      have CY := Lib.hid (fun W => (show Calls Try.prog 77 #[rdV a1 f1] W (RdNumPost (y, a2, f2) W) by have := refNumR_any a1 f1 W (by omega); rwa [hB] at this))
      have CZ := Lib.hid (fun W => (show Calls Try.prog 77 #[rdV a2 f2] W (RdNumPost (q, a3, f3) W) by have := refNumR_any a2 f2 W (by omega); rwa [hD] at this))
      have HN := Lib.hid (show dSs (n - (k + 1)) (acc ++ [(i, lo, y, q)]) y a3 f3 = dSs n [] 0 s3 e3 by rw [← HE.out, show n - k = n - (k + 1) + 1 by omega, dSs_go hA hB hD])
      clear hA hB hD HE HL
      obtain ⟨a6, p6, rfl, _⟩ := OwnsR.arg encS_len HS.out.row
      rw [HLn.out] at HS
      have S1 := Lib.hid (HS.out.more (.cells #[.int .i64 0, .int .i64 0, .int .i64 0, .int .i64 0] 113))
      have hX0 := Lib.hid (show XB 113 (wr.alloc (.cells #[.int .i64 0, .int .i64 0, .int .i64 0, .int .i64 0] 113)) wr.heap.size [.int .i64 0, .int .i64 0, .int .i64 0, .int .i64 0] from heap_alloc_new _ _)
      have d0 := S1.out.rd.at 0 _ rfl
      have d1 := S1.out.rd.at 1 _ rfl
      have hXT := HS.out.rd.lt
      have hXC := HS.out.ch.lt
      have hXw := HS.out.re.lt
      have hXr : Hid (some wr.heap.size ≠ (Value.slice a6 k p6).ownBlock) := Lib.hid (fun e => by have := (World.ownsRow.lt HS.out.row _ e.symm).2; omega)
      obtain ⟨X, hX⟩ : ∃ X, wr.heap.size = X := ⟨_, rfl⟩
      rw [hX] at hX0 hXT hXC hXw hXr
      have hTX : T ≠ X := by omega
      replace hXT : X ≠ T := by omega
      replace hXC : X ≠ C := by omega
      have hX1' : (T = X) = False := eq_false hTX
      have hX2' : (X = T) = False := eq_false hXT
      have hX3' : (X = C) = False := eq_false hXC
      have hX4' : (C = X) = False := eq_false (Ne.symm hXC)
      replace HS := Lib.hid HS.out
      go_wp2_with (first
        | (go_at_call 77; (with_reducible refine (CX.out _).mono ?_); rintro en w5 ⟨rfl, bw5⟩; have Sa := (S1.out.call bw5).more (.cells #[.string a1, .int .i64 f1] 133); have g0 := Sa.rd.at 0 _ rfl; have g1 := Sa.rd.at 1 _ rfl; have g2 := Sa.rd.free 0; have g3 := Sa.rd.free 1; obtain ⟨WD, hWD⟩ : ∃ WD, ((w5.alloc (.cells #[.string a1, .int .i64 f1] 133)).setCell ⟨T, 0, none⟩ (.string a1)).setCell ⟨T, 1, none⟩ (.int .i64 f1) = WD := ⟨_, rfl⟩; have SD := (show St8 w T C _ _ a1 f1 _ _ WD by rw [← hWD]; exact Sa.read hTC hTw a1 f1); clear Sa; have X1 := (hX0.out.below bw5).more (.cells #[.string a1, .int .i64 f1] 133); have hX1a := (show XB 113 WD X _ by rw [← hWD]; exact (X1.far ⟨T, 0, none⟩ (.string a1) hTX).far ⟨T, 1, none⟩ (.int .i64 f1) hTX); clear X1; have x0 := hX1a.at 0 _ rfl; have x1 := hX1a.free 0; obtain ⟨WDx, hWDx⟩ : ∃ W9, WD.setCell ⟨X, 0, none⟩ (.int .i64 i) = W9 := ⟨_, rfl⟩; have hX1 := Lib.hid (show XB 113 WDx X _ by rw [← hWDx]; exact hX1a.set 0 (.int .i64 i)); have SDx := (show St8 w T C _ _ a1 f1 _ _ WDx by rw [← hWDx]; exact SD.far ⟨X, 0, none⟩ (.int .i64 i) hXT hXC hXw hXr.out); have y0 := SDx.rd.at 0 _ rfl; have y1 := SDx.rd.at 1 _ rfl; replace SD := Lib.hid SDx; clear SDx hX1a)
        | (go_at_call 77; (with_reducible refine (CY.out _).mono ?_); rintro en w6 ⟨rfl, bw6⟩; have Sa := (SD.out.call bw6).more (.cells #[.string a2, .int .i64 f2] 133); have g0 := Sa.rd.at 0 _ rfl; have g1 := Sa.rd.at 1 _ rfl; have g2 := Sa.rd.free 0; have g3 := Sa.rd.free 1; obtain ⟨WE, hWE⟩ : ∃ WE, ((w6.alloc (.cells #[.string a2, .int .i64 f2] 133)).setCell ⟨T, 0, none⟩ (.string a2)).setCell ⟨T, 1, none⟩ (.int .i64 f2) = WE := ⟨_, rfl⟩; have SE := (show St8 w T C _ _ a2 f2 _ _ WE by rw [← hWE]; exact Sa.read hTC hTw a2 f2); clear Sa; have X1 := (hX1.out.below bw6).more (.cells #[.string a2, .int .i64 f2] 133); have hX2a := (show XB 113 WE X _ by rw [← hWE]; exact (X1.far ⟨T, 0, none⟩ (.string a2) hTX).far ⟨T, 1, none⟩ (.int .i64 f2) hTX); clear X1; have x0 := hX2a.at 2 _ rfl; have x1 := hX2a.free 2; obtain ⟨WEx, hWEx⟩ : ∃ W9, WE.setCell ⟨X, 2, none⟩ (.int .i64 y) = W9 := ⟨_, rfl⟩; have hX2 := Lib.hid (show XB 113 WEx X _ by rw [← hWEx]; exact hX2a.set 2 (.int .i64 y)); have SEx := (show St8 w T C _ _ a2 f2 _ _ WEx by rw [← hWEx]; exact SE.far ⟨X, 2, none⟩ (.int .i64 y) hXT hXC hXw hXr.out); have y0 := SEx.rd.at 0 _ rfl; have y1 := SEx.rd.at 1 _ rfl; replace SE := Lib.hid SEx; clear SEx hX2a)
        | (go_at_call 77; (with_reducible refine (CZ.out _).mono ?_); rintro en w7 ⟨rfl, bw7⟩; have Sa := (SE.out.call bw7).more (.cells #[.string a3, .int .i64 f3] 133); have g0 := Sa.rd.at 0 _ rfl; have g1 := Sa.rd.at 1 _ rfl; have g2 := Sa.rd.free 0; have g3 := Sa.rd.free 1; obtain ⟨WF, hWF⟩ : ∃ WF, ((w7.alloc (.cells #[.string a3, .int .i64 f3] 133)).setCell ⟨T, 0, none⟩ (.string a3)).setCell ⟨T, 1, none⟩ (.int .i64 f3) = WF := ⟨_, rfl⟩; have SF := (show St8 w T C _ _ a3 f3 _ _ WF by rw [← hWF]; exact Sa.read hTC hTw a3 f3); clear Sa; have X1 := (hX2.out.below bw7).more (.cells #[.string a3, .int .i64 f3] 133); have hX3a := (show XB 113 WF X _ by rw [← hWF]; exact (X1.far ⟨T, 0, none⟩ (.string a3) hTX).far ⟨T, 1, none⟩ (.int .i64 f3) hTX); clear X1; have x0 := hX3a.at 3 _ rfl; have x1 := hX3a.free 3; obtain ⟨WFx, hWFx⟩ : ∃ W9, WF.setCell ⟨X, 3, none⟩ (.int .i64 q) = W9 := ⟨_, rfl⟩; have hX3 := Lib.hid (show XB 113 WFx X _ by rw [← hWFx]; exact hX3a.set 3 (.int .i64 q)); have SFx := (show St8 w T C _ _ a3 f3 _ _ WFx by rw [← hWFx]; exact SF.far ⟨X, 3, none⟩ (.int .i64 q) hXT hXC hXw hXr.out); have y0 := SFx.rd.at 0 _ rfl; have y1 := SFx.rd.at 1 _ rfl; replace SF := Lib.hid SFx; clear SFx hX3a; have x4 := hX3.out.at 1 _ rfl; have x5 := hX3.out.free 1; obtain ⟨WG, hWG⟩ : ∃ W9, WFx.setCell ⟨X, 1, none⟩ (.int .i64 lo) = W9 := ⟨_, rfl⟩; have hX4 := (show XB 113 WG X _ by rw [← hWG]; exact hX3.out.set 1 (.int .i64 lo)); have SG := (show St8 w T C _ _ a3 f3 _ _ WG by rw [← hWG]; exact SF.out.far ⟨X, 1, none⟩ (.int .i64 lo) hXT hXC hXw hXr.out); have y0 := hX4.at 0 _ rfl; have y1 := hX4.at 1 _ rfl; have y2 := hX4.at 2 _ rfl; have y3 := hX4.at 3 _ rfl; have y4 := SG.ch.at 2 _ rfl; have HRO := Lib.hid (show WG.ownsRow w.heap.size 113 4 (.slice a6 k p6) k (flatR encS acc) by have := SG.row; unfold OwnsR at this; rwa [HLn.out] at this); replace hX4 := Lib.hid hX4; replace SG := Lib.hid SG)
        | (at_builtin; refine wpList_append_own _ rfl _ _ 28 rfl w.heap.size 113 i0 (.agg #[.int .i64 0, .int .i64 0, .int .i64 0, .int .i64 0]) 4 32 Try.underlying28 hi hz0 hz1 hz2 rfl (by decide) _ _ _ rfl (HRO.out.alloc _) ⟨WG.heap.size, 0, none⟩ 1 1 [.int .i64 i, .int .i64 lo, .int .i64 y, .int .i64 q] rfl ?c1 ?c2 ?c3 ?c4 ?c5 ?c6 ?_))
      all_goals first
        | rfl
        | (intro j u hj
           match j, hj with
           | 0, hj => simp at hj; subst hj; simp [Addr.add]
           | 1, hj => simp at hj; subst hj; simp [Addr.add]
           | 2, hj => simp at hj; subst hj; simp [Addr.add]
           | 3, hj => simp at hj; subst hj; simp [Addr.add])
        | (intro u hu; simp at hu; rcases hu with rfl | rfl | rfl | rfl <;> rfl)
        | (unfold maxLen; omega)
        | omega
        | (have := SG.out.low.size; simp; omega)
        | skip
      intro v' w9 hown hgrow _
      have ho := OwnsR.snoc (enc := encS) (l := acc) (x := ((i, lo, y, q) : Sd)) HLn.out hown
      have hr6 := OwnsR.more (show OwnsR encS 4 113 WG w.heap.size (.slice a6 k p6) acc by unfold OwnsR; rw [HLn.out]; exact HRO.out) (.cells #[.int .i64 i, .int .i64 lo, .int .i64 y, .int .i64 q] 113)
      have ch9 := XB.kept (SG.out.ch.more (.cells #[.int .i64 i, .int .i64 lo, .int .i64 y, .int .i64 q] 113)) hgrow (XB.not_row (by decide) (SG.out.ch.more _) hr6)
      have rd9 := XB.kept (SG.out.rd.more (.cells #[.int .i64 i, .int .i64 lo, .int .i64 y, .int .i64 q] 113)) hgrow (XB.not_row (by decide) (SG.out.rd.more _) hr6)
      have re9 := XB.kept (SG.out.re.more (.cells #[.int .i64 i, .int .i64 lo, .int .i64 y, .int .i64 q] 113)) hgrow (XB.not_row (by decide) (SG.out.re.more _) hr6)
      have lo9 := (SG.out.low.alloc SG.out.low.size (.cells #[.int .i64 i, .int .i64 lo, .int .i64 y, .int .i64 q] 113)).grown hgrow (by have := SG.out.low.size; simp; omega) (fun j hj => (World.ownsRow.lt HRO.out j hj).1)
      have hl9 : (acc ++ [((i, lo, y, q) : Sd)]).length = k + 1 := by rw [List.length_append, HLn.out]; rfl
      obtain ⟨a9, p9, hv9, _⟩ := OwnsR.arg encS_len ho
      subst hv9
      rw [hl9] at ho ⊢
      have hC9 : some C ≠ (Value.slice a9 (k + 1) p9).ownBlock := XB.not_row (by decide) ch9 ho
      have SF9 : Hid (St8 w T C (.slice a9 (k + 1) p9) (acc ++ [(i, lo, y, q)]) a3 f3 ep nx (w9.setCell ⟨C, 2, none⟩ (.slice a9 (k + 1) p9))) := Lib.hid ⟨rd9.far _ _ (Ne.symm hTC), ch9.set 2 _, re9.far _ _ (by show C ≠ _; omega), OwnsR.far ho _ _ hC9, lo9.setCell (by show _ ≤ C; omega) _⟩
      have u0 := ch9.at 2 _ rfl
      have u1 := ch9.free 2
      replace hl9 := Lib.hid hl9
      clear hown hgrow ho hr6 ch9 rd9 re9 lo9 hC9 S1 SD SE SF SG HRO
      go_wp2_with fail
      go_roundw
      case rel => exact ⟨k + 1, _, y, a3, f3, _, by go_num, rfl, by omega, hl9, by omega, hlN, by omega, SF9, HN⟩
      case measure => simp [intOf]; omega
    · have hfin : dSs (n - k) acc lo t e4 = (acc, t, e4) := by
        by_cases hlt : k < n
        · exact dSs_err _ _ _ _ (fun h => hgo ⟨hlt, h⟩)
        · rw [show n - k = 0 by omega]; rfl
      have hDD := HE.out
      rw [hfin] at hDD
      have HF := Lib.hid ((HDE.out _ _ _ hDD.symm).symm)
      have hcase : ((k : Int) < (n : Int) ∧ (e4 == 0) = false) ∨ ¬ (k : Int) < (n : Int) := by
        by_cases hlt : k < n
        · exact .inl ⟨by omega, by simpa using fun h => hgo ⟨hlt, h⟩⟩
        · exact .inr (by omega)
      obtain ⟨a6, p6, rfl, hA6⟩ := OwnsR.arg encS_len HS.out.row
      have HA := Lib.hid hA6
      have hne : acc ≠ [] → ∃ b o, a6 = some ⟨b, o, none⟩ ∧ b ≠ w.heap.size := fun hl => by
        obtain ⟨b, off, e, _⟩ := hA6.2.2.2.2 0 (List.length_pos_iff.2 hl)
        subst e
        refine ⟨b, off, rfl, fun hb => ?_⟩
        exact XB.not_row (t := 30) (t' := 113) (by decide) HS.out.re HS.out.row (by rw [← hb]; rfl)
      have CE := Lib.hid (fun W => refEndR_any t e4 W)
      obtain ⟨xe, hxe⟩ : ∃ xe, rEnd t e4 = xe := ⟨_, rfl⟩
      unfold finC at HF
      rw [hxe] at HF CE
      replace hxe := Lib.hid hxe
      clear hgo hfin hDD HE HDE HL hA6
      by_cases h0 : xe = 0
      · have d1 : (xe != 0) = false := by simpa using h0
        have d2 : (xe == 0) = true := by simpa using h0
        rw [if_pos h0] at HF
        replace h0 := Lib.hid h0
        cases ht : chkC ep nx acc with
        | false =>
          have CC := Lib.hid (fun a n c W (h : RArg encS 4 W a n c acc) => ht ▸ rcheck8_any ep nx a n c acc W h)
          rw [if_neg (by rw [ht]; simp)] at HF
          replace ht := Lib.hid ht
          rcases hcase with ⟨hkz, d⟩ | hkz
          all_goals
            go_wp2_with (first
              | (go_at_call 78; (with_reducible refine (CE.out wr).mono ?_); rintro en w5 ⟨rfl, b5⟩; have S5 := HS.out.call b5; obtain ⟨k0, k1, k2⟩ := c3K S5.ch; have HA5 := Lib.hid (HA.out.below b5); replace S5 := Lib.hid S5)
              | (go_at_call 20; (with_reducible refine (CC.out _ _ _ _ HA5.out).mono ?_); rintro en w6 ⟨rfl, b6⟩; have S6 := S5.out.call b6; obtain ⟨z0, z1, z2⟩ := c3K S6.re; obtain ⟨u0, u1, u2⟩ := f3K S6.re; replace S6 := Lib.hid S6))
            exact bodyPost_ret (v := .tuple #[.agg #[.int .i64 0, .int .i64 0, .slice none 0 0], .int .i64 3]) (by simp [results, Try.results31, go_sem, z0, z1, z2]) rfl ⟨none, 0, 0, by rw [HF.out], by rw [HF.out]; exact RArg.nil _ _ _, (by repeat (first | with_reducible exact S6.out.low | with_reducible refine toDK ?_ | with_reducible refine Below.setCell ?_ (by first | with_reducible exact Nat.le_refl _ | (dsimp only; omega)) _))⟩
        | true =>
          have CC := Lib.hid (fun a n c W (h : RArg encS 4 W a n c acc) => ht ▸ rcheck8_any ep nx a n c acc W h)
          rw [if_pos ht] at HF
          replace ht := Lib.hid ht
          rcases hcase with ⟨hkz, d⟩ | hkz
          all_goals
            go_wp2_with (first
              | (go_at_call 78; (with_reducible refine (CE.out wr).mono ?_); rintro en w5 ⟨rfl, b5⟩; have S5 := HS.out.call b5; obtain ⟨k0, k1, k2⟩ := c3K S5.ch; have HA5 := Lib.hid (HA.out.below b5); replace S5 := Lib.hid S5)
              | (go_at_call 20; (with_reducible refine (CC.out _ _ _ _ HA5.out).mono ?_); rintro en w6 ⟨rfl, b6⟩; have S6 := S5.out.call b6; obtain ⟨k0, k1, k2⟩ := c3K S6.ch; obtain ⟨z0, z1, z2⟩ := c3K S6.re; obtain ⟨u0, u1, u2⟩ := f3K S6.re; have HA6 := Lib.hid (HA5.out.below b6); replace S6 := Lib.hid S6))
            exact bodyPost_ret (v := .tuple #[.agg #[.int .i64 ep, .int .i64 nx, .slice a6 acc.length p6], .int .i64 0]) (by simp [results, Try.results31, go_sem, z0, z1, z2]) rfl ⟨a6, acc.length, p6, by rw [HF.out], by rw [HF.out]; exact HA6.out.onlyN (g := w.heap.size) (by repeat (first | with_reducible exact Only.refl _ _ | with_reducible refine Only.drewR ?_ | with_reducible refine Only.set ?_ _ _)) hne, (by repeat (first | with_reducible exact S6.out.low | with_reducible refine toDK ?_ | with_reducible refine Below.setCell ?_ (by first | with_reducible exact Nat.le_refl _ | (dsimp only; omega)) _))⟩
      · have d1 : (xe != 0) = true := by simpa using h0
        have d2 : (xe == 0) = false := by simpa using h0
        rw [if_neg h0] at HF
        replace h0 := Lib.hid h0
        rcases hcase with ⟨hkz, d⟩ | hkz
        all_goals
          go_wp2_with (first
            | (go_at_call 78; (with_reducible refine (CE.out wr).mono ?_); rintro en w5 ⟨rfl, b5⟩; have S5 := HS.out.call b5; have c5 := S5.rd.at 0 _ rfl; have c6 := S5.rd.at 1 _ rfl; replace S5 := Lib.hid S5)
            | (go_at_call 78; (with_reducible refine (CE.out w5).mono ?_); rintro en w6 ⟨rfl, b6⟩; have S6 := S5.out.call b6; obtain ⟨z0, z1, z2⟩ := c3K S6.re; obtain ⟨u0, u1, u2⟩ := f3K S6.re; replace S6 := Lib.hid S6))
          exact bodyPost_ret (v := .tuple #[.agg #[.int .i64 0, .int .i64 0, .slice none 0 0], .int .i64 xe]) (by simp [results, Try.results31, go_sem, z0, z1, z2]) rfl ⟨none, 0, 0, by rw [HF.out], by rw [HF.out]; exact RArg.nil _ _ _, (by repeat (first | with_reducible exact S6.out.low | with_reducible refine toDK ?_ | with_reducible refine Below.setCell ?_ (by first | with_reducible exact Nat.le_refl _ | (dsimp only; omega)) _))⟩
end Go.Proofs.Ytcpcdinfagdlhaa
