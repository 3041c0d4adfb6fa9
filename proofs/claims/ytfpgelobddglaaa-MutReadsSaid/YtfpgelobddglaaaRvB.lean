/-
  CONTRACT: the document's Read, of tables.
-/
import Derived.Test.YtfpgelobddglaaaRvA
namespace Go.Proofs.Ytfpgelobddglaaa
open Go.RowKit Go.Shelf

/-- Block g is a reader by value, in a variable. -/
def Rv (w : World) (g : Nat) (s : ByteArray) (e : Int) : Prop := w.heap[g]? = some (.cells #[.string s, .int .i64 e] 114 (0, 0))
section
variable {w w' : World} {g : Nat} {s : ByteArray} {e : Int}
theorem Rv.lt (h : Rv w g s e) : g < w.heap.size := by
  rcases Nat.lt_or_ge g w.heap.size with h1 | h1
  · exact h1
  · unfold Rv at h; rw [Array.getElem?_eq_none h1] at h; cases h
theorem Rv.cell0 (h : Rv w g s e) : w.cell? ⟨g, 0, none⟩ = some (.string s) := cell_of_row w g 0 _ _ (0, 0) h
theorem Rv.cell1 (h : Rv w g s e) : w.cell? ⟨g, 1, none⟩ = some (.int .i64 e) := cell_of_row w g 1 _ _ (0, 0) h
theorem Rv.free (h : Rv w g s e) (i : Nat) : w.frozen? ⟨g, i, none⟩ = false := by
  unfold Rv at h
  simp [World.frozen?, h]
theorem Rv.new (w : World) (s : ByteArray) (e : Int) : Rv (w.alloc (.cells #[.string s, .int .i64 e] 114)) w.heap.size s e := heap_alloc_new w _
theorem Rv.same (h : Rv w g s e) (hg : w'.heap[g]? = w.heap[g]?) : Rv w' g s e := hg.trans h
theorem Rv.below (h : Rv w g s e) (hb : Below w.heap.size w w') : Rv w' g s e := h.same (hb.block g h.lt)
theorem Rv.grown {row : Option Nat} (h : Rv w g s e) (hg : w.grownBy w' row) (hne : some g ≠ row) : Rv w' g s e := h.same (hg.block g h.lt hne)
end
theorem Rv.put {w : World} {g : Nat} {s : ByteArray} {e : Int} (h : Rv w g s e) (s' : ByteArray) (e' : Int) : Rv ((w.setCell ⟨g, 0, none⟩ (.string s')).setCell ⟨g, 1, none⟩ (.int .i64 e')) g s' e' := by
  unfold Rv at h ⊢
  simp [World.setCell, Array.getElem?_modify, h]
theorem below_none {B : Nat} {w w' : World} (hb : Below w.heap.size w w') (_h : B ≤ w.heap.size) : w.grownBy w' none := ⟨hb.os, hb.tape, hb.output, hb.size, fun k hk _ => hb.block k hk⟩
theorem OwnsP.far {t : TypeId} {w : World} {base : Nat} {v : Value} {l : List Sp} (h : OwnsP t w base v l) (p : Addr) (u : Value) (hp : p.block < base) : OwnsP t (w.setCell p u) base v l :=
  World.ownsRow.kept h (grown_setCell w p u) (by right; intro he; have := (h.lt _ he).1; omega)
theorem OwnsP.more {t : TypeId} {w : World} {base : Nat} {v : Value} {l : List Sp} (h : OwnsP t w base v l) (o : Obj) : OwnsP t (w.alloc o) base v l := World.ownsRow.alloc h o
theorem row_far {t : TypeId} {w : World} {base k n : Nat} {v : Value} {xs : List Value} (h : w.ownsRow base t k v n xs) (p : Addr) (u : Value) (hp : p.block < base) : (w.setCell p u).ownsRow base t k v n xs :=
  World.ownsRow.kept h (grown_setCell w p u) (by right; intro he; have := (h.lt _ he).1; omega)
theorem row_belowR {t : TypeId} {w w' : World} {base k n : Nat} {v : Value} {xs : List Value} (h : w.ownsRow base t k v n xs) (hb : Below w.heap.size w w') : w'.ownsRow base t k v n xs :=
  World.ownsRow.kept h (row := none) ⟨hb.os, hb.tape, hb.output, hb.size, fun k hk _ => hb.block k hk⟩ (by cases hv : v.ownBlock <;> simp)
theorem OwnsP.snocR {t : TypeId} {w : World} {base m : Nat} {v : Value} {l : List Sp} {x y : Int} (hm : l.length = m) (h : w.ownsRow base t 2 v (m + 1) (flatP l ++ [.int .i64 x, .int .i64 y])) : OwnsP t w base v (l ++ [(x, y)]) := by
  unfold OwnsP
  rw [flatP_append, List.length_append, hm]
  exact h

set_option maxRecDepth 100000 in
set_option maxHeartbeats 4000000 in
theorem rtread_any (s : ByteArray) (w : World) (hs : (s.size : Int) ≤ 8192) : Calls Try.prog 47 #[.string s] w (SetArg w (docT s)) := by
  obtain ⟨v0, v1⟩ := rNum_val s 0
  have hz := rNum_size s 0
  have HD := Lib.hid (show docT s = if rEnd (dPs (rNum s 0).1.toNat [] (rNum s 0).2.1 (rNum s 0).2.2).2.1 (dPs (rNum s 0).1.toNat [] (rNum s 0).2.1 (rNum s 0).2.2).2.2 = 0 then
    (if tblB (dPs (rNum s 0).1.toNat [] (rNum s 0).2.1 (rNum s 0).2.2).1 = true then ((dPs (rNum s 0).1.toNat [] (rNum s 0).2.1 (rNum s 0).2.2).1, 0) else ([], 3))
    else ([], rEnd (dPs (rNum s 0).1.toNat [] (rNum s 0).2.1 (rNum s 0).2.2).2.1 (dPs (rNum s 0).1.toNat [] (rNum s 0).2.1 (rNum s 0).2.2).2.2) from rfl)
  obtain ⟨x, u, e1, hN⟩ : ∃ n u e1, rNum s 0 = (n, u, e1) := ⟨_, _, _, rfl⟩
  have HC : Hid (∀ w, Calls Try.prog 72 #[rdV s 0] w (RdNumPost (x, u, e1) w)) := Lib.hid fun w => by have := refNumR_any s 0 w (by omega); rw [hN] at this; exact this
  rw [hN] at v0 v1 hz HD
  dsimp only at v0 v1 hz HD
  obtain ⟨n, rfl⟩ : ∃ n : Nat, x = (n : Int) := ⟨x.toNat, by omega⟩
  rw [Int.toNat_natCast] at HD
  obtain ⟨R, hR⟩ : ∃ R, docT s = R := ⟨_, rfl⟩
  rw [hR] at HD ⊢
  replace hR := Lib.hid hR
  clear hN v0
  obtain ⟨i0, hi, hz0, hz1', hz2⟩ := info_parts Try.infoRPair
  go_enter Try.func47, Try.ntmps47
  go_wp2_with (go_at_call 72; refine (HC.out _).mono ?_; rintro e w2 ⟨rfl, B2⟩)
  have R0 : Rv (w2.alloc (.cells #[.string u, .int .i64 e1] 114)) w2.heap.size u e1 := Rv.new _ _ _
  have C0 : Below w.heap.size w (w2.alloc (.cells #[.string u, .int .i64 e1] 114)) := B2.alloc B2.size _
  have Z0 : w2.heap.size + 1 ≤ (w2.alloc (.cells #[.string u, .int .i64 e1] 114)).heap.size := by simp
  have hzT := B2.size
  obtain ⟨T, hT⟩ : ∃ T, w2.heap.size = T := ⟨_, rfl⟩
  rw [hT] at R0 Z0 hzT ⊢
  clear B2
  go_loopw [6, 7, 8, 9] (fun v i k1 k2 wr => ∃ (k : Nat) (acc : List Sp) (t : ByteArray) (e2 : Int), i = .int .i64 (k : Int) ∧ k ≤ n ∧ Hid (e2 = 0 → acc.length + t.size ≤ s.size) ∧ acc.length ≤ s.size + 1 ∧ t.size ≤ s.size ∧ OwnsP 92 wr (T + 1) v acc ∧ Rv wr T t e2 ∧ Below w.heap.size w wr ∧ T + 1 ≤ wr.heap.size ∧ Hid (dPs (n - k) acc t e2 = dPs n [] u e1))
    (fun _ i _ _ _ => n - (intOf i).toNat)
  case atStart => exact ⟨0, [], u, e1, rfl, by omega, Lib.hid (fun _ => by simpa using hz), by simp, hz, OwnsP.nil _ _ _, R0, C0, Z0, Lib.hid rfl⟩
  case round =>
    obtain ⟨k, acc, t, e2, rfl, hk, HL, hac, hts, hown, R1, hbl, hz3, HE⟩ := hrel
    clear R0 C0 Z0
    have c0 := R1.cell0
    have c1 := R1.cell1
    by_cases hgo : k < n ∧ e2 = 0
    · obtain ⟨hlt, rfl⟩ := hgo
      have hkz : (k : Int) < (n : Int) := by omega
      have hsum := HL.out rfl
      obtain ⟨y, s1, e3, hA⟩ : ∃ x s1 e3, rNum t 0 = (x, s1, e3) := ⟨_, _, _, rfl⟩
      obtain ⟨z, s2, e4, hB⟩ : ∃ y s2 e4, rWhole s1 e3 = (y, s2, e4) := ⟨_, _, _, rfl⟩
      have hs1 : s1.size ≤ t.size := by have := rNum_size t 0; rw [hA] at this; exact this
      have hs2 : s2.size ≤ s1.size := by have := rWhole_size s1 e3; rw [hB] at this; exact this
      have hl4 : Hid (e4 = 0 → acc.length + 1 + s2.size ≤ s.size) := Lib.hid fun h => by
        subst h
        have := rWhole_lessE (s := s1) (e := e3) (by rw [hB])
        rw [hB] at this
        dsimp only at this
        omega
      have CN : Hid (∀ W, Calls Try.prog 72 #[rdV t 0] W (RdNumPost (y, s1, e3) W)) := Lib.hid fun W => by have := refNumR_any t 0 W (by omega); rw [hA] at this; exact this
      have CW : Hid (∀ W, Calls Try.prog 73 #[rdV s1 e3] W (RdNumPost (z, s2, e4) W)) := Lib.hid fun W => by have := refWholeR_any s1 e3 W (by omega); rw [hB] at this; exact this
      have HG := Lib.hid (dPs_go (n := n - (k + 1)) (acc := acc) hA hB)
      clear hA hB
      have hf := hown.arg
      obtain ⟨a6, cap6, hv6, _, _, _, _⟩ := hf
      subst hv6
      obtain ⟨m, hm⟩ : ∃ m, acc.length = m := ⟨_, rfl⟩
      have hrow : wr.ownsRow (T + 1) 92 2 (.slice a6 m cap6) m (flatP acc) := by rw [← hm]; exact hown
      rw [hm] at hac hl4 hsum ⊢
      replace hm := Lib.hid hm
      have hlo : ∀ j, (Value.slice a6 m cap6).ownBlock = some j → T + 1 ≤ j := fun j hj => (hrow.lt j hj).1
      replace hlo := Lib.hid hlo
      replace hrow := Lib.hid hrow
      clear hown HL
      have f0 := R1.free 0
      have f1 := R1.free 1
      go_wp2_with (first
        | (go_at_call 72; refine (CN.out _).mono ?_; rintro en w5 ⟨rfl, B5⟩; have R5 := R1.below B5; have g0 := R5.cell0; have g1 := R5.cell1; have g2 := R5.free 0; have g3 := R5.free 1; have R6 := R5.put s1 e3; have i0' := R6.cell0; have i1' := R6.cell1; have ho6 := Lib.hid (row_far (row_far (row_belowR hrow.out B5) ⟨T, 0, none⟩ (.string s1) (Nat.lt_succ_self T)) ⟨T, 1, none⟩ (.int .i64 e3) (Nat.lt_succ_self T)))
        | (go_at_call 73; refine (CW.out _).mono ?_; rintro en w7 ⟨rfl, B7⟩; have R7 := R6.below B7; have j0 := R7.cell0; have j1 := R7.cell1; have j2 := R7.free 0; have j3 := R7.free 1; have R8 := R7.put s2 e4; have ho8 := Lib.hid (row_far (row_far (row_belowR ho6.out B7) ⟨T, 0, none⟩ (.string s2) (Nat.lt_succ_self T)) ⟨T, 1, none⟩ (.int .i64 e4) (Nat.lt_succ_self T)))
        | (at_builtin; refine wpList_append_own _ rfl _ _ 32 rfl (T + 1) 92 i0 (.agg #[.int .i64 0, .int .i64 0]) 2 16 Try.underlying32 hi hz0 hz1' hz2 rfl (by decide) _ _ _ rfl (World.ownsRow.alloc ho8.out _) ⟨w7.heap.size, 0, none⟩ 1 1 [.int .i64 y, .int .i64 z] rfl ?c1 ?c2 ?c3 ?c4 ?c5 ?c6 ?_))
      case c2 =>
        have hX : ((w7.setCell ⟨T, 0, none⟩ (.string s2)).setCell ⟨T, 1, none⟩ (.int .i64 e4)).heap.size = w7.heap.size := by simp [World.setCell]
        intro j u hj
        have hh := heap_alloc_new ((w7.setCell ⟨T, 0, none⟩ (.string s2)).setCell ⟨T, 1, none⟩ (.int .i64 e4)) (.cells #[.int .i64 y, .int .i64 z] 92)
        rw [hX] at hh
        match j, hj with
        | 0, hj => simp at hj; subst hj; exact cell_of_row _ _ 0 _ _ _ hh
        | 1, hj => simp at hj; subst hj; exact cell_of_row _ _ 1 _ _ _ hh
      all_goals first
        | rfl
        | (intro u hu; simp at hu; rcases hu with rfl | rfl <;> rfl)
        | (unfold maxLen; omega)
        | omega
        | (have := B5.size; have := B7.size; simp [World.setCell] at *; omega)
        | skip
      intro v' w9 hown9 hgrow9 _
      have ho := OwnsP.snocR hm.out hown9
      have hz5 := B5.size
      have hz7 : w5.heap.size ≤ w7.heap.size := by have := B7.size; simpa [World.setCell] using this
      have hb7 : Below w.heap.size w w7 := (((hbl.trans (B5.mono hbl.size)).setCell (p := ⟨T, 0, none⟩) hzT (.string s1)).setCell (p := ⟨T, 1, none⟩) hzT (.int .i64 e3)).trans (B7.mono (by simp [World.setCell]; omega))
      have hb9 : Below w.heap.size w w9 := ((((hb7.setCell (p := ⟨T, 0, none⟩) hzT (.string s2)).setCell (p := ⟨T, 1, none⟩) hzT (.int .i64 e4)).alloc (by simp [World.setCell]; omega) (.cells #[.int .i64 y, .int .i64 z] 92))).grown hgrow9 (by simp [World.setCell]; omega) (fun g hg => by have := hlo.out g hg; omega)
      have R9 : Rv w9 T s2 e4 := (R8.grown (World.grownBy_alloc _ _ none) (by simp)).grown hgrow9 (by intro hv; have := hlo.out T hv.symm; omega)
      have Z9 : T + 1 ≤ w9.heap.size := by have := R9.lt; omega
      have hE9 := Lib.hid (show dPs (n - (k + 1)) (acc ++ [(y, z)]) s2 e4 = dPs n [] u e1 by rw [← HE.out, show n - k = n - (k + 1) + 1 by omega, HG.out])
      have hl9 := Lib.hid (show e4 = 0 → (acc ++ [(y, z)]).length + s2.size ≤ s.size by intro h; rw [List.length_append, hm.out]; exact hl4.out h)
      have hc9 : (acc ++ [(y, z)]).length ≤ s.size + 1 := by rw [List.length_append, hm.out]; simp; omega
      clear hown9 hgrow9 R1 R5 R6 R7 R8 ho6 ho8 hrow B5 B7 hbl hb7
      go_wp2
      go_roundw
      case rel => exact ⟨k + 1, acc ++ [(y, z)], s2, e4, by go_num, by omega, hl9, hc9, by omega, ho, R9, hb9, Z9, hE9⟩
      case measure => simp [intOf]; omega
    · have hfin : dPs (n - k) acc t e2 = (acc, t, e2) := by
        by_cases hlt : k < n
        · exact dPs_err _ _ _ (fun h => hgo ⟨hlt, h⟩)
        · rw [show n - k = 0 by omega]; rfl
      have hDD := HE.out
      rw [hfin] at hDD
      have HF := Lib.hid (show R = if rEnd t e2 = 0 then (if tblB acc = true then (acc, 0) else ([], 3)) else ([], rEnd t e2) by have := HD.out; rw [← hDD] at this; exact this)
      have hcase : ((k : Int) < (n : Int) ∧ (e2 == 0) = false) ∨ ¬ (k : Int) < (n : Int) := by
        by_cases hlt : k < n
        · exact .inl ⟨by omega, by simpa using fun h => hgo ⟨hlt, h⟩⟩
        · exact .inr (by omega)
      obtain ⟨a6, cap6, hv6, _, _, _, _⟩ := hown.arg
      subst hv6
      have HAr := Lib.hid (Arg.of_own hown rfl)
      have CK := Lib.hid (fun W (h : Below wr.heap.size wr W) => rtcheck_any a6 _ cap6 acc W (HAr.out.below h))
      have CE := Lib.hid (fun W => refEndR_any t e2 W)
      obtain ⟨x, hx⟩ : ∃ x, rEnd t e2 = x := ⟨_, rfl⟩
      rw [hx] at HF CE
      obtain ⟨m, hm⟩ : ∃ m, acc.length = m := ⟨_, rfl⟩
      rw [hm] at CK HAr ⊢
      replace hm := Lib.hid hm
      replace hx := Lib.hid hx
      clear hgo hfin hDD HE HL HC HD hown
      by_cases h0 : x = 0
      · have d1 : (x != 0) = false := by simpa using h0
        cases ht : tblB acc
        · have HF2 := Lib.hid (show R = ([], 3) by rw [HF.out, if_pos h0, if_neg (by rw [ht]; simp)])
          rw [ht] at CK
          replace h0 := Lib.hid h0
          replace ht := Lib.hid ht
          rcases hcase with ⟨hkz, d⟩ | hkz
          all_goals
            go_wp2_with (first | (go_at_call 74; (with_reducible refine (CE.out wr).mono ?_); rintro en w5 ⟨rfl, b5⟩) | (go_at_call 84; (with_reducible refine (CK.out _ b5).mono ?_); rintro en w6 ⟨rfl, b6⟩))
            go_ret2
            rw [HF2.out]
            exact ⟨none, 0, 0, rfl, ⟨rfl, by simp, Nat.le_refl _, Nat.zero_le _, PIn.nil _ _ _⟩, hbl.trans ((below_next b5 b6).mono hbl.size)⟩
        · have HF2 := Lib.hid (show R = (acc, 0) by rw [HF.out, if_pos h0, if_pos ht])
          rw [ht] at CK
          replace h0 := Lib.hid h0
          replace ht := Lib.hid ht
          rcases hcase with ⟨hkz, d⟩ | hkz
          all_goals
            go_wp2_with (first | (go_at_call 74; (with_reducible refine (CE.out wr).mono ?_); rintro en w5 ⟨rfl, b5⟩) | (go_at_call 84; (with_reducible refine (CK.out _ b5).mono ?_); rintro en w6 ⟨rfl, b6⟩))
            go_ret2
            rw [HF2.out]
            exact ⟨a6, m, cap6, rfl, HAr.out.below (below_next b5 b6), hbl.trans ((below_next b5 b6).mono hbl.size)⟩
      · have d1 : (x != 0) = true := by simpa using h0
        have HF2 := Lib.hid (show R = ([], x) by rw [HF.out, if_neg h0])
        replace h0 := Lib.hid h0
        rcases hcase with ⟨hkz, d⟩ | hkz
        all_goals
          go_wp2_with (first | (go_at_call 74; (with_reducible refine (CE.out wr).mono ?_); rintro en w5 ⟨rfl, b5⟩; have R5 := R1.below b5; have g0 := R5.cell0; have g1 := R5.cell1) | (go_at_call 74; (with_reducible refine (CE.out w5).mono ?_); rintro en w6 ⟨rfl, b6⟩))
          go_ret2
          rw [HF2.out]
          exact ⟨none, 0, 0, rfl, ⟨rfl, by simp, Nat.le_refl _, Nat.zero_le _, PIn.nil _ _ _⟩, hbl.trans ((below_next b5 b6).mono hbl.size)⟩
end Go.Proofs.Ytfpgelobddglaaa
