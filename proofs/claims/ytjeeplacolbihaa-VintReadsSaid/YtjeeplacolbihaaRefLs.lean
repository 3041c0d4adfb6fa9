/-
  CONTRACT of the document's reader: List.
-/
import Derived.Test.YtjeeplacolbihaaRefAll
import Derived.Test.YtjeeplacolbihaaLawC
import Derived.Deep.Onto
namespace Go.Proofs.Ytjeeplacolbihaa
open Go.RowKit

/-- Block g is a reader by value, in a variable. -/
def Rv (w : World) (g : Nat) (s : ByteArray) (e : Int) : Prop := w.heap[g]? = some (.cells #[.string s, .int .i64 e] 34 (0, 0))
section
variable {w w' : World} {g : Nat} {s : ByteArray} {e : Int}
theorem Rv.lt (h : Rv w g s e) : g < w.heap.size := by
  rcases Nat.lt_or_ge g w.heap.size with h1 | h1
  · exact h1
  · unfold Rv at h; rw [Array.getElem?_eq_none h1] at h; cases h
theorem Rv.cell0 (h : Rv w g s e) : w.cell? ⟨g, 0, none⟩ = some (.string s) := cell_of_row w g 0 _ _ (0, 0) h
theorem Rv.cell1 (h : Rv w g s e) : w.cell? ⟨g, 1, none⟩ = some (.int .i64 e) := cell_of_row w g 1 _ _ (0, 0) h
theorem Rv.free (h : Rv w g s e) (i : Nat) : w.frozen? ⟨g, i, none⟩ = false := by
  unfold Rv at h
  simp [World.frozen?, h]
theorem Rv.new (w : World) (s : ByteArray) (e : Int) : Rv (w.alloc (.cells #[.string s, .int .i64 e] 34)) w.heap.size s e := heap_alloc_new w _
theorem Rv.same (h : Rv w g s e) (hg : w'.heap[g]? = w.heap[g]?) : Rv w' g s e := hg.trans h
theorem Rv.below (h : Rv w g s e) (hb : Below w.heap.size w w') : Rv w' g s e := h.same (hb.block g h.lt)
theorem Rv.grown {row : Option Nat} (h : Rv w g s e) (hg : w.grownBy w' row) (hne : some g ≠ row) : Rv w' g s e := h.same (hg.block g h.lt hne)
end
theorem Rv.put {w : World} {g : Nat} {s : ByteArray} {e : Int} (h : Rv w g s e) (s' : ByteArray) (e' : Int) : Rv ((w.setCell ⟨g, 0, none⟩ (.string s')).setCell ⟨g, 1, none⟩ (.int .i64 e')) g s' e' := by
  unfold Rv at h ⊢
  simp [World.setCell, Array.getElem?_modify, h]
theorem below_none {B : Nat} {w w' : World} (hb : Below w.heap.size w w') (_h : B ≤ w.heap.size) : w.grownBy w' none := ⟨hb.os, hb.tape, hb.output, hb.size, fun k hk _ => hb.block k hk⟩
theorem OwnsI.far {w : World} {base : Nat} {v : Value} {l : List Int} (h : OwnsI w base v l) (p : Addr) (u : Value) (hp : p.block < base) : OwnsI (w.setCell p u) base v l :=
  World.ownsRow.kept h (grown_setCell w p u) (by right; intro he; have := (h.lt _ he).1; omega)
theorem OwnsI.more {w : World} {base : Nat} {v : Value} {l : List Int} (h : OwnsI w base v l) (o : Obj) : OwnsI (w.alloc o) base v l := World.ownsRow.alloc h o

def RdListPost (r : List Int × ByteArray × Int) (w : World) (e : Ending) (w' : World) : Prop :=
  ∃ v', e = .returned (.tuple #[rdV r.2.1 r.2.2, v']) ∧ OwnsI w' w.heap.size v' r.1 ∧ Below w.heap.size w w'

theorem rList_t1 {s : ByteArray} {e m : Int} (h : (rNum s e).2.2 ≠ 0) : rList s e m = ([], (rNum s e).2) := by
  have h1 : rLen s e m = rNum s e := by unfold rLen; rw [if_neg (fun x => h x.1)]
  have h2 := rLen_err (s := s) (e := e) (most := m) (by rw [h1]; exact h)
  unfold rList
  rw [h2, h1]
  rfl
theorem rList_t2 {s : ByteArray} {e m : Int} (h : (rNum s e).2.2 = 0) (h2 : m < (rNum s e).1) : rList s e m = ([], ByteArray.empty, 2) := by
  have h1 : rLen s e m = (0, ByteArray.empty, 2) := by unfold rLen; rw [if_pos ⟨h, h2⟩]
  unfold rList
  rw [h1]
  rfl
theorem rList_t3 {s : ByteArray} {e m : Int} (h : (rNum s e).2.2 = 0) (h2 : ¬ m < (rNum s e).1) : rList s e m = rInts (rNum s e).1.toNat [] (rNum s e).2.1 0 := by
  have h1 : rLen s e m = rNum s e := by unfold rLen; rw [if_neg (fun x => h2 x.2)]
  unfold rList
  rw [h1, h]

set_option maxRecDepth 100000 in
set_option maxHeartbeats 4000000 in
theorem refListR_any (s : ByteArray) (e m : Int) (w : World) (hs : (s.size : Int) ≤ 1000000000000) : Calls Try.prog 35 #[rdV s e, .int .i64 m] w (RdListPost (rList s e m) w) := by
  obtain ⟨v0, v1⟩ := rNum_val s e
  have hz := rNum_size s e
  obtain ⟨n, u, e1, hN⟩ : ∃ n u e1, rNum s e = (n, u, e1) := ⟨_, _, _, rfl⟩
  have HC : Hid (∀ w, Calls Try.prog 27 #[rdV s e] w (RdNumPost (n, u, e1) w)) := Lib.hid fun w => by have := refNumR_any s e w (by omega); rw [hN] at this; exact this
  have T1 : Hid (e1 ≠ 0 → rList s e m = ([], u, e1)) := Lib.hid fun h => by have := rList_t1 (s := s) (e := e) (m := m); rw [hN] at this; exact this h
  have T2 : Hid (e1 = 0 → m < n → rList s e m = ([], ByteArray.empty, 2)) := Lib.hid fun h h2 => by have := rList_t2 (s := s) (e := e) (m := m); rw [hN] at this; exact this h h2
  have T3 : Hid (e1 = 0 → ¬ m < n → rList s e m = rInts n.toNat [] u 0) := Lib.hid fun h h2 => by have := rList_t3 (s := s) (e := e) (m := m); rw [hN] at this; exact this h h2
  rw [hN] at v0 v1 hz
  have n0 : 0 ≤ n := v0
  have n1 : n ≤ 9223372036854775807 := v1
  have hz1 : u.size ≤ s.size := hz
  clear hN v0 v1 hz
  by_cases h : e1 = 0
  · subst h
    by_cases h2 : m < n
    · have H := Lib.hid (T2.out rfl h2)
      go_enter Try.func35, Try.ntmps35
      go_wp2_with (first
        | (go_at_call 27; refine (HC.out _).mono ?_; rintro e w2 ⟨rfl, B2⟩; obtain ⟨hcB, hfB⟩ := bcell B2; have hzB : w.heap.size + 1 < w2.heap.size := (by have := B2.size; simp at this; omega); have hzC : w.heap.size < w2.heap.size := (by omega))
        | (go_at_call 51; refine (refFail_any _ _).mono ?_; rintro e w4 ⟨rfl, B4⟩; obtain ⟨hcD, hfD⟩ := bcell B4; have hzD : w2.heap.size < w4.heap.size := by have := B4.size; simp at this; omega))
      refine bodyPost_ret (v := .tuple #[rdV ByteArray.empty 2, .slice none 0 0]) (by simp [results, Try.results35, go_sem, hcB, hcD, hzB, hzC]; try rfl) rfl ?_
      rw [H.out]
      have C2 : Below w.heap.size w w2 := (((Below.refl _ _).alloc (Nat.le_refl _) _).alloc (by simp) _).trans (B2.mono (by simp; omega))
      exact ⟨_, rfl, OwnsI.nil _ _, ((((C2.alloc (by omega) _)).trans (B4.mono (by simp; omega))).setCell (by simp) _).setCell (by simp) _⟩
    · have HL := Lib.hid (T3.out rfl h2)
      obtain ⟨k, rfl⟩ : ∃ k : Nat, n = (k : Int) := ⟨n.toNat, by omega⟩
      rw [Int.toNat_natCast] at HL
      clear T1 T2 T3
      obtain ⟨i0, hi, hz0, hz1', hz2⟩ := info_parts Try.infoInt
      go_enter Try.func35, Try.ntmps35
      go_wp2_with (go_at_call 27; refine (HC.out _).mono ?_; rintro e w2 ⟨rfl, B2⟩; obtain ⟨hcB, hfB⟩ := bcell B2; have hzB : w.heap.size + 1 < w2.heap.size := (by have := B2.size; simp at this; omega); have hzC : w.heap.size < w2.heap.size := (by omega))
      have R0 : Rv (w2.alloc (.cells #[.string u, .int .i64 0] 34)) w2.heap.size u 0 := Rv.new _ _ _
      have V0 : Rv (w2.alloc (.cells #[.string u, .int .i64 0] 34)) (w.heap.size + 1) ByteArray.empty 0 := by
        have h1 : Rv ((w.alloc (.cells #[.string s, .int .i64 e] 34)).alloc (.cells #[.string ByteArray.empty, .int .i64 0] 34)) (w.heap.size + 1) ByteArray.empty 0 := by
          have h2 := Rv.new (w.alloc (.cells #[.string s, .int .i64 e] 34)) ByteArray.empty 0
          simpa using h2
        exact (h1.below B2).grown (World.grownBy_alloc w2 _ none) (by simp)
      have C2 : Below w.heap.size w w2 := (((Below.refl _ _).alloc (Nat.le_refl _) _).alloc (by simp) _).trans (B2.mono (by simp; omega))
      have C0 : Below w.heap.size w (w2.alloc (.cells #[.string u, .int .i64 0] 34)) := C2.alloc (by omega) _
      have Z0 : w2.heap.size + 1 ≤ (w2.alloc (.cells #[.string u, .int .i64 0] 34)).heap.size := by simp
      obtain ⟨T, hT⟩ : ∃ T, w2.heap.size = T := ⟨_, rfl⟩
      rw [hT] at R0 Z0 hzB hzC ⊢
      clear hcB hfB B2
      go_loopw [8, 9] (fun v i wr => ∃ (j : Nat) (acc : List Int) (t : ByteArray), i = .int .i64 (j : Int) ∧ j ≤ k ∧ acc.length + t.size ≤ s.size ∧ OwnsI wr (T + 1) v acc ∧ Rv wr T t 0 ∧ Rv wr (w.heap.size + 1) ByteArray.empty 0 ∧ Below w.heap.size w wr ∧ T + 1 ≤ wr.heap.size ∧ rInts (k - j) acc t 0 = rInts k [] u 0)
        (fun _ i _ => k - (intOf i).toNat)
      case atStart => exact ⟨0, [], u, rfl, by omega, by simpa using hz1, OwnsI.nil _ _, R0, V0, C0, Z0, rfl⟩
      case round =>
        obtain ⟨j, acc, t, rfl, hj, hsum, hown, R, V, hbl, hz3, heq⟩ := hrel
        have HE := Lib.hid heq
        clear heq R0 V0 C0 Z0 C2
        have c0 := R.cell0
        have c1 := R.cell1
        by_cases hlt : j < k
        · have hgo := rWhole_size t 0
          obtain ⟨z, t2, e2, hW⟩ : ∃ z t2 e2, rWhole t 0 = (z, t2, e2) := ⟨_, _, _, rfl⟩
          have HW : Hid (∀ w, Calls Try.prog 29 #[rdV t 0] w (RdNumPost (z, t2, e2) w)) := Lib.hid fun w => by have := refWholeR_any t 0 w (by omega); rw [hW] at this; exact this
          rw [hW] at hgo
          have hgo : t2.size ≤ t.size := hgo
          by_cases he : e2 = 0
          · subst he
            have hless : t2.size + 1 ≤ t.size := by have := rWhole_less (s := t) (e := 0) (by rw [hW]); rw [hW] at this; exact this
            have HG : Hid (rInts (k - (j + 1) + 1) acc t 0 = rInts (k - (j + 1)) (acc ++ [z]) t2 0) := Lib.hid (by rw [rInts_go (by rw [hW]), hW])
            clear hW
            go_wp2_with (first
              | (go_at_call 29; refine (HW.out _).mono ?_; rintro en w5 ⟨rfl, B5⟩; obtain ⟨hcE, hfE⟩ := bcell B5; have hzE := B5.size; have R5 := R.below B5; have V5 := V.below B5; have hown5 := OwnsI.below hown B5; have d0 := R5.cell0; have d1 := R5.cell1; have d2 := R5.free 0; have d3 := R5.free 1; have f0 := V5.cell0; have f1 := V5.cell1; have f2 := V5.free 0; have f3 := V5.free 1; have hT5 := R5.lt; have hR5 := V5.lt; clear hcE hfE)
              | (at_builtin; refine wpList_append_own _ rfl _ _ 26 rfl (T + 1) 3 i0 (.int .i64 0) 1 8 Try.underlying26 hi hz0 hz1' hz2 rfl (by decide) _ _ _ rfl ((((hown5.far ⟨T, 0, none⟩ (.string t2) (by simp)).far ⟨T, 1, none⟩ (.int .i64 0) (by simp)).more _).more _) ⟨w5.heap.size + 1, 0, none⟩ 1 1 [.int .i64 z] rfl rfl ?c1 ?c2 ?c3 ?c4 ?c5 ?_))
            case c1 =>
              have hX : (((w5.setCell ⟨T, 0, none⟩ (.string t2)).setCell ⟨T, 1, none⟩ (.int .i64 0)).alloc (.cells #[.string t2, .int .i64 0] 34)).heap.size = w5.heap.size + 1 := by simp [World.setCell]
              rw [← hX]
              exact cell_one_new _ _ _
            case c2 => intro x hx; simp at hx; subst hx; rfl
            case c3 => unfold maxLen; omega
            case c4 => omega
            case c5 => simp [World.setCell]; omega
            intro v' w6 hown6 hgrow6 _
            have ho := OwnsI.push hown6
            have hb6 : Below w.heap.size w w6 := (((((hbl.trans (B5.mono hbl.size)).setCell (by simp; omega) _).setCell (by simp; omega) _).alloc (by simp [World.setCell]; omega) _).alloc (by simp [World.setCell]; omega) _).grown hgrow6 (by simp [World.setCell]; omega) (fun g hg => by have := (hown5.lt g hg).1; omega)
            have R6 : Rv w6 T t2 0 := (((R5.put t2 0).grown (World.grownBy_alloc _ _ none) (by simp)).grown (World.grownBy_alloc _ _ none) (by simp)).grown hgrow6 (by intro hv; have := (hown5.lt T hv.symm).1; omega)
            have V6 : Rv w6 (w.heap.size + 1) ByteArray.empty 0 := ((((V5.grown (grown_setCell w5 ⟨T, 0, none⟩ (.string t2)) (by simp; omega)).grown (grown_setCell _ ⟨T, 1, none⟩ (.int .i64 0)) (by simp; omega)).grown (World.grownBy_alloc _ _ none) (by simp)).grown (World.grownBy_alloc _ _ none) (by simp)).grown hgrow6 (by intro hv; have := (hown5.lt _ hv.symm).1; omega)
            have Z6 : T + 1 ≤ w6.heap.size := by have := R6.lt; omega
            clear hown6 hgrow6 hown hown5 R5 V5 R V hbl B5
            go_wp2
            go_roundw
            case rel => exact ⟨j + 1, acc ++ [z], t2, by go_num, by omega, by rw [List.length_append]; simp; omega, ho, R6, V6, hb6, Z6, by rw [← HE.out, show k - j = k - (j + 1) + 1 by omega, HG.out]⟩
            case measure => simp [intOf]; omega
          · have HG : Hid (rInts (k - (j + 1) + 1) acc t 0 = ([], t2, e2)) := Lib.hid (by rw [rInts_stop (by rw [hW]; exact he), hW])
            have d : (e2 != 0) = true := by simpa using he
            clear hW he
            go_wp2_with (first
              | (go_at_call 29; refine (HW.out _).mono ?_; rintro en w5 ⟨rfl, B5⟩; obtain ⟨hcE, hfE⟩ := bcell B5; have hzE := B5.size; have R5 := R.below B5; have V5 := V.below B5; have hown5 := OwnsI.below hown B5; have d0 := R5.cell0; have d1 := R5.cell1; have d2 := R5.free 0; have d3 := R5.free 1; have f0 := V5.cell0; have f1 := V5.cell1; have f2 := V5.free 0; have f3 := V5.free 1; have hT5 := R5.lt; have hR5 := V5.lt; clear hcE hfE)
              | fail)
            have VF := (((V5.grown (grown_setCell w5 ⟨T, 0, none⟩ (.string t2)) (by simp; omega)).grown (grown_setCell _ ⟨T, 1, none⟩ (.int .i64 e2)) (by simp; omega)).put t2 e2).grown (World.grownBy_alloc _ (.cells #[.string t2, .int .i64 e2] 34) none) (by simp)
            have g0 := VF.cell0
            have g1 := VF.cell1
            refine bodyPost_ret (v := .tuple #[rdV t2 e2, .slice none 0 0]) (by simp [results, Try.results35, go_sem, g0, g1]; try rfl) rfl ?_
            have HR : rList s e m = ([], t2, e2) := by rw [HL.out, ← HE.out, show k - j = k - (j + 1) + 1 by omega, HG.out]
            rw [HR]
            exact ⟨_, rfl, OwnsI.nil _ _, (((((hbl.trans (B5.mono hbl.size)).setCell (by simp; omega) _).setCell (by simp; omega) _).setCell (by simp) _).setCell (by simp) _).alloc (by simp [World.setCell]; omega) _⟩
        · have HK := Lib.hid (show k - j = 0 by omega)
          have f0 := V.cell0
          have f1 := V.cell1
          have f2 := V.free 0
          have f3 := V.free 1
          go_wp2
          refine bodyPost_ret (v := .tuple #[rdV t 0, _]) (by simp [results, Try.results35, go_sem, f0, f1]; try rfl) rfl ?_
          have HR : rList s e m = (acc, t, 0) := by rw [HL.out, ← HE.out, HK.out]; rfl
          rw [HR]
          exact ⟨_, rfl, ((hown.far ⟨w.heap.size + 1, 0, none⟩ (.string t) (by simp; omega)).far ⟨w.heap.size + 1, 1, none⟩ (.int .i64 0) (by simp; omega)).mono (by omega), (hbl.setCell (by simp) _).setCell (by simp) _⟩
  · have d : (e1 != 0) = true := by simpa using h
    have H := Lib.hid (T1.out h)
    clear h
    go_enter Try.func35, Try.ntmps35
    go_wp2_with (go_at_call 27; refine (HC.out _).mono ?_; rintro e w2 ⟨rfl, B2⟩; obtain ⟨hcB, hfB⟩ := bcell B2; have hzB : w.heap.size + 1 < w2.heap.size := (by have := B2.size; simp at this; omega); have hzC : w.heap.size < w2.heap.size := (by omega))
    refine bodyPost_ret (v := .tuple #[rdV u e1, .slice none 0 0]) (by simp [results, Try.results35, go_sem, hcB, hzB]; try rfl) rfl ?_
    rw [H.out]
    have C2 : Below w.heap.size w w2 := (((Below.refl _ _).alloc (Nat.le_refl _) _).alloc (by simp) _).trans (B2.mono (by simp; omega))
    exact ⟨_, rfl, OwnsI.nil _ _, ((C2.setCell (by simp) _).setCell (by simp) _).alloc (by simp [World.setCell]; omega) _⟩
end Go.Proofs.Ytjeeplacolbihaa
