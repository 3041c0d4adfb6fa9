/-
  SLABS: THE PAGE's EXAMPLE (splicelaw07.awake).
-/
import Derived.Test.YthcebcpippbhfaaSlF
namespace Go.Proofs.Ythcebcpippbhfaa
open Go.RowKit Go.Maps Go.ChangeMaps

def TruePost (w : World) (e : Ending) (w' : World) : Prop := e = .returned (.bool true) ∧ Below w.heap.size w w'
abbrev tA : ByteArray := ⟨#[97, 98, 99]⟩
abbrev tX : ByteArray := ⟨#[120, 121, 122]⟩
abbrev tQ : ByteArray := ⟨#[113]⟩
abbrev tx : ByteArray := ⟨#[120]⟩
def stA (bs : List Bk) (d : Bool) : St := { bs := bs, down := d, left := 0, zs := [], torn := 0, at_ := 0 }
theorem exA1 : writeS (newS 2) 0 tA = (stA [(bk0.1, some tA), bk0] false, 0) := by rfl
theorem exA2 : flushS (stA [(bk0.1, some tA), bk0] false) = (stA [(tA, none), bk0] false, 0) := by rfl
theorem exA3 : writeS (stA [(tA, none), bk0] false) 0 tX = (stA [(tA, some tX), bk0] false, 0) := by rfl
theorem exA4 : writeS (stA [(tA, some tX), bk0] false) 1 tQ = (stA [(tA, some tX), (bk0.1, some tQ)] false, 0) := by rfl
theorem exA5 : failS (stA [(tA, some tX), (bk0.1, some tQ)] false) [1] 0 1 = stA [(tx, none), (tQ, none)] true := by rfl
theorem exA6 : wakeS (stA [(tx, none), (tQ, none)] true) = stA [(tx, none), (tQ, none)] false := by rfl
theorem exA7 : readS (stA [(tx, none), (tQ, none)] false) 0 = (tx, 0) := by rfl
theorem exA8 : readS (stA [(tx, none), (tQ, none)] false) 1 = (tQ, 0) := by rfl
/-- Failing with a list of one block that has just been laid. -/
theorem fail1_any {W : World} {p db mb : Nat} {s : St} (h : Sl W p db mb s) (z torn at_ : Int) (hz : (Lit.int .i64 z).wf = true) (ht : (Lit.int .i64 torn).wf = true) :
    Calls Try.prog 20 #[.pointer (some ⟨p, 0, none⟩), .agg #[.slice (some ⟨W.heap.size, 0, none⟩) 1 1, .int .i64 torn, .int .i64 at_]] (W.alloc (.cells #[.int .i64 z] 3)) (SPost p db mb (.tuple #[]) (failS s [z] torn at_) W) := by
  obtain ⟨ka, kn, kc, h⟩ := h
  obtain ⟨l1, l2, l3⟩ := h.lt
  have B : Below W.heap.size W (W.alloc (.cells #[.int .i64 z] 3)) := (Below.refl _ _).alloc (Nat.le_refl _) _
  have hk : KRow (W.alloc (.cells #[.int .i64 z] 3)) p db mb (some ⟨W.heap.size, 0, none⟩) 1 1 [z] := by
    refine ⟨rfl, ⟨Nat.le_refl _, by decide⟩, by simp only [List.mem_singleton]; rintro x rfl; exact hz, fun j hj => ?_⟩
    have hj0 : j = 0 := by simpa using hj
    subst hj0
    exact ⟨_, 0, rfl, by simp, by omega, by omega, by omega, cell_of_row _ _ 0 _ _ _ (heap_alloc_new _ _)⟩
  refine (fail_any (h.same B) hk torn at_ ht).mono ?_
  rintro e w2 ⟨he, hs, hb⟩
  exact ⟨he, hs, (But.of_below B).trans hb⟩
theorem writeE {W : World} {p db mb : Nat} {s s' : St} {v : Int} (h : Sl W p db mb s) {k : Int} {t : ByteArray} (e : writeS s k t = (s', v)) (ht : t.size ≤ maxLen) :
    Calls Try.prog 16 #[.pointer (some ⟨p, 0, none⟩), .int .i64 k, .string t] W (SPost p db mb (.int .i64 v) s' W) := by
  obtain ⟨ka, kn, kc, h⟩ := h
  have := write_any h k t ht
  rwa [e] at this
theorem flushE {W : World} {p db mb : Nat} {s s' : St} {v : Int} (h : Sl W p db mb s) (e : flushS s = (s', v)) :
    Calls Try.prog 17 #[.pointer (some ⟨p, 0, none⟩)] W (SPost p db mb (.int .i64 v) s' W) := by
  obtain ⟨ka, kn, kc, h⟩ := h
  have := flush_any h
  rwa [e] at this
theorem readE {W : World} {p db mb : Nat} {s : St} {t : ByteArray} {v : Int} (h : Sl W p db mb s) {k : Int} (hk : (Lit.int .i64 k).wf = true) (e : readS s k = (t, v)) :
    Calls Try.prog 24 #[.pointer (some ⟨p, 0, none⟩), .int .i64 k] W (RPost (.tuple #[.string t, .int .i64 v]) W) := by
  obtain ⟨ka, kn, kc, h⟩ := h
  have := read_any h k hk
  rwa [e] at this
theorem downE {W : World} {p db mb : Nat} {s : St} {d : Bool} (h : Sl W p db mb s) (e : s.down = d) :
    Calls Try.prog 23 #[.pointer (some ⟨p, 0, none⟩)] W fun e w' => e = .returned (.bool d) ∧ w' = W := by
  obtain ⟨ka, kn, kc, h⟩ := h
  have := down_any h
  rwa [e] at this
theorem wakeE {W : World} {p db mb : Nat} {s s' : St} (h : Sl W p db mb s) (e : wakeS s = s') :
    Calls Try.prog 21 #[.pointer (some ⟨p, 0, none⟩)] W (SPost p db mb (.tuple #[]) s' W) := by
  obtain ⟨ka, kn, kc, h⟩ := h
  have := wake_any h
  rwa [e] at this
set_option maxRecDepth 100000 in
set_option maxHeartbeats 2000000 in
theorem awake7_any (w : World) : Calls Try.prog 12 #[] w (TruePost w) := by
  go_enter Try.func12, Try.ntmps12
  go_wp2_with (first
    | (go_at_call 10; refine (new_any 2 (by decide) (by decide) w).mono ?_; rintro e w1 ⟨p, db, mb, rfl, hs1, p1, p2, p3, b1⟩)
    | (go_at_call 16; (with_reducible refine (writeE hs1 exA1 (by decide)).mono ?_); rintro e w2 ⟨rfl, hs2, b2⟩)
    | (go_at_call 17; (with_reducible refine (flushE hs2 exA2).mono ?_); rintro e w3 ⟨rfl, hs3, b3⟩)
    | (go_at_call 16; (with_reducible refine (writeE hs3 exA3 (by decide)).mono ?_); rintro e w4 ⟨rfl, hs4, b4⟩)
    | (go_at_call 16; (with_reducible refine (writeE hs4 exA4 (by decide)).mono ?_); rintro e w5 ⟨rfl, hs5, b5⟩)
    | (go_at_call 20; refine (fail1_any hs5 1 0 1 (by decide) (by decide)).mono ?_; rw [exA5]; rintro e w6 ⟨rfl, hs6, b6⟩)
    | (go_at_call 23; refine (downE hs6 rfl).mono ?_; rintro e w7 ⟨rfl, hw7⟩; subst w7)
    | (go_at_call 21; refine (wakeE hs6 exA6).mono ?_; rintro e w8 ⟨rfl, hs8, b8⟩)
    | (go_at_call 24; (with_reducible refine (readE hs8 (by decide) exA7).mono ?_); rintro e w9 ⟨rfl, b9⟩; have hs9 := hs8.same b9)
    | (go_at_call 24; (with_reducible refine (readE hs9 (by decide) exA8).mono ?_); rintro e w10 ⟨rfl, b10⟩))
  go_ret
  refine ⟨rfl, ?_⟩
  have c1 : But p db mb w1 w10 := (((((((b2.trans b3).trans b4).trans b5).trans b6).trans b8).trans (But.of_below b9)).trans (But.of_below b10))
  exact b1.trans (c1.below b1.size p1 p2 p3)
end Go.Proofs.Ythcebcpippbhfaa
