/-
  THE WALK of the law VintOnce: it returns true, and writes nothing that was there.
-/
import Derived.Test.YtjeeplacolbihaaLawB
import Derived.Tactics2
import Derived.Deep.DeepCutAuto
namespace Go.Proofs.Ytjeeplacolbihaa
open Go.RowKit

/-- A row of the call's own, handed over as an argument. -/
theorem OwnsI.arg {w : World} {base : Nat} {v : Value} {l : List Int} (h : OwnsI w base v l) :
    ∃ a cap, v = .slice a l.length cap ∧ IntsIn w a l := by
  rcases h.2 with ⟨rfl, hn⟩ | ⟨g, cap, cur, rfl, _⟩
  · have : l = [] := List.eq_nil_of_length_eq_zero hn
    subst this
    exact ⟨none, 0, rfl, .inl rfl⟩
  · refine ⟨some ⟨g, 0, none⟩, cap, rfl, .inr ⟨g, 0, rfl, (h.lt g rfl).2, fun k hk => ?_⟩⟩
    have := World.ownsRow.cells (g := g) h rfl k (.int .i64 (l.getD k 0)) (by simp [List.getElem?_eq_getElem hk])
    rw [← this]
    by_cases hk0 : k = 0
    · subst hk0; simp [Addr.add]
    · simp [Addr.add, hk0]
theorem OwnsI.below {w w' : World} {base : Nat} {v : Value} {l : List Int} (h : OwnsI w base v l) (hb : Below w.heap.size w w') : OwnsI w' base v l :=
  World.ownsRow.kept h (row := none) ⟨hb.os, hb.tape, hb.output, hb.size, fun k hk _ => hb.block k hk⟩ (by cases hv : v.ownBlock <;> simp)

def FromPost (s : ByteArray) (w : World) (e : Ending) (w' : World) : Prop :=
  ∃ g, e = .returned (.pointer (some ⟨g, 0, none⟩)) ∧ w.heap.size ≤ g ∧ Rd w' g s 0 ∧ Below w.heap.size w w'
theorem from_abs (s : ByteArray) (w : World) : Calls Try.prog 26 #[.string s] w (FromPost s w) :=
  (from_any s w).mono fun _ _ ⟨he, hw⟩ => ⟨w.heap.size, he, Nat.le_refl _, by rw [← hw]; exact Rd.new w s 0, by rw [← hw]; exact (Below.refl _ _).alloc (Nat.le_refl _) _⟩

/-- A list was read, as an argument shows it. -/
def ArgPost (w : World) (g : Nat) (l : List Int) (r : ByteArray × Int) (e : Ending) (w' : World) : Prop :=
  ∃ a cap, e = .returned (.slice a l.length cap) ∧ IntsIn w' a l ∧ Rd w' g r.1 r.2 ∧ w.grownBy w' (some g)
theorem ListPost.arg {w : World} {g : Nat} {l : List Int} {r : ByteArray × Int} {e : Ending} {w' : World} (h : ListPost w g l r e w') : ArgPost w g l r e w' := by
  obtain ⟨v, he, ho, hr, hg⟩ := h
  obtain ⟨a, cap, hv, hi⟩ := ho.arg
  exact ⟨a, cap, by rw [he, hv], hi, hr, hg⟩

/-- The four readers of VintOnce behind their readings, in the world w. -/
structure OnceSt (w0 : World) (g0 g1 g2 g3 : Nat) (s0 s1 s2 s3 : ByteArray) (e0 e1 e2 e3 : Int) (a : Option Addr) (l : List Int) (w : World) : Prop where
  r0 : Rd w g0 s0 e0
  r1 : Rd w g1 s1 e1
  r2 : Rd w g2 s2 e2
  r3 : Rd w g3 s3 e3
  own : IntsIn w a l
  low : Below w0.heap.size w0 w
theorem OnceSt.step {w0 : World} {g0 g1 g2 g3 : Nat} {s0 s1 s2 s3 : ByteArray} {e0 e1 e2 e3 : Int} {a : Option Addr} {l : List Int} {w w' : World}
    (h : OnceSt w0 g0 g1 g2 g3 s0 s1 s2 s3 e0 e1 e2 e3 a l w) (hb : Below w.heap.size w w') : OnceSt w0 g0 g1 g2 g3 s0 s1 s2 s3 e0 e1 e2 e3 a l w' :=
  ⟨h.r0.below hb, h.r1.below hb, h.r2.below hb, h.r3.below hb, h.own.below hb, below_next h.low hb⟩

theorem rText_size (s : ByteArray) (e most : Int) : (rText s e most).1.size ≤ s.size ∧ (rText s e most).2.1.size ≤ s.size := by
  have hl := rLen_size s e most
  have h0 : ByteArray.empty.size = 0 := rfl
  unfold rText
  split
  · split
    · simp only [h0]; omega
    · simp only [ba_size (ByteArray.extract _ _ _), ba_take, ba_drop, List.length_take, List.length_drop, ← ba_size]
      omega
  · simp only [h0]; omega
theorem rInts_size : ∀ (n : Nat) (acc : List Int) (s : ByteArray) (e : Int), (rInts n acc s e).2.1.size ≤ s.size := by
  intro n
  induction n with
  | zero => intro acc s e; exact Nat.le_refl _
  | succ n ih =>
    intro acc s e
    rw [rInts]
    have h1 := rWhole_size s e
    split
    · exact Nat.le_trans (ih _ _ _) h1
    · exact h1
theorem rList_size (s : ByteArray) (e most : Int) : (rList s e most).2.1.size ≤ s.size := Nat.le_trans (rInts_size _ _ _ _) (rLen_size s e most)
theorem listS_size {l : List Int} (h : (l.length : Int) ≤ 300) : (listS l).size ≤ 3000 := by
  unfold listS
  split
  · rename_i hh
    have h1 := wholesL_len l (by simpa using hh)
    have h2 := numL_len9 (n := l.length) (by omega)
    rw [ba_size]
    simp
    omega
  · simp

theorem eq_toList {a b : ByteArray} (h : a = b) : (a.toList == b.toList) = true := by rw [h]; simp

set_option maxRecDepth 100000 in
set_option maxHeartbeats 4000000 in
theorem once_small (s : ByteArray) (w : World) (hs : s.size ≤ 20000) :
    Calls Try.prog 7 #[.string s] w fun e w' => e = .returned (.bool true) ∧ Below w.heap.size w w' := by
  obtain ⟨n, s0, e0, hN⟩ : ∃ n s0 e0, rNum s 0 = (n, s0, e0) := ⟨_, _, _, rfl⟩
  obtain ⟨z, s1, e1, hZ⟩ : ∃ n s0 e0, rWhole s 0 = (n, s0, e0) := ⟨_, _, _, rfl⟩
  obtain ⟨t, s2, e2, hT⟩ : ∃ n s0 e0, rText s 0 20000 = (n, s0, e0) := ⟨_, _, _, rfl⟩
  obtain ⟨l, s3, e3, hL⟩ : ∃ n s0 e0, rList s 0 300 = (n, s0, e0) := ⟨_, _, _, rfl⟩
  have hs9 : (s.size : Int) ≤ 9000000000000000000 := by omega
  have hs12 : (s.size : Int) ≤ 1000000000000 := by omega
  have P0 : ∀ w g, Rd w g s 0 → Calls Try.prog 28 #[.pointer (some ⟨g, 0, none⟩)] w (RdPost w g (.int .i64 n) (s0, e0)) := fun w g h => by have := rnum_any h hs9; rw [hN] at this; exact this
  have P1 : ∀ w g, Rd w g s 0 → Calls Try.prog 30 #[.pointer (some ⟨g, 0, none⟩)] w (RdPost w g (.int .i64 z) (s1, e1)) := fun w g h => by have := rwhole_any h hs9; rw [hZ] at this; exact this
  have P2 : ∀ w g, Rd w g s 0 → Calls Try.prog 34 #[.pointer (some ⟨g, 0, none⟩), .int .i64 20000] w (RdPost w g (.string t) (s2, e2)) := fun w g h => by have := rtext_any 20000 h hs9; rw [hT] at this; exact this
  have P3 : ∀ w g, Rd w g s 0 → Calls Try.prog 37 #[.pointer (some ⟨g, 0, none⟩), .int .i64 300] w (ArgPost w g l (s3, e3)) := fun w g h => (rlist_any 300 h hs12).mono fun _ _ h => by rw [hL] at h; exact h.arg
  have P0 := Lib.hid P0
  have P1 := Lib.hid P1
  have P2 := Lib.hid P2
  have P3 := Lib.hid P3
  have k0 : Hid (e0 = 0 → numS n ++ s0 = s) := Lib.hid fun h => by have := rNum_once (s := s) (e := 0); rw [hN] at this; exact this h
  have k1 : Hid (e1 = 0 → wholeS z ++ s1 = s) := Lib.hid fun h => by have := rWhole_once (s := s) (e := 0); rw [hZ] at this; exact this h
  have k2 : Hid (e2 = 0 → textS t ++ s2 = s) := Lib.hid fun h => by have := rText_once (s := s) (e := 0) (most := 20000); rw [hT] at this; exact this h
  have k3 : Hid (e3 = 0 → listS l ++ s3 = s) := Lib.hid fun h => by have := rList_once (s := s) (e := 0) (most := 300); rw [hL] at this; exact this h
  have hn : n ≤ 9223372036854775807 := by have := rNum_val s 0; rw [hN] at this; exact this.2
  have z0 : s0.size ≤ 20000 := by have := rNum_size s 0; rw [hN] at this; exact Nat.le_trans this hs
  have z1 : s1.size ≤ 20000 := by have := rWhole_size s 0; rw [hZ] at this; exact Nat.le_trans this hs
  have z2 : s2.size ≤ 20000 ∧ t.size ≤ 20000 := by have := rText_size s 0 20000; rw [hT] at this; exact ⟨Nat.le_trans this.2 hs, Nat.le_trans this.1 hs⟩
  have z3 : s3.size ≤ 20000 := by have := rList_size s 0 300; rw [hL] at this; exact Nat.le_trans this hs
  have hl : e3 = 0 → (l.length : Int) ≤ 300 := fun h => by have := rList_len (s := s) (e := 0) (most := 300); rw [hL] at this; exact this h (by decide)
  have HLen := Lib.hid hl
  obtain ⟨z2, z4⟩ := z2
  have z5 : (t.size : Int) ≤ 9000000000000000000 := by omega
  have y0 := numS_size_le n hn
  have y1 := wholeS_size z
  have y2 : (textS t).size ≤ 20009 := by
    have h1 := numS_size_le t.size (by omega)
    have : (textS t).size = (numS t.size).size + t.size := by unfold textS; rw [ba_size, ba_app, List.length_append, ← ba_size, ← ba_size]
    omega
  clear hN hZ hT hL hl
  go_enter Try.func7, Try.ntmps7
  go_wp2_with fail
  refine (from_abs s _).mono ?_
  rintro e w1 ⟨g0, rfl, a0, R0, B0⟩
  go_wp2_with fail
  refine (from_abs s _).mono ?_
  rintro e w2 ⟨g1, rfl, a1, R1, B1⟩
  go_wp2_with fail
  refine (from_abs s _).mono ?_
  rintro e w3 ⟨g2, rfl, a2, R2, B2⟩
  go_wp2_with fail
  refine (from_abs s _).mono ?_
  rintro e w4 ⟨g3, rfl, a3, R3, B3⟩
  have l0 := R0.lt
  have l1 := R1.lt
  have l2 := R2.lt
  replace R0 := ((R0.below B1).below B2).below B3
  replace R1 := (R1.below B2).below B3
  replace R2 := R2.below B3
  have C := below_next (below_next (below_next B0 B1) B2) B3
  clear B0 B1 B2 B3
  go_wp2_with fail
  refine (P0.out _ g0 R0).mono ?_
  rintro e w5 ⟨rfl, Q0, G⟩
  replace R1 := rd_grown R1 G (by simp; omega)
  replace R2 := rd_grown R2 G (by simp; omega)
  replace R3 := rd_grown R3 G (by simp; omega)
  replace C : Below w.heap.size w w5 := C.grown G C.size (by simp; omega)
  clear G R0
  go_wp2_with fail
  refine (P1.out _ g1 R1).mono ?_
  rintro e w6 ⟨rfl, Q1, G⟩
  replace Q0 := rd_grown Q0 G (by simp; omega)
  replace R2 := rd_grown R2 G (by simp; omega)
  replace R3 := rd_grown R3 G (by simp; omega)
  replace C : Below w.heap.size w w6 := C.grown G C.size (by simp; omega)
  clear G R1
  go_wp2_with fail
  refine (P2.out _ g2 R2).mono ?_
  rintro e w7 ⟨rfl, Q2, G⟩
  replace Q0 := rd_grown Q0 G (by simp; omega)
  replace Q1 := rd_grown Q1 G (by simp; omega)
  replace R3 := rd_grown R3 G (by simp; omega)
  replace C : Below w.heap.size w w7 := C.grown G C.size (by simp; omega)
  clear G R2
  go_wp2_with fail
  refine (P3.out _ g3 R3).mono ?_
  rintro e w8 ⟨ad, cap, rfl, O, Q3, G⟩
  replace Q0 := rd_grown Q0 G (by simp; omega)
  replace Q1 := rd_grown Q1 G (by simp; omega)
  replace Q2 := rd_grown Q2 G (by simp; omega)
  replace C : Below w.heap.size w w8 := C.grown G C.size (by simp; omega)
  have Q : OnceSt w g0 g1 g2 g3 s0 s1 s2 s3 e0 e1 e2 e3 ad l w8 := ⟨Q0, Q1, Q2, Q3, O, C⟩
  clear Q0 Q1 Q2 Q3 O C G R3 a0 a1 a2 a3 l0 l1 l2
  go_upto_region 5 with fail
  go_cut [56] (fun s56 wx => s56 = .bool false ∧ OnceSt w g0 g1 g2 g3 s0 s1 s2 s3 e0 e1 e2 e3 ad l wx)
  case first =>
    by_cases h0 : e0 = 0
    all_goals
      first | (have d0 : (e0 == 0) = true := by simpa using h0) | (have d0 : (e0 == 0) = false := by simpa using h0)
      first | (have q0 := eq_toList (k0.out h0)) | skip
      clear h0
      by_cases h1 : e1 = 0
      all_goals
        first | (have d1 : (e1 == 0) = true := by simpa using h1) | (have d1 : (e1 == 0) = false := by simpa using h1)
        first | (have q1 := eq_toList (k1.out h1)) | skip
        clear h1
        go_wp2_with (first
          | (go_at_call 39; (first | (with_reducible refine (err_any Q.r0).mono ?_) | (with_reducible refine (err_any Q.r1).mono ?_)); rintro e w' ⟨rfl, rfl⟩)
          | (go_at_call 38; (first | (with_reducible refine (left_any Q.r0).mono ?_) | (with_reducible refine (left_any Q.r1).mono ?_)); rintro e w' ⟨rfl, rfl⟩)
          | (go_at_call 16; refine (num_any n _ hn).mono ?_; rintro e wx ⟨rfl, B⟩; replace Q := Q.step B; clear B)
          | (go_at_call 18; refine (whole_any z _).mono ?_; rintro e wx ⟨rfl, B⟩; replace Q := Q.step B; clear B))
        go_meet
        exact ⟨rfl, Q⟩
  case rest =>
    clear Q
    obtain ⟨rfl, Q⟩ := hcut
    go_upto_region 7 with fail
    by_cases h2 : e2 = 0
    all_goals
      first | (have d2 : (e2 != 0) = false := by simpa using h2) | (have d2 : (e2 != 0) = true := by simpa using h2)
      first | (have q2 := eq_toList (k2.out h2)) | skip
      clear h2
      by_cases h3 : e3 = 0
      all_goals
        first | (have d3 : (e3 != 0) = false := by simpa using h3) | (have d3 : (e3 != 0) = true := by simpa using h3)
        first | (have q3 := eq_toList (k3.out h3); have y3 := listS_size (HLen.out h3); have y4 : (l.length : Int) ≤ 1000000000000 := (by have := HLen.out h3; omega)) | skip
        clear h3
        go_wp2_with (first
          | (go_at_call 39; (first | (with_reducible refine (err_any Q.r2).mono ?_) | (with_reducible refine (err_any Q.r3).mono ?_)); rintro e w' ⟨rfl, rfl⟩)
          | (go_at_call 38; (first | (with_reducible refine (left_any Q.r2).mono ?_) | (with_reducible refine (left_any Q.r3).mono ?_)); rintro e w' ⟨rfl, rfl⟩)
          | (go_at_call 22; refine (text_any t _ z5).mono ?_; rintro e wx ⟨rfl, B⟩; replace Q := Q.step B; clear B)
          | (go_at_call 24; refine (list_any ad cap l _ y4 Q.own).mono ?_; rintro e wx ⟨rfl, B⟩; replace Q := Q.step B; clear B)
          | (go_at_call 15; refine (awake1_any _).mono ?_; rintro e wx ⟨rfl, B⟩; replace Q := Q.step B; clear B))
        go_ret
        exact ⟨rfl, Q.low⟩

theorem vintOnce_walk (s : ByteArray) (w : World) (_hs : s.size ≤ maxLen) :
    Calls Try.prog 7 #[.string s] w fun e w' => e = .returned (.bool true) ∧ Below w.heap.size w w' := by
  by_cases h1 : 20000 < s.size
  · go_enter Try.func7, Try.ntmps7
    go_wp2_with (go_at_call 15; refine (awake1_any _).mono ?_; rintro e w0 ⟨rfl, B0⟩)
    go_ret
    exact ⟨rfl, B0⟩
  · exact once_small s w (by omega)
end Go.Proofs.Ytjeeplacolbihaa
