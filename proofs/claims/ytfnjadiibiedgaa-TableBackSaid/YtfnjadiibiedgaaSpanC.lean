/-
  WHAT IS LEFT OF A SET behind a key, plain; CONTRACT of pieces, whatever it is to visit.
-/
import Derived.Test.YtfnjadiibiedgaaSpanB
import Derived.Shelf.Abstract
namespace Go.Proofs.Ytfnjadiibiedgaa
open Go.RowKit Go.Shelf

/-- l is what is left of the set A behind z. -/
def Suf (A l : List Sp) (z : Int) : Prop :=
  canB (-1) l = true ∧ (∀ j, z ≤ j → hasB A j = hasB l j) ∧ (∀ s t, l = s :: t → z < s.2) ∧ l.length ≤ A.length
theorem Suf.start {A : List Sp} (h : canB (-1) A = true) : Suf A A 0 :=
  ⟨h, fun _ _ => rfl, fun s t e => by subst e; have := (canB_cons _ _ _).1 h; omega, Nat.le_refl _⟩
theorem Suf.edge {A l : List Sp} {z : Int} (h : Suf A l z) (hz : z < 4096) : z < edgeOf l z ∧ edgeOf l z ≤ 4096 := by
  cases l with
  | nil => exact ⟨hz, Int.le_refl _⟩
  | cons s t =>
    have h1 := (canB_cons _ _ _).1 h.1
    have h2 := h.2.2.1 s t rfl
    unfold edgeOf
    dsimp only
    split <;> omega
theorem Suf.lt {A l : List Sp} {z : Int} (h : Suf A l z) (hl : l ≠ []) : z < 4096 := by
  cases l with
  | nil => exact absurd rfl hl
  | cons s t =>
    have h1 := (canB_cons _ _ _).1 h.1
    have h2 := h.2.2.1 s t rfl
    omega
theorem Suf.seg {A l : List Sp} {z j : Int} (h : Suf A l z) (h1 : z ≤ j) (h2 : j < edgeOf l z) : hasB A j = begB l z := by
  rw [h.2.1 j h1]
  cases l with
  | nil => rfl
  | cons s t =>
    have c := (canB_cons _ _ _).1 h.1
    unfold edgeOf at h2
    dsimp only at h2
    unfold begB
    dsimp only
    rw [hasB_cons]
    by_cases hs : s.1 ≤ z
    · rw [if_pos hs] at h2
      rw [(inB_iff s j).2 (by omega), decide_eq_true hs]; rfl
    · rw [if_neg hs] at h2
      rw [canB_low c.2.2 (by omega), decide_eq_false hs, Bool.or_false]
      cases hi : inB s j
      · rfl
      · rw [inB_iff] at hi; omega
theorem Suf.aft {A l : List Sp} {z hi : Int} (h : Suf A l z) (h1 : z < hi) (h2 : hi ≤ edgeOf l z) : Suf A (aftOf l hi) hi := by
  cases l with
  | nil => exact ⟨rfl, fun j hj => h.2.1 j (by omega), fun s t e => by simp [aftOf] at e, Nat.zero_le _⟩
  | cons s t =>
    have c := (canB_cons _ _ _).1 h.1
    have h3 := h.2.2.1 s t rfl
    unfold edgeOf at h2
    dsimp only at h2
    unfold aftOf
    dsimp only
    split
    · rename_i he
      refine ⟨canB_weak (by omega) c.2.2, fun j hj => ?_, fun x y e => ?_, by have := h.2.2.2; simp at this; omega⟩
      · rw [h.2.1 j (by omega), hasB_cons]
        cases hi' : inB s j
        · rfl
        · rw [inB_iff] at hi'; omega
      · subst e
        have := (canB_cons _ _ _).1 c.2.2
        omega
    · refine ⟨h.1, fun j hj => h.2.1 j (by omega), fun x y e => ?_, h.2.2.2⟩
      cases e
      split at h2 <;> omega
theorem Suf.done {A : List Sp} {z j : Int} (h : Suf A [] z) (hj : z ≤ j) : hasB A j = false := h.2.1 j hj

/-- What visit makes of the stretch that ends at hi: it goes on, or not. -/
def Seen (Inv : Int → World → Prop) (Fin : World → Prop) (hi : Int) (c : Bool) (w' : World) : Prop := (c = true → Inv hi w') ∧ (c = false → Fin w')
/-- What is asked of visit. -/
def Vis (g : Nat) (lb : Array Value) (A B : List Sp) (B0 : Nat) (Inv : Int → World → Prop) (Fin : World → Prop) : Prop :=
  ∀ (W : World) (lo hi : Int) (x y : Bool), 0 ≤ lo → lo < hi → hi ≤ 4096 → (∀ j, lo ≤ j → j < hi → hasB A j = x ∧ hasB B j = y) → Inv lo W →
    Calls Try.prog g (#[.agg #[.int .i64 lo, .int .i64 hi], .bool x, .bool y] ++ lb) W fun e w' => ∃ c, e = .returned (.bool c) ∧ Seen Inv Fin hi c w' ∧ Below B0 W w'
def PcPost (A B : List Sp) (Inv : Int → World → Prop) (Fin : World → Prop) (e : Ending) (w' : World) : Prop :=
  e = .returned (.tuple #[]) ∧ (Fin w' ∨ ∃ lo, Inv lo w' ∧ ∀ j, lo ≤ j → hasB A j = false ∧ hasB B j = false)

set_option maxRecDepth 100000 in
set_option maxHeartbeats 2000000 in
theorem pieces_any (g : Nat) (lb : Array Value) (A B : List Sp) (aA aB : Option Addr) (cA cB : Nat) (B0 : Nat) (Inv : Int → World → Prop) (Fin : World → Prop) (w : World)
    (eg : ∀ args w, (callFunc g args).run Try.prog w = .ok (.enter g args) w) (hA : canB (-1) A = true) (hB : canB (-1) B = true) (kA : A.length ≤ cA) (kB : B.length ≤ cB) (mA : cA ≤ maxLen) (mB : cB ≤ maxLen)
    (pA : PIn w B0 aA A) (pB : PIn w B0 aB B) (hv : Vis g lb A B B0 Inv Fin) (h0 : Inv 0 w) :
    Calls Try.prog 158 #[.slice aA A.length cA, .slice aB B.length cB, .func (.func g) #[] lb] w (PcPost A B Inv Fin) := by
  have SA := Suf.start hA
  have SB := Suf.start hB
  have HV := Lib.hid hv
  clear hv hA hB
  go_enter Try.func158, Try.ntmps158
  go_wp2_with fail
  go_loopw [0, 1, 6] (fun s0 s1 s6 wr => ∃ (a b : Option Addr) (ca cb : Nat) (l m : List Sp) (z : Int), s0 = .slice a l.length ca ∧ s1 = .slice b m.length cb ∧ s6 = .int .i64 z ∧ 0 ≤ z ∧ z ≤ 4096 ∧
      l.length ≤ ca ∧ ca ≤ maxLen ∧ m.length ≤ cb ∧ cb ≤ maxLen ∧ Hid (Suf A l z ∧ Suf B m z ∧ PIn wr B0 a l ∧ PIn wr B0 b m ∧ Inv z wr))
    (fun _ _ i _ => 4096 - (intOf i).toNat)
  case atStart => exact ⟨aA, aB, cA, cB, A, B, 0, rfl, rfl, rfl, by omega, by omega, kA, mA, kB, mB, Lib.hid ⟨SA, SB, pA, pB, h0⟩⟩
  case round =>
    obtain ⟨a, b, ca, cb, l, m, z, rfl, rfl, rfl, hz0, hz1, k1, m1, k2, m2, HH⟩ := hrel
    obtain ⟨sA, sB, qA, qB, hI⟩ := HH.out
    have E1 := nextEdge_any a ca l z wr (by unfold maxLen at m1; omega) qA
    have E2 := nextEdge_any b cb m z wr (by unfold maxLen at m2; omega) qB
    have G1 := begun_any a ca l z wr (by unfold maxLen at m1; omega) qA
    have G2 := begun_any b cb m z wr (by unfold maxLen at m2; omega) qB
    have T1 := fun w' hi (hq : PIn w' B0 a l) => after_any a ca l hi w' (by unfold maxLen at m1; omega) k1 m1 hq
    have T2 := fun w' hi (hq : PIn w' B0 b m) => after_any b cb m hi w' (by unfold maxLen at m2; omega) k2 m2 hq
    have hcase : (l = [] ∧ m = []) ∨ z < 4096 := by
      by_cases h1 : l = []
      · by_cases h2 : m = []
        · exact .inl ⟨h1, h2⟩
        · exact .inr (sB.lt h2)
      · exact .inr (sA.lt h1)
    obtain ⟨n1, hn1⟩ : ∃ n, l.length = n := ⟨_, rfl⟩
    obtain ⟨n2, hn2⟩ : ∃ n, m.length = n := ⟨_, rfl⟩
    obtain ⟨eA, heA⟩ : ∃ e, edgeOf l z = e := ⟨_, rfl⟩
    obtain ⟨eB, heB⟩ : ∃ e, edgeOf m z = e := ⟨_, rfl⟩
    obtain ⟨x, hx⟩ : ∃ x, begB l z = x := ⟨_, rfl⟩
    obtain ⟨y, hy⟩ : ∃ x, begB m z = x := ⟨_, rfl⟩
    rw [hn1, heA] at E1
    rw [hn2, heB] at E2
    rw [hn1, hx] at G1
    rw [hn2, hy] at G2
    simp only [hn1] at T1 k1 ⊢
    simp only [hn2] at T2 k2 ⊢
    replace E1 := Lib.hid E1
    replace E2 := Lib.hid E2
    replace G1 := Lib.hid G1
    replace G2 := Lib.hid G2
    replace T1 := Lib.hid T1
    replace T2 := Lib.hid T2
    replace hI := Lib.hid hI
    replace qA := Lib.hid qA
    replace qB := Lib.hid qB
    replace sA := Lib.hid sA
    replace sB := Lib.hid sB
    clear HH
    have h12 : (n1 = 0 ∧ n2 = 0) ∨ (0 < n1 ∨ (n1 = 0 ∧ 0 < n2)) := by omega
    rcases h12 with ⟨r1, r2⟩ | h12
    · have l0 : l = [] := List.eq_nil_of_length_eq_zero (by omega)
      have m0 : m = [] := List.eq_nil_of_length_eq_zero (by omega)
      replace l0 := Lib.hid l0
      replace m0 := Lib.hid m0
      subst r1
      subst r2
      replace hn1 := Lib.hid hn1
      replace hn2 := Lib.hid hn2
      clear hcase hx hy heA heB
      go_wp2
      go_end0
      exact ⟨rfl, .inr ⟨z, hI.out, fun j hj => ⟨by have := sA.out; rw [l0.out] at this; exact this.done hj, by have := sB.out; rw [m0.out] at this; exact this.done hj⟩⟩⟩
    · have hz4 : z < 4096 := by
        rcases hcase with ⟨rfl, rfl⟩ | h
        · simp at hn1 hn2; omega
        · exact h
      have bA := sA.out.edge hz4
      have bB := sB.out.edge hz4
      have gA := fun j => sA.out.seg (j := j)
      have gB := fun j => sB.out.seg (j := j)
      have tA := fun hi => sA.out.aft (hi := hi)
      have tB := fun hi => sB.out.aft (hi := hi)
      rw [heA] at bA
      rw [heB] at bB
      rw [heA, hx] at gA
      rw [heB, hy] at gB
      rw [heA] at tA
      rw [heB] at tB
      obtain ⟨bA0, bA1⟩ := bA
      obtain ⟨bB0, bB1⟩ := bB
      replace gA := Lib.hid gA
      replace gB := Lib.hid gB
      replace tA := Lib.hid tA
      replace tB := Lib.hid tB
      replace hn1 := Lib.hid hn1
      replace hn2 := Lib.hid hn2
      clear hcase hx hy heA heB
      have hcall : ∀ hi, z < hi → hi ≤ eA → hi ≤ eB → Hid (Calls Try.prog g (#[.agg #[.int .i64 z, .int .i64 hi], .bool x, .bool y] ++ lb) wr fun e w' => ∃ c, e = .returned (.bool c) ∧ Seen Inv Fin hi c w' ∧ Below B0 wr w') :=
        fun hi h1 h2 h3 => Lib.hid (HV.out wr z hi x y hz0 h1 (by omega) (fun j j1 j2 => ⟨gA.out j j1 (by omega), gB.out j j1 (by omega)⟩) hI.out)
      obtain ⟨hi, hmin, i1, i2, i3⟩ : ∃ hi, (eA ≤ eB ∧ hi = eA ∨ eB < eA ∧ hi = eB) ∧ z < hi ∧ hi ≤ eA ∧ hi ≤ eB := by
        by_cases hle : eA ≤ eB
        · exact ⟨eA, .inl ⟨hle, rfl⟩, by omega, by omega, by omega⟩
        · exact ⟨eB, .inr ⟨by omega, rfl⟩, by omega, by omega, by omega⟩
      have HC := hcall hi i1 i2 i3
      have UA := Lib.hid (tA.out hi i1 i2)
      have UB := Lib.hid (tB.out hi i1 i3)
      clear hcall
      rcases hmin with ⟨hle, rfl⟩ | ⟨hle, rfl⟩
      all_goals
        rcases h12 with h12 | ⟨rfl, h12⟩
        all_goals
          go_wp2_with (first | (go_at_call 169; (with_reducible refine E1.out.mono ?_); rintro e w' ⟨rfl, rfl⟩) | (go_at_call 169; (with_reducible refine E2.out.mono ?_); rintro e w' ⟨rfl, rfl⟩) | (go_at_call 170; (with_reducible refine G1.out.mono ?_); rintro e w' ⟨rfl, rfl⟩) | (go_at_call 170; (with_reducible refine G2.out.mono ?_); rintro e w' ⟨rfl, rfl⟩) | (go_at_fn g; (with_reducible refine HC.out.mono ?_); rintro e w1 ⟨c, rfl, hS, hb⟩; have vA := T1.out w1 hi (qA.out.below hb); have vB := T2.out w1 hi (qB.out.below hb)) | (go_at_call 171; (with_reducible refine vA.mono ?_); rintro e w' ⟨rfl, a1, c1, rfl, k1', m1', q1'⟩) | (go_at_call 171; (with_reducible refine vB.mono ?_); rintro e w' ⟨rfl, a2, c2, rfl, k2', m2', q2'⟩))
          · go_end0
            exact ⟨rfl, .inl (hS.2 (by have h := ‹(!c) = true›; simpa using h))⟩
          · go_roundw
            case rel => exact ⟨a1, a2, c1, c2, _, _, _, rfl, rfl, rfl, by omega, by omega, k1', m1', k2', m2', Lib.hid ⟨UA.out, UB.out, q1', q2', hS.1 (by have h := ‹(!c) = false›; simpa using h)⟩⟩
            case measure => simp [intOf]; omega
end Go.Proofs.Ytfnjadiibiedgaa
