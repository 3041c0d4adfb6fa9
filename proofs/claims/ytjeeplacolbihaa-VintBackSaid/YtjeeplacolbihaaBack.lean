/-
  THE WALK of the law VintBack: it returns true, and writes nothing that was there.
-/
import Derived.Test.YtjeeplacolbihaaSame
namespace Go.Proofs.Ytjeeplacolbihaa
open Go.RowKit

set_option maxRecDepth 100000 in
set_option maxHeartbeats 4000000 in
theorem back_some (z : Int) (s : ByteArray) (b off cap : Nat) (zs : List Int) (w : World) (hs : s.size ≤ 20000) (hl : zs.length ≤ 300) (hb : b < w.heap.size)
    (hc : ∀ k, k < zs.length → w.cell? ⟨b, off + k, none⟩ = some (.int .i64 (zs.getD k 0))) :
    Calls Try.prog 6 #[.int .i64 z, .string s, .slice (some ⟨b, off, none⟩) zs.length cap] w fun e w' => e = .returned (.bool true) ∧ Below w.heap.size w w' := by
  have hin : IntsIn w (some ⟨b, off, none⟩) zs := .inr ⟨b, off, rfl, hb, hc⟩
  have HC := Lib.hid hc
  have hs9 : (s.size : Int) ≤ 9000000000000000000 := by omega
  have hbeh : (behind.toList == [98, 101, 104, 105, 110, 100]) = true := by rw [ByteArray.toList_eq]; rfl
  have hz12 : (zs.length : Int) ≤ 1000000000000 := by omega
  have y1 := wholeS_size z
  have y2 : (textS s).size ≤ 20009 := by
    have h1 := numS_size_le s.size (by omega)
    have : (textS s).size = (numS s.size).size + s.size := by unfold textS; rw [size_app]
    omega
  have y3 : (listS zs).size ≤ 3000 := listS_size (by omega)
  have y4 : (flagS true).size = 1 := rfl
  have y5 := size_app (wholeS z) (textS s)
  have y6 := size_app (wholeS z ++ textS s) (listS zs)
  have y7 := size_app (wholeS z ++ textS s ++ listS zs) (flagS true)
  have t1 : ((textS s ++ (listS zs ++ (⟨#[1]⟩ ++ behind))).size : Int) ≤ 30000 := by rw [size_app, size_app, size_app, show (⟨#[1]⟩ : ByteArray).size = 1 from rfl, show behind.size = 6 from rfl]; omega
  have t2 : ((listS zs ++ (⟨#[1]⟩ ++ behind)).size : Int) ≤ 30000 := by rw [size_app, size_app, show (⟨#[1]⟩ : ByteArray).size = 1 from rfl, show behind.size = 6 from rfl]; omega
  have t0 : ((wholeS z ++ (textS s ++ (listS zs ++ (⟨#[1]⟩ ++ behind)))).size : Int) ≤ 40000 := by rw [size_app]; omega
  have Q0 : mayZ z = true → ∀ w g, Rd w g (wholeS z ++ (textS s ++ (listS zs ++ (⟨#[1]⟩ ++ behind)))) 0 → Calls Try.prog 30 #[.pointer (some ⟨g, 0, none⟩)] w (RdPost w g (.int .i64 z) (textS s ++ (listS zs ++ (⟨#[1]⟩ ++ behind)), 0)) :=
    fun hm w g h => (rwhole_any h (by omega)).mono fun _ _ h => by rw [rWhole_back hm] at h; exact h
  have Q1 : ∀ w g, Rd w g (textS s ++ (listS zs ++ (⟨#[1]⟩ ++ behind))) 0 → Calls Try.prog 34 #[.pointer (some ⟨g, 0, none⟩), .int .i64 (s.size : Int)] w (RdPost w g (.string s) (listS zs ++ (⟨#[1]⟩ ++ behind), 0)) :=
    fun w g h => (rtext_any _ h (by omega)).mono fun _ _ h => by rw [rText_back (Int.le_refl _) (by omega)] at h; exact h
  have Q2 : (∀ y ∈ zs, mayZ y = true) → ∀ w g, Rd w g (listS zs ++ (⟨#[1]⟩ ++ behind)) 0 → Calls Try.prog 37 #[.pointer (some ⟨g, 0, none⟩), .int .i64 (zs.length : Int)] w (RowPost w g zs (⟨#[1]⟩ ++ behind, 0)) :=
    fun ha w g h => (rlist_any _ h (by omega)).mono fun _ _ h => by rw [rList_back ha (Int.le_refl _) (by omega)] at h; exact h.row
  have Q3 : ∀ w g, Rd w g (⟨#[1]⟩ ++ behind) 0 → Calls Try.prog 32 #[.pointer (some ⟨g, 0, none⟩)] w (RdPost w g (.bool true) (behind, 0)) :=
    fun w g h => (rflag_any h).mono fun _ _ h => by rw [rFlag_back] at h; exact h
  have Q0 := Lib.hid Q0
  have Q1 := Lib.hid Q1
  have Q2 := Lib.hid Q2
  have Q3 := Lib.hid Q3
  clear t0 t1 t2
  clear hc
  have hgz := goodB_zero z zs
  go_enter Try.func6, Try.ntmps6
  go_wp2_with (go_at_call 42; refine (may_any z _).mono ?_; rw [← hgz]; rintro e w' ⟨rfl, rfl⟩)
  go_loop [7, 8] (fun v i => ∃ k : Nat, i = .int .i64 (k : Int) ∧ k ≤ zs.length ∧ v = .bool (goodB z zs k)) (fun _ i => zs.length - (intOf i).toNat)
  case atStart => exact ⟨0, rfl, by omega, by rw [goodB_zero]⟩
  case round =>
    obtain ⟨k, rfl, hk, rfl⟩ := hrel
    by_cases hlt : k < zs.length
    · have hcell := HC.out k hlt
      obtain ⟨y, hy⟩ : ∃ y, zs.getD k 0 = y := ⟨_, rfl⟩
      have hsu := goodB_succ (z := z) (zs := zs) (k := k) hlt
      rw [hy] at hcell hsu
      clear hy
      have HS := Lib.hid hsu
      clear hsu
      cases hg : goodB z zs k
      · rw [hg, Bool.false_and] at HS
        go_wp2_with fail
        go_round
        case rel => exact ⟨k + 1, by go_num, by omega, by rw [HS.out]⟩
        case measure => simp [intOf]; omega
      · rw [hg, Bool.true_and] at HS
        go_wp2_with (go_at_call 42; refine (may_any y _).mono ?_; rintro e w' ⟨rfl, rfl⟩)
        go_round
        case rel => exact ⟨k + 1, by go_num, by omega, by rw [HS.out]⟩
        case measure => simp [intOf]; omega
    · have hkl : k = zs.length := by omega
      subst hkl
      cases hg : goodB z zs zs.length
      · go_wp2_with (go_at_call 15; refine (awake1_any _).mono ?_; rintro e w0 ⟨rfl, B0⟩)
        go_ret
        exact ⟨rfl, B0⟩
      · have Q0 := Lib.hid (Q0.out (goodB_all hg).1)
        have Q2 := Lib.hid (Q2.out (goodB_all hg).2)
        have C0 := Below.refl w.heap.size w
        go_wp2_with (first
          | (go_at_call 18; refine (whole_any z _).mono ?_; rintro e w1 ⟨rfl, B1⟩; have C1 := below_next C0 B1)
          | (go_at_call 22; refine (text_any s _ hs9).mono ?_; rintro e w2 ⟨rfl, B2⟩; have C2 := below_next C1 B2)
          | (go_at_call 24; refine (list_any (some ⟨b, off, none⟩) cap zs _ hz12 (hin.below C2)).mono ?_; rintro e w3 ⟨rfl, B3⟩; have C3 := below_next C2 B3)
          | (go_at_call 20; refine (flag_any true _).mono ?_; rintro e w4 ⟨rfl, rfl⟩))
        refine (from_abs (written z s zs) _).mono ?_
        rintro e w5 ⟨g, rfl, hg, R, B5⟩
        have C5 := below_next C3 B5
        rw [written_eq] at R
        have hg5 := R.lt
        go_wp2_with fail
        refine (Q0.out _ _ R).mono ?_
        rintro e w6 ⟨rfl, R6, G6⟩
        have hgl : w.heap.size ≤ g := Nat.le_trans C3.size hg
        have C6 : Below w.heap.size w w6 := C5.grown G6 C5.size (by simp; omega)
        go_wp2_with fail
        refine (Q1.out _ _ R6).mono ?_
        rintro e w7 ⟨rfl, R7, G7⟩
        have C7 : Below w.heap.size w w7 := C6.grown G7 C6.size (by simp; omega)
        go_wp2_with fail
        refine (Q2.out _ _ R7).mono ?_
        rintro e w8 ⟨ad8, cap8, rfl, O8, R8, G8⟩
        have C8 : Below w.heap.size w w8 := C7.grown G8 C7.size (by simp; omega)
        have hg7 := R7.lt
        go_wp2_with fail
        refine (Q3.out _ _ R8).mono ?_
        rintro e w9 ⟨rfl, R9, G9⟩
        have C9 : Below w.heap.size w w9 := C8.grown G9 C8.size (by simp; omega)
        have I9 := (O8.past G9 hg7).ints
        go_wp2_with (first
          | (go_at_call 15; refine (awake1_any _).mono ?_; rintro e w10 ⟨rfl, B10⟩; have C10 := below_next C9 B10; have R10 := R9.below B10; have I10 := I9.below B10)
          | (go_at_call 36; refine (same_any ad8 (some ⟨b, off, none⟩) cap8 cap zs _ hz12 I10 (hin.below C10)).mono ?_; rintro e w11 ⟨rfl, B11⟩; have C11 := below_next C10 B11; have R11 := R10.below B11)
          | (go_at_call 38; refine (left_any R11).mono ?_; rintro e w' ⟨rfl, rfl⟩))
        go_ret
        exact ⟨rfl, C11⟩

set_option maxRecDepth 100000 in
set_option maxHeartbeats 4000000 in
theorem back_nil (z : Int) (s : ByteArray) (a : Option Addr) (cap : Nat) (w : World) (hs : s.size ≤ 20000) :
    Calls Try.prog 6 #[.int .i64 z, .string s, .slice a 0 cap] w fun e w' => e = .returned (.bool true) ∧ Below w.heap.size w w' := by
  have hin : IntsIn w a [] := .inl rfl
  have hs9 : (s.size : Int) ≤ 9000000000000000000 := by omega
  have hbeh : (behind.toList == [98, 101, 104, 105, 110, 100]) = true := by rw [ByteArray.toList_eq]; rfl
  have hz12 : (([] : List Int).length : Int) ≤ 1000000000000 := by simp
  have y1 := wholeS_size z
  have y2 : (textS s).size ≤ 20009 := by
    have h1 := numS_size_le s.size (by omega)
    have : (textS s).size = (numS s.size).size + s.size := by unfold textS; rw [size_app]
    omega
  have y3 : (listS ([] : List Int)).size ≤ 3000 := listS_size (by simp)
  have y4 : (flagS true).size = 1 := rfl
  have y5 := size_app (wholeS z) (textS s)
  have y6 := size_app (wholeS z ++ textS s) (listS ([] : List Int))
  have y7 := size_app (wholeS z ++ textS s ++ listS ([] : List Int)) (flagS true)
  have t1 : ((textS s ++ (listS ([] : List Int) ++ (⟨#[1]⟩ ++ behind))).size : Int) ≤ 30000 := by rw [size_app, size_app, size_app, show (⟨#[1]⟩ : ByteArray).size = 1 from rfl, show behind.size = 6 from rfl]; omega
  have t2 : ((listS ([] : List Int) ++ (⟨#[1]⟩ ++ behind)).size : Int) ≤ 30000 := by rw [size_app, size_app, show (⟨#[1]⟩ : ByteArray).size = 1 from rfl, show behind.size = 6 from rfl]; omega
  have t0 : ((wholeS z ++ (textS s ++ (listS ([] : List Int) ++ (⟨#[1]⟩ ++ behind)))).size : Int) ≤ 40000 := by rw [size_app]; omega
  have Q0 : mayZ z = true → ∀ w g, Rd w g (wholeS z ++ (textS s ++ (listS ([] : List Int) ++ (⟨#[1]⟩ ++ behind)))) 0 → Calls Try.prog 30 #[.pointer (some ⟨g, 0, none⟩)] w (RdPost w g (.int .i64 z) (textS s ++ (listS ([] : List Int) ++ (⟨#[1]⟩ ++ behind)), 0)) :=
    fun hm w g h => (rwhole_any h (by omega)).mono fun _ _ h => by rw [rWhole_back hm] at h; exact h
  have Q1 : ∀ w g, Rd w g (textS s ++ (listS ([] : List Int) ++ (⟨#[1]⟩ ++ behind))) 0 → Calls Try.prog 34 #[.pointer (some ⟨g, 0, none⟩), .int .i64 (s.size : Int)] w (RdPost w g (.string s) (listS ([] : List Int) ++ (⟨#[1]⟩ ++ behind), 0)) :=
    fun w g h => (rtext_any _ h (by omega)).mono fun _ _ h => by rw [rText_back (Int.le_refl _) (by omega)] at h; exact h
  have Q2 : (∀ y ∈ [], mayZ y = true) → ∀ w g, Rd w g (listS ([] : List Int) ++ (⟨#[1]⟩ ++ behind)) 0 → Calls Try.prog 37 #[.pointer (some ⟨g, 0, none⟩), .int .i64 (0 : Int)] w (RowPost w g [] (⟨#[1]⟩ ++ behind, 0)) :=
    fun ha w g h => (rlist_any _ h (by omega)).mono fun _ _ h => by rw [rList_back (zs := ([] : List Int)) (most := 0) ha (by decide) (by decide)] at h; exact h.row
  have Q3 : ∀ w g, Rd w g (⟨#[1]⟩ ++ behind) 0 → Calls Try.prog 32 #[.pointer (some ⟨g, 0, none⟩)] w (RdPost w g (.bool true) (behind, 0)) :=
    fun w g h => (rflag_any h).mono fun _ _ h => by rw [rFlag_back] at h; exact h
  have Q0 := Lib.hid Q0
  have Q1 := Lib.hid Q1
  have Q2 := Lib.hid Q2
  have Q3 := Lib.hid Q3
  clear t0 t1 t2
  cases hg : mayZ z
  · have HM := Lib.hid hg
    clear hg
    go_enter Try.func6, Try.ntmps6
    go_wp2_with (go_at_call 42; refine (may_any z _).mono ?_; rw [HM.out]; rintro e w' ⟨rfl, rfl⟩)
    refine wp_loop_rounds 1 ?_
    rw [rounds_succ]
    go_wp2_with (go_at_call 15; refine (awake1_any _).mono ?_; rintro e w0 ⟨rfl, B0⟩)
    go_ret
    exact ⟨rfl, B0⟩
  · have HM := Lib.hid hg
    have Q0 := Lib.hid (Q0.out hg)
    have Q2 := Lib.hid (Q2.out (by simp))
    have C0 := Below.refl w.heap.size w
    clear hg
    go_enter Try.func6, Try.ntmps6
    go_wp2_with (go_at_call 42; refine (may_any z _).mono ?_; rw [HM.out]; rintro e w' ⟨rfl, rfl⟩)
    refine wp_loop_rounds 1 ?_
    rw [rounds_succ]
    go_wp2_with (first
      | (go_at_call 18; refine (whole_any z _).mono ?_; rintro e w1 ⟨rfl, B1⟩; have C1 := below_next C0 B1)
      | (go_at_call 22; refine (text_any s _ hs9).mono ?_; rintro e w2 ⟨rfl, B2⟩; have C2 := below_next C1 B2)
      | (go_at_call 24; refine (list_any a cap [] _ hz12 (hin.below C2)).mono ?_; rintro e w3 ⟨rfl, B3⟩; have C3 := below_next C2 B3)
      | (go_at_call 20; refine (flag_any true _).mono ?_; rintro e w4 ⟨rfl, rfl⟩))
    refine (from_abs (written z s ([] : List Int)) _).mono ?_
    rintro e w5 ⟨g, rfl, hg, R, B5⟩
    have C5 := below_next C3 B5
    rw [written_eq] at R
    have hg5 := R.lt
    go_wp2_with fail
    refine (Q0.out _ _ R).mono ?_
    rintro e w6 ⟨rfl, R6, G6⟩
    have hgl : w.heap.size ≤ g := Nat.le_trans C3.size hg
    have C6 : Below w.heap.size w w6 := C5.grown G6 C5.size (by simp; omega)
    go_wp2_with fail
    refine (Q1.out _ _ R6).mono ?_
    rintro e w7 ⟨rfl, R7, G7⟩
    have C7 : Below w.heap.size w w7 := C6.grown G7 C6.size (by simp; omega)
    go_wp2_with fail
    refine (Q2.out _ _ R7).mono ?_
    rintro e w8 ⟨ad8, cap8, rfl, O8, R8, G8⟩
    have C8 : Below w.heap.size w w8 := C7.grown G8 C7.size (by simp; omega)
    have hg7 := R7.lt
    go_wp2_with fail
    refine (Q3.out _ _ R8).mono ?_
    rintro e w9 ⟨rfl, R9, G9⟩
    have C9 : Below w.heap.size w w9 := C8.grown G9 C8.size (by simp; omega)
    have I9 := (O8.past G9 hg7).ints
    go_wp2_with (first
      | (go_at_call 15; refine (awake1_any _).mono ?_; rintro e w10 ⟨rfl, B10⟩; have C10 := below_next C9 B10; have R10 := R9.below B10; have I10 := I9.below B10)
      | (go_at_call 36; refine (same_any ad8 a cap8 cap [] _ hz12 I10 (hin.below C10)).mono ?_; rintro e w11 ⟨rfl, B11⟩; have C11 := below_next C10 B11; have R11 := R10.below B11)
      | (go_at_call 38; refine (left_any R11).mono ?_; rintro e w' ⟨rfl, rfl⟩))
    go_ret
    exact ⟨rfl, C11⟩

theorem vintBack_walk (z : Int) (s : ByteArray) (a : Option Addr) (len cap : Nat) (zs : List Int) (w : World) (_hz : (Lit.int .i64 z).wf = true) (_hs : s.size ≤ maxLen) (hzs : IntsArg w a len zs) :
    Calls Try.prog 6 #[.int .i64 z, .string s, .slice a len cap] w fun e w' => e = .returned (.bool true) ∧ Below w.heap.size w w' := by
  obtain ⟨rfl, hin, _⟩ := hzs
  by_cases h1 : 20000 < s.size
  · go_enter Try.func6, Try.ntmps6
    go_wp2_with (go_at_call 15; refine (awake1_any _).mono ?_; rintro e w0 ⟨rfl, B0⟩)
    go_ret
    exact ⟨rfl, B0⟩
  · by_cases h2 : 300 < zs.length
    · go_enter Try.func6, Try.ntmps6
      go_wp2_with (go_at_call 15; refine (awake1_any _).mono ?_; rintro e w0 ⟨rfl, B0⟩)
      go_ret
      exact ⟨rfl, B0⟩
    · rcases hin with rfl | ⟨b, off, rfl, hb, hc⟩
      · exact back_nil z s a cap w (by omega)
      · exact back_some z s b off cap zs w (by omega) (by omega) hb hc
end Go.Proofs.Ytjeeplacolbihaa
