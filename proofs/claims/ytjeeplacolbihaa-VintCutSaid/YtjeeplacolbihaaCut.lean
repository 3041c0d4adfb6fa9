/-
  THE WALK of the law VintCut: it returns true, and writes nothing that was there.
-/
import Derived.Test.YtjeeplacolbihaaLawC
import Derived.Deep.RegionWith
import Derived.Deep.DeepCutAuto
import Derived.IntWalk
namespace Go.Proofs.Ytjeeplacolbihaa
open Go.RowKit

/-- The number is cut off. -/
theorem scanN_cut : ∀ (n k : Nat), k + (numL n).length ≤ 9 → scanN k ((numL n).dropLast) = .error 5 := by
  intro n
  induction n using Nat.strongRecOn with
  | ind n ih =>
    intro k hk
    by_cases hn : n < 128
    · rw [numL_lo hn]; rfl
    · rw [numL_hi (by omega)] at hk ⊢
      simp only [List.length_cons] at hk
      have hne : numL (n / 128) ≠ [] := by have := numL_len_pos (n / 128); intro e; rw [e] at this; simp at this
      rw [List.dropLast_cons_of_ne_nil hne, scanN]
      have hu := ofNat_hi n
      have h1 : ¬ (k = 9 ∨ 0 < k ∧ UInt8.ofNat (n % 128 + 128) = 0) := by
        rintro (h | ⟨_, h⟩)
        · have := numL_len_pos (n / 128); omega
        · have := congrArg UInt8.toNat h
          rw [hu] at this
          simp at this
      rw [if_neg h1, if_neg (by rw [UInt8.lt_iff_toNat_lt, hu]; simp), ih (n / 128) (by omega) (k + 1) (by omega)]
theorem cut_list (s : ByteArray) : (s.extract 0 (s.size - 1)).data.toList = s.data.toList.dropLast := by
  rw [ba_take, List.dropLast_eq_take, ba_size]
theorem rNum_cut {n : Int} (h0 : 0 ≤ n) (h1 : n ≤ 9223372036854775807) : rNum ((numS n).extract 0 ((numS n).size - 1)) 0 = (0, ByteArray.empty, 5) := by
  apply rNum_bad rfl
  rw [cut_list, numS_list h0]
  exact scanN_cut _ 0 (by have := numL_len9 (n := n.toNat) (by omega); omega)
theorem rWhole_cut {z : Int} (h : mayZ z = true) : (rWhole ((wholeS z).extract 0 ((wholeS z).size - 1)) 0).2 = (ByteArray.empty, 5) := by
  unfold rWhole
  rw [wholeS_may h, rNum_cut (foldZ_nonneg z) (foldZ_le h)]
theorem rText_cut {s : ByteArray} (hs : s.size ≤ 2000) : (rText ((textS s).extract 0 ((textS s).size - 1)) 0 2000).2 = (ByteArray.empty, 5) := by
  by_cases hz : s.size = 0
  · have e : textS s = numS 0 := by
      unfold textS
      have : s = ByteArray.empty := ba_ext (by
        have : s.data.toList = [] := List.eq_nil_of_length_eq_zero (by rw [← ba_size]; exact hz)
        rw [this]; rfl)
      subst this
      apply ba_ext
      rw [ba_app]
      simp
    rw [e]
    unfold rText rLen
    rw [rNum_cut (by decide) (by decide), if_neg (by decide)]
    dsimp only
    rw [if_neg (by decide)]
  · have e : (textS s).extract 0 ((textS s).size - 1) = numS s.size ++ s.extract 0 (s.size - 1) := by
      apply ba_ext
      rw [cut_list, ba_app, cut_list]
      unfold textS
      rw [ba_app, List.dropLast_append_of_ne_nil]
      intro e
      apply hz
      rw [ba_size, e]
      rfl
    have hu : (s.extract 0 (s.size - 1)).size = s.size - 1 := by rw [ba_size, ba_take, List.length_take, ← ba_size]; omega
    rw [e]
    unfold rText
    rw [rLen_back (by omega) (by omega) (by omega), if_pos rfl]
    dsimp only
    rw [if_pos (by omega)]

theorem nonempty_of {s : ByteArray} (h : 1 ≤ s.size) : s.toList.isEmpty = false := by
  rw [ByteArray.toList_eq]
  cases hd : s.data.toList with
  | nil => rw [ba_size, hd] at h; simp at h
  | cons a r => rfl

/-- Three readers, in whatever order they were made. -/
def ThreeRd (w : World) (sA sB sC : ByteArray) (vA vB vC : Value) (wx : World) : Prop :=
  ∃ gA gB gC, vA = .pointer (some ⟨gA, 0, none⟩) ∧ vB = .pointer (some ⟨gB, 0, none⟩) ∧ vC = .pointer (some ⟨gC, 0, none⟩) ∧ Rd wx gA sA 0 ∧ Rd wx gB sB 0 ∧ Rd wx gC sC 0 ∧
    gA ≠ gB ∧ gA ≠ gC ∧ gB ≠ gC ∧ w.heap.size ≤ gA ∧ w.heap.size ≤ gB ∧ w.heap.size ≤ gC ∧ Below w.heap.size w wx

set_option maxRecDepth 100000 in
set_option maxHeartbeats 4000000 in
theorem cut_yes (n z : Int) (s : ByteArray) (w : World) (n0 : 0 ≤ n) (n1 : n ≤ 9223372036854775807) (hm : mayZ z = true) (hs : s.size ≤ 2000) :
    Calls Try.prog 9 #[.int .i64 n, .int .i64 z, .string s] w fun e w' => e = .returned (.bool true) ∧ Below w.heap.size w w' := by
  have hs9 : (s.size : Int) ≤ 9000000000000000000 := by omega
  have a1 := numS_pos n0
  have a2 := numS_size_le n n1
  have b1 : 1 ≤ (wholeS z).size := by rw [wholeS_may hm]; exact numS_pos (foldZ_nonneg z)
  have b2 := wholeS_size z
  have c1 : 1 ≤ (textS s).size := by unfold textS; rw [ba_size, ba_app, List.length_append, ← ba_size]; have := numS_pos (x := s.size) (by omega); omega
  have c2 : (textS s).size ≤ 2009 := by
    have h1 := numS_size_le s.size (by omega)
    have : (textS s).size = (numS s.size).size + s.size := by unfold textS; rw [ba_size, ba_app, List.length_append, ← ba_size, ← ba_size]
    omega
  have a3 := nonempty_of a1
  have b3 := nonempty_of b1
  have c3 := nonempty_of c1
  obtain ⟨kA, hkA⟩ : ∃ k, (numS n).size - 1 = k := ⟨_, rfl⟩
  have eA : ((numS n).size : Int) - 1 = (kA : Int) := by omega
  have mA : kA ≤ (numS n).size := by omega
  obtain ⟨sA, hA⟩ : ∃ x, (numS n).extract 0 kA = x := ⟨_, rfl⟩
  obtain ⟨kB, hkB⟩ : ∃ k, (wholeS z).size - 1 = k := ⟨_, rfl⟩
  have eB : ((wholeS z).size : Int) - 1 = (kB : Int) := by omega
  have mB : kB ≤ (wholeS z).size := by omega
  obtain ⟨sB, hB⟩ : ∃ x, (wholeS z).extract 0 kB = x := ⟨_, rfl⟩
  obtain ⟨kC, hkC⟩ : ∃ k, (textS s).size - 1 = k := ⟨_, rfl⟩
  have eC : ((textS s).size : Int) - 1 = (kC : Int) := by omega
  have mC : kC ≤ (textS s).size := by omega
  obtain ⟨sC, hC⟩ : ∃ x, (textS s).extract 0 kC = x := ⟨_, rfl⟩
  have zA : (sA.size : Int) ≤ 9000000000000000000 := by rw [← hA, ← hkA, ba_size, cut_list, List.length_dropLast, ← ba_size]; omega
  have zB : (sB.size : Int) ≤ 9000000000000000000 := by rw [← hB, ← hkB, ba_size, cut_list, List.length_dropLast, ← ba_size]; omega
  have zC : (sC.size : Int) ≤ 9000000000000000000 := by rw [← hC, ← hkC, ba_size, cut_list, List.length_dropLast, ← ba_size]; omega
  have PA : ∀ w g, Rd w g sA 0 → Calls Try.prog 28 #[.pointer (some ⟨g, 0, none⟩)] w (RdPost w g (.int .i64 0) (ByteArray.empty, 5)) := fun w g h => (rnum_any h zA).mono fun _ _ h => by rw [← hA, ← hkA, rNum_cut n0 n1] at h; exact h
  have PB : ∀ w g, Rd w g sB 0 → Calls Try.prog 30 #[.pointer (some ⟨g, 0, none⟩)] w (RdPost w g (.int .i64 (rWhole sB 0).1) (ByteArray.empty, 5)) := fun w g h => (rwhole_any h zB).mono fun _ _ h => by rw [show (rWhole sB 0).2 = (ByteArray.empty, 5) by rw [← hB, ← hkB]; exact rWhole_cut hm] at h; exact h
  have PC : ∀ w g, Rd w g sC 0 → Calls Try.prog 34 #[.pointer (some ⟨g, 0, none⟩), .int .i64 2000] w (RdPost w g (.string (rText sC 0 2000).1) (ByteArray.empty, 5)) := fun w g h => (rtext_any 2000 h zC).mono fun _ _ h => by rw [show (rText sC 0 2000).2 = (ByteArray.empty, 5) by rw [← hC, ← hkC]; exact rText_cut hs] at h; exact h
  replace PA := Lib.hid PA
  replace PB := Lib.hid PB
  replace PC := Lib.hid PC
  have HM := Lib.hid hm
  have wA : IntKind.i64.wrap (kA : Int) = (kA : Int) := IntWalk.i64_in _ (by omega)
  have wB : IntKind.i64.wrap (kB : Int) = (kB : Int) := IntWalk.i64_in _ (by omega)
  have wC : IntKind.i64.wrap (kC : Int) = (kC : Int) := IntWalk.i64_in _ (by omega)
  clear hm zA zB zC hkA hkB hkC
  go_enter Try.func9, Try.ntmps9
  go_wp2_with (first
    | (go_at_call 42; refine (may_any z _).mono ?_; rw [HM.out]; rintro e w' ⟨rfl, rfl⟩)
    | (go_at_call 16; refine (num_any n _ n1).mono ?_; rintro e w1 ⟨rfl, B1⟩)
    | (go_at_call 18; refine (whole_any z _).mono ?_; rintro e w2 ⟨rfl, B2⟩)
    | (go_at_call 22; refine (text_any s _ hs9).mono ?_; rintro e w3 ⟨rfl, B3⟩))
  have C := (below_next (below_next B1 B2) B3).drew
  clear B1 B2 B3
  go_cut [10, 11, 12] (fun vA vB vC wx => ThreeRd w sA sB sC vA vB vC wx)
  case first =>
    go_region_with ((first
      | (go_at_call 26; (with_reducible refine (from_abs sA _).mono ?_); rintro e vA ⟨gA, rfl, hA, RA, BA⟩; (try (have nAB : gA ≠ gB := by have := RB.lt; omega)); (try (have nAC : gA ≠ gC := by have := RC.lt; omega)); (try (replace RB := RB.below BA)); (try (replace RC := RC.below BA)); have lA := Nat.le_trans C.size hA; replace C := below_next C BA; clear hA BA)
      | (go_at_call 26; (with_reducible refine (from_abs sB _).mono ?_); rintro e vB ⟨gB, rfl, hB, RB, BB⟩; (try (have nBA : gB ≠ gA := by have := RA.lt; omega)); (try (have nBC : gB ≠ gC := by have := RC.lt; omega)); (try (replace RA := RA.below BB)); (try (replace RC := RC.below BB)); have lB := Nat.le_trans C.size hB; replace C := below_next C BB; clear hB BB)
      | (go_at_call 26; (with_reducible refine (from_abs sC _).mono ?_); rintro e vC ⟨gC, rfl, hC, RC, BC⟩; (try (have nCA : gC ≠ gA := by have := RA.lt; omega)); (try (have nCB : gC ≠ gB := by have := RB.lt; omega)); (try (replace RA := RA.below BC)); (try (replace RB := RB.below BC)); have lC := Nat.le_trans C.size hC; replace C := below_next C BC; clear hC BC)))
    all_goals
      go_wp2_with fail
      go_meet
      exact ⟨_, _, _, rfl, rfl, rfl, RA, RB, RC, by first | exact nAB | exact nBA.symm, by first | exact nAC | exact nCA.symm, by first | exact nBC | exact nCB.symm, lA, lB, lC, C⟩
  case rest =>
    clear C
    obtain ⟨gA, gB, gC, rfl, rfl, rfl, RA, RB, RC, nAB, nAC, nBC, lA, lB, lC, C⟩ := hcut
    go_wp2_with fail
    refine (PA.out _ _ RA).mono ?_
    rintro e w6 ⟨rfl, QA, G⟩
    replace RB := rd_grown RB G (by simp; exact fun e => nAB e.symm)
    replace RC := rd_grown RC G (by simp; exact fun e => nAC e.symm)
    replace C : Below w.heap.size w w6 := C.grown G C.size (by simp; omega)
    clear G RA
    go_wp2_with fail
    refine (PB.out _ _ RB).mono ?_
    rintro e w7 ⟨rfl, QB, G⟩
    replace QA := rd_grown QA G (by simp; exact nAB)
    replace RC := rd_grown RC G (by simp; exact fun e => nBC e.symm)
    replace C : Below w.heap.size w w7 := C.grown G C.size (by simp; omega)
    clear G RB
    go_wp2_with fail
    refine (PC.out _ _ RC).mono ?_
    rintro e w8 ⟨rfl, QC, G⟩
    replace QA := rd_grown QA G (by simp; exact nAC)
    replace QB := rd_grown QB G (by simp; exact nBC)
    replace C : Below w.heap.size w w8 := C.grown G C.size (by simp; omega)
    clear G RC
    go_wp2_with (first
      | (go_at_call 15; refine (awake1_any _).mono ?_; rintro e w9 ⟨rfl, B9⟩; replace QA := QA.below B9; replace QB := QB.below B9; replace QC := QC.below B9; replace C := below_next C B9)
      | (go_at_call 39; (first | (with_reducible refine (err_any QA).mono ?_) | (with_reducible refine (err_any QB).mono ?_) | (with_reducible refine (err_any QC).mono ?_)); rintro e w' ⟨rfl, rfl⟩))
    go_ret
    exact ⟨rfl, C⟩

set_option maxHeartbeats 1000000 in
theorem vintCut_walk (n z : Int) (s : ByteArray) (w : World) (hn : (Lit.int .i64 n).wf = true) (_hz : (Lit.int .i64 z).wf = true) (_hs : s.size ≤ maxLen) :
    Calls Try.prog 9 #[.int .i64 n, .int .i64 z, .string s] w fun e w' => e = .returned (.bool true) ∧ Below w.heap.size w w' := by
  by_cases n0 : n < 0
  · go_enter Try.func9, Try.ntmps9
    go_wp2_with (go_at_call 15; refine (awake1_any _).mono ?_; rintro e w0 ⟨rfl, B0⟩)
    go_ret
    exact ⟨rfl, B0⟩
  · cases hm : mayZ z
    · have HM := Lib.hid hm
      clear hm
      go_enter Try.func9, Try.ntmps9
      go_wp2_with (first
        | (go_at_call 42; refine (may_any z _).mono ?_; rw [HM.out]; rintro e w' ⟨rfl, rfl⟩)
        | (go_at_call 15; refine (awake1_any _).mono ?_; rintro e w0 ⟨rfl, B0⟩))
      go_ret
      exact ⟨rfl, B0⟩
    · by_cases h2 : 2000 < s.size
      · have HM := Lib.hid hm
        clear hm
        go_enter Try.func9, Try.ntmps9
        go_wp2_with (first
          | (go_at_call 42; refine (may_any z _).mono ?_; rw [HM.out]; rintro e w' ⟨rfl, rfl⟩)
          | (go_at_call 15; refine (awake1_any _).mono ?_; rintro e w0 ⟨rfl, B0⟩))
        go_ret
        exact ⟨rfl, B0⟩
      · exact cut_yes n z s w (by omega) (bounds_i64 hn).2 hm (by omega)
end Go.Proofs.Ytjeeplacolbihaa
