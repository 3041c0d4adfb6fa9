/-
  DELTA: how long texts are; the document's Same of two mutations that are nothing; DeltaBack's walk.
-/
import Derived.Test.YtmifjippdlmpiaaDeN
import Derived.Test.YtmifjippdlmpiaaDeF
namespace Go.Proofs.Ytmifjippdlmpiaa
open Go.RowKit Go.Deep Go.Shelf Go.ChangeShapes Go.WideShapes Go.ChangeAt

theorem bl_size (s : ByteArray) : (bl s).length = s.size := Array.length_toList
theorem ofL_size (l : List UInt8) : (ofL l).size = l.length := by rw [ba_size]; simp [ofL]
theorem turnT_lo (z : Int) (t : Tn) : 1 ≤ (turnT z t).length := by
  obtain ⟨k, ⟨v, a⟩, ⟨u, b⟩⟩ := t
  have h : 1 ≤ (bl (numS (kindT (k, (v, a), (u, b))))).length := by
    have hk : 0 ≤ kindT (k, (v, a), (u, b)) ∧ kindT (k, (v, a), (u, b)) ≤ 3 := by unfold kindT; cases a <;> cases b <;> simp
    have h1 := rNum_back hk.1 (by omega) ByteArray.empty
    have h2 := rNum_less (s := numS (kindT (k, (v, a), (u, b))) ++ ByteArray.empty) (e := 0) (by rw [h1])
    rw [h1] at h2
    rw [bl_size]
    have h3 : (numS (kindT (k, (v, a), (u, b))) ++ ByteArray.empty).size = (numS (kindT (k, (v, a), (u, b)))).size + ByteArray.empty.size := by rw [ByteArray.size_append]
    dsimp only at h2
    omega
  unfold turnT
  simp only [List.length_append]
  omega
theorem turnT_hi {z : Int} {t : Tn} (hz : -1 ≤ z) (h2 : t.1 < 4096) : (turnT z t).length ≤ 36 := by
  obtain ⟨k, ⟨v, a⟩, ⟨u, b⟩⟩ := t
  dsimp only at h2
  have h1 := numS_size (n := k - z - 1) (by omega)
  have h2 := numS_size (n := kindT (k, (v, a), (u, b))) (by unfold kindT; cases a <;> cases b <;> simp)
  have h3 := wholeS_size v
  have h4 := wholeS_size (u - v)
  unfold turnT
  simp only [List.length_append, bl_size]
  cases a <;> cases b <;> simp only [if_true, Bool.false_eq_true, if_false, bl_size, List.length_nil] <;> omega
theorem turnsT_hi : ∀ (l : List Tn) (z : Int), -1 ≤ z → chkF z l = true → (turnsT z l).length ≤ 36 * l.length
  | [], _, _, _ => by simp [turnsT]
  | t :: r, z, hz, h => by
    obtain ⟨h1, h2, _, _, _, h6⟩ := chkF_cons h
    have := turnsT_hi r _ (by omega) h6
    have := turnT_hi (z := z) (t := t) hz h2
    show (turnT z t ++ turnsT t.1 r).length ≤ _
    rw [List.length_append, List.length_cons]
    omega
theorem textD_hi {l : List Tn} (h : chkB l = true) (hl : l.length ≤ 100000) : (textD l).length ≤ 36 * l.length + 9 := by
  rw [show textD l = bl (numS (l.length : Int)) ++ turnsT (-1) l from if_pos h, List.length_append, bl_size]
  have := numS_size (n := (l.length : Int)) (by omega)
  have := turnsT_hi l (-1) (by omega) h
  omega
theorem turnsT_lo : ∀ (l : List Tn) (z : Int), l.length ≤ (turnsT z l).length
  | [], _ => by simp
  | t :: r, z => by
    have := turnsT_lo r t.1
    have := turnT_lo z t
    show _ ≤ (turnT z t ++ turnsT t.1 r).length
    rw [List.length_append, List.length_cons]
    omega
theorem readD_len {s : ByteArray} (h : (readD s).2 = 0) : (readD s).1.length ≤ s.size := by
  obtain ⟨h1, h2⟩ := readD_once h
  have h3 := congrArg ByteArray.size h2
  rw [ofL_size, show textD (readD s).1 = bl (numS ((readD s).1.length : Int)) ++ turnsT (-1) (readD s).1 from if_pos h1, List.length_append] at h3
  have := turnsT_lo (readD s).1 (-1)
  omega
theorem fewL_any (ab : Option Addr) (nb cb : Nat) (w : World) (hb : (nb : Int) ≤ 9223372036854775807) :
    Calls Try.prog 11 #[.slice none 0 0, .slice none 0 0, .slice ab nb cb, .slice none 0 0] w (Gives w (.bool (decide (nb ≤ 100)))) := by
  by_cases h2 : nb ≤ 100
  · have z2 : (nb : Int) ≤ 100 := by omega
    go_enter Try.func11, Try.ntmps11
    go_wp2
    go_ret
    exact ⟨by simp [h2], Below.refl _ _⟩
  · have z2 : ¬ (nb : Int) ≤ 100 := by omega
    go_enter Try.func11, Try.ntmps11
    go_wp2
    go_ret
    exact ⟨by simp, Below.refl _ _⟩
def zM : Value := .agg #[.int .i64 0, .int .i64 0, .int .i64 0, .slice none 0 0, .int .i64 0, .int .i64 0, .int .i64 0]
theorem textD_ne {l : List Tn} (h : chkB l = true) : (ofL (textD l)).toList.isEmpty = false := by
  have h1 := readD_back (l := l) h
  rw [ByteArray.toList_eq]
  cases hq : (ofL (textD l)).data.toList with
  | cons a t => rfl
  | nil =>
    exfalso
    have h2 : (ofL (textD l)).data.toList.length = 0 := by rw [hq]; rfl
    have h3 : (textD l).length = 0 := by simpa [ofL] using h2
    rw [show textD l = bl (numS (l.length : Int)) ++ turnsT (-1) l from if_pos h, List.length_append, bl_size] at h3
    have h4 := turnsT_lo l (-1)
    have h5 : l.length = 0 := by omega
    rw [h5] at h3
    have h6 := rNum_back (n := 0) (by omega) (by omega) ByteArray.empty
    have h7 := rNum_less (s := numS 0 ++ ByteArray.empty) (e := 0) (by rw [h6])
    rw [h6, ByteArray.size_append] at h7
    dsimp only at h7
    have : (numS ((0 : Nat) : Int)).size = (numS 0).size := rfl
    omega
set_option maxRecDepth 100000 in
set_option maxHeartbeats 2000000 in
theorem rsame0_any (w : World) : Calls Try.prog 37 #[.agg #[.int .i64 0, .int .i64 0, .int .i64 0, .slice none 0 0, .int .i64 0, .int .i64 0, .int .i64 0], .agg #[.int .i64 0, .int .i64 0, .int .i64 0, .slice none 0 0, .int .i64 0, .int .i64 0, .int .i64 0]] w (Gives w (.bool true)) := by
  have NE : ∀ w, (binOp .neq 71 (.agg #[.int .i64 0, .int .i64 0]) (.agg #[.int .i64 0, .int .i64 0])).run Try.prog w = .ok (.bool false) w := fun _ => by kernel_rfl
  have B : Below w.heap.size w ((w.alloc (.cells #[.int .i64 0, .int .i64 0, .int .i64 0, .slice none 0 0, .int .i64 0, .int .i64 0, .int .i64 0] 73)).alloc (.cells #[.int .i64 0, .int .i64 0, .int .i64 0, .slice none 0 0, .int .i64 0, .int .i64 0, .int .i64 0] 73)) := ((Below.refl _ _).alloc (Nat.le_refl _) _).alloc (by simp) _
  go_enter Try.func37, Try.ntmps37
  go_wp2_with fail
  refine wp_loop_rounds 1 ?_
  rw [rounds_succ]
  go_wp2_with fail
  go_ret
  exact ⟨rfl, B⟩
theorem fewL_no {m : Nat} (hs : ¬ m ≤ 100) : decide (m ≤ 100) = false := decide_eq_false hs
set_option maxRecDepth 100000 in
set_option maxHeartbeats 2000000 in
theorem back_tt (ab : Option Addr) (nb cb : Nat) (l : List Tn) (s : ByteArray) (w : World) (hb : RArg encT 5 w ab nb cb l) (hl : l.length ≤ 100) (hbig : (s.size : Int) ≤ 2000) (ht : chkB l = true) (hx : (readD s).2 = 0) :
    Calls Try.prog 10 #[.slice ab nb cb, .string s] w (TruePost w) := by
  obtain rfl := hb.1
  have CF := fewL_any ab l.length cb w hb.2.1
  rw [decide_eq_true hl] at CF
  have CT := fun W (h : Below w.heap.size w W) => dtext_any ab l.length cb l W (hb.below h) (by omega)
  have CR := fun W => dread_any s W (by omega)
  have hone := readD_once hx
  have hlen := readD_len hx
  rw [hx] at CR
  generalize (readD s).1 = M at CR hone hlen
  have CM := Lib.hid (fun va vc W (h : RArg encT 5 W va M.length vc M) => (show Calls Try.prog 35 #[.slice va M.length vc] W (Gives W (.string s)) by have := dtext_any va M.length vc M W h (by omega); rwa [show (⟨(textD M).toArray⟩ : ByteArray) = s from hone.2] at this))
  have CK := Lib.hid (fun va vc W (h : RArg encT 5 W va M.length vc M) => (show Calls Try.prog 20 #[.slice va M.length vc] W (Gives W (.bool true)) by have := dcheck_any va M.length vc M W h; rwa [hone.1] at this))
  clear hone hx
  have hTn := textD_ne ht
  have hTs : ((ofL (textD l)).size : Int) ≤ 1000000000000 := by rw [ofL_size]; have := textD_hi ht (by omega); omega
  have hTb := readD_back ht (by omega)
  have CRT := fun W => dread_any (ofL (textD l)) W hTs
  rw [hTb] at CRT
  replace CT : ∀ W, Below w.heap.size w W → Calls Try.prog 35 #[.slice ab l.length cb] W (Gives W (.string (ofL (textD l)))) := CT
  generalize ofL (textD l) = T at CT CRT hTn
  replace CRT := Lib.hid CRT
  clear hTs hTb ht
  replace CT := Lib.hid CT
  replace CR := Lib.hid CR
  have HB := Lib.hid hb
  clear hb
  go_enter Try.func10, Try.ntmps10
  go_wp2_with fail
  refine CF.mono ?_
  rintro e w0 ⟨rfl, b0⟩
  clear CF
  go_wp2_with fail
  refine (CT.out _ b0).mono ?_
  rintro e w1 ⟨rfl, b1⟩
  have B1 := below_next b0 b1
  go_wp2_with fail
  refine (CRT.out _).mono ?_
  rintro e w1a ⟨v, rfl, hO, b1a⟩
  obtain ⟨ta, tc, rfl, hT⟩ := OwnsR.arg encT_len hO
  have B1a := below_next B1 b1a
  clear hO
  go_wp2_with fail
  refine (refsT_any _ _ _ l _ (by omega) hT).mono ?_
  rintro e w1b ⟨ra, rn, rc, rfl, hR1, b1b⟩
  have B1b := below_next B1a b1b
  go_wp2_with fail
  refine (refsT_any _ _ _ l _ (by omega) (HB.out.below B1b)).mono ?_
  rintro e w1c ⟨sa, sn, sc, rfl, hR2, b1c⟩
  have B1c := below_next B1b b1c
  go_wp2_with fail
  refine (sameT_any _ _ _ _ _ _ l _ (hR1.below b1c) hR2).mono ?_
  rintro e w1d ⟨rfl, b1d⟩
  have B1d := below_next B1c b1d
  clear hT hR1 hR2 b1a b1b b1c b1d
  go_wp2_with fail
  refine (CR.out _).mono ?_
  rintro e w2 ⟨v, rfl, hO, b2⟩
  obtain ⟨va, vc, rfl, hM⟩ := OwnsR.arg encT_len hO
  have B2 := below_next B1d b2
  clear hO
  go_wp2_with fail
  refine (awake23_any _).mono ?_
  rintro e w3 ⟨rfl, b3⟩
  have B3 := below_next B2 b3
  go_wp2_with fail
  refine (CM.out _ _ _ (hM.below b3)).mono ?_
  rintro e w4 ⟨rfl, b4⟩
  have B4 := below_next B3 b4
  go_wp2_with fail
  refine (CK.out _ _ _ (hM.below (below_next b3 b4))).mono ?_
  rintro e w5 ⟨rfl, b5⟩
  have B5 := below_next B4 b5
  go_wp2_with fail
  refine (rsame0_any _).mono ?_
  rintro e w6 ⟨rfl, b6⟩
  go_wp2_with fail
  go_ret
  exact ⟨by simp, below_next B5 b6⟩
set_option maxRecDepth 100000 in
set_option maxHeartbeats 2000000 in
theorem back_tf (ab : Option Addr) (nb cb : Nat) (l : List Tn) (s : ByteArray) (w : World) (hb : RArg encT 5 w ab nb cb l) (hl : l.length ≤ 100) (hbig : (s.size : Int) ≤ 2000) (ht : chkB l = true) (hx : (readD s).2 = 3) (hm : (readD s).1 = []) :
    Calls Try.prog 10 #[.slice ab nb cb, .string s] w (TruePost w) := by
  obtain rfl := hb.1
  have CF := fewL_any ab l.length cb w hb.2.1
  rw [decide_eq_true hl] at CF
  have CT := fun W (h : Below w.heap.size w W) => dtext_any ab l.length cb l W (hb.below h) (by omega)
  have CR := fun W => dread_any s W (by omega)
  rw [hx, hm] at CR
  clear hx hm
  have hTn := textD_ne ht
  have hTs : ((ofL (textD l)).size : Int) ≤ 1000000000000 := by rw [ofL_size]; have := textD_hi ht (by omega); omega
  have hTb := readD_back ht (by omega)
  have CRT := fun W => dread_any (ofL (textD l)) W hTs
  rw [hTb] at CRT
  replace CT : ∀ W, Below w.heap.size w W → Calls Try.prog 35 #[.slice ab l.length cb] W (Gives W (.string (ofL (textD l)))) := CT
  generalize ofL (textD l) = T at CT CRT hTn
  replace CRT := Lib.hid CRT
  clear hTs hTb ht
  replace CT := Lib.hid CT
  replace CR := Lib.hid CR
  have HB := Lib.hid hb
  clear hb
  go_enter Try.func10, Try.ntmps10
  go_wp2_with fail
  refine CF.mono ?_
  rintro e w0 ⟨rfl, b0⟩
  clear CF
  go_wp2_with fail
  refine (CT.out _ b0).mono ?_
  rintro e w1 ⟨rfl, b1⟩
  have B1 := below_next b0 b1
  go_wp2_with fail
  refine (CRT.out _).mono ?_
  rintro e w1a ⟨v, rfl, hO, b1a⟩
  obtain ⟨ta, tc, rfl, hT⟩ := OwnsR.arg encT_len hO
  have B1a := below_next B1 b1a
  clear hO
  go_wp2_with fail
  refine (refsT_any _ _ _ l _ (by omega) hT).mono ?_
  rintro e w1b ⟨ra, rn, rc, rfl, hR1, b1b⟩
  have B1b := below_next B1a b1b
  go_wp2_with fail
  refine (refsT_any _ _ _ l _ (by omega) (HB.out.below B1b)).mono ?_
  rintro e w1c ⟨sa, sn, sc, rfl, hR2, b1c⟩
  have B1c := below_next B1b b1c
  go_wp2_with fail
  refine (sameT_any _ _ _ _ _ _ l _ (hR1.below b1c) hR2).mono ?_
  rintro e w1d ⟨rfl, b1d⟩
  have B1d := below_next B1c b1d
  clear hT hR1 hR2 b1a b1b b1c b1d
  go_wp2_with fail
  refine (CR.out _).mono ?_
  rintro e w2 ⟨v, rfl, hO, b2⟩
  obtain ⟨va, vc, rfl, hM⟩ := OwnsR.arg encT_len hO
  have B2 := below_next B1d b2
  clear hO
  go_wp2_with fail
  refine (awake23_any _).mono ?_
  rintro e w3 ⟨rfl, b3⟩
  have B3 := below_next B2 b3
  go_wp2_with fail
  refine (rsame0_any _).mono ?_
  rintro e w6 ⟨rfl, b6⟩
  go_wp2_with fail
  go_ret
  exact ⟨by simp, below_next B3 b6⟩
set_option maxRecDepth 100000 in
set_option maxHeartbeats 2000000 in
theorem back_ft (ab : Option Addr) (nb cb : Nat) (l : List Tn) (s : ByteArray) (w : World) (hb : RArg encT 5 w ab nb cb l) (hl : l.length ≤ 100) (hbig : (s.size : Int) ≤ 2000) (ht : chkB l = false) (hx : (readD s).2 = 0) :
    Calls Try.prog 10 #[.slice ab nb cb, .string s] w (TruePost w) := by
  obtain rfl := hb.1
  have CF := fewL_any ab l.length cb w hb.2.1
  rw [decide_eq_true hl] at CF
  have CT := fun W (h : Below w.heap.size w W) => dtext_any ab l.length cb l W (hb.below h) (by omega)
  have CR := fun W => dread_any s W (by omega)
  have hone := readD_once hx
  have hlen := readD_len hx
  rw [hx] at CR
  generalize (readD s).1 = M at CR hone hlen
  have CM := Lib.hid (fun va vc W (h : RArg encT 5 W va M.length vc M) => (show Calls Try.prog 35 #[.slice va M.length vc] W (Gives W (.string s)) by have := dtext_any va M.length vc M W h (by omega); rwa [show (⟨(textD M).toArray⟩ : ByteArray) = s from hone.2] at this))
  have CK := Lib.hid (fun va vc W (h : RArg encT 5 W va M.length vc M) => (show Calls Try.prog 20 #[.slice va M.length vc] W (Gives W (.bool true)) by have := dcheck_any va M.length vc M W h; rwa [hone.1] at this))
  clear hone hx
  rw [show textD l = [] from if_neg (by rw [ht]; simp)] at CT
  clear ht
  replace CT := Lib.hid CT
  replace CR := Lib.hid CR
  have HB := Lib.hid hb
  clear hb
  go_enter Try.func10, Try.ntmps10
  go_wp2_with fail
  refine CF.mono ?_
  rintro e w0 ⟨rfl, b0⟩
  clear CF
  go_wp2_with fail
  refine (CT.out _ b0).mono ?_
  rintro e w1 ⟨rfl, b1⟩
  have B1 := below_next b0 b1
  go_wp2_with fail
  refine (CR.out _).mono ?_
  rintro e w2 ⟨v, rfl, hO, b2⟩
  obtain ⟨va, vc, rfl, hM⟩ := OwnsR.arg encT_len hO
  have B2 := below_next B1 b2
  clear hO
  go_wp2_with fail
  refine (awake23_any _).mono ?_
  rintro e w3 ⟨rfl, b3⟩
  have B3 := below_next B2 b3
  go_wp2_with fail
  refine (CM.out _ _ _ (hM.below b3)).mono ?_
  rintro e w4 ⟨rfl, b4⟩
  have B4 := below_next B3 b4
  go_wp2_with fail
  refine (CK.out _ _ _ (hM.below (below_next b3 b4))).mono ?_
  rintro e w5 ⟨rfl, b5⟩
  have B5 := below_next B4 b5
  go_wp2_with fail
  refine (rsame0_any _).mono ?_
  rintro e w6 ⟨rfl, b6⟩
  go_wp2_with fail
  go_ret
  exact ⟨by simp, below_next B5 b6⟩
set_option maxRecDepth 100000 in
set_option maxHeartbeats 2000000 in
theorem back_ff (ab : Option Addr) (nb cb : Nat) (l : List Tn) (s : ByteArray) (w : World) (hb : RArg encT 5 w ab nb cb l) (hl : l.length ≤ 100) (hbig : (s.size : Int) ≤ 2000) (ht : chkB l = false) (hx : (readD s).2 = 3) (hm : (readD s).1 = []) :
    Calls Try.prog 10 #[.slice ab nb cb, .string s] w (TruePost w) := by
  obtain rfl := hb.1
  have CF := fewL_any ab l.length cb w hb.2.1
  rw [decide_eq_true hl] at CF
  have CT := fun W (h : Below w.heap.size w W) => dtext_any ab l.length cb l W (hb.below h) (by omega)
  have CR := fun W => dread_any s W (by omega)
  rw [hx, hm] at CR
  clear hx hm
  rw [show textD l = [] from if_neg (by rw [ht]; simp)] at CT
  clear ht
  replace CT := Lib.hid CT
  replace CR := Lib.hid CR
  have HB := Lib.hid hb
  clear hb
  go_enter Try.func10, Try.ntmps10
  go_wp2_with fail
  refine CF.mono ?_
  rintro e w0 ⟨rfl, b0⟩
  clear CF
  go_wp2_with fail
  refine (CT.out _ b0).mono ?_
  rintro e w1 ⟨rfl, b1⟩
  have B1 := below_next b0 b1
  go_wp2_with fail
  refine (CR.out _).mono ?_
  rintro e w2 ⟨v, rfl, hO, b2⟩
  obtain ⟨va, vc, rfl, hM⟩ := OwnsR.arg encT_len hO
  have B2 := below_next B1 b2
  clear hO
  go_wp2_with fail
  refine (awake23_any _).mono ?_
  rintro e w3 ⟨rfl, b3⟩
  have B3 := below_next B2 b3
  go_wp2_with fail
  refine (rsame0_any _).mono ?_
  rintro e w6 ⟨rfl, b6⟩
  go_wp2_with fail
  go_ret
  exact ⟨by simp, below_next B3 b6⟩
set_option maxRecDepth 100000 in
set_option maxHeartbeats 2000000 in
theorem deltaBack_walk (ab : Option Addr) (nb cb : Nat) (l : List Tn) (s : ByteArray) (w : World) (hb : RArg encT 5 w ab nb cb l) (hs : s.size ≤ maxLen) :
    Calls Try.prog 10 #[.slice ab nb cb, .string s] w (TruePost w) := by
  have hsz : (s.size : Int) ≤ 9223372036854775807 := by unfold maxLen at hs; omega
  clear hs
  by_cases hl : l.length ≤ 100
  · by_cases hbig : (s.size : Int) ≤ 2000
    · cases ht : chkB l with
      | true =>
        rcases readD_err s with hx | ⟨hx, hm⟩
        · exact back_tt ab nb cb l s w hb hl hbig ht hx
        · exact back_tf ab nb cb l s w hb hl hbig ht hx hm
      | false =>
        rcases readD_err s with hx | ⟨hx, hm⟩
        · exact back_ft ab nb cb l s w hb hl hbig ht hx
        · exact back_ff ab nb cb l s w hb hl hbig ht hx hm
    · obtain rfl := hb.1
      have CF := fewL_any ab l.length cb w hb.2.1
      rw [decide_eq_true hl] at CF
      clear hb
      go_enter Try.func10, Try.ntmps10
      go_wp2_with (first
        | (go_at_call 11; (with_reducible refine CF.mono ?_); rintro e w0 ⟨rfl, b0⟩)
        | (go_at_call 12; (with_reducible refine (awake23_any _).mono ?_); rintro e w5 ⟨rfl, b5⟩))
      go_ret
      exact ⟨rfl, below_next b0 b5⟩
  · obtain rfl := hb.1
    have CF := fewL_any ab l.length cb w hb.2.1
    rw [decide_eq_false hl] at CF
    clear hb
    go_enter Try.func10, Try.ntmps10
    go_wp2_with (first
      | (go_at_call 11; (with_reducible refine CF.mono ?_); rintro e w0 ⟨rfl, b0⟩)
      | (go_at_call 12; (with_reducible refine (awake23_any _).mono ?_); rintro e w5 ⟨rfl, b5⟩))
    go_ret
    exact ⟨rfl, below_next b0 b5⟩
end Go.Proofs.Ytmifjippdlmpiaa
