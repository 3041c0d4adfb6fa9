/-
  CONTRACT of Verify.
-/
import Derived.Test.YtjjadappjapjhaaMkN
namespace Go.Proofs.Ytjjadappjapjhaa
open Go.RowKit Go.Deep

def uL (l : List (BitVec 32)) : List Value := l.map fun x => Value.int .u32 (regI x)
theorem uL_len (l : List (BitVec 32)) : (uL l).length = l.length := by simp [uL]
theorem uL_one (l : List (BitVec 32)) : ∀ v ∈ uL l, v.oneCell' = true := by
  intro v hv
  simp [uL] at hv
  obtain ⟨x, _, rfl⟩ := hv
  rfl
theorem arrK_uL (l : List (BitVec 32)) : arrK l = (uL l).toArray := rfl
theorem arrK_set (l : List (BitVec 32)) (i : Nat) (x : BitVec 32) : (arrK l).setIfInBounds i (.int .u32 (regI x)) = arrK (l.set i x) := by
  unfold arrK
  rw [← Array.toList_inj]
  simp only [Array.toList_setIfInBounds, List.map_set]
theorem splice_uL (K X : List (BitVec 32)) (off : Nat) : splice (uL K) off (uL X) = uL (splice K off X) := by
  unfold splice
  simp [uL]
theorem splice_len (K X : List (BitVec 32)) (off : Nat) (h : off + X.length ≤ K.length) : (splice K off X).length = K.length := by
  unfold splice
  rw [List.length_append, List.length_append, List.length_take, List.length_drop]
  omega
def zer16 : List (BitVec 32) := List.replicate 16 0#32
theorem zer16_len : zer16.length = 16 := rfl
theorem regI_eq (x y : BitVec 32) : (regI x == regI y) = (x == y) := by
  by_cases h : x = y
  · subst h; rw [beq_self_eq_true, beq_self_eq_true]
  · have : regI x ≠ regI y := fun e => h (regI_inj e)
    rw [beq_eq_false_iff_ne.2 this, beq_eq_false_iff_ne.2 h]
/-- A block of the proof, with a number in its place. -/
def inK (B : List (BitVec 32)) (s : Nat) (x : BitVec 32) : List (BitVec 32) := B.take s ++ x :: B.drop s
theorem inK_is (B Z : List (BitVec 32)) (s : Nat) (x : BitVec 32) (hB : B.length = 15) (hZ : Z.length = 16) (hs : s < 16) :
    splice ((splice Z 0 (B.take s)).set s x) (s + 1) (B.drop s) = inK B s x := by
  have ht : (B.take s).length = s := by rw [List.length_take, hB]; omega
  have hd : (B.drop s).length = 15 - s := by rw [List.length_drop, hB]
  have h1 : splice Z 0 (B.take s) = B.take s ++ Z.drop s := by
    unfold splice
    rw [List.take_zero, List.nil_append, ht, Nat.zero_add]
  have h2 : (B.take s ++ Z.drop s).set s x = B.take s ++ x :: Z.drop (s + 1) := by
    rw [List.set_append, if_neg (by omega), ht, Nat.sub_self]
    rw [show Z.drop s = Z[s]'(by omega) :: Z.drop (s + 1) from List.drop_eq_getElem_cons (by omega)]
    rfl
  rw [h1, h2]
  unfold splice inK
  have e1 : B.take s ++ x :: Z.drop (s + 1) = (B.take s ++ [x]) ++ Z.drop (s + 1) := by simp
  have e2 : (B.take s ++ [x]).length = s + 1 := by rw [List.length_append, ht]; rfl
  have e3 : (B.take s ++ x :: Z.drop (s + 1)).drop 16 = [] := List.drop_eq_nil_of_le (by rw [List.length_append, List.length_cons, ht, List.length_drop, hZ]; omega)
  rw [hd, show s + 1 + (15 - s) = 16 by omega, e3, e1, List.take_left' e2]
  simp
theorem inK_len (B : List (BitVec 32)) (s : Nat) (x : BitVec 32) (hB : B.length = 15) (hs : s < 16) : (inK B s x).length = 16 := by
  unfold inK
  rw [List.length_append, List.length_cons, List.length_take, List.length_drop, hB]
  omega
def blkP (pf : List (BitVec 32)) (m : Nat) : List (BitVec 32) := (pf.drop (m * 15)).take 15
theorem blkP_len {pf : List (BitVec 32)} (h : pf.length = 45) {m : Nat} (hm : m < 3) : (blkP pf m).length = 15 := by
  unfold blkP
  rw [List.length_take, List.length_drop, h]
  omega
/-- Where a proof leads from a number. -/
def verN (pf : List (BitVec 32)) (k : Nat) (n0 : BitVec 32) : Nat → BitVec 32
  | 0 => n0
  | m + 1 => overN (inK (blkP pf m) (k / 16 ^ m % 16) (verN pf k n0 m))
theorem RIn.atU {w : World} {B : Nat} {b off : Nat} {l : List (BitVec 32)} (h : RIn encU 1 w B (some ⟨b, off, none⟩) l) (s m : Nat) : ∀ j u, (uL ((l.drop s).take m))[j]? = some u → w.cell? ((⟨b, off + s, none⟩ : Addr).add j) = some u := by
  intro j u hj
  unfold uL at hj
  rw [List.getElem?_map, List.getElem?_take] at hj
  split at hj
  · rw [List.getElem?_drop] at hj
    have hlt : s + j < l.length := by
      rcases Nat.lt_or_ge (s + j) l.length with h | h
      · exact h
      · rw [List.getElem?_eq_none h] at hj; cases hj
    obtain ⟨b', off', e, _, hc⟩ := h (s + j) hlt
    cases e
    have := hc 0 _ rfl
    rw [addr_add]
    rw [List.getElem?_eq_getElem hlt] at hj
    rw [getElem!_pos l (s + j) hlt, Nat.mul_one, Nat.add_zero, ← Nat.add_assoc] at this
    rw [this]
    simpa using hj
  · cases hj
theorem Try.elemU : Try.prog.elem 43 = 28 := by kernel_rfl
theorem Try.undU : Try.prog.underlying 43 = some (.slice (Try.prog.elem 43)) := by rw [Try.elemU]; exact Try.underlying43
theorem sizeElemU (w : World) : (sizeOf (Try.prog.elem 43)).run Try.prog w = .ok 1 w := by rw [Try.elemU]; exact sizeU w
theorem slU_lh (b off n c m : Nat) (hc : 45 ≤ c) (hm : m < 3) (w : World) : (Instr.slice 43 (.slice (some ⟨b, off, none⟩) n c) (some (.int .i64 ((m : Int) * 15))) (some (.int .i64 (((m : Int) + 1) * 15))) none).run Try.prog w = .ok (.slice (some ⟨b, off + m * 15, none⟩) 15 (c - m * 15)) w := by
  rw [run_slice_lh w 43 (some ⟨b, off, none⟩) n c Try.undU .i64 .i64 _ _ (by omega) (by omega) (by omega), sizeElemU]
  simp only [sliced, Result.andThen_ok]
  rw [show ((m : Int) * 15).toNat = m * 15 by omega, show (((m : Int) + 1) * 15).toNat = m * 15 + 15 by omega, if_neg (by omega)]
  simp [addr_add]
theorem slU_h (a : Addr) (n c s : Nat) (hc : s ≤ c) (hs : 0 < c) (w : World) : (Instr.slice 43 (.slice (some a) n c) none (some (.int .i64 (s : Int))) none).run Try.prog w = .ok (.slice (some a) s c) w := by
  rw [run_slice_h w 43 (some a) n c Try.undU .i64 _ (by omega) (by omega), sizeElemU]
  simp only [sliced, Result.andThen_ok]
  by_cases h : c = 0
  · omega
  · rw [if_neg h]
    simp [Addr.add]
theorem slU_l (b off c s : Nat) (hc : 15 ≤ c) (hs : s < 15) (w : World) : (Instr.slice 43 (.slice (some ⟨b, off, none⟩) 15 c) (some (.int .i64 (s : Int))) none none).run Try.prog w = .ok (.slice (some ⟨b, off + s, none⟩) (15 - s) (c - s)) w := by
  rw [run_slice_l w 43 (some ⟨b, off, none⟩) 15 c Try.undU .i64 _ (by omega) (by omega), sizeElemU]
  simp only [sliced, Result.andThen_ok]
  rw [if_neg (by omega)]
  simp [addr_add]
theorem slU_z (b off c : Nat) : ∃ sp : Option Addr, ∀ w : World, (Instr.slice 43 (.slice (some ⟨b, off, none⟩) 15 c) (some (.int .i64 15)) none none).run Try.prog w = .ok (.slice sp 0 (c - 15)) w := by
  by_cases h : c = 15
  · refine ⟨some ⟨b, off, none⟩, fun w => ?_⟩
    rw [run_slice_l w 43 (some ⟨b, off, none⟩) 15 c Try.undU .i64 _ (by omega) (by omega), sizeElemU]
    simp only [sliced, Result.andThen_ok]
    rw [if_pos (by omega)]
    rfl
  · refine ⟨some ⟨b, off + 15, none⟩, fun w => ?_⟩
    rw [run_slice_l w 43 (some ⟨b, off, none⟩) 15 c Try.undU .i64 _ (by omega) (by omega), sizeElemU]
    simp only [sliced, Result.andThen_ok]
    rw [if_neg (by omega)]
    simp [addr_add]
set_option maxRecDepth 100000 in
theorem verify_bad (r k v : Int) (sm : Bool) (a : Option Addr) (n c : Nat) (w : World) (hz : (n : Int) ≤ 9223372036854775807) (h : n ≠ 45 ∨ keyB k = false) :
    Calls Try.prog 26 #[.int .u32 r, .int .i64 k, .agg #[.int .i64 v, .bool sm], .slice a n c] w (Gives w (.bool false)) := by
  by_cases hn : n = 45
  · have hk := h.resolve_left (fun q => q hn)
    subst hn
    have KY := Lib.hid (fun W => isKeyF_any k W hk)
    clear h hk
    go_enter Try.func26, Try.ntmps26
    go_wp2_with (first | (go_at_call 41; (with_reducible refine (KY.out _).mono ?_); rintro e w4 ⟨rfl, rfl⟩) | fail)
    go_ret
    exact ⟨rfl, (Below.refl _ _).alloc (Nat.le_refl _) _⟩
  · have hn1 : ((n : Int) != 45) = true := by simp; omega
    clear h
    go_enter Try.func26, Try.ntmps26
    go_wp2_with fail
    go_ret
    exact ⟨rfl, (Below.refl _ _).alloc (Nat.le_refl _) _⟩
set_option maxRecDepth 100000 in
set_option maxHeartbeats 4000000 in
theorem verify_any (k : Nat) (root : BitVec 32) (v : Int) (sm : Bool) (a : Option Addr) (c : Nat) (pf : List (BitVec 32)) (w : World) (h : RArg encU 1 w a 45 c pf) (hk : k < 4096) :
    Calls Try.prog 26 #[.int .u32 (regI root), .int .i64 (k : Int), .agg #[.int .i64 v, .bool sm], .slice a 45 c] w (Gives w (.bool (verN pf k (numO (if sm then some v else none)) 3 == root))) := by
  have hl : pf.length = 45 := h.1.symm
  obtain ⟨b, off, rfl, hb, _⟩ := h.2.2.2.2.spot (by intro e; rw [e] at hl; cases hl)
  have hc45 : 45 ≤ c := by have := h.2.2.1; omega
  have hkb : keyB (k : Int) = true := by unfold keyB; simp; omega
  have KY := Lib.hid (fun W => isKeyT_any (k : Int) W hkb)
  have NU := Lib.hid (fun W => number20_any v sm W)
  obtain ⟨n0, hn0⟩ : ∃ n0, numO (if sm then some v else none) = n0 := ⟨_, rfl⟩
  rw [hn0] at NU
  rw [hn0]
  obtain ⟨W1, hW1⟩ : ∃ W1, w.alloc (.cells #[.int .i64 v, .bool sm] 25) = W1 := ⟨_, rfl⟩
  have b1 : Below w.heap.size w W1 := by rw [← hW1]; exact (Below.refl _ _).alloc (Nat.le_refl _) _
  have r1 : W1.heap[w.heap.size]? = some (.cells #[.int .i64 v, .bool sm] 25 (0, 0)) := by rw [← hW1]; exact heap_alloc_new _ _
  obtain ⟨z0, z1⟩ := cells2M r1
  have H := Lib.hid h
  have HL := Lib.hid hl
  have B1 := Lib.hid b1
  clear h hl hkb hn0 b1 r1
  go_enter Try.func26, Try.ntmps26
  go_wp2_with (first | (go_at_call 41; (with_reducible refine (KY.out _).mono ?_); rintro e w4 ⟨rfl, rfl⟩) | (go_at_call 12; (with_reducible refine (NU.out _).mono ?_); rintro e w2 ⟨rfl, hb2⟩) | fail)
  have HB2 := Lib.hid (below_next B1.out hb2)
  clear z0 z1 hb2
  go_loopw [9, 10, 26] (fun x t i wr => ∃ m : Nat, i = .int .i64 (m : Int) ∧ m ≤ 3 ∧ t = .int .i64 ((k / 16 ^ m : Nat) : Int) ∧ x = .int .u32 (regI (verN pf k n0 m)) ∧ Hid (Below w.heap.size w wr))
    (fun _ _ i _ => 3 - (intOf i).toNat)
  case atStart => exact ⟨0, rfl, by omega, by simp, rfl, HB2⟩
  case round =>
    obtain ⟨m, rfl, hm, rfl, rfl, HB⟩ := hrel
    by_cases hm3 : m < 3
    · have hnext : k / 16 ^ (m + 1) = k / 16 ^ m / 16 := by rw [Nat.pow_succ, Nat.div_div_eq_div_mul]
      have hvs : verN pf k n0 (m + 1) = overN (inK (blkP pf m) (k / 16 ^ m % 16) (verN pf k n0 m)) := rfl
      obtain ⟨q, hq⟩ : ∃ q, k / 16 ^ m = q := ⟨_, rfl⟩
      rw [hq] at hnext hvs
      rw [hq]
      have hq4 : q < 4096 := by rw [← hq]; exact Nat.lt_of_le_of_lt (Nat.div_le_self _ _) hk
      obtain ⟨x, hx⟩ : ∃ x, verN pf k n0 m = x := ⟨_, rfl⟩
      rw [hx] at hvs
      rw [hx]
      obtain ⟨s, hs⟩ : ∃ s, q % 16 = s := ⟨_, rfl⟩
      rw [hs] at hvs
      have hs16 : s < 16 := by omega
      have hsi : (q : Int) % 16 = (s : Int) := by omega
      have hBl := blkP_len HL.out hm3
      have HVS := Lib.hid hvs
      have HNX := Lib.hid hnext
      have HBL := Lib.hid hBl
      clear hnext hvs hq hx hs hBl
      have hsz := HB.out.size
      have E7 := fun w => slU_lh b off 45 c m hc45 hm3 w
      have hmi : (m : Int) < 3 := by omega
      go_upto_region 9 with fail
      rw [hsi]
      obtain ⟨W3, hW3⟩ : ∃ W3, wr.alloc (.cells zero16 101) = W3 := ⟨_, rfl⟩
      have b3 : Below wr.heap.size wr W3 := by rw [← hW3]; exact (Below.refl _ _).alloc (Nat.le_refl _) _
      have r3 : W3.heap[wr.heap.size]? = some (.cells (uL zer16).toArray 101 (0, 0)) := by rw [← hW3]; exact heap_alloc_new _ _
      rw [hW3]
      have HB3 := Lib.hid (show Below w.heap.size w W3 from HB.out.trans (b3.mono hsz))
      have R3 := Lib.hid r3
      clear hW3 b3 r3
      obtain ⟨c2, hc2⟩ : ∃ c2, c - m * 15 = c2 := ⟨_, rfl⟩
      rw [hc2]
      have hc15 : 15 ≤ c2 := by omega
      obtain ⟨o2, ho2⟩ : ∃ o2, off + m * 15 = o2 := ⟨_, rfl⟩
      rw [ho2]
      have HP1 := Lib.hid (fun W (hb : Below w.heap.size w W) => by
        have := RIn.atU (b := b) (off := off) (H.out.below (hb.mono (Nat.le_refl _))).2.2.2.2 (m * 15) s
        rw [ho2] at this
        exact this)
      have HP2 := Lib.hid (fun W (hb : Below w.heap.size w W) => by
        have := RIn.atU (b := b) (off := off) (H.out.below (hb.mono (Nat.le_refl _))).2.2.2.2 (m * 15 + s) (15 - s)
        rw [← Nat.add_assoc, ho2] at this
        exact this)
      have HX1 := Lib.hid (show (pf.drop (m * 15)).take s = (blkP pf m).take s by unfold blkP; rw [List.take_take, Nat.min_eq_left (by omega)])
      have HX2 := Lib.hid (show (pf.drop (m * 15 + s)).take (15 - s) = (blkP pf m).drop s by unfold blkP; rw [List.drop_take, List.drop_drop])
      clear E7 hc2 ho2
      have SA := fun (g : Nat) (w : World) => sl16_all g w
      have E9 := fun (w : World) => slU_h ⟨b, o2, none⟩ 15 c2 s (by omega) (by omega) w
      go_still_tail 4, (by kernel_rfl)
      change wpList _ _ _ _ _ W3.drew
      obtain ⟨W4, hW4⟩ : ∃ W4, W3.drew = W4 := ⟨_, rfl⟩
      have HB4 := Lib.hid (show Below w.heap.size w W4 by rw [← hW4]; exact HB3.out.drew)
      have R4 := Lib.hid (show W4.heap[wr.heap.size]? = some (.cells (uL zer16).toArray 101 (0, 0)) by rw [← hW4]; exact R3.out)
      rw [hW4]
      clear hW4 R3 HB3 SA E9
      go_wp2_with (first | (with_reducible refine wpList_copy_splice rfl (.tmp 38) (.tmp 41) 43 43 rfl 28 Try.underlying43 ?c1 (some ⟨wr.heap.size, 0, none⟩) (some ⟨b, o2, none⟩) 16 16 s c2 rfl rfl wr.heap.size 0 (uL zer16) 101 R4.out (uL ((blkP pf m).take s)) ?c2 ?c3 ?c4 (uL_one _) w.heap.size w HB4.out hsz ?_) | fail)
      case c1 => kernel_rfl
      case c2 => rw [uL_len, List.length_take, HBL.out, Nat.min_eq_left (by omega)]; exact (Nat.min_eq_left (by omega)).symm
      case c3 => exact fun _ j u hj => by have := HP1.out W4 HB4.out j u (by rw [HX1.out]; exact hj); rwa [addr_add] at this
      case c4 => rw [uL_len, uL_len, List.length_take, HBL.out, zer16_len]; omega
      intro W5 R5 HB5
      rw [splice_uL] at R5
      have hK1 : (uL (splice zer16 0 ((blkP pf m).take s))).length = 16 := by rw [uL_len, splice_len _ _ _ (by rw [List.length_take, HBL.out, zer16_len]; omega), zer16_len]
      have c0 : W5.cell? ⟨wr.heap.size, s, none⟩ = some (uL (splice zer16 0 ((blkP pf m).take s)))[s]! := by
        rw [cell_of_row W5 _ _ _ _ _ R5.out, List.getElem?_toArray, List.getElem?_eq_getElem (by rw [hK1]; exact hs16), getElem!_pos _ s (by rw [hK1]; exact hs16)]
      generalize (uL (splice zer16 0 ((blkP pf m).take s)))[s]! = y0 at c0
      have f0 := frozen_of_row W5 wr.heap.size s _ _ R5.out
      clear hK1
      by_cases hs15 : s = 15
      · subst hs15
        have SZ := fun (w : World) => sl16_z wr.heap.size w
        obtain ⟨sp, SP⟩ := slU_z b o2 c2
        go_upto_region 11 with fail
        have HB6 := Lib.hid (show Below w.heap.size w (W5.setCell ⟨wr.heap.size, 15, none⟩ (.int .u32 (regI x))) from HB5.setCell hsz _)
        obtain ⟨W6, hW6⟩ : ∃ W6, W5.setCell ⟨wr.heap.size, 15, none⟩ (.int .u32 (regI x)) = W6 := ⟨_, rfl⟩
        have R6 := Lib.hid (heap_setCell_same W5 wr.heap.size 15 _ _ (.int .u32 (regI x)) R5.out)
        rw [show (uL (splice zer16 0 ((blkP pf m).take 15))).toArray.setIfInBounds 15 (.int .u32 (regI x)) = (uL ((splice zer16 0 ((blkP pf m).take 15)).set 15 x)).toArray from arrK_set _ _ _] at R6
        rw [hW6] at R6 HB6
        rw [hW6]
        clear hW6 c0 f0 R5 HB5
        have hwr : IntKind.i64.wrap ((15 : Int) + 1) = 16 := IntWalk.i64_in _ (by decide)
        have hwr2 : IntKind.i64.wrap 16 = 16 := IntWalk.i64_in _ (by decide)
        go_still_tail 6, (by kernel_rfl)
        change wpList _ _ _ _ _ W6.drew
        obtain ⟨W7, hW7⟩ : ∃ W7, W6.drew = W7 := ⟨_, rfl⟩
        have HB7 := Lib.hid (show Below w.heap.size w W7 by rw [← hW7]; exact HB6.out.drew)
        have e7 : W7.heap[wr.heap.size]? = W6.heap[wr.heap.size]? := by rw [← hW7]; rfl
        have R7 := Lib.hid (e7.trans R6.out)
        clear e7
        rw [hW7]
        clear hW7 R6 HB6 hwr
        go_wp2_with (first | (with_reducible refine wpList_copy_splice rfl (.tmp 48) (.tmp 51) 43 43 rfl 28 Try.underlying43 ?c1 (some ⟨wr.heap.size, 0, none⟩) sp 0 0 0 (c2 - 15) rfl rfl wr.heap.size 16 (uL ((splice zer16 0 ((blkP pf m).take 15)).set 15 x)) 101 R7.out (uL ((blkP pf m).drop 15)) ?c2 ?c3 ?c4 (uL_one _) w.heap.size w HB7.out hsz ?_) | fail)
        case c1 => kernel_rfl
        case c2 => rw [uL_len, List.length_drop, HBL.out]; simp
        case c3 => intro h0; rw [uL_len, List.length_drop, HBL.out] at h0; omega
        case c4 => rw [uL_len, uL_len, List.length_drop, HBL.out, List.length_set, splice_len _ _ _ (by rw [List.length_take, HBL.out, zer16_len]; omega), zer16_len]; omega
        intro W8 R8 HB8
        rw [splice_uL, inK_is _ _ _ _ HBL.out (by rw [zer16_len]) (by omega)] at R8
        have HC8 := Lib.hid (show W8.heap[wr.heap.size]? = some (.cells (arrK (inK (blkP pf m) 15 x)) 101 (0, 0)) from R8)
        have hKl := inK_len (blkP pf m) 15 x HBL.out (by omega)
        have HZ := Lib.hid (show (Try.prog.info? 101).map (·.size) = some (arrK (inK (blkP pf m) 15 x)).size by rw [arrK_size, hKl]; exact Try.size16)
        have SM := Lib.hid (HVS.out ▸ msum_any (inK (blkP pf m) 15 x) W8 hKl)
        have HB8h := Lib.hid HB8
        have hnx := HNX.out
        have HQ := Lib.hid (show (q : Int) / 16 = ((k / 16 ^ (m + 1) : Nat) : Int) by rw [hnx]; omega)
        clear R8 hKl HB8 hnx
        go_wp2_with (first | (refine wpList_load_row rfl 101 _ rfl wr.heap.size rfl _ (arrK (inK (blkP pf m) 15 x)) (0, 0) _ HC8.out Try.under16 rfl HZ.out ?_) | (go_at_call 48; (with_reducible refine SM.out.mono ?_); rintro e w9 ⟨rfl, hb9⟩) | fail)
        go_roundw
        case rel => exact ⟨m + 1, by go_num, by omega, by rw [HQ.out], rfl, Lib.hid (HB8h.out.trans (hb9.mono HB8h.out.size))⟩
        case measure => simp [intOf]; omega
      · have hs14 : s < 15 := by omega
        have SL : ∀ (w : World), (Instr.sliceAt 101 (.pointer (some ⟨wr.heap.size, 0, none⟩)) (some (.int .i64 ((s : Int) + 1))) none none).run Try.prog w = .ok (.slice (some ⟨wr.heap.size, s + 1, none⟩) (15 - s) (15 - s)) w := fun w => by
          have := sl16_l wr.heap.size (s + 1) (by omega) w
          rwa [show ((s + 1 : Nat) : Int) = (s : Int) + 1 by omega, show 16 - (s + 1) = 15 - s by omega] at this
        have SP := fun (w : World) => slU_l b o2 c2 s hc15 (by omega) w
        go_upto_region 11 with fail
        have HB6 := Lib.hid (show Below w.heap.size w (W5.setCell ⟨wr.heap.size, s, none⟩ (.int .u32 (regI x))) from HB5.setCell hsz _)
        obtain ⟨W6, hW6⟩ : ∃ W6, W5.setCell ⟨wr.heap.size, s, none⟩ (.int .u32 (regI x)) = W6 := ⟨_, rfl⟩
        have R6 := Lib.hid (heap_setCell_same W5 wr.heap.size s _ _ (.int .u32 (regI x)) R5.out)
        rw [show (uL (splice zer16 0 ((blkP pf m).take s))).toArray.setIfInBounds s (.int .u32 (regI x)) = (uL ((splice zer16 0 ((blkP pf m).take s)).set s x)).toArray from arrK_set _ _ _] at R6
        rw [hW6] at R6 HB6
        rw [hW6]
        clear hW6 c0 f0 R5 HB5
        have hwr : IntKind.i64.wrap ((s : Int) + 1) = (s : Int) + 1 := IntWalk.i64_in _ (by omega)
        go_still_tail 6, (by kernel_rfl)
        change wpList _ _ _ _ _ W6.drew
        obtain ⟨W7, hW7⟩ : ∃ W7, W6.drew = W7 := ⟨_, rfl⟩
        have HB7 := Lib.hid (show Below w.heap.size w W7 by rw [← hW7]; exact HB6.out.drew)
        have e7 : W7.heap[wr.heap.size]? = W6.heap[wr.heap.size]? := by rw [← hW7]; rfl
        have R7 := Lib.hid (e7.trans R6.out)
        clear e7
        rw [hW7]
        clear hW7 R6 HB6 hwr
        go_wp2_with (first | (with_reducible refine wpList_copy_splice rfl (.tmp 48) (.tmp 51) 43 43 rfl 28 Try.underlying43 ?c1 (some ⟨wr.heap.size, s + 1, none⟩) (some ⟨b, o2 + s, none⟩) (15 - s) (15 - s) (15 - s) (c2 - s) rfl rfl wr.heap.size (s + 1) (uL ((splice zer16 0 ((blkP pf m).take s)).set s x)) 101 R7.out (uL ((blkP pf m).drop s)) ?c2 ?c3 ?c4 (uL_one _) w.heap.size w HB7.out hsz ?_) | fail)
        case c1 => kernel_rfl
        case c2 => rw [uL_len, List.length_drop, HBL.out]; exact (Nat.min_self _).symm
        case c3 => exact fun _ j u hj => by have := HP2.out W7 HB7.out j u (by rw [HX2.out]; exact hj); rwa [addr_add] at this
        case c4 => rw [uL_len, uL_len, List.length_drop, HBL.out, List.length_set, splice_len _ _ _ (by rw [List.length_take, HBL.out, zer16_len]; omega), zer16_len]; omega
        intro W8 R8 HB8
        rw [splice_uL, inK_is _ _ _ _ HBL.out (by rw [zer16_len]) (by omega)] at R8
        have HC8 := Lib.hid (show W8.heap[wr.heap.size]? = some (.cells (arrK (inK (blkP pf m) s x)) 101 (0, 0)) from R8)
        have hKl := inK_len (blkP pf m) s x HBL.out (by omega)
        have HZ := Lib.hid (show (Try.prog.info? 101).map (·.size) = some (arrK (inK (blkP pf m) s x)).size by rw [arrK_size, hKl]; exact Try.size16)
        have SM := Lib.hid (HVS.out ▸ msum_any (inK (blkP pf m) s x) W8 hKl)
        have HB8h := Lib.hid HB8
        have hnx := HNX.out
        have HQ := Lib.hid (show (q : Int) / 16 = ((k / 16 ^ (m + 1) : Nat) : Int) by rw [hnx]; omega)
        clear R8 hKl HB8 hnx
        go_wp2_with (first | (refine wpList_load_row rfl 101 _ rfl wr.heap.size rfl _ (arrK (inK (blkP pf m) s x)) (0, 0) _ HC8.out Try.under16 rfl HZ.out ?_) | (go_at_call 48; (with_reducible refine SM.out.mono ?_); rintro e w9 ⟨rfl, hb9⟩) | fail)
        go_roundw
        case rel => exact ⟨m + 1, by go_num, by omega, by rw [HQ.out], rfl, Lib.hid (HB8h.out.trans (hb9.mono HB8h.out.size))⟩
        case measure => simp [intOf]; omega
    · obtain rfl : m = 3 := by omega
      have hq := regI_eq (verN pf k n0 3) root
      obtain ⟨x, hx⟩ : ∃ x, regI (verN pf k n0 3) = x := ⟨_, rfl⟩
      rw [hx] at hq
      rw [hx]
      have HQ := Lib.hid hq
      clear hq hx
      go_wp2_with fail
      go_ret
      exact ⟨ret_bool HQ.out, HB.out⟩
end Go.Proofs.Ytjjadappjapjhaa
