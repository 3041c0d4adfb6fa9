/-
  CONTRACTS of the document: Prove, Verify.
-/
import Derived.Test.YtjjadappjapjhaaMkY
import Derived.Test.YtjjadappjapjhaaMkQ
namespace Go.Proofs.Ytjjadappjapjhaa
open Go.RowKit Go.Deep

/-- The numbers beside a place, as far as they are gone through. -/
def sibsJ (g : Nat → BitVec 32) (s j : Nat) : List (BitVec 32) := ((List.range j).filter fun t => t != s).map g
theorem sibsJ_succ (g : Nat → BitVec 32) (s j : Nat) : sibsJ g s (j + 1) = if j = s then sibsJ g s j else sibsJ g s j ++ [g j] := by
  unfold sibsJ
  rw [List.range_succ, List.filter_append, List.map_append]
  by_cases h : j = s
  · subst h
    rw [if_pos rfl]
    simp
  · rw [if_neg h]
    simp [h]
theorem sibsJ_len (g : Nat → BitVec 32) (s j : Nat) : (sibsJ g s j).length ≤ j := by
  unfold sibsJ
  rw [List.length_map]
  exact Nat.le_trans (List.length_filter_le _ _) (by simp)
theorem sibsJ_all (f : Nat → BitVec 32) (a s : Nat) (hs : s < 16) : sibsJ (fun t => f (a * 16 + t)) s 16 = (kidsF f a).take s ++ (kidsF f a).drop (s + 1) := by
  have h : s = 0 ∨ s = 1 ∨ s = 2 ∨ s = 3 ∨ s = 4 ∨ s = 5 ∨ s = 6 ∨ s = 7 ∨ s = 8 ∨ s = 9 ∨ s = 10 ∨ s = 11 ∨ s = 12 ∨ s = 13 ∨ s = 14 ∨ s = 15 := by omega
  rcases h with rfl | rfl | rfl | rfl | rfl | rfl | rfl | rfl | rfl | rfl | rfl | rfl | rfl | rfl | rfl | rfl <;> rfl
def RowV (l : List (BitVec 32)) (w : World) (e : Ending) (w' : World) : Prop := ∃ v, e = .returned v ∧ OwnsR encU 1 28 w' w.heap.size v l ∧ Below w.heap.size w w'
set_option maxRecDepth 100000 in
set_option maxHeartbeats 4000000 in
theorem rprove_any (g k : Nat) (C : Nat → Option Int) (w : World) (h : AllA w g C) (hk : k < 4096) :
    Calls Try.prog 27 #[.slice (some ⟨g, 0, none⟩) 4 4, .int .i64 (k : Int)] w (RowV (proofT C k 3) w) := by
  obtain ⟨i0, hi, hz0, hz1, hz2⟩ := info_parts Try.infoU
  have H := Lib.hid h
  clear h
  go_enter Try.func27, Try.ntmps27
  go_wp2_with fail
  go_loopw [1, 5, 6] (fun t v i wr => ∃ m : Nat, i = .int .i64 (m : Int) ∧ m ≤ 3 ∧ t = .int .i64 ((k / 16 ^ m : Nat) : Int) ∧ Hid (OwnsR encU 1 28 wr w.heap.size v (proofT C k m)) ∧ Hid (Below w.heap.size w wr))
    (fun _ _ i _ => 3 - (intOf i).toNat)
  case atStart => exact ⟨0, rfl, by omega, by simp, Lib.hid (OwnsR.nil _ _ _ _ _), Lib.hid (Below.refl _ _)⟩
  case round =>
    obtain ⟨m, rfl, hm, rfl, HO, HB⟩ := hrel
    by_cases hm3 : m < 3
    · have hnext : k / 16 ^ (m + 1) = k / 16 ^ m / 16 := by rw [Nat.pow_succ, Nat.div_div_eq_div_mul]
      have hlt : k / 16 ^ m / 16 < szM m := by
        have : m = 0 ∨ m = 1 ∨ m = 2 := by omega
        rcases this with rfl | rfl | rfl <;> simp only [szM] <;> omega
      have hsa : szA m = szM m * 16 := by
        have : m = 0 ∨ m = 1 ∨ m = 2 := by omega
        rcases this with rfl | rfl | rfl <;> rfl
      have hpt : proofT C k (m + 1) = proofT C k m ++ sibs (lvN C m) (k / 16 ^ m) := rfl
      have hlenP := proofT_len C k m
      obtain ⟨q, hq⟩ : ∃ q, k / 16 ^ m = q := ⟨_, rfl⟩
      rw [hq] at hnext hlt hpt
      rw [hq]
      have hq4 : q < 4096 := by rw [← hq]; exact Nat.lt_of_le_of_lt (Nat.div_le_self _ _) hk
      have hsj := sibsJ_all (lvN C m) (q / 16) (q % 16) (by omega)
      rw [show sibs (lvN C m) q = (kidsF (lvN C m) (q / 16)).take (q % 16) ++ (kidsF (lvN C m) (q / 16)).drop (q % 16 + 1) from rfl, ← hsj] at hpt
      obtain ⟨G, hG⟩ : ∃ G : Nat → BitVec 32, (fun t => lvN C m (q / 16 * 16 + t)) = G := ⟨_, rfl⟩
      have hGt : ∀ t, lvN C m (q / 16 * 16 + t) = G t := fun t => by rw [← hG]
      rw [hG] at hpt
      obtain ⟨P, hP⟩ : ∃ P, proofT C k m = P := ⟨_, rfl⟩
      rw [hP] at HO hlenP hpt
      obtain ⟨F, hF⟩ : ∃ F, q / 16 * 16 = F := ⟨_, rfl⟩
      have hFi : (q : Int) / 16 * 16 = (F : Int) := by omega
      have KC := Lib.hid (fun W (hb : Below w.heap.size w W) t (ht : t < 16) => by
        have := (H.out.below hb).at (m := m) (k := q / 16 * 16 + t) (by omega) (by rw [hsa]; omega)
        rw [hF] at this
        rw [← hF, hGt] at this
        rw [hF] at this
        exact this)
      have HPT := Lib.hid hpt
      have HNX := Lib.hid hnext
      have HF := Lib.hid hF
      have HSA := Lib.hid hsa
      have hFs : F + 16 ≤ szA m := by rw [hsa]; omega
      have hPl : P.length ≤ 45 := by omega
      have hqF : F ≤ q ∧ q < F + 16 := by omega
      obtain ⟨hqF1, hqF2⟩ := hqF
      clear hpt hnext hlt hsj hG hGt hP hq hF hsa hlenP
      have hF4 : F ≤ 4096 := by omega
      have hmi3 : (m : Int) < 3 := by omega
      go_wp2_with fail
      go_loopw [5, 8] (fun v i wq => ∃ (p j : Nat), i = .int .i64 (p : Int) ∧ p = F + j ∧ j ≤ 16 ∧ Hid (OwnsR encU 1 28 wq w.heap.size v (P ++ sibsJ G (q % 16) j)) ∧ Hid (Below w.heap.size w wq))
        (fun _ i _ => F + 16 - (intOf i).toNat)
      case atStart => exact ⟨F, 0, rfl, rfl, by omega, Lib.hid (by simpa [sibsJ] using HO.out), HB⟩
      case round =>
        obtain ⟨p, j, rfl, hp, hj, HP, HC⟩ := hrel
        by_cases hj16 : j < 16
        · have hpl : (p : Int) < (F : Int) + 16 := by omega
          have hsu := sibsJ_succ G (q % 16) j
          have hFF := HF.out
          by_cases hjs : j = q % 16
          · have hpq : ((p : Int) != (q : Int)) = false := by simp; omega
            rw [if_pos hjs] at hsu
            have HSU := Lib.hid hsu
            have HPJ := Lib.hid hp
            clear hsu hjs hFF hp
            go_wp2_with fail
            go_roundw
            case rel => exact ⟨p + 1, j + 1, by go_num, by have := HPJ.out; omega, by omega, Lib.hid (by rw [HSU.out]; exact HP.out), HC⟩
            case measure => have := HPJ.out; simp [intOf]; omega
          · have hpq : ((p : Int) != (q : Int)) = true := by simp; omega
            rw [if_neg hjs] at hsu
            obtain ⟨b, off, c, s0, hb, c0⟩ := KC.out _ HC.out j hj16
            rw [← hp] at c0
            obtain ⟨R, hR⟩ : ∃ R, G j = R := ⟨_, rfl⟩
            rw [hR] at c0 hsu
            obtain ⟨zs, hzs⟩ : ∃ zs, szA m = zs := ⟨_, rfl⟩
            rw [hzs] at s0 hFs
            have hpz : (p : Int) < (zs : Int) := by omega
            have hmi : (m : Int) < 4 := by omega
            have hlen2 : (P ++ sibsJ G (q % 16) j).length ≤ 100 := by rw [List.length_append]; have := sibsJ_len G (q % 16) j; omega
            have HSU := Lib.hid hsu
            have HPJ := Lib.hid hp
            have hsz := HC.out.size
            clear hsu hjs hFF hp hR hzs
            go_wp2_with (first | (at_builtin; refine wpList_append_own _ rfl _ _ 43 rfl w.heap.size 28 i0 (.int .u32 0) 1 4 Try.underlying43 hi hz0 hz1 hz2 rfl (by decide) _ _ _ rfl (World.ownsRow.alloc HP.out _) ⟨wr.heap.size, 0, none⟩ 1 1 [.int .u32 (regI R)] rfl rfl ?c1 ?c2 ?c3 ?c4 ?c5 ?_) | fail)
            try case c1 => exact cell_one_new _ _ _
            case c2 => first | rfl | (intro u hu; simp at hu; subst hu; rfl)
            case c3 => unfold maxLen; omega
            case c4 => omega
            case c5 => first | omega | (simp; omega)
            intro v1 w1 hown1 hg1 _
            have hown2 : w1.ownsRow w.heap.size 28 1 v1 ((P ++ sibsJ G (q % 16) j).length + 1) (flatR encU (P ++ sibsJ G (q % 16) j) ++ encU R) := by simpa [encU] using hown1
            have ho := Lib.hid (OwnsR.snoc (enc := encU) (x := R) rfl hown2)
            have hb1 := Lib.hid (show Below w.heap.size w w1 from (HC.out.alloc hsz _).grown hg1 (by simp; omega) (fun g hg => (World.ownsRow.lt HP.out g hg).1))
            clear hown1 hown2 hg1
            go_wp2_with fail
            go_roundw
            case rel => exact ⟨p + 1, j + 1, by go_num, by have := HPJ.out; omega, by omega, Lib.hid (by rw [HSU.out, ← List.append_assoc]; exact ho.out), hb1⟩
            case measure => have := HPJ.out; simp [intOf]; omega
        · obtain rfl : j = 16 := by omega
          have hpl : (F : Int) + 16 ≤ (p : Int) := by omega
          have hp4 : p ≤ 5000 := by omega
          have hnx := HNX.out
          have HQ := Lib.hid (show (q : Int) / 16 = ((k / 16 ^ (m + 1) : Nat) : Int) by rw [hnx]; omega)
          clear hp hnx
          go_wp2_with fail
          go_roundw
          case rel => exact ⟨m + 1, by go_num, by omega, by rw [HQ.out], Lib.hid (by rw [HPT.out]; exact HP.out), HC⟩
          case measure => simp [intOf]; omega
    · obtain rfl : m = 3 := by omega
      go_wp2_with fail
      go_ret
      exact ⟨_, rfl, HO.out, HB.out⟩
/-- A place in a block of a proof. -/
def plcJ (s j : Nat) : Nat := if j ≤ s then j else j - 1
theorem inK_take (B : List (BitVec 32)) (s : Nat) (x : BitVec 32) (hB : B.length = 15) (hs : s < 16) {j : Nat} (hj : j < 16) : (inK B s x).take (j + 1) = (inK B s x).take j ++ [if j = s then x else B[plcJ s j]!] := by
  rw [take_moreG (by rw [inK_len B s x hB hs]; exact hj)]
  congr 2
  rw [getElem!_pos _ j (by rw [inK_len B s x hB hs]; exact hj)]
  have ht : (B.take s).length = s := by rw [List.length_take, hB]; omega
  unfold inK plcJ
  by_cases h1 : j < s
  · rw [List.getElem_append_left (by omega), if_neg (by omega), if_pos (by omega), List.getElem_take, getElem!_pos B j (by omega)]
  · rw [List.getElem_append_right (by omega)]
    by_cases h2 : j = s
    · rw [if_pos h2]
      have : j - (B.take s).length = 0 := by omega
      simp only [this, List.getElem_cons_zero]
    · rw [if_neg h2, if_neg (by omega)]
      have e : j - (B.take s).length = (j - s - 1) + 1 := by omega
      rw [getElem!_pos B (j - 1) (by omega)]
      simp only [e, List.getElem_cons_succ, List.getElem_drop]
      congr 1
      omega
set_option maxRecDepth 100000 in
theorem rverify_bad (r k v : Int) (sm : Bool) (a : Option Addr) (n c : Nat) (w : World) (hz : (n : Int) ≤ 9223372036854775807) (h : n ≠ 45 ∨ keyB k = false) :
    Calls Try.prog 28 #[.int .u32 r, .int .i64 k, .agg #[.int .i64 v, .bool sm], .slice a n c] w (Gives w (.bool false)) := by
  by_cases hn : n = 45
  · have hk := h.resolve_left (fun q => q hn)
    subst hn
    by_cases h0 : k < 0
    · clear h hk
      go_enter Try.func28, Try.ntmps28
      go_wp2_with fail
      go_ret
      exact ⟨rfl, (Below.refl _ _).alloc (Nat.le_refl _) _⟩
    · have h4 : 4096 ≤ k := by
        unfold keyB at hk
        simp at hk
        exact hk (by omega)
      clear h hk
      go_enter Try.func28, Try.ntmps28
      go_wp2_with fail
      go_ret
      exact ⟨rfl, (Below.refl _ _).alloc (Nat.le_refl _) _⟩
  · have hn1 : ((n : Int) != 45) = true := by simp; omega
    clear h
    go_enter Try.func28, Try.ntmps28
    go_wp2_with fail
    go_ret
    exact ⟨rfl, (Below.refl _ _).alloc (Nat.le_refl _) _⟩
set_option maxRecDepth 100000 in
set_option maxHeartbeats 4000000 in
theorem rverify_any (k : Nat) (root : BitVec 32) (v : Int) (sm : Bool) (a : Option Addr) (c : Nat) (pf : List (BitVec 32)) (w : World) (h : RArg encU 1 w a 45 c pf) (hk : k < 4096) :
    Calls Try.prog 28 #[.int .u32 (regI root), .int .i64 (k : Int), .agg #[.int .i64 v, .bool sm], .slice a 45 c] w (Gives w (.bool (verN pf k (numO (if sm then some v else none)) 3 == root))) := by
  obtain ⟨i0, hi, hz0, hz1, hz2⟩ := info_parts Try.infoU
  have hl : pf.length = 45 := h.1.symm
  have NU := Lib.hid (fun W => rnumber_any v sm W)
  obtain ⟨n0, hn0⟩ : ∃ n0, numO (if sm then some v else none) = n0 := ⟨_, rfl⟩
  rw [hn0] at NU
  rw [hn0]
  obtain ⟨W1, hW1⟩ : ∃ W1, w.alloc (.cells #[.int .i64 v, .bool sm] 31) = W1 := ⟨_, rfl⟩
  have b1 : Below w.heap.size w W1 := by rw [← hW1]; exact (Below.refl _ _).alloc (Nat.le_refl _) _
  have r1 : W1.heap[w.heap.size]? = some (.cells #[.int .i64 v, .bool sm] 31 (0, 0)) := by rw [← hW1]; exact heap_alloc_new _ _
  obtain ⟨z0, z1⟩ := cells2M r1
  have H := Lib.hid h
  have HL := Lib.hid hl
  have B1 := Lib.hid b1
  have hki : (k : Int) < 4096 := by omega
  clear h hl hn0 b1 r1
  go_enter Try.func28, Try.ntmps28
  go_wp2_with (first | (go_at_call 13; (with_reducible refine (NU.out _).mono ?_); rintro e w2 ⟨rfl, hb2⟩) | fail)
  have HB2 := Lib.hid (below_next B1.out hb2)
  clear z0 z1 hb2
  go_loopw [1, 9, 10] (fun t x i wr => ∃ m : Nat, i = .int .i64 (m : Int) ∧ m ≤ 3 ∧ t = .int .i64 ((k / 16 ^ m : Nat) : Int) ∧ x = .int .u32 (regI (verN pf k n0 m)) ∧ Hid (Below w.heap.size w wr))
    (fun _ _ i _ => 3 - (intOf i).toNat)
  case atStart => exact ⟨0, rfl, by omega, by simp, rfl, HB2⟩
  case round =>
    obtain ⟨m, rfl, hm, rfl, rfl, HB⟩ := hrel
    by_cases hm3 : m < 3
    · have hnext : k / 16 ^ (m + 1) = k / 16 ^ m / 16 := by rw [Nat.pow_succ, Nat.div_div_eq_div_mul]
      have hvs : verN pf k n0 (m + 1) = overN (inK (blkP pf m) (k / 16 ^ m % 16) (verN pf k n0 m)) := rfl
      obtain ⟨q, hq⟩ : ∃ q, k / 16 ^ m = q := ⟨_, rfl⟩
      rw [hq] at hnext hvs
      rw [hq]
      have hq4 : q < 4096 := by rw [← hq]; exact Nat.lt_of_le_of_lt (Nat.div_le_self _ _) hk
      obtain ⟨x, hx⟩ : ∃ x, verN pf k n0 m = x := ⟨_, rfl⟩
      rw [hx] at hvs
      rw [hx]
      obtain ⟨s, hs⟩ : ∃ s, q % 16 = s := ⟨_, rfl⟩
      rw [hs] at hvs
      have hs16 : s < 16 := by omega
      have hsi : (q : Int) % 16 = (s : Int) := by omega
      have hBl := blkP_len HL.out hm3
      have hIl := inK_len (blkP pf m) s x hBl hs16
      have HTK := Lib.hid (fun j (hj : j < 16) => inK_take (blkP pf m) s x hBl hs16 hj)
      have KC := Lib.hid (fun W (hb : Below w.heap.size w W) t (ht : t < 15) => (show ∃ b off, a = some ⟨b, off, none⟩ ∧ W.cell? ⟨b, off + (15 * m + t), none⟩ = some (.int .u32 (regI (blkP pf m)[t]!)) from by
        obtain ⟨b, off, e, _, hc⟩ := (H.out.below hb).us (k := 15 * m + t) (by have := HL.out; omega)
        refine ⟨b, off, e, ?_⟩
        rw [hc]
        unfold blkP
        rw [getElem!_pos _ _ (by have := HL.out; omega), getElem!_pos _ t (by have := HL.out; rw [List.length_take, List.length_drop]; omega), List.getElem_take, List.getElem_drop]
        simp [Nat.mul_comm]))
      have HVS := Lib.hid hvs
      have HNX := Lib.hid hnext
      have HIL := Lib.hid hIl
      have hmi3 : (m : Int) < 3 := by omega
      clear hnext hvs hq hx hs hBl hIl
      go_wp2_with fail
      go_loopw [11, 12, 13] (fun v t i wq => ∃ (j : Nat), i = .int .i64 (j : Int) ∧ j ≤ 16 ∧ t = .int .i64 ((15 * m + plcJ s j : Nat) : Int) ∧ Hid (OwnsR encU 1 28 wq w.heap.size v ((inK (blkP pf m) s x).take j)) ∧ Hid (Below w.heap.size w wq))
        (fun _ _ i _ => 16 - (intOf i).toNat)
      case atStart => exact ⟨0, rfl, by omega, by simp [plcJ], Lib.hid (OwnsR.nil _ _ _ _ _), HB⟩
      case round =>
        obtain ⟨j, rfl, hj, rfl, HP, HC⟩ := hrel
        obtain ⟨L, hL⟩ : ∃ L, (inK (blkP pf m) s x).take j = L := ⟨_, rfl⟩
        rw [hL] at HP
        have hlen2 : L.length ≤ 16 := by rw [← hL]; exact Nat.le_trans (List.length_take_le _ _) hj
        by_cases hj16 : j < 16
        · have htk := HTK.out j hj16
          rw [hL] at htk
          have hsz := HC.out.size
          clear hL
          by_cases hjs : j = s
          · have hpq : ((j : Int) == (s : Int)) = true := by simp; omega
            rw [if_pos hjs] at htk
            have HT := Lib.hid htk
            have hpl : plcJ s (j + 1) = plcJ s j := by unfold plcJ; rw [if_neg (by omega), if_pos (by omega)]; omega
            obtain ⟨T, hTt⟩ : ∃ T, 15 * m + plcJ s j = T := ⟨_, rfl⟩
            rw [hTt]
            have HPL := Lib.hid (show 15 * m + plcJ s (j + 1) = T by rw [hpl]; exact hTt)
            clear htk hjs hpl hTt
            go_wp2_with (first | (at_builtin; refine wpList_append_own _ rfl _ _ 43 rfl w.heap.size 28 i0 (.int .u32 0) 1 4 Try.underlying43 hi hz0 hz1 hz2 rfl (by decide) _ _ _ rfl (World.ownsRow.alloc HP.out _) ⟨wr.heap.size, 0, none⟩ 1 1 [.int .u32 (regI x)] rfl rfl ?c1 ?c2 ?c3 ?c4 ?c5 ?_) | fail)
            try case c1 => exact cell_one_new _ _ _
            case c2 => first | rfl | (intro u hu; simp at hu; subst hu; rfl)
            case c3 => unfold maxLen; omega
            case c4 => omega
            case c5 => first | omega | (simp; omega)
            intro v1 w1 hown1 hg1 _
            have ho := Lib.hid (OwnsR.snoc (enc := encU) (l := L) (x := x) rfl hown1)
            have hb1 := Lib.hid (show Below w.heap.size w w1 from (HC.out.alloc hsz _).grown hg1 (by simp; omega) (fun g hg => (World.ownsRow.lt HP.out g hg).1))
            clear hown1 hg1
            go_wp2_with fail
            go_roundw
            case rel => exact ⟨j + 1, by go_num, by omega, by rw [HPL.out], Lib.hid (by rw [HT.out]; exact ho.out), hb1⟩
            case measure => simp [intOf]; omega
          · have hpq : ((j : Int) == (s : Int)) = false := by simp; omega
            rw [if_neg hjs] at htk
            have hpj : plcJ s j < 15 := by unfold plcJ; split <;> omega
            have hpl : plcJ s (j + 1) = plcJ s j + 1 := by unfold plcJ; split <;> split <;> omega
            obtain ⟨b, off, e, c0⟩ := KC.out _ HC.out (plcJ s j) hpj
            subst e
            generalize (blkP pf m)[plcJ s j]! = Y at c0 htk
            obtain ⟨T, hTt⟩ : ∃ T, 15 * m + plcJ s j = T := ⟨_, rfl⟩
            rw [hTt] at c0
            rw [hTt]
            have hT45 : (T : Int) < 45 := by omega
            have HT := Lib.hid htk
            have HPL := Lib.hid (show 15 * m + plcJ s (j + 1) = T + 1 by rw [hpl]; omega)
            clear htk hjs hpj hpl hTt
            go_wp2_with (first | (at_builtin; refine wpList_append_own _ rfl _ _ 43 rfl w.heap.size 28 i0 (.int .u32 0) 1 4 Try.underlying43 hi hz0 hz1 hz2 rfl (by decide) _ _ _ rfl (World.ownsRow.alloc HP.out _) ⟨wr.heap.size, 0, none⟩ 1 1 [.int .u32 (regI Y)] rfl rfl ?d1 ?d2 ?d3 ?d4 ?d5 ?_) | fail)
            try case d1 => exact cell_one_new _ _ _
            case d2 => first | rfl | (intro u hu; simp at hu; subst hu; rfl)
            case d3 => unfold maxLen; omega
            case d4 => omega
            case d5 => first | omega | (simp; omega)
            intro v1 w1 hown1 hg1 _
            have ho := Lib.hid (OwnsR.snoc (enc := encU) (l := L) (x := Y) rfl hown1)
            have hb1 := Lib.hid (show Below w.heap.size w w1 from (HC.out.alloc hsz _).grown hg1 (by simp; omega) (fun g hg => (World.ownsRow.lt HP.out g hg).1))
            clear hown1 hg1
            go_wp2_with fail
            go_roundw
            case rel => exact ⟨j + 1, by go_num, by omega, by rw [HPL.out]; go_num, Lib.hid (by rw [HT.out]; exact ho.out), hb1⟩
            case measure => simp [intOf]; omega
        · obtain rfl : j = 16 := by omega
          rw [List.take_of_length_le (by rw [HIL.out]; decide)] at hL
          obtain ⟨a5, n5, c5, rfl, hr5⟩ := HP.out.argN encU_len
          have OV := Lib.hid (rover_any a5 n5 c5 L wr hr5 (by omega))
          have HOV := Lib.hid (show overN L = verN pf k n0 (m + 1) by rw [HVS.out, hL])
          rw [HOV.out] at OV
          have hnx := HNX.out
          have HQ := Lib.hid (show (q : Int) / 16 = ((k / 16 ^ (m + 1) : Nat) : Int) by rw [hnx]; omega)
          clear hL hr5 hnx
          go_wp2_with (first | (go_at_call 49; (with_reducible refine OV.out.mono ?_); rintro e w6 ⟨rfl, hb6⟩) | fail)
          go_roundw
          case rel => exact ⟨m + 1, by go_num, by omega, by rw [HQ.out], rfl, Lib.hid (HC.out.trans (hb6.mono HC.out.size))⟩
          case measure => simp [intOf]; omega
    · obtain rfl : m = 3 := by omega
      have hq := regI_eq (verN pf k n0 3) root
      obtain ⟨x, hx⟩ : ∃ x, regI (verN pf k n0 3) = x := ⟨_, rfl⟩
      rw [hx] at hq
      rw [hx]
      have HQ := Lib.hid hq
      clear hq hx
      go_wp2_with fail
      go_ret
      exact ⟨ret_bool HQ.out, HB.out⟩
end Go.Proofs.Ytjjadappjapjhaa
