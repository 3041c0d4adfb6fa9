/-
  CONTRACT of Prove.
-/
import Derived.Test.YtjjadappjapjhaaMkL
namespace Go.Proofs.Ytjjadappjapjhaa
open Go.RowKit Go.Deep

def encU (x : BitVec 32) : List Value := [.int .u32 (regI x)]
theorem encU_len (x : BitVec 32) : (encU x).length = 1 := rfl
theorem encU_one (l : List (BitVec 32)) : ∀ v ∈ flatR encU l, v.oneCell' = true := by
  intro v hv
  unfold flatR at hv
  obtain ⟨x, _, hx⟩ := List.mem_flatMap.1 hv
  simp [encU] at hx
  subst hx
  rfl
theorem flatU (l : List (BitVec 32)) : flatR encU l = l.map fun x => Value.int .u32 (regI x) := by
  unfold flatR encU
  induction l with
  | nil => rfl
  | cons a l ih => rw [List.flatMap_cons, ih]; rfl
/-- The numbers beside a place. -/
def sibs (f : Nat → BitVec 32) (a : Nat) : List (BitVec 32) := (kidsF f (a / 16)).take (a % 16) ++ (kidsF f (a / 16)).drop (a % 16 + 1)
def proofT (C : Nat → Option Int) (k : Nat) : Nat → List (BitVec 32)
  | 0 => []
  | m + 1 => proofT C k m ++ sibs (lvN C m) (k / 16 ^ m)
theorem sibs_len (f : Nat → BitVec 32) (a : Nat) : (sibs f a).length = 15 := by
  unfold sibs
  rw [List.length_append, List.length_take, List.length_drop, kidsF_len]
  omega
theorem proofT_len (C : Nat → Option Int) (k : Nat) : ∀ m, (proofT C k m).length = 15 * m
  | 0 => rfl
  | m + 1 => by
    show (proofT C k m ++ _).length = _
    rw [List.length_append, proofT_len C k m, sibs_len]
    omega
theorem kidsT_any (b l a : Nat) (C : Nat → Option Int) (w : World) (h : TreeOf w b C) (hl : l < 3) (ha : a < szM l) :
    Calls Try.prog 47 #[.pointer (some ⟨b, 0, none⟩), .int .i64 (l : Int), .int .i64 (a : Int)] w (Gives w (.agg (arrK (kidsF (lvN C l) a)))) := by
  obtain ⟨N, h, hn⟩ := h
  have := kids_any b l a C (lvN C 0) N w h hl ha
  rw [show kidsF (nmF (lvN C 0) N l) a = kidsF (lvN C l) a from ?_] at this
  · exact this
  · unfold kidsF
    apply List.map_congr_left
    intro j hj
    have hj := List.mem_range.1 hj
    match l, hl with
    | 0, _ => rfl
    | 1, _ =>
      refine hn 0 (by omega) _ ?_
      simp only [szM] at ha ⊢
      omega
    | 2, _ =>
      refine hn 1 (by omega) _ ?_
      simp only [szM] at ha ⊢
      omega
theorem Try.infoU : (Try.prog.info? 28).map (fun i => (i.zero, i.size, i.bytes)) = some (some (.int .u32 0), 1, 4) := by kernel_rfl
theorem Try.len16 : Try.prog.arrayLen 101 = 16 := by kernel_rfl
theorem Try.elem16 : Try.prog.elem 101 = 28 := by kernel_rfl
theorem Try.und16 : Try.prog.underlying 101 = some (.array (Try.prog.arrayLen 101) (Try.prog.elem 101)) := by rw [Try.len16, Try.elem16]; exact Try.under16
theorem sizeU (w : World) : (sizeOf 28).run Try.prog w = .ok 1 w := by
  have hs : (Try.prog.info? 28).map (·.size) = some 1 := by kernel_rfl
  obtain ⟨i0, h0, h1⟩ := Option.map_eq_some_iff.1 hs
  simp [sizeOf, typeInfo, h0, h1]
theorem sl16_h (g s : Nat) (hs : s ≤ 16) (w : World) : (Instr.sliceAt 101 (.pointer (some ⟨g, 0, none⟩)) none (some (.int .i64 (s : Int))) none).run Try.prog w = .ok (.slice (some ⟨g, 0, none⟩) s 16) w := by
  rw [run_sliceAt_array_h w 101 ⟨g, 0, none⟩ Try.und16 .i64 (s : Int) (by omega) (by rw [Try.len16]; omega), Try.elem16, sizeU, Try.len16]
  simp [slicedAt, Addr.add]
theorem sl16_l (g s : Nat) (hs : s < 16) (w : World) : (Instr.sliceAt 101 (.pointer (some ⟨g, 0, none⟩)) (some (.int .i64 (s : Int))) none none).run Try.prog w = .ok (.slice (some ⟨g, s, none⟩) (16 - s) (16 - s)) w := by
  rw [run_sliceAt_array_l w 101 ⟨g, 0, none⟩ Try.und16 .i64 (s : Int) (by omega) (by rw [Try.len16]; omega), Try.elem16, sizeU, Try.len16]
  simp only [slicedAt, Int.toNat_natCast, Result.andThen_ok]
  rw [if_neg (by omega), addr_add]
  simp
theorem sl16_z (g : Nat) (w : World) : (Instr.sliceAt 101 (.pointer (some ⟨g, 0, none⟩)) (some (.int .i64 16)) none none).run Try.prog w = .ok (.slice (some ⟨g, 0, none⟩) 0 0) w := by
  rw [run_sliceAt_array_l w 101 ⟨g, 0, none⟩ Try.und16 .i64 16 (by omega) (by rw [Try.len16]; omega), Try.elem16, sizeU, Try.len16]
  rfl
theorem sl16_all (g : Nat) (w : World) : (Instr.sliceAt 101 (.pointer (some ⟨g, 0, none⟩)) none none none).run Try.prog w = .ok (.slice (some ⟨g, 0, none⟩) 16 16) w := by
  rw [run_sliceAt_array_all w 101 ⟨g, 0, none⟩ Try.und16, Try.elem16, sizeU, Try.len16]
  rfl
def RowU (l : List (BitVec 32)) (w : World) (e : Ending) (w' : World) : Prop := ∃ v, e = .returned (.tuple #[v, .int .i64 0]) ∧ OwnsR encU 1 28 w' w.heap.size v l ∧ Below w.heap.size w w'
theorem kid_cells (W : World) (g : Nat) (K : List (BitVec 32)) (h : W.heap[g]? = some (.cells (arrK K) 101 (0, 0))) (s m : Nat) : ∀ j u, (flatR encU ((K.drop s).take m))[j]? = some u → W.cell? ((⟨g, s, none⟩ : Addr).add j) = some u := by
  intro j u hj
  rw [addr_add, cell_of_row W g _ _ _ _ h]
  rw [flatU, List.getElem?_map, List.getElem?_take] at hj
  split at hj
  · rw [List.getElem?_drop] at hj
    unfold arrK
    simpa using hj
  · cases hj
set_option maxRecDepth 100000 in
set_option maxHeartbeats 2000000 in
theorem prove_any (b k : Nat) (C : Nat → Option Int) (w : World) (h : TreeOf w b C) (hk : k < 4096) :
    Calls Try.prog 25 #[.pointer (some ⟨b, 0, none⟩), .int .i64 (k : Int)] w (RowU (proofT C k 3) w) := by
  obtain ⟨i0, hi, hz0, hz1, hz2⟩ := info_parts Try.infoU
  have hkb : keyB (k : Int) = true := by unfold keyB; simp; omega
  have KY := Lib.hid (fun W => isKeyT_any (k : Int) W hkb)
  have H := Lib.hid h
  clear h hkb
  go_enter Try.func25, Try.ntmps25
  go_wp2_with (first | (go_at_call 41; (with_reducible refine (KY.out _).mono ?_); rintro e w4 ⟨rfl, rfl⟩) | fail)
  go_loopw [6, 7, 19] (fun v t i wr => ∃ m : Nat, i = .int .i64 (m : Int) ∧ m ≤ 3 ∧ t = .int .i64 ((k / 16 ^ m : Nat) : Int) ∧ Hid (OwnsR encU 1 28 wr w.heap.size v (proofT C k m)) ∧ Hid (Below w.heap.size w wr))
    (fun _ _ i _ => 3 - (intOf i).toNat)
  case atStart => exact ⟨0, rfl, by omega, by simp, Lib.hid (OwnsR.nil _ _ _ _ _), Lib.hid (Below.refl _ _)⟩
  case round =>
    obtain ⟨m, rfl, hm, rfl, HO, HB⟩ := hrel
    by_cases hm3 : m < 3
    · have hlenP := proofT_len C k m
      have hnext : k / 16 ^ (m + 1) = k / 16 ^ m / 16 := by rw [Nat.pow_succ, Nat.div_div_eq_div_mul]
      have hpt : proofT C k (m + 1) = proofT C k m ++ sibs (lvN C m) (k / 16 ^ m) := rfl
      have hlt : k / 16 ^ m / 16 < szM m := by
        have : m = 0 ∨ m = 1 ∨ m = 2 := by omega
        rcases this with rfl | rfl | rfl <;> simp only [szM] <;> omega
      have KD := Lib.hid (kidsT_any b m (k / 16 ^ m / 16) C wr (H.out.below HB.out) hm3 hlt)
      have hsb : sibs (lvN C m) (k / 16 ^ m) = (kidsF (lvN C m) (k / 16 ^ m / 16)).take (k / 16 ^ m % 16) ++ (kidsF (lvN C m) (k / 16 ^ m / 16)).drop (k / 16 ^ m % 16 + 1) := rfl
      have hKl := kidsF_len (lvN C m) (k / 16 ^ m / 16)
      rw [hsb] at hpt
      clear hsb hlt
      obtain ⟨K, hK⟩ : ∃ K, kidsF (lvN C m) (k / 16 ^ m / 16) = K := ⟨_, rfl⟩
      rw [hK] at KD hpt hKl
      obtain ⟨q, hq⟩ : ∃ q, k / 16 ^ m = q := ⟨_, rfl⟩
      rw [hq] at hnext hpt KD
      rw [hq]
      have hq4 : q < 4096 := by rw [← hq]; exact Nat.lt_of_le_of_lt (Nat.div_le_self _ _) hk
      obtain ⟨P, hP⟩ : ∃ P, proofT C k m = P := ⟨_, rfl⟩
      rw [hP] at HO hlenP hpt
      have HPT := Lib.hid hpt
      have HNX := Lib.hid hnext
      have HKL := Lib.hid hKl
      have HPL := Lib.hid hlenP
      have hPl : P.length ≤ 45 := by omega
      clear hpt hnext hK hq hP hKl hlenP
      obtain ⟨s, hs⟩ : ∃ s, q % 16 = s := ⟨_, rfl⟩
      have hs16 : s < 16 := by omega
      have hsi : (q : Int) % 16 = (s : Int) := by omega
      have KD' : Hid (Calls Try.prog 47 #[.pointer (some ⟨b, 0, none⟩), .int .i64 (m : Int), .int .i64 ((q : Int) / 16)] wr (Gives wr (.agg (arrK K)))) := by
        have := KD.out
        rw [show ((q / 16 : Nat) : Int) = (q : Int) / 16 by omega] at this
        exact Lib.hid this
      rw [hs] at HPT
      have HS := Lib.hid hs
      clear hs KD
      have hsz := HB.out.size
      have SH := fun (g : Nat) (w : World) => sl16_h g s (by omega) w
      have HOW := Lib.hid (show wr.ownsRow w.heap.size 28 1 _ P.length (flatR encU P) from HO.out)
      go_wp2_with (first
        | (go_at_call 47; (with_reducible refine KD'.out.mono ?_); rintro e w5 ⟨rfl, hb5⟩)
        | (refine wpList_store_row rfl 101 _ _ rfl w5.heap.size (arrK K) rfl rfl _ zero16 (heap_alloc_new _ _) (by rw [arrK_size, HKL.out]; exact Try.size16) (by rw [arrK_size, HKL.out]; rfl) (arrK_one _) ?_
           have r6 := setRow_heap _ w5.heap.size _ (arrK K) _ _ (heap_alloc_new w5 (.cells zero16 101))
           have b6 : Below wr.heap.size wr _ := below_setRow (hb5.alloc hb5.size (.cells zero16 101)) hb5.size (arrK K)
           have s6 : w5.heap.size < ((w5.alloc (.cells zero16 101)).setRow w5.heap.size (arrK K)).heap.size := by simp
           generalize World.setRow _ _ _ = w6 at r6 b6 s6 ⊢
           replace r6 := Lib.hid r6
           replace b6 := Lib.hid b6
           have o6 := Lib.hid (OwnsR.below (show OwnsR encU 1 28 wr w.heap.size _ P from HOW.out) b6.out))
        | (at_builtin; refine wpList_append_own _ rfl (.tmp 29) (.tmp 31) 43 rfl w.heap.size 28 i0 (.int .u32 0) 1 4 Try.underlying43 hi hz0 hz1 hz2 rfl (by decide) _ _ _ rfl o6.out ⟨w5.heap.size, 0, none⟩ s 16 (flatR encU (K.take s)) rfl ?c1 ?c2 ?c3 ?c4 ?c5 ?c6 ?_)
        | fail)
      case c1 => rw [flatR_length encU_len, List.length_take, HKL.out]; omega
      case c2 => exact fun j u hj => kid_cells w6 w5.heap.size K r6.out 0 s j u (by rw [List.drop_zero]; exact hj)
      case c3 => exact encU_one _
      case c4 => unfold maxLen; omega
      case c5 => omega
      case c6 => exact Nat.le_trans hsz b6.out.size
      intro v7 w7 hown7 hg7 _
      have b06 := Lib.hid (show Below w.heap.size w w6 from HB.out.trans (b6.out.mono hsz))
      have b07 := Lib.hid (b06.out.grown hg7 b06.out.size (fun g hg => (World.ownsRow.lt o6.out g hg).1))
      have r7 := Lib.hid ((hg7.block w5.heap.size s6 (fun e => by have h1 := (World.ownsRow.lt HOW.out _ e.symm).2; have h2 := hb5.size; omega)).trans r6.out)
      replace hown7 := Lib.hid hown7
      clear hg7
      by_cases hs15 : s = 15
      · subst hs15
        have SZ := fun (g : Nat) (w : World) => sl16_z g w
        go_wp2_with (first | (at_builtin; refine wpList_append_own _ rfl (.tmp 33) (.tmp 36) 43 rfl w.heap.size 28 i0 (.int .u32 0) 1 4 Try.underlying43 hi hz0 hz1 hz2 rfl (by decide) _ _ _ rfl hown7.out ⟨w5.heap.size, 0, none⟩ 0 0 (flatR encU (K.drop (15 + 1))) rfl ?c1 ?c2 ?c3 ?c4 ?c5 ?c6 ?_) | fail)
        case c1 => rw [flatR_length encU_len, List.length_drop, HKL.out]
        case c2 => intro j u hj; rw [List.drop_eq_nil_of_le (by rw [HKL.out]; decide)] at hj; cases hj
        case c3 => exact encU_one _
        case c4 => unfold maxLen; omega
        case c5 => omega
        case c6 => exact b07.out.size
        intro v8 w8 hown8 hg8 _
        have b08 := Lib.hid (b07.out.grown hg8 b07.out.size (fun g hg => (World.ownsRow.lt hown7.out g hg).1))
        have o8 : OwnsR encU 1 28 w8 w.heap.size v8 (proofT C k (m + 1)) := by
          rw [HPT.out]
          unfold OwnsR
          rw [flatR_append, flatR_append, List.length_append, List.length_append, List.length_take, List.length_drop, HKL.out]
          first | simpa using hown8 | (have := hown8; rwa [show P.length + s + (15 - s) = P.length + (min s 16 + (16 - (s + 1))) by omega] at this)
        have HO8 := Lib.hid o8
        clear hown8 hg8 o8
        have hnx := HNX.out
        have HQ := Lib.hid (show (q : Int) / 16 = ((k / 16 ^ (m + 1) : Nat) : Int) by rw [hnx]; omega)
        clear hnx
        go_wp2_with fail
        go_roundw
        case rel => exact ⟨m + 1, by go_num, by omega, by rw [HQ.out], HO8, b08⟩
        case measure => simp [intOf]; omega
      · have hs14 : s < 15 := by omega
        have SL : ∀ (g : Nat) (w : World), (Instr.sliceAt 101 (.pointer (some ⟨g, 0, none⟩)) (some (.int .i64 ((s : Int) + 1))) none none).run Try.prog w = .ok (.slice (some ⟨g, s + 1, none⟩) (15 - s) (15 - s)) w := fun g w => by
          have := sl16_l g (s + 1) (by omega) w
          rwa [show ((s + 1 : Nat) : Int) = (s : Int) + 1 by omega, show 16 - (s + 1) = 15 - s by omega] at this
        go_wp2_with (first | (at_builtin; refine wpList_append_own _ rfl (.tmp 33) (.tmp 36) 43 rfl w.heap.size 28 i0 (.int .u32 0) 1 4 Try.underlying43 hi hz0 hz1 hz2 rfl (by decide) _ _ _ rfl hown7.out ⟨w5.heap.size, s + 1, none⟩ (15 - s) (15 - s) (flatR encU (K.drop (s + 1))) rfl ?c1 ?c2 ?c3 ?c4 ?c5 ?c6 ?_) | fail)
        case c1 => rw [flatR_length encU_len, List.length_drop, HKL.out]; omega
        case c2 => exact fun j u hj => kid_cells w7 w5.heap.size K r7.out (s + 1) 16 j u (by rw [List.take_of_length_le (by rw [List.length_drop, HKL.out]; omega)]; exact hj)
        case c3 => exact encU_one _
        case c4 => unfold maxLen; omega
        case c5 => omega
        case c6 => exact b07.out.size
        intro v8 w8 hown8 hg8 _
        have b08 := Lib.hid (b07.out.grown hg8 b07.out.size (fun g hg => (World.ownsRow.lt hown7.out g hg).1))
        have o8 : OwnsR encU 1 28 w8 w.heap.size v8 (proofT C k (m + 1)) := by
          rw [HPT.out]
          unfold OwnsR
          rw [flatR_append, flatR_append, List.length_append, List.length_append, List.length_take, List.length_drop, HKL.out]
          first | simpa using hown8 | (have := hown8; rwa [show P.length + s + (15 - s) = P.length + (min s 16 + (16 - (s + 1))) by omega] at this)
        have HO8 := Lib.hid o8
        clear hown8 hg8 o8
        have hnx := HNX.out
        have HQ := Lib.hid (show (q : Int) / 16 = ((k / 16 ^ (m + 1) : Nat) : Int) by rw [hnx]; omega)
        clear hnx
        go_wp2_with fail
        go_roundw
        case rel => exact ⟨m + 1, by go_num, by omega, by rw [HQ.out], HO8, b08⟩
        case measure => simp [intOf]; omega
    · obtain rfl : m = 3 := by omega
      go_wp2_with fail
      go_ret2
      exact ⟨_, rfl, HO.out, HB.out⟩
end Go.Proofs.Ytjjadappjapjhaa
