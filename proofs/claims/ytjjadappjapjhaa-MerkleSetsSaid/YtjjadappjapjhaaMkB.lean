/-
  CONTRACTS of merkle's sum and Number.
-/
import Derived.Test.YtjjadappjapjhaaMkA
namespace Go.Proofs.Ytjjadappjapjhaa
open Go.RowKit

theorem be4s_len (l : List (BitVec 32)) : (l.flatMap fun x => be4 (regI x)).length = 4 * l.length := by
  induction l with
  | nil => rfl
  | cons a l ih => rw [List.flatMap_cons, List.length_append, ih, be4_len, List.length_cons]; omega
theorem take_kids {l : List (BitVec 32)} {k : Nat} (h : k < l.length) : ((l.take (k + 1)).flatMap fun x => be4 (regI x)) = ((l.take k).flatMap fun x => be4 (regI x)) ++ be4 (regI l[k]!) := by
  rw [take_moreG h, List.flatMap_append]; simp
theorem below_row {w W : World} (h : Below w.heap.size w W) : Below w.heap.size w W := h
set_option maxRecDepth 100000 in
theorem msum_any (l : List (BitVec 32)) (w : World) (hl : l.length = 16) : Calls Try.prog 48 #[.agg (arrK l)] w (Gives w (.int .u32 (regI (overN l)))) := by
  have hsz : (Try.prog.info? 101).map (·.size) = some (arrK l).size := by rw [arrK_size, hl]; kernel_rfl
  have hu : Try.prog.underlying 101 = some (.array 16 28) := by kernel_rfl
  obtain ⟨W1, hW1⟩ : ∃ W1, w.alloc (.cells (arrK l) 101) = W1 := ⟨_, rfl⟩
  have b1 : Below w.heap.size w W1 := by rw [← hW1]; exact (Below.refl _ _).alloc (Nat.le_refl _) _
  have g1 : w.heap.size < W1.heap.size := by rw [← hW1]; simp
  have r1 : W1.heap[w.heap.size]? = some (.cells (arrK l) 101 (0, 0)) := by rw [← hW1]; exact heap_alloc_new _ _
  have HU := Lib.hid hu
  have HSZ := Lib.hid hsz
  have R1 := Lib.hid r1
  have G1 := Lib.hid g1
  have HL := Lib.hid hl
  clear hu hsz r1 g1 hl
  go_enter Try.func48, Try.ntmps48
  go_wp2_with (first | (refine wpList_load_row rfl 101 _ rfl w.heap.size rfl _ (arrK l) (0, 0) _ R1.out HU.out rfl HSZ.out ?_) | fail)
  go_loopw [3, 7] (fun v i wr => ∃ k : Nat, i = .int .i64 (k : Int) ∧ k ≤ 16 ∧ Hid (OwnsB wr W1.heap.size v ((l.take k).flatMap fun x => be4 (regI x))) ∧ Below W1.heap.size W1 wr)
    (fun _ i _ => 16 - (intOf i).toNat)
  case atStart => exact ⟨0, rfl, by omega, Lib.hid (OwnsB.nil _ _), Below.refl _ _⟩
  case round =>
    obtain ⟨k, rfl, hk, HO, hb⟩ := hrel
    have hlen : ((l.take k).flatMap fun x => be4 (regI x)).length ≤ 100000 := by rw [be4s_len]; have := List.length_take_le k l; omega
    by_cases hlt : k < 16
    · have hlk : k < l.length := by rw [HL.out]; exact hlt
      have hix := fun w => idx16 (arrK l) k _ w hlt (arrK_get hlk)
      have hT := take_kids hlk
      obtain ⟨x, hx⟩ : ∃ x, l[k]! = x := ⟨_, rfl⟩
      rw [hx] at hix hT
      have HT := Lib.hid hT
      obtain ⟨q1, q2⟩ := regI_bd x
      have CN := Lib.hid (mapp_any W1.heap.size _ _ (regI x) wr q1 q2 HO.out hlen hb.size)
      clear hT hx
      clear hlk hlen
      go_wp2_with (first | (go_at_call 34; (with_reducible refine CN.out.mono ?_); rintro e w2 ⟨v2, rfl, ho, hb2⟩; replace ho := Lib.hid ho) | fail)
      go_roundw
      case rel => exact ⟨k + 1, by go_num, by omega, Lib.hid (by rw [HT.out]; exact ho.out), hb.trans hb2⟩
      case measure => simp [intOf]; omega
    · obtain rfl : k = 16 := by omega
      have hc := HO.out.str
      have hz : ((⟨((l.take 16).flatMap fun x => be4 (regI x)).toArray⟩ : ByteArray).size : Int) ≤ 9000000000000000000 := by show ((((l.take 16).flatMap fun x => be4 (regI x)).toArray.size : Nat) : Int) ≤ _; simp only [List.size_toArray]; omega
      have HE := Lib.hid (show sumL ((l.take 16).flatMap fun x => be4 (regI x)) = overN l by rw [List.take_of_length_le (by rw [HL.out]; exact Nat.le_refl _)]; rfl)
      have SM := Lib.hid (sum_any ⟨((l.take 16).flatMap fun x => be4 (regI x)).toArray⟩ wr hz)
      clear hlen hz
      go_wp2_with (first | (go_at_call 35; (with_reducible refine SM.out.mono ?_); rintro e w2 ⟨rfl, rfl⟩) | fail)
      go_ret
      exact ⟨congrArg (fun x => Ending.returned (.int .u32 (regI x))) HE.out, below_next b1 hb⟩

theorem be4_mod (x : Int) : be4 (x % 4294967296) = be4 x := by
  unfold be4 byI
  rw [show x % 4294967296 / 16777216 % 256 = x / 16777216 % 256 by omega, show x % 4294967296 / 65536 % 256 = x / 65536 % 256 by omega, show x % 4294967296 / 256 % 256 = x / 256 % 256 by omega, show x % 4294967296 % 256 = x % 256 by omega]
theorem OwnsB.one (w : World) (base : Nat) (hb : base ≤ w.heap.size) : OwnsB (w.alloc (.cells #[.int .u8 1] 5)) base (.slice (some ⟨w.heap.size, 0, none⟩) 1 1) [1] := by
  unfold OwnsB cellsB
  have := World.ownsRow_lit (base := base) (e := 5) (size := 1) w #[.int .u8 1] 1 hb (by decide) rfl
  simpa using this
theorem sumB_any (l : List UInt8) (w : World) (h : l.length ≤ 100000) : Calls Try.prog 35 #[.string ⟨l.toArray⟩] w fun e w' => e = .returned (.int .u32 (regI (sumL l))) ∧ w = w' := by
  have hz : ((⟨l.toArray⟩ : ByteArray).size : Int) ≤ 9000000000000000000 := by show ((l.toArray.size : Nat) : Int) ≤ _; simp only [List.size_toArray]; omega
  simpa using sum_any ⟨l.toArray⟩ w hz
theorem cells2M {W : World} {g : Nat} {x y : Value} {t : TypeId} (h : W.heap[g]? = some (.cells #[x, y] t (0, 0))) : W.cell? ⟨g, 0, none⟩ = some x ∧ W.cell? ⟨g, 1, none⟩ = some y := ⟨by simp [World.cell?, h], by simp [World.cell?, h]⟩
set_option maxRecDepth 100000 in
theorem number20_any (v : Int) (s : Bool) (w : World) : Calls Try.prog 12 #[.agg #[.int .i64 v, .bool s]] w (Gives w (.int .u32 (regI (numO (if s then some v else none))))) := by
  cases s
  · go_enter Try.func12, Try.ntmps12
    go_wp2_with fail
    go_ret
    exact ⟨rfl, (Below.refl _ _).alloc (Nat.le_refl _) _⟩
  · obtain ⟨W1, hW1⟩ : ∃ W1, w.alloc (.cells #[.int .i64 v, .bool true] 25) = W1 := ⟨_, rfl⟩
    have b1 : Below w.heap.size w W1 := by rw [← hW1]; exact (Below.refl _ _).alloc (Nat.le_refl _) _
    have g1 : w.heap.size < W1.heap.size := by rw [← hW1]; simp
    have r1 : W1.heap[w.heap.size]? = some (.cells #[.int .i64 v, .bool true] 25 (0, 0)) := by rw [← hW1]; exact heap_alloc_new _ _
    have R1 := Lib.hid r1
    have KX := Lib.hid (fun W (hb : Below W1.heap.size W1 W) => (cells2M ((hb.block _ g1).trans r1)).1)
    obtain ⟨z0, z1⟩ := cells2M r1
    have O1 := Lib.hid (OwnsB.one W1 W1.heap.size (Nat.le_refl _))
    have ba : Below W1.heap.size W1 (W1.alloc (.cells #[.int .u8 1] 5)) := (Below.refl _ _).alloc (Nat.le_refl _) _
    have BA := Lib.hid ba
    have C1 := Lib.hid (fun x h0 h1 => mapp_any W1.heap.size _ _ x _ h0 h1 O1.out (by decide) ba.size)
    have m1 : 0 ≤ v / 4294967296 % 4294967296 := by omega
    have m2 : v / 4294967296 % 4294967296 ≤ 4294967295 := by omega
    have m3 : 0 ≤ v % 4294967296 := by omega
    have m4 : v % 4294967296 ≤ 4294967295 := by omega
    have HM := Lib.hid (And.intro m1 (And.intro m2 (And.intro m3 m4)))
    have kx := KX.out _ ba
    clear r1 ba m1 m2 m3 m4
    go_enter Try.func12, Try.ntmps12
    go_wp2_with (first
      | (go_at_call 34; (with_reducible refine (C1.out _ HM.out.1 HM.out.2.1).mono ?_); rintro e w2 ⟨v2, rfl, o2, b2⟩; replace o2 := Lib.hid o2; replace b2 := Lib.hid (BA.out.trans b2); have kx2 := KX.out _ b2.out)
      | (go_at_call 34; (with_reducible refine (mapp_any W1.heap.size _ _ _ w2 HM.out.2.2.1 HM.out.2.2.2 o2.out (by simp [be4_len]) b2.out.size).mono ?_); rintro e w3 ⟨v3, rfl, o3, b3⟩; have hc := o3.str; replace b3 := Lib.hid (b2.out.trans b3))
      | (go_at_call 35; (with_reducible refine (sumB_any _ _ (by simp [be4_len])).mono ?_); rintro e w4 ⟨rfl, rfl⟩)
      | fail)
    go_ret
    refine ⟨?_, below_next b1 b3.out⟩
    show Ending.returned (Value.int .u32 (regI (sumL _))) = _
    rw [be4_mod, be4_mod]
    rfl
end Go.Proofs.Ytjjadappjapjhaa
