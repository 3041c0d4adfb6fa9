/-
  CONTRACTS of frames: sumText, four, Frame and the document's Frame.
-/
import Derived.Test.YtjeeplacolbihabRefSum
import Derived.Test.YtjeeplacolbihabPlainB
namespace Go.Proofs.Ytjeeplacolbihab
open Go.RowKit

/-- A sum in bytes. -/
def fourL (c : BitVec 32) : List UInt8 := [UInt8.ofNat (c.toNat % 256), UInt8.ofNat (c.toNat / 256 % 256), UInt8.ofNat (c.toNat / 65536 % 256), UInt8.ofNat (c.toNat / 16777216)]
def fourS (c : BitVec 32) : ByteArray := ⟨(fourL c).toArray⟩
def frameS (s : ByteArray) : ByteArray := textS s ++ fourS (sumL (textS s).data.toList)

theorem byte_of {x : Nat} (h : x < 256) : ((UInt8.ofNat x).toNat : Int) = (x : Int) := by simp; omega
theorem conv4 (c : BitVec 32) (w : World) :
    (convert 38 9 (.slice (some ⟨w.heap.size, 0, none⟩) 4 4)).run Try.prog (w.alloc (.cells #[.int .u8 (regI c % 256), .int .u8 (regI c / 256 % 256), .int .u8 (regI c / 65536 % 256), .int .u8 (regI c / 16777216)] 5)) =
      .ok (.string (fourS c)) (w.alloc (.cells #[.int .u8 (regI c % 256), .int .u8 (regI c / 256 % 256), .int .u8 (regI c / 65536 % 256), .int .u8 (regI c / 16777216)] 5)) := by
  refine run_convert_bytes_back _ _ _ _ ⟨w.heap.size, 0, none⟩ 4 (fourL c) Try.underlying38 Try.underlying5 Try.underlying9 ?_
  have hlt := c.isLt
  intro j hj
  have hadd : (⟨w.heap.size, 0, none⟩ : Addr).add j = ⟨w.heap.size, j, none⟩ := by
    by_cases h : j = 0
    · subst h; simp [Addr.add]
    · simp [Addr.add, h]
  rw [hadd, World.cell?_alloc_mark w _ _ (0, 0) j]
  unfold regI
  match j, hj with
  | 0, _ => exact congrArg (fun x => some (Value.int .u8 x)) (by show ((c.toNat : Int) % 256) = ((UInt8.ofNat (c.toNat % 256)).toNat : Int); rw [byte_of (by omega)]; omega)
  | 1, _ => exact congrArg (fun x => some (Value.int .u8 x)) (by show ((c.toNat : Int) / 256 % 256) = ((UInt8.ofNat (c.toNat / 256 % 256)).toNat : Int); rw [byte_of (by omega)]; omega)
  | 2, _ => exact congrArg (fun x => some (Value.int .u8 x)) (by show ((c.toNat : Int) / 65536 % 256) = ((UInt8.ofNat (c.toNat / 65536 % 256)).toNat : Int); rw [byte_of (by omega)]; omega)
  | 3, _ => exact congrArg (fun x => some (Value.int .u8 x)) (by show ((c.toNat : Int) / 16777216) = ((UInt8.ofNat (c.toNat / 16777216)).toNat : Int); rw [byte_of (by omega)]; omega)

set_option maxHeartbeats 400000 in
theorem sumText_any (s : ByteArray) (w : World) (hs : (s.size : Int) ≤ 9000000000000000000) :
    Calls Try.prog 20 #[.string s] w (StrPost (fourS (sumL s.data.toList)) w) := by
  obtain ⟨b1, b2⟩ := regI_bd (sumL s.data.toList)
  have hc := conv4 (sumL s.data.toList) w
  go_enter Try.func20, Try.ntmps20
  go_wp2_with (go_at_call 15; refine (sum_any s _ hs).mono ?_; rintro e w' ⟨rfl, rfl⟩)
  go_ret
  exact ⟨rfl, (Below.refl _ _).alloc (Nat.le_refl _) _⟩
set_option maxHeartbeats 400000 in
theorem four_any (c : BitVec 32) (w : World) :
    Calls Try.prog 29 #[.int .u32 (regI c)] w (StrPost (fourS c) w) := by
  obtain ⟨b1, b2⟩ := regI_bd c
  have hc := conv4 c w
  go_enter Try.func29, Try.ntmps29
  go_wp2
  go_ret
  exact ⟨rfl, (Below.refl _ _).alloc (Nat.le_refl _) _⟩

theorem size_app' (a b : ByteArray) : (a ++ b).size = a.size + b.size := by rw [ba_size, ba_app, List.length_append, ← ba_size, ← ba_size]
theorem textS_size {s : ByteArray} (h : (s.size : Int) ≤ 9000000000000000000) : (textS s).size ≤ s.size + 9 := by
  have := numS_size_le s.size (by omega)
  unfold textS
  rw [size_app']
  omega
theorem fourS_size (c : BitVec 32) : (fourS c).size = 4 := rfl

def FramePost (s : ByteArray) (err : Int) (w : World) (e : Ending) (w' : World) : Prop := e = .returned (.tuple #[.string s, .int .i64 err]) ∧ Below w.heap.size w w'
set_option maxHeartbeats 400000 in
theorem frame_any (s : ByteArray) (w : World) (hs : s.size ≤ 1048576) : Calls Try.prog 12 #[.string s] w (FramePost (frameS s) 0 w) := by
  have h1 : (s.size : Int) ≤ 9000000000000000000 := by omega
  have h2 := textS_size h1
  have h3 : ((textS s).size : Int) ≤ 9000000000000000000 := by omega
  have h4 := fourS_size (sumL (textS s).data.toList)
  go_enter Try.func12, Try.ntmps12
  go_wp2_with (first
    | (go_at_call 23; refine (text_any s _ h1).mono ?_; rintro e w1 ⟨rfl, B1⟩)
    | (go_at_call 20; refine (sumText_any _ _ h3).mono ?_; rintro e w2 ⟨rfl, B2⟩))
  go_ret2
  exact ⟨rfl, below_next B1 B2⟩
theorem frame_long (s : ByteArray) (w : World) (hs : 1048576 < s.size) : Calls Try.prog 12 #[.string s] w (FramePost ByteArray.empty 2 w) := by
  go_enter Try.func12, Try.ntmps12
  go_wp2
  go_ret2
  exact ⟨rfl, Below.refl _ _⟩
set_option maxHeartbeats 400000 in
theorem refFrame_any (s : ByteArray) (w : World) (hs : s.size ≤ 1048576) : Calls Try.prog 22 #[.string s] w (FramePost (frameS s) 0 w) := by
  have h1 : (s.size : Int) ≤ 9000000000000000000 := by omega
  have h2 := textS_size h1
  have h3 : ((textS s).size : Int) ≤ 9000000000000000000 := by omega
  have h4 := fourS_size (sumL (textS s).data.toList)
  go_enter Try.func22, Try.ntmps22
  go_wp2_with (first
    | (go_at_call 28; refine (refText_any s _ h1).mono ?_; rintro e w1 ⟨rfl, B1⟩)
    | (go_at_call 30; refine (refSum_any _ _ h3).mono ?_; rintro e w' ⟨rfl, rfl⟩)
    | (go_at_call 29; refine (four_any _ _).mono ?_; rintro e w2 ⟨rfl, B2⟩))
  go_ret2
  exact ⟨rfl, below_next B1 B2⟩
end Go.Proofs.Ytjeeplacolbihab
