/-
  CONTRACTS: cksum.Split of frames, one behind the other, and what is no frame behind them; the law's own 'same', where the texts are the same.
-/
import Derived.Test.YtjeeplacolbihabSplitP
import Derived.Deep.QuietTactic
import Derived.BigQuiet
namespace Go.Proofs.Ytjeeplacolbihab
open Go.RowKit

def szOf : Value → Nat
  | .string s => s.size
  | _ => 0

def SplitPost (l : List ByteArray) (r : ByteArray) (w : World) (e : Ending) (w' : World) : Prop :=
  ∃ a cap, e = .returned (.tuple #[.slice a l.length cap, .string r]) ∧ StrsIn w' a l ∧ Below w.heap.size w w'
theorem open_frame {b r : ByteArray} (w : World) (hb : b.size ≤ 1048576) (hs : ((frameS b ++ r).size : Int) ≤ 9000000000000000000) :
    Calls Try.prog 9 #[.string (frameS b ++ r)] w (OpenPost (b, r, 0) w) := by
  have := open_any (frameS b ++ r) w hs
  rw [openR_back r hb] at this
  exact this
def OpenBad (w : World) (e : Ending) (w' : World) : Prop := ∃ (x y : ByteArray) (k : Int), (k != 0) = true ∧ e = .returned (.tuple #[.string x, .string y, .int .i64 k]) ∧ Below w.heap.size w w'
theorem open_bad {r : ByteArray} (w : World) (hr : (openR r).2.2 ≠ 0) (hs : (r.size : Int) ≤ 9000000000000000000) : Calls Try.prog 9 #[.string r] w (OpenBad w) :=
  (open_any r w hs).mono fun _ _ ⟨he, hb⟩ => ⟨_, _, _, by simpa using hr, he, hb⟩

theorem take_push {l : List ByteArray} {k : Nat} {b : ByteArray} (h : k < l.length) (hb : l.getD k ByteArray.empty = b) : l.take k ++ [b] = l.take (k + 1) := by rw [take_moreS h, hb]
theorem rest_front {l : List ByteArray} {k : Nat} {b r : ByteArray} (h : k < l.length) (hb : l.getD k ByteArray.empty = b) : framesS (l.drop k) ++ r = frameS b ++ (framesS (l.drop (k + 1)) ++ r) := by
  rw [List.drop_eq_getElem_cons h, framesS_cons, ba_assoc]
  have : l[k] = b := by rw [← hb]; simp [List.getD, List.getElem?_eq_getElem h]
  rw [this]
theorem rest_end {l : List ByteArray} {k : Nat} {r : ByteArray} (h : l.length ≤ k) : framesS (l.drop k) ++ r = r := by
  rw [List.drop_of_length_le h, framesS_nil]
  apply ba_ext; rw [ba_app]; simp

set_option maxRecDepth 100000 in
set_option maxHeartbeats 2000000 in
theorem split_any (l : List ByteArray) (r : ByteArray) (w : World) (hl : ∀ b ∈ l, b.size ≤ 1048576) (hr : (openR r).2.2 ≠ 0) (hs : ((framesS l ++ r).size : Int) ≤ 1000000000000) (hn : l.length ≤ 1000000000000) :
    Calls Try.prog 13 #[.string (framesS l ++ r)] w (SplitPost l r w) := by
  have HL := Lib.hid hl
  have HR := Lib.hid hr
  clear hl hr
  obtain ⟨i0, hi, hz0, hz1, hz2⟩ := info_parts Try.infoStr
  go_enter Try.func13, Try.ntmps13
  go_wp2
  go_loopw [0, 2] (fun s v wr => ∃ (k : Nat), k ≤ l.length ∧ s = .string (framesS (l.drop k) ++ r) ∧ ((framesS (l.drop k) ++ r).size : Int) ≤ 1000000000000 ∧ OwnsS wr w.heap.size v (l.take k) ∧ Below w.heap.size w wr)
    (fun s _ _ => szOf s)
  case atStart => exact ⟨0, by omega, rfl, hs, OwnsS.nil _ _, Below.refl _ _⟩
  case round =>
    obtain ⟨k, hk, rfl, hsz, hown, hbl⟩ := hrel
    by_cases hlt : k < l.length
    · obtain ⟨b, hb⟩ : ∃ b, l.getD k ByteArray.empty = b := ⟨_, rfl⟩
      have hbm : b ∈ l := by rw [← hb]; simp [List.getD, List.getElem?_eq_getElem hlt]
      have hb2 := HL.out b hbm
      have HF := Lib.hid (rest_front (r := r) hlt hb)
      have HP := Lib.hid (take_push hlt hb)
      clear hb hbm
      obtain ⟨u, hu⟩ : ∃ u, framesS (l.drop (k + 1)) ++ r = u := ⟨_, rfl⟩
      have HU := Lib.hid hu
      rw [hu] at HF
      clear hu
      rw [HF.out] at hsz ⊢
      have hfs := frame_size_ge b
      have hsz2 : (u.size : Int) ≤ 1000000000000 := by rw [size_app'] at hsz; omega
      have hlow := hbl.size
      have hkl : (l.take k).length ≤ 1000000000000 := by rw [List.length_take]; omega
      obtain ⟨q, hq⟩ : ∃ q, l.take k = q := ⟨_, rfl⟩
      rw [hq] at hown hkl HP
      clear hq
      go_wp2_with fail
      refine (open_frame wr hb2 (by omega)).mono ?_
      rintro e w1 ⟨rfl, B1⟩
      have hown1 := hown.below B1
      have C1 := below_add hbl hlow B1
      have hl1 := C1.size
      clear hown
      go_wp2_with (at_builtin; refine wpList_append_own _ rfl _ _ 31 rfl w.heap.size 9 i0 (.string ByteArray.empty) 1 16 Try.underlying31 hi hz0 hz1 hz2 rfl (by decide) _ _ _ rfl (hown1.alloc _) ⟨w1.heap.size, 0, none⟩ 1 1 [.string b] rfl rfl ?c1 ?c2 ?c3 ?c4 ?c5 ?_)
      case c1 => exact cell_one_new _ _ _
      case c2 => intro x hx; simp at hx; subst hx; rfl
      case c3 => unfold maxLen; omega
      case c4 => omega
      case c5 => simp; omega
      intro v' w2 hown2 hgrow2 _
      have ho := OwnsS.push hown2
      rw [HP.out] at ho
      have C2 : Below w.heap.size w w2 := (C1.alloc hl1 _).grown hgrow2 (by simp; omega) (by intro kk hkk; exact (hown1.lt kk hkk).1)
      clear hown2 hgrow2 hown1
      go_wp2
      go_roundw
      case rel => exact ⟨k + 1, by omega, by rw [HU.out], by rw [HU.out]; exact hsz2, ho, C2⟩
      case measure => simp only [szOf]; rw [size_app']; omega
    · have hkl : k = l.length := by omega
      have HE := Lib.hid (rest_end (l := l) (k := k) (r := r) (by omega))
      rw [HE.out] at hsz ⊢
      obtain ⟨a, cap, rfl, hin, _⟩ := hown.arg
      have HT := Lib.hid (show l.take k = l by rw [List.take_of_length_le (by omega)])
      rw [HT.out] at hin ⊢
      clear hkl
      go_wp2_with fail
      refine (open_bad wr HR.out (by omega)).mono ?_
      rintro e w1 ⟨x, y, kk, hkk, rfl, B1⟩
      have hin1 := hin.below B1
      go_wp2_with fail
      go_ret2
      exact ⟨a, cap, rfl, hin1, below_add hbl hbl.size B1⟩

theorem strs_same_nil (a b : Option Addr) (ca cb : Nat) (w : World) :
    Calls Try.prog 14 #[.slice a 0 ca, .slice b 0 cb] w (TruePost w) := by
  go_enter Try.func14, Try.ntmps14
  go_wp2
  refine wp_loop_rounds 1 ?_
  rw [rounds_succ]
  go_wp2
  go_ret
  exact ⟨rfl, Below.refl _ _⟩

theorem below_drewNS {B : Nat} {a w : World} (h : Below B a w) (n : Nat) : Below B a (w.drewN n) := ⟨h.os, h.tape, h.output, h.size, h.block⟩
set_option maxHeartbeats 1000000 in
theorem strs_same_some (b1 o1 c1 b2 o2 c2 : Nat) (zs : List ByteArray) (w : World) (hz : (zs.length : Int) ≤ 1000000000000) (hb1 : b1 < w.heap.size) (hb2 : b2 < w.heap.size)
    (hc1 : ∀ k, k < zs.length → w.cell? ⟨b1, o1 + k, none⟩ = some (.string (zs.getD k ByteArray.empty)))
    (hc2 : ∀ k, k < zs.length → w.cell? ⟨b2, o2 + k, none⟩ = some (.string (zs.getD k ByteArray.empty))) :
    Calls Try.prog 14 #[.slice (some ⟨b1, o1, none⟩) zs.length c1, .slice (some ⟨b2, o2, none⟩) zs.length c2] w (TruePost w) := by
  go_enter Try.func14, Try.ntmps14
  go_wp2
  go_loopw [5] (fun i wr => ∃ (k : Nat), i = .int .i64 (k : Int) ∧ k ≤ zs.length ∧ Below w.heap.size w wr)
    (fun i _ => zs.length - (intOf i).toNat)
  case atStart => exact ⟨0, rfl, by omega, Below.refl _ _⟩
  case round =>
    obtain ⟨k, rfl, hk, hbl⟩ := hrel
    by_cases hlt : k < zs.length
    · have d1 : wr.cell? ⟨b1, o1 + k, none⟩ = some (.string (zs.getD k ByteArray.empty)) := (hbl.cell (by exact hb1)).trans (hc1 k hlt)
      have d2 : wr.cell? ⟨b2, o2 + k, none⟩ = some (.string (zs.getD k ByteArray.empty)) := (hbl.cell (by exact hb2)).trans (hc2 k hlt)
      obtain ⟨z, hzk⟩ : ∃ z, zs.getD k ByteArray.empty = z := ⟨_, rfl⟩
      rw [hzk] at d1 d2
      clear hzk hc1 hc2
      have hlt' : (k : Int) < (zs.length : Int) := by omega
      have h0 : (0 : Int) ≤ (k : Int) := by omega
      go_wp2_with fail
      go_quiet (fail)
      go_wp2
      go_roundw
      case rel => exact ⟨k + 1, by go_num, by omega, below_drewNS hbl _⟩
      case measure => simp [intOf]; omega
    · go_wp2
      go_ret
      exact ⟨rfl, hbl⟩

theorem strs_same (a1 a2 : Option Addr) (c1 c2 : Nat) (zs : List ByteArray) (w : World) (hz : (zs.length : Int) ≤ 1000000000000) (h1 : StrsIn w a1 zs) (h2 : StrsIn w a2 zs) :
    Calls Try.prog 14 #[.slice a1 zs.length c1, .slice a2 zs.length c2] w (TruePost w) := by
  by_cases h0 : zs = []
  · subst h0; exact strs_same_nil a1 a2 c1 c2 w
  · rcases h1 with h | ⟨b1, o1, rfl, hb1, hc1⟩
    · exact absurd h h0
    · rcases h2 with h | ⟨b2, o2, rfl, hb2, hc2⟩
      · exact absurd h h0
      · exact strs_same_some b1 o1 c1 b2 o2 c2 zs w hz hb1 hb2 hc1 hc2
end Go.Proofs.Ytjeeplacolbihab
