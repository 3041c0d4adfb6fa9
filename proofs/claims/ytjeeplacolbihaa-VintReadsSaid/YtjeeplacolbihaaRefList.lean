/-
  CONTRACTS of the document's List, and of the page's examples (splicelaw01.awake).
-/
import Derived.Test.YtjeeplacolbihaaBase
namespace Go.Proofs.Ytjeeplacolbihaa
open Go.RowKit

theorem refList_nil (a : Option Addr) (cap : Nat) (w : World) : Calls Try.prog 25 #[.slice a 0 cap] w (StrPost (listS []) w) := by
  have H := Lib.hid (show listS [] = numS 0 by rw [numS_nat (by decide)]; simp [listS, wholesL])
  go_enter Try.func25, Try.ntmps25
  go_wp2_with (go_at_call 17; refine (refNum_any 0 _ (by decide)).mono ?_; rintro e w' ⟨rfl, hb⟩)
  refine wp_loop_rounds 1 ?_
  rw [rounds_succ]
  go_wp2
  go_ret
  exact ⟨by rw [H.out]; rfl, hb⟩

/-- What was gathered: the length, and k whole numbers. -/
def gath (zs : List Int) (k : Nat) : ByteArray := ⟨(numL zs.length ++ wholesL (zs.take k)).toArray⟩
theorem gath_zero (zs : List Int) : gath zs 0 = numS zs.length := by rw [numS_nat (by omega)]; simp [gath, wholesL]
theorem app_mk (a b : List UInt8) : (⟨a.toArray⟩ : ByteArray) ++ ⟨b.toArray⟩ = ⟨(a ++ b).toArray⟩ := by
  apply ByteArray.ext
  rw [ByteArray.data_append]
  simp
theorem gath_succ {zs : List Int} {k : Nat} (h : k < zs.length) (hm : mayZ (zs.getD k 0) = true) : gath zs (k + 1) = gath zs k ++ wholeS (zs.getD k 0) := by
  unfold gath
  rw [wholeS_yes hm, app_mk, List.append_assoc, ← wholesL_snoc, ← take_more h]
theorem gath_size {zs : List Int} {k : Nat} (hz : (zs.length : Int) ≤ 1000000000000) (h : ∀ z ∈ zs.take k, mayZ z = true) : ((gath zs k).size : Int) ≤ 9000000000100 := by
  have h1 := wholesL_len _ h
  have h2 := numL_len9 (n := zs.length) (by omega)
  rw [List.length_take] at h1
  have : (gath zs k).size = (numL zs.length).length + (wholesL (zs.take k)).length := by unfold gath; simp [ByteArray.size]
  omega
theorem wholeS_size (z : Int) : (wholeS z).size ≤ 9 := by
  cases h : mayZ z
  · rw [wholeS_no h]; simp
  · rw [wholeS_may h]; exact numS_size_le _ (foldZ_le h)

set_option maxRecDepth 100000 in
set_option maxHeartbeats 1000000 in
theorem refList_some (b off cap : Nat) (zs : List Int) (w : World) (hz : (zs.length : Int) ≤ 1000000000000) (hb : b < w.heap.size)
    (hc : ∀ k, k < zs.length → w.cell? ⟨b, off + k, none⟩ = some (.int .i64 (zs.getD k 0))) :
    Calls Try.prog 25 #[.slice (some ⟨b, off, none⟩) zs.length cap] w (StrPost (listS zs) w) := by
  go_enter Try.func25, Try.ntmps25
  go_wp2_with (go_at_call 17; refine (refNum_any _ _ (by omega)).mono ?_; rw [← gath_zero]; rintro e w0 ⟨rfl, hb0⟩)
  go_loopw [3, 4] (fun v i wr => ∃ (k : Nat), i = .int .i64 (k : Int) ∧ k ≤ zs.length ∧ (∀ z ∈ zs.take k, mayZ z = true) ∧ v = .string (gath zs k) ∧ Below w.heap.size w wr)
    (fun _ i _ => zs.length - (intOf i).toNat)
  case atStart => exact ⟨0, rfl, by omega, by simp, rfl, hb0⟩
  case round =>
    obtain ⟨k, rfl, hk, hall, rfl, hbl⟩ := hrel
    have hsz := hbl.size
    have hgs := gath_size hz hall
    have HA := Lib.hid hall
    clear hall
    by_cases hlt : k < zs.length
    · have hcell : wr.cell? ⟨b, off + k, none⟩ = some (.int .i64 (zs.getD k 0)) := (hbl.cell (by exact hb)).trans (hc k hlt)
      obtain ⟨z, hzk⟩ : ∃ z, zs.getD k 0 = z := ⟨_, rfl⟩
      have hgu := gath_succ (zs := zs) (k := k) hlt
      rw [hzk] at hcell hgu
      have HZ := Lib.hid hzk
      have HG := Lib.hid hgu
      have hws := wholeS_size z
      clear hzk hgu
      cases hm : mayZ z
      · have HM := Lib.hid hm
        clear hm
        go_wp2_with (go_at_call 42; refine (may_any z _).mono ?_; rw [HM.out]; rintro e w' ⟨rfl, rfl⟩)
        go_ret
        exact ⟨by rw [listS_no hlt (by rw [HZ.out]; exact HM.out)]; rfl, hbl⟩
      · have HM := Lib.hid hm
        clear hm
        go_wp2_with (first | (go_at_call 42; refine (may_any z _).mono ?_; rw [HM.out]; rintro e w' ⟨rfl, rfl⟩) | (go_at_call 19; refine (refWhole_any z wr).mono ?_; rintro e w1 ⟨rfl, hb1⟩; have hcell1 := (hb1.cell (by show b < wr.heap.size; omega)).trans hcell))
        go_roundw
        case rel => exact ⟨k + 1, by go_num, by omega, by rw [take_more hlt, HZ.out]; intro y hy; rcases List.mem_append.1 hy with h | h; exact HA.out y h; simp at h; subst h; exact HM.out, by rw [HG.out HM.out], hbl.trans (hb1.mono hsz)⟩
        case measure => simp [intOf]; omega
    · have hkz : zs.take k = zs := List.take_of_length_le (by omega)
      have HK := Lib.hid hkz
      clear hkz
      go_wp2
      go_ret
      have hall := HA.out
      rw [HK.out] at hall
      exact ⟨by rw [listS_yes hall, gath, HK.out]; rfl, hbl⟩

theorem refList_any (a : Option Addr) (cap : Nat) (zs : List Int) (w : World) (hz : (zs.length : Int) ≤ 1000000000000) (h : IntsIn w a zs) :
    Calls Try.prog 25 #[.slice a zs.length cap] w (StrPost (listS zs) w) := by
  rcases h with rfl | ⟨b, off, rfl, hb, hc⟩
  · exact refList_nil a cap w
  · exact refList_some b off cap zs w hz hb hc

theorem n300 : numS 300 = ⟨#[172, 2]⟩ := by
  rw [numS_nat (by decide), show (300 : Int).toNat = 300 from rfl, numL_hi (by decide), numL_lo (by decide)]; rfl
theorem w1s : wholeS (-1) = ⟨#[1]⟩ := by
  rw [wholeS_yes (by decide), show (foldZ (-1)).toNat = 1 from rfl, numL_lo (by decide)]; rfl
theorem tab : textS ⟨#[97, 98]⟩ = ⟨#[2, 97, 98]⟩ := by
  unfold textS
  rw [show (((⟨#[97, 98]⟩ : ByteArray).size : Nat) : Int) = 2 from rfl, numS_nat (by decide), show (2 : Int).toNat = 2 from rfl, numL_lo (by decide)]; rfl
theorem l11 : listS [1, -1] = ⟨#[2, 2, 1]⟩ := by
  rw [listS_yes (by decide)]
  simp only [wholesL, List.length_cons, List.length_nil]
  rw [show (foldZ 1).toNat = 2 from rfl, show (foldZ (-1)).toNat = 1 from rfl, numL_lo (by decide), numL_lo (by decide)]; rfl
theorem r800 : rNum ⟨#[128, 0]⟩ 0 = (0, ByteArray.empty, 3) := by
  unfold rNum
  rw [if_pos rfl, show scanN 0 (⟨#[128, 0]⟩ : ByteArray).data.toList = .error 3 from rfl]

theorem two_cells (w : World) (x y : Int) : ∀ k, k < [x, y].length → (w.alloc (.cells #[.int .i64 x, .int .i64 y] 3)).cell? ⟨w.heap.size, 0 + k, none⟩ = some (.int .i64 ([x, y].getD k 0)) := by
  intro k hk
  have hh : (w.alloc (.cells #[.int .i64 x, .int .i64 y] 3)).heap[w.heap.size]? = some (.cells #[.int .i64 x, .int .i64 y] 3 (0, 0)) := heap_alloc_new w _
  rw [cell_of_row _ _ _ _ _ _ hh]
  match k, hk with
  | 0, _ => rfl
  | 1, _ => rfl

set_option maxHeartbeats 1000000 in
theorem awake1_any (w : World) : Calls Try.prog 15 #[] w (TruePost w) := by
  have H0 := Lib.hid r800
  have H1 := Lib.hid n300
  have H2 := Lib.hid w1s
  have H3 := Lib.hid tab
  have H4 := Lib.hid l11
  go_enter Try.func15, Try.ntmps15
  go_wp2_with (first
    | (go_at_call 26; refine (from_any _ _).mono ?_; rintro e w0 ⟨rfl, rfl⟩)
    | (go_at_call 28; refine (rnum_any (Rd.new w _ _) (by decide)).mono ?_; rw [H0.out]; rintro e w1 ⟨rfl, R1, G1⟩)
    | (go_at_call 16; refine (num_any 300 _ (by decide)).mono ?_; rw [H1.out]; rintro e w2 ⟨rfl, B2⟩; have R2 := R1.below B2)
    | (go_at_call 18; refine (whole_any (-1) _).mono ?_; rw [H2.out]; rintro e w3 ⟨rfl, B3⟩; have R3 := R2.below B3)
    | (go_at_call 22; refine (text_any _ _ (by decide)).mono ?_; rw [H3.out]; rintro e w4 ⟨rfl, B4⟩; have R4 := R3.below B4; have S4 := two_cells w4 1 (-1))
    | (go_at_call 24; refine (list_some _ 0 _ [1, -1] _ (by decide) (by simp) S4).mono ?_; rw [H4.out]; rintro e w5 ⟨rfl, B5⟩; have R5 := (R4.below ((Below.refl _ _).alloc (Nat.le_refl _) _)).below B5)
    | (go_at_call 39; refine (err_any R5).mono ?_; rintro e w' ⟨rfl, rfl⟩))
  go_ret
  refine ⟨rfl, ?_⟩
  have C1 : Below w.heap.size w w1 := ((Below.refl _ _).alloc (Nat.le_refl _) _).grown G1 (by simp) (by simp)
  have C2 := C1.trans (B2.mono C1.size)
  have C3 := C2.trans (B3.mono C2.size)
  have C4 := C3.trans (B4.mono C3.size)
  exact (C4.alloc C4.size _).trans (B5.mono (by have := C4.size; simp; omega))
end Go.Proofs.Ytjeeplacolbihaa
