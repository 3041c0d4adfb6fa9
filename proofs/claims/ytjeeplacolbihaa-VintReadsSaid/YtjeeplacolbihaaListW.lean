/-
  CONTRACTS of the writers of lists: vint's List and the document's.
-/
import Derived.Test.YtjeeplacolbihaaInts
namespace Go.Proofs.Ytjeeplacolbihaa
open Go.RowKit

theorem wholesL_snoc (l : List Int) (z : Int) : wholesL (l ++ [z]) = wholesL l ++ numL (foldZ z).toNat := by
  induction l with
  | nil => simp [wholesL]
  | cons a r ih => simp [wholesL, ih]
theorem wholesL_len (l : List Int) (h : ∀ z ∈ l, mayZ z = true) : (wholesL l).length ≤ 9 * l.length := by
  induction l with
  | nil => simp [wholesL]
  | cons a r ih =>
    have h1 := foldZ_le (h a (by simp))
    have h2 := numL_len9 (n := (foldZ a).toNat) (by have := foldZ_nonneg a; omega)
    have h3 := ih (fun z hz => h z (by simp [hz]))
    simp [wholesL]
    omega
theorem take_more {zs : List Int} {k : Nat} (h : k < zs.length) : zs.take (k + 1) = zs.take k ++ [zs.getD k 0] := by
  rw [List.take_succ_eq_append_getElem h]; simp [List.getD, List.getElem?_eq_getElem h]
theorem listS_yes {zs : List Int} (h : ∀ z ∈ zs, mayZ z = true) : listS zs = ⟨(numL zs.length ++ wholesL zs).toArray⟩ := by
  unfold listS; rw [if_pos (by simpa using h)]
theorem listS_no {zs : List Int} {k : Nat} (hk : k < zs.length) (h : mayZ (zs.getD k 0) = false) : listS zs = ByteArray.empty := by
  unfold listS; rw [if_neg]
  intro hall
  have := List.all_eq_true.1 hall (zs.getD k 0) (by simp [List.getD, List.getElem?_eq_getElem hk])
  rw [h] at this; cases this

theorem list_nil (a : Option Addr) (cap : Nat) (w : World) : Calls Try.prog 24 #[.slice a 0 cap] w (StrPost (listS []) w) := by
  have H := Lib.hid (show listS [] = ⟨(numL (0 : Int).toNat).toArray⟩ by simp [listS, wholesL])
  go_enter Try.func24, Try.ntmps24
  go_wp2_with (go_at_call 48; refine (appendNum_any w.heap.size _ [] 0 _ (by decide) (by decide) (OwnsB.nil _ _) (by simp) (Nat.le_refl _)).mono ?_)
  intro e w' ⟨v', he, ho, hb⟩
  subst he
  have hc := ho.str
  clear ho
  go_wp2
  refine wp_loop_rounds 1 ?_
  rw [rounds_succ]
  go_wp2
  go_ret
  exact ⟨by rw [H.out]; simp, hb⟩

set_option maxRecDepth 100000 in
set_option maxHeartbeats 1000000 in
theorem list_some (b off cap : Nat) (zs : List Int) (w : World) (hz : (zs.length : Int) ≤ 1000000000000) (hb : b < w.heap.size)
    (hc : ∀ k, k < zs.length → w.cell? ⟨b, off + k, none⟩ = some (.int .i64 (zs.getD k 0))) :
    Calls Try.prog 24 #[.slice (some ⟨b, off, none⟩) zs.length cap] w (StrPost (listS zs) w) := by
  go_enter Try.func24, Try.ntmps24
  go_wp2_with (go_at_call 48; refine (appendNum_any w.heap.size _ [] _ _ (by omega) (by omega) (OwnsB.nil _ _) (by simp) (Nat.le_refl _)).mono ?_)
  intro e w0 ⟨v0, he, ho0, hb0⟩
  subst he
  rw [List.nil_append, Int.toNat_natCast] at ho0
  have hn9 := numL_len9 (n := zs.length) (by omega)
  go_wp2_with fail
  go_loopw [3, 11] (fun v i wr => ∃ (k : Nat), i = .int .i64 (k : Int) ∧ k ≤ zs.length ∧ (∀ z ∈ zs.take k, mayZ z = true) ∧ OwnsB wr w.heap.size v (numL zs.length ++ wholesL (zs.take k)) ∧ Below w.heap.size w wr)
    (fun _ i _ => zs.length - (intOf i).toNat)
  case atStart => exact ⟨0, rfl, by omega, by simp, by simpa [wholesL] using ho0, hb0⟩
  case round =>
    obtain ⟨k, rfl, hk, hall, hown, hbl⟩ := hrel
    have hsz := hbl.size
    have HA := Lib.hid hall
    clear hall
    by_cases hlt : k < zs.length
    · have hcell : wr.cell? ⟨b, off + k, none⟩ = some (.int .i64 (zs.getD k 0)) := (hbl.cell (by exact hb)).trans (hc k hlt)
      obtain ⟨z, hzk⟩ : ∃ z, zs.getD k 0 = z := ⟨_, rfl⟩
      rw [hzk] at hcell
      have HZ := Lib.hid hzk
      clear hzk
      cases hm : mayZ z
      · have HM := Lib.hid hm
        clear hm
        go_wp2_with (go_at_call 49; refine (inRange_any z _).mono ?_; rw [HM.out]; rintro e w' ⟨rfl, rfl⟩)
        go_ret
        exact ⟨by rw [listS_no hlt (by rw [HZ.out]; exact HM.out)]; rfl, hbl⟩
      · have HM := Lib.hid hm
        clear hm
        have hlen : (numL zs.length ++ wholesL (zs.take k)).length ≤ 140737488355000 := by
          have := wholesL_len _ HA.out
          rw [List.length_take] at this
          rw [List.length_append]
          omega
        go_wp2_with (first | (go_at_call 49; refine (inRange_any z _).mono ?_; rw [HM.out]; rintro e w' ⟨rfl, rfl⟩) | (go_at_call 50; refine (fold_any z _ HM.out).mono ?_; rintro e w' ⟨rfl, rfl⟩) | (go_at_call 48; refine (appendNum_any w.heap.size _ _ (foldZ z) _ (foldZ_nonneg z) (foldZ_le HM.out) hown hlen hsz).mono ?_))
        intro e w1 ⟨v1, he, ho1, hb1⟩
        subst he
        rw [List.append_assoc, ← wholesL_snoc, ← HZ.out, ← take_more hlt] at ho1
        go_wp2
        go_roundw
        case rel => exact ⟨k + 1, by go_num, by omega, by rw [take_more hlt, HZ.out]; intro y hy; rcases List.mem_append.1 hy with h | h; exact HA.out y h; simp at h; subst h; exact HM.out, ho1, hbl.trans hb1⟩
        case measure => simp [intOf]; omega
    · have hkz : zs.take k = zs := List.take_of_length_le (by omega)
      have HK := Lib.hid hkz
      clear hkz
      have hs := hown.str
      clear hown
      go_wp2
      go_ret
      have hall := HA.out
      rw [HK.out] at hall ⊢
      exact ⟨by rw [listS_yes hall]; rfl, hbl⟩

theorem list_any (a : Option Addr) (cap : Nat) (zs : List Int) (w : World) (hz : (zs.length : Int) ≤ 1000000000000) (h : IntsIn w a zs) :
    Calls Try.prog 24 #[.slice a zs.length cap] w (StrPost (listS zs) w) := by
  rcases h with rfl | ⟨b, off, rfl, hb, hc⟩
  · exact list_nil a cap w
  · exact list_some b off cap zs w hz hb hc
end Go.Proofs.Ytjeeplacolbihaa
