/-
  THE WALK of the law VintRows: it returns true, and writes nothing that was there.
-/
import Derived.Test.YtjeeplacolbihaaLawC
import Derived.Deep.RegionWith
namespace Go.Proofs.Ytjeeplacolbihaa
open Go.RowKit

/-- The numbers of 0 or more among the first k. -/
def nonneg (zs : List Int) (k : Nat) : List Int := (zs.take k).filter fun z => decide (0 ≤ z)
theorem nonneg_zero (zs : List Int) : nonneg zs 0 = [] := rfl
theorem nonneg_yes {zs : List Int} {k : Nat} (h : k < zs.length) (h0 : 0 ≤ zs.getD k 0) : nonneg zs (k + 1) = nonneg zs k ++ [zs.getD k 0] := by
  unfold nonneg
  rw [take_more h, List.filter_append]
  simp only [List.filter_cons, List.filter_nil]
  rw [if_pos (by simpa using h0)]
theorem nonneg_no {zs : List Int} {k : Nat} (h : k < zs.length) (h0 : zs.getD k 0 < 0) : nonneg zs (k + 1) = nonneg zs k := by
  unfold nonneg
  rw [take_more h, List.filter_append]
  simp only [List.filter_cons, List.filter_nil]
  rw [if_neg (by simpa using h0), List.append_nil]
theorem nonneg_prefix {zs : List Int} {k m : Nat} (h : k ≤ m) : ∃ t, nonneg zs m = nonneg zs k ++ t := by
  unfold nonneg
  refine ⟨((zs.take m).drop k).filter fun z => decide (0 ≤ z), ?_⟩
  rw [← List.filter_append]
  congr 1
  have := (List.take_append_drop k (zs.take m)).symm
  rw [List.take_take, Nat.min_eq_left h] at this
  exact this
/-- Numbers one behind the other. -/
def rowsL : List Int → List UInt8
  | [] => []
  | z :: r => numL z.toNat ++ rowsL r
def rowsS (l : List Int) : ByteArray := ⟨(rowsL l).toArray⟩
theorem rowsL_snoc (l : List Int) (z : Int) : rowsL (l ++ [z]) = rowsL l ++ numL z.toNat := by
  induction l with
  | nil => simp [rowsL]
  | cons a r ih => simp [rowsL, ih]
theorem rowsS_snoc {l : List Int} {z : Int} (h : 0 ≤ z) : rowsS (l ++ [z]) = rowsS l ++ numS z := by
  apply ba_ext
  rw [ba_app, numS_list h]
  exact rowsL_snoc l z
theorem rowsS_cons {l : List Int} {z : Int} (h : 0 ≤ z) : rowsS (z :: l) = numS z ++ rowsS l := by
  apply ba_ext
  rw [ba_app, numS_list h]
  rfl
theorem rowsL_len (l : List Int) (h : ∀ z ∈ l, 0 ≤ z ∧ z ≤ 9223372036854775807) : (rowsL l).length ≤ 9 * l.length := by
  induction l with
  | nil => simp [rowsL]
  | cons a r ih =>
    have h1 := h a (by simp)
    have h2 := numL_len9 (n := a.toNat) (by omega)
    have h3 := ih (fun z hz => h z (by simp [hz]))
    simp [rowsL]
    omega
theorem rowsS_size {l : List Int} (h : ∀ z ∈ l, 0 ≤ z ∧ z ≤ 9223372036854775807) (hl : l.length ≤ 200) : (rowsS l).size ≤ 1800 := by
  have := rowsL_len l h
  rw [ba_size]
  show (rowsL l).length ≤ 1800
  omega
theorem nonneg_mem {zs : List Int} {k : Nat} (h : ∀ z ∈ zs, -9223372036854775808 ≤ z ∧ z ≤ 9223372036854775807) : ∀ z ∈ nonneg zs k, 0 ≤ z ∧ z ≤ 9223372036854775807 := by
  intro z hz
  unfold nonneg at hz
  rw [List.mem_filter] at hz
  exact ⟨by simpa using hz.2, (h z (List.mem_of_mem_take hz.1)).2⟩
theorem nonneg_len (zs : List Int) (k : Nat) : (nonneg zs k).length ≤ k := by
  unfold nonneg
  exact Nat.le_trans (List.length_filter_le _ _) (List.length_take_le _ _)

/-- What stands at the place of the next one. -/
theorem nonneg_next {zs : List Int} {k m : Nat} (hk : k < zs.length) (h0 : 0 ≤ zs.getD k 0) (hm : k + 1 ≤ m) :
    (nonneg zs m).drop (nonneg zs k).length = zs.getD k 0 :: (nonneg zs m).drop (nonneg zs (k + 1)).length := by
  obtain ⟨t, ht⟩ := nonneg_prefix (zs := zs) hm
  rw [ht, List.drop_left, nonneg_yes hk h0, List.append_assoc, List.drop_left]
  rfl

theorem size_num {z : Int} (h0 : 0 ≤ z) (h1 : z ≤ 9223372036854775807) {r : ByteArray} : (numS z ++ r).size = (numS z).size + r.size := by
  have := h0
  have := h1
  rw [ba_size, ba_app, List.length_append, ← ba_size, ← ba_size]

set_option maxRecDepth 100000 in
set_option maxHeartbeats 4000000 in
theorem rows_some (b off cap : Nat) (zs : List Int) (w : World) (hlen : (zs.length : Int) ≤ 9223372036854775807) (hb : b < w.heap.size) (hzs : ∀ z ∈ zs, -9223372036854775808 ≤ z ∧ z ≤ 9223372036854775807)
    (hc : ∀ k, k < zs.length → w.cell? ⟨b, off + k, none⟩ = some (.int .i64 (zs.getD k 0))) :
    Calls Try.prog 12 #[.slice (some ⟨b, off, none⟩) zs.length cap] w fun e w' => e = .returned (.bool true) ∧ Below w.heap.size w w' := by
  have HC := Lib.hid hc
  have HZ := Lib.hid hzs
  clear hc hzs
  go_enter Try.func12, Try.ntmps12
  go_wp2
  go_loopw [3, 4, 5] (fun v c i wr => ∃ k : Nat, i = .int .i64 (k : Int) ∧ k ≤ zs.length ∧ c = .int .i64 ((nonneg zs k).length : Int) ∧ (nonneg zs k).length ≤ 200 ∧ v = .string (rowsS (nonneg zs k)) ∧ Below w.heap.size w wr)
    (fun _ _ i _ => zs.length - (intOf i).toNat)
  case atStart => exact ⟨0, rfl, by omega, rfl, by simp [nonneg_zero], rfl, Below.refl _ _⟩
  case round =>
    obtain ⟨k, rfl, hk, rfl, h200, rfl, hbl⟩ := hrel
    obtain ⟨c, hcn⟩ : ∃ c, (nonneg zs k).length = c := ⟨_, rfl⟩
    rw [hcn] at h200 ⊢
    have hck : c ≤ k := by rw [← hcn]; exact nonneg_len zs k
    obtain ⟨v, hv⟩ : ∃ v, rowsS (nonneg zs k) = v := ⟨_, rfl⟩
    have hvs : v.size ≤ 1800 := by rw [← hv]; exact rowsS_size (nonneg_mem HZ.out) (by omega)
    rw [hv]
    have HV := Lib.hid hv
    have HN := Lib.hid hcn
    clear hv hcn
    by_cases hgo : k < zs.length ∧ c < 200
    · obtain ⟨hlt, hc2⟩ := hgo
      have hcell : wr.cell? ⟨b, off + k, none⟩ = some (.int .i64 (zs.getD k 0)) := (hbl.cell (by exact hb)).trans (HC.out k hlt)
      obtain ⟨z, hz⟩ : ∃ z, zs.getD k 0 = z := ⟨_, rfl⟩
      have hzm : z ∈ zs := by rw [← hz]; simp [List.getD, List.getElem?_eq_getElem hlt]
      rw [hz] at hcell
      have hz2 : z ≤ 9223372036854775807 := (HZ.out z hzm).2
      have HZK := Lib.hid hz
      clear hz hzm
      by_cases h0 : 0 ≤ z
      · have HY := Lib.hid (nonneg_yes hlt (by rw [HZK.out]; exact h0))
        have hns := numS_size_le z hz2
        go_wp2_with (go_at_call 16; refine (num_any z _ hz2).mono ?_; rintro e w1 ⟨rfl, B1⟩)
        go_roundw
        case rel => exact ⟨k + 1, by go_num, by omega, by rw [HY.out, List.length_append, HN.out]; rfl, by rw [HY.out, List.length_append, HN.out]; simp; omega, by rw [HY.out, HZK.out, rowsS_snoc h0, HV.out], below_next hbl B1⟩
        case measure => simp [intOf]; omega
      · have HY := Lib.hid (nonneg_no hlt (by rw [HZK.out]; omega))
        go_wp2
        go_roundw
        case rel => exact ⟨k + 1, by go_num, by omega, by rw [HY.out, HN.out], by rw [HY.out, HN.out]; omega, by rw [HY.out, HV.out], hbl⟩
        case measure => simp [intOf]; omega
    · have hx : (k < zs.length ∧ 200 ≤ c) ∨ zs.length ≤ k := by omega
      clear hgo
      have hlow := hbl.size
      have HP : Hid (∀ j, j ≤ k → (nonneg zs j).length ≤ c) := Lib.hid fun j hj => by
        obtain ⟨t, ht⟩ := nonneg_prefix (zs := zs) hj
        rw [← HN.out, ht, List.length_append]; omega
      have HE : Hid (rowsS ((nonneg zs k).drop c) = ByteArray.empty) := Lib.hid (by rw [List.drop_of_length_le (by rw [HN.out]; exact Nat.le_refl _)]; rfl)
      have HMR : Hid (∀ j, ((rowsS ((nonneg zs k).drop j)).size : Int) ≤ 8000000000000000000) := Lib.hid fun j => by
        have h1 := rowsS_size (l := (nonneg zs k).drop j) (fun z hz => nonneg_mem HZ.out z (List.mem_of_mem_drop hz)) (by rw [List.length_drop, HN.out]; omega)
        omega
      rcases hx with ⟨hx1, hx2⟩ | hx1
      all_goals
        go_wp2_with fail
        refine (from_abs v _).mono ?_
        rintro e w1 ⟨g, rfl, hg, R, B1⟩
        have C1 := below_next hbl B1
        have R1 : Rd w1 g (rowsS ((nonneg zs k).drop (nonneg zs 0).length)) 0 := by rw [nonneg_zero, List.length_nil, List.drop_zero, HV.out]; exact R
        clear R B1
        go_wp2_with fail
        go_loopw [7, 8] (fun c2 i wr => ∃ j : Nat, i = .int .i64 (j : Int) ∧ j ≤ k ∧ c2 = .int .i64 ((nonneg zs j).length : Int) ∧ Rd wr g (rowsS ((nonneg zs k).drop (nonneg zs j).length)) 0 ∧ Below w.heap.size w wr)
          (fun _ i _ => k - (intOf i).toNat)
        case atStart => exact ⟨0, rfl, by omega, rfl, R1, C1⟩
        case round =>
          obtain ⟨j, rfl, hj, rfl, Rj, hb2⟩ := hrel
          have hpc := HP.out j hj
          obtain ⟨c2, hc2⟩ : ∃ c2, (nonneg zs j).length = c2 := ⟨_, rfl⟩
          rw [hc2] at hpc Rj ⊢
          have HC2 := Lib.hid hc2
          clear hc2
          by_cases hlt : c2 < c
          · have hjk : j < k := by
              rcases Nat.lt_or_ge j k with h | h
              · exact h
              · have : j = k := by omega
                subst this
                have h1 := HC2.out
                have h2 := HN.out
                omega
            have hjz : j < zs.length := by omega
            have hcell := (hb2.cell (p := ⟨b, off + j, none⟩) (by exact hb)).trans (HC.out j hjz)
            obtain ⟨z, hz⟩ : ∃ z, zs.getD j 0 = z := ⟨_, rfl⟩
            have hzm : z ∈ zs := by rw [← hz]; simp [List.getD, List.getElem?_eq_getElem hjz]
            rw [hz] at hcell
            have hz2 : z ≤ 9223372036854775807 := (HZ.out z hzm).2
            have HZJ := Lib.hid hz
            clear hz hzm
            by_cases h0 : 0 ≤ z
            · have HX := Lib.hid (nonneg_next hjz (by rw [HZJ.out]; exact h0) (show j + 1 ≤ k by omega))
              have HY := Lib.hid (nonneg_yes hjz (by rw [HZJ.out]; exact h0))
              have hns := numS_size_le z hz2
              have hR : Rd wr g (numS z ++ rowsS ((nonneg zs k).drop (nonneg zs (j + 1)).length)) 0 := by rw [← rowsS_cons h0, ← HZJ.out, ← HX.out, HC2.out]; exact Rj
              have hRd : Rd wr.drew g (numS z ++ rowsS ((nonneg zs k).drop (nonneg zs (j + 1)).length)) 0 := hR
              have HQ : Hid (∀ w, Rd w g (numS z ++ rowsS ((nonneg zs k).drop (nonneg zs (j + 1)).length)) 0 → Calls Try.prog 28 #[.pointer (some ⟨g, 0, none⟩)] w (RdPost w g (.int .i64 z) (rowsS ((nonneg zs k).drop (nonneg zs (j + 1)).length), 0))) :=
                Lib.hid fun w h => (rnum_any h (by rw [size_num h0 hz2]; have := HMR.out (nonneg zs (j + 1)).length; omega)).mono fun _ _ h => by rw [rNum_back h0 hz2] at h; exact h
              have hgb : g ≠ b := by omega
              go_wp2_with fail
              go_region_with ((go_at_call 28; refine (HQ.out _ hRd).mono ?_; rintro e w2 ⟨rfl, R2, G2⟩; have hcell2 := World.grownBy.cell G2 (a := ⟨b, off + j, none⟩) hcell (by simp; omega)))
              all_goals
                go_wp2
                go_roundw
                case rel => exact ⟨j + 1, by go_num, by omega, by rw [HY.out, List.length_append, HC2.out]; rfl, R2, hb2.drew.grown G2 hb2.size (by simp; omega)⟩
                case measure => simp [intOf]; omega
            · have HY := Lib.hid (nonneg_no hjz (by rw [HZJ.out]; omega))
              go_wp2
              go_roundw
              case rel => exact ⟨j + 1, by go_num, by omega, by rw [HY.out, HC2.out], by rw [HY.out, HC2.out]; exact Rj, hb2⟩
              case measure => simp [intOf]; omega
          · have hcc : c2 = c := by omega
            have Re : Rd wr g ByteArray.empty 0 := by rw [← HE.out, ← hcc]; exact Rj
            have HEnd := Lib.hid (show rEnd ByteArray.empty 0 = 0 from rfl)
            clear Rj hcc
            by_cases hjz : j < zs.length
            all_goals
              go_wp2_with (first
                | (go_at_call 15; refine (awake1_any _).mono ?_; rintro e w3 ⟨rfl, B3⟩; have R3 := Re.below B3)
                | (go_at_call 40; refine (end_any R3).mono ?_; rw [HEnd.out]; rintro e w' ⟨rfl, rfl⟩))
              go_ret
              exact ⟨rfl, below_next hb2 B3⟩

theorem rows_nil (a : Option Addr) (cap : Nat) (w : World) :
    Calls Try.prog 12 #[.slice a 0 cap] w fun e w' => e = .returned (.bool true) ∧ Below w.heap.size w w' := by
  have HEnd := Lib.hid (show rEnd (⟨#[]⟩ : ByteArray) 0 = 0 from rfl)
  go_enter Try.func12, Try.ntmps12
  go_wp2
  refine wp_loop_rounds 1 ?_
  rw [rounds_succ]
  go_wp2_with fail
  refine (from_abs _ _).mono ?_
  rintro e w1 ⟨g, rfl, hg, R, B1⟩
  go_wp2_with fail
  refine wp_loop_rounds 1 ?_
  rw [rounds_succ]
  go_wp2_with (first
    | (go_at_call 15; refine (awake1_any _).mono ?_; rintro e w3 ⟨rfl, B3⟩; have R3 := R.below B3)
    | (go_at_call 40; refine (end_any R3).mono ?_; rw [HEnd.out]; rintro e w' ⟨rfl, rfl⟩))
  go_ret
  exact ⟨rfl, below_next B1 B3⟩

theorem vintRows_walk (a : Option Addr) (len cap : Nat) (zs : List Int) (w : World) (hz : IntsArg w a len zs) :
    Calls Try.prog 12 #[.slice a len cap] w fun e w' => e = .returned (.bool true) ∧ Below w.heap.size w w' := by
  obtain ⟨rfl, hin, hzs, hlen⟩ := hz
  rcases hin with rfl | ⟨b, off, rfl, hb, hc⟩
  · exact rows_nil a cap w
  · exact rows_some b off cap zs w hlen hb hzs hc
end Go.Proofs.Ytjeeplacolbihaa
