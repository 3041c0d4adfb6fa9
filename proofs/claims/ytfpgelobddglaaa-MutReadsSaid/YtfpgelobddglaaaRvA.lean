/-
  CONTRACTS: the document's Text and Read, of tables.
-/
import Derived.Test.YtfpgelobddglaaaRtM
import Derived.Test.YtfpgelobddglaaaVB
import Derived.Deep.Onto
namespace Go.Proofs.Ytfpgelobddglaaa
open Go.RowKit Go.Shelf Go.ChangeShapes Go.WideShapes Go.Deep

/-- What was written behind so many pairs. -/
def sT (l : List Sp) (j : Nat) : ByteArray := ofL (bl (numS (l.length : Int)) ++ pairsT (l.take j))
theorem sT_zero (l : List Sp) : sT l 0 = numS (l.length : Int) := by
  unfold sT
  rw [List.take_zero, show pairsT [] = [] from rfl, List.append_nil, ofL_bl]
theorem sT_succ {l : List Sp} {j : Nat} (h : j < l.length) : sT l (j + 1) = sT l j ++ numS (l.getD j (0, 0)).1 ++ wholeS (l.getD j (0, 0)).2 := by
  unfold sT
  rw [take_more h, pairsT_snoc, ← List.append_assoc, ← List.append_assoc, ofL_app, ofL_app, ofL_bl, ofL_bl]
theorem ba_app_size (a b : ByteArray) : (a ++ b).size = a.size + b.size := by rw [ba_size, ba_app, List.length_append, ← ba_size, ← ba_size]
theorem sT_size {l : List Sp} (ht : tblB l = true) : ∀ j, j ≤ l.length → (sT l j).size ≤ 9 + 18 * j
  | 0, _ => by rw [sT_zero]; have := tbl_le ht; exact numS_size (by omega)
  | j + 1, h => by
    have ih := sT_size ht j (by omega)
    have hb := tblF_get l (-1) j ht (by omega)
    have h1 := numS_size (n := (l.getD j (0, 0)).1) (by omega)
    have h2 := wholeS_size (l.getD j (0, 0)).2
    rw [sT_succ (by omega), ba_app_size, ba_app_size]
    omega
theorem sT_all {l : List Sp} (h : tblB l = true) : sT l l.length = ⟨(textV l).toArray⟩ := by
  unfold sT
  rw [List.take_of_length_le (Nat.le_refl _), show textV l = bodyV l from if_pos h]
  rfl

set_option maxRecDepth 100000 in
set_option maxHeartbeats 2000000 in
theorem rttext_any (a : Option Addr) (n cp : Nat) (l : List Sp) (w : World) (hA : Arg w a n cp l) :
    Calls Try.prog 49 #[.slice a n cp] w (Gives w (.string ⟨(textV l).toArray⟩)) := by
  have mixed : Try.prog.follows .mixedOrders = true := by kernel_rfl
  have CT := Lib.hid (fun W (h : Below w.heap.size w W) => rtcheck_any a n cp l W (hA.below h))
  cases ht : tblB l
  · rw [show textV l = [] from if_neg (by rw [ht]; simp)]
    have h1 := Lib.hid ht
    clear hA
    go_enter Try.func49, Try.ntmps49
    go_wp2_with (go_at_call 84; (with_reducible refine (CT.out _ (Below.refl _ _)).mono ?_); rw [h1.out]; rintro e w2 ⟨rfl, b2⟩)
    go_ret
    exact ⟨rfl, b2⟩
  · have hle := tbl_le ht
    have hn := hA.1
    have hn1 : n ≤ 4096 := by omega
    have hnb : (n : Int) ≤ 9223372036854775807 := by omega
    have H0 := Lib.hid (show sT l 0 = numS (n : Int) by rw [sT_zero, hn])
    have HE := Lib.hid (show (⟨(textV l).toArray⟩ : ByteArray) = sT l n by rw [hn, sT_all ht])
    have HZ := Lib.hid (fun j (h : j ≤ n) => sT_size ht j (by omega))
    have HG := Lib.hid (fun j (h : j < n) => sT_succ (l := l) (j := j) (by omega))
    have HR := Lib.hid (fun j (h : j < n) => tblF_get l (-1) j ht (by omega))
    have HA := Lib.hid hA
    have h1 := Lib.hid ht
    replace hn := Lib.hid hn
    obtain ⟨R, hR⟩ : ∃ R, (⟨(textV l).toArray⟩ : ByteArray) = R := ⟨_, rfl⟩
    rw [hR] at HE ⊢
    replace hR := Lib.hid hR
    clear hA hle ht
    go_enter Try.func49, Try.ntmps49
    go_wp2_with (first | (go_at_call 84; (with_reducible refine (CT.out _ (Below.refl _ _)).mono ?_); rw [h1.out]; rintro e w2 ⟨rfl, b2⟩) | (go_at_call 65; (with_reducible refine (refNum_any (n : Int) _ hnb).mono ?_); rintro e w3 ⟨rfl, b3⟩; have b03 := below_next b2 b3))
    go_loopw [3, 4] (fun v i wr => ∃ (j : Nat) (t : ByteArray), v = .string t ∧ Hid (t = sT l j) ∧ i = .int .i64 (j : Int) ∧ j ≤ n ∧ Below w.heap.size w wr)
      (fun _ i _ => n - (intOf i).toNat)
    case atStart => exact ⟨0, _, rfl, Lib.hid H0.out.symm, rfl, Nat.zero_le _, b03⟩
    case round =>
      obtain ⟨j, t, rfl, HT, rfl, hj, hbl⟩ := hrel
      by_cases hlt : j < n
      · have hjz : (j : Int) < (n : Int) := by omega
        obtain ⟨b, off, e, hb, d0, d1⟩ := HA.out.2.2.2.2 j (by rw [← hn.out]; exact hlt)
        subst e
        have hg := HG.out j hlt
        have hbd := HR.out j hlt
        have hsz : t.size ≤ 9 + 18 * j := by rw [HT.out]; exact HZ.out j hj
        generalize l.getD j (0, 0) = p at d0 d1 hg hbd
        obtain ⟨x, y⟩ := p
        dsimp only at d0 d1 hg hbd
        have hxb : x ≤ 9223372036854775807 := by omega
        have hxs := numS_size hxb
        have hys := wholeS_size y
        rw [← HT.out] at hg
        replace hg := Lib.hid hg
        have HEv : Env w wr [] := ⟨hbl, by simp⟩
        have F0 : ∀ p : EnvW w [], p.W.cell? ⟨b, off + j * 2, none⟩ = some (.int .i64 x) := fun p => (p.h.low.cell (p := ⟨b, off + j * 2, none⟩) hb).trans d0
        have F1 : ∀ p : EnvW w [], p.W.cell? ⟨b, off + j * 2 + 1, none⟩ = some (.int .i64 y) := fun p => (p.h.low.cell (p := ⟨b, off + j * 2 + 1, none⟩) hb).trans d1
        clear hbd d0 d1
        have hne : Nonempty (EnvW w []) := ⟨⟨_, HEv⟩⟩
        go_wp2_with fail
        refine wp_region_quiet_env HEv mixed (by kernel_rfl) ?_
        repeat (first | go_big_quiet_step (first | (go_at_call 65; exact env_of _ (refNum_any x _ hxb)) | (go_at_call 66; exact env_of _ (refWhole_any y _))) | quiet_step (first | (go_at_call 65; exact env_of _ (refNum_any x _ hxb)) | (go_at_call 66; exact env_of _ (refWhole_any y _))))
        refine wpQuiet_nil ?_
        intro _ hw'
        obtain ⟨⟨W9, hE⟩, hw''⟩ := hw'
        subst hw''
        go_wp2
        go_roundw
        case rel => exact ⟨j + 1, _, rfl, Lib.hid hg.out.symm, by go_num, by omega, hE.low⟩
        case measure => simp [intOf]; omega
      · have hjn : j = n := by omega
        have hjz : ¬ (j : Int) < (n : Int) := by omega
        subst hjn
        go_wp2
        go_ret
        exact ⟨by rw [HE.out, ← HT.out]; rfl, hbl⟩
end Go.Proofs.Ytfpgelobddglaaa
