/-
  THE WALK of the law VintFirst: it returns true, and writes nothing that was there.
-/
import Derived.Test.YtjeeplacolbihaaPairs
namespace Go.Proofs.Ytjeeplacolbihaa
open Go.RowKit

set_option maxRecDepth 100000 in
set_option maxHeartbeats 4000000 in
theorem first_some (s : ByteArray) (b off cap : Nat) (ps : List (Int × Int)) (w : World) (hs : s.size ≤ 20000) (hl : (ps.length : Int) ≤ 9223372036854775807) (hb : b < w.heap.size)
    (hc : ∀ k, k < ps.length → w.cell? ⟨b, off + k * 2, none⟩ = some (.int .i64 (ps.getD k (0, 0)).1) ∧ w.cell? ⟨b, off + k * 2 + 1, none⟩ = some (.int .i64 (ps.getD k (0, 0)).2)) :
    Calls Try.prog 10 #[.string s, .slice (some ⟨b, off, none⟩) ps.length cap] w fun e w' => e = .returned (.bool true) ∧ Below w.heap.size w w' := by
  have HC := Lib.hid hc
  clear hc
  go_enter Try.func10, Try.ntmps10
  go_wp2_with fail
  refine (from_abs s _).mono ?_
  rintro e w1 ⟨g, rfl, hg, R1, B1⟩
  go_wp2_with fail
  go_loopw [22] (fun _ wr => ∃ (t : ByteArray) (e : Int), Rd wr g t e ∧ Spent t e ∧ t.size ≤ 20000 ∧ Below w.heap.size w wr)
    (fun _ wr => farOf wr g)
  case atStart => exact ⟨s, 0, R1, .inl rfl, hs, B1⟩
  case round =>
    obtain ⟨t, e, R, hsp, ht, C⟩ := hrel
    have hgb : w.heap.size ≤ g := by have := B1.size; omega
    have hf := farOf_rd R
    by_cases hgo : e = 0 ∧ t.size ≠ 0
    · obtain ⟨rfl, hz⟩ := hgo
      have hem : t.toList.isEmpty = false := by
        rw [ByteArray.toList_eq]
        cases hd : t.data.toList with
        | nil => exact absurd (by rw [ba_size, hd]; rfl) hz
        | cons a r => rfl
      have HF := Lib.hid hf
      clear hf
      go_wp2_with (first
        | (go_at_call 39; refine (err_any R).mono ?_; rintro e w' ⟨rfl, rfl⟩)
        | (go_at_call 38; refine (left_any R).mono ?_; rintro e w' ⟨rfl, rfl⟩)
        | (go_at_call 28; refine (rnum_any R (by omega)).mono ?_; rintro e w2 ⟨rfl, R2, G2⟩))
      go_roundw
      case rel => exact ⟨_, _, R2, spent_rNum, Nat.le_trans (rNum_size t 0) ht, C.grown G2 C.size (by simp; omega)⟩
      case measure =>
        rw [HF.out, farOf_rd R2, if_pos trivial]
        split
        · rename_i h0
          have := rNum_less h0
          omega
        · omega
    · have HN : ∃ e2, e2 ≠ 0 ∧ ∀ w, Rd w g t e → Calls Try.prog 28 #[.pointer (some ⟨g, 0, none⟩)] w (RdPost w g (.int .i64 0) (ByteArray.empty, e2)) := by
        rcases hsp with rfl | ⟨he, rfl⟩
        · have hz : t.size = 0 := by
            rcases Nat.eq_zero_or_pos t.size with h | h
            · exact h
            · exact absurd ⟨rfl, by omega⟩ hgo
          have ht0 : t = ByteArray.empty := ba_ext (by
            have : t.data.toList = [] := List.eq_nil_of_length_eq_zero (by rw [← ba_size]; exact hz)
            rw [this]; rfl)
          refine ⟨5, by decide, fun w h => (rnum_any h (by omega)).mono fun _ _ h => ?_⟩
          rw [ht0, rNum_empty] at h
          exact h
        · exact ⟨e, he, fun w h => (rnum_any h (by omega)).mono fun _ _ h => by rw [spent_num he] at h; exact h⟩
      obtain ⟨e2, he2, HN⟩ := HN
      replace HN := Lib.hid HN
      have hx : ((e == 0) = false) ∨ ((e == 0) = true ∧ t.toList.isEmpty = true) := by
        by_cases h0 : e = 0
        · right
          refine ⟨by simpa using h0, ?_⟩
          have hz : t.size = 0 := by
            rcases Nat.eq_zero_or_pos t.size with h | h
            · exact h
            · exact absurd ⟨h0, by omega⟩ hgo
          have : t.data.toList = [] := List.eq_nil_of_length_eq_zero (by rw [← ba_size]; exact hz)
          rw [ByteArray.toList_eq, this]; rfl
        · left; simpa using h0
      have d1 : (e2 == 0) = false := by simpa using he2
      have N0 : Hid (∀ w, Rd w g ByteArray.empty e2 → Calls Try.prog 28 #[.pointer (some ⟨g, 0, none⟩)] w (RdPost w g (.int .i64 0) (ByteArray.empty, e2))) := Lib.hid fun w h => (rnum_any h (by decide)).mono fun _ _ h => by rw [spent_num he2] at h; exact h
      have N1 : Hid (∀ w, Rd w g ByteArray.empty e2 → Calls Try.prog 30 #[.pointer (some ⟨g, 0, none⟩)] w (RdPost w g (.int .i64 0) (ByteArray.empty, e2))) := Lib.hid fun w h => (rwhole_any h (by decide)).mono fun _ _ h => by rw [spent_whole he2] at h; exact h
      have N2 : Hid (∀ w, Rd w g ByteArray.empty e2 → Calls Try.prog 32 #[.pointer (some ⟨g, 0, none⟩)] w (RdPost w g (.bool false) (ByteArray.empty, e2))) := Lib.hid fun w h => (rflag_any h).mono fun _ _ h => by rw [spent_flag he2] at h; exact h
      have N3 : Hid (∀ m w, Rd w g ByteArray.empty e2 → Calls Try.prog 34 #[.pointer (some ⟨g, 0, none⟩), .int .i64 m] w (RdPost w g (.string ByteArray.empty) (ByteArray.empty, e2))) := Lib.hid fun m w h => (rtext_any m h (by decide)).mono fun _ _ h => by rw [spent_text he2] at h; exact h
      have N4 : Hid (∀ m w, Rd w g ByteArray.empty e2 → Calls Try.prog 37 #[.pointer (some ⟨g, 0, none⟩), .int .i64 m] w (ArgPost w g [] (ByteArray.empty, e2))) := Lib.hid fun m w h => (rlist_any m h (by decide)).mono fun _ _ h => by rw [spent_list he2] at h; exact h.arg
      have HE := Lib.hid (spent_end he2)
      clear hsp hgo hf he2
      rcases hx with h0 | ⟨h0, h00⟩
      all_goals
        go_wp2_with (first
          | (go_at_call 39; refine (err_any R).mono ?_; rintro e w' ⟨rfl, rfl⟩)
          | (go_at_call 38; refine (left_any R).mono ?_; rintro e w' ⟨rfl, rfl⟩)
          | (go_at_call 28; refine (HN.out _ R).mono ?_; rintro e w2 ⟨rfl, R2, G2⟩; replace R := R2; have C2 : Below w.heap.size w w2 := C.grown G2 C.size (by simp; omega); clear R2 G2))
        go_loopw [7] (fun i wr => ∃ k : Nat, i = .int .i64 (k : Int) ∧ k ≤ ps.length ∧ Rd wr g ByteArray.empty e2 ∧ Below w.heap.size w wr)
          (fun i _ => ps.length - (intOf i).toNat)
        case atStart => exact ⟨0, rfl, by omega, R, C2⟩
        case round =>
          clear R C2
          obtain ⟨k, rfl, hk, R, D⟩ := hrel
          by_cases hlt : k < ps.length
          · by_cases h20 : k < 20
            · have hcm := (D.cell (p := ⟨b, off + k * 2 + 1, none⟩) (by exact hb)).trans (HC.out k hlt).2
              obtain ⟨m, hm⟩ : ∃ m, (ps.getD k (0, 0)).2 = m := ⟨_, rfl⟩
              rw [hm] at hcm
              clear hm
              go_wp2_with (first
                | (go_at_call 39; refine (err_any R).mono ?_; rintro e w' ⟨rfl, rfl⟩)
                | (go_at_call 38; refine (left_any R).mono ?_; rintro e w' ⟨rfl, rfl⟩)
                | (go_at_call 40; refine (end_any R).mono ?_; rw [HE.out]; rintro e w' ⟨rfl, rfl⟩)
                | (go_at_call 28; refine (N0.out _ R).mono ?_; rintro e w' ⟨rfl, R', G⟩; replace R := R'; replace hcm := World.grownBy.cell G hcm (by simp; omega); replace D := D.grown G D.size (by simp; omega); clear G)
                | (go_at_call 30; refine (N1.out _ R).mono ?_; rintro e w' ⟨rfl, R', G⟩; replace R := R'; replace hcm := World.grownBy.cell G hcm (by simp; omega); replace D := D.grown G D.size (by simp; omega); clear G)
                | (go_at_call 32; refine (N2.out _ R).mono ?_; rintro e w' ⟨rfl, R', G⟩; replace R := R'; replace hcm := World.grownBy.cell G hcm (by simp; omega); replace D := D.grown G D.size (by simp; omega); clear G)
                | (go_at_call 34; refine (N3.out m _ R).mono ?_; rintro e w' ⟨rfl, R', G⟩; replace R := R'; replace hcm := World.grownBy.cell G hcm (by simp; omega); replace D := D.grown G D.size (by simp; omega); clear G)
                | (go_at_call 37; refine (N4.out m _ R).mono ?_; rintro e w' ⟨ad, cp, rfl, _, R', G⟩; replace R := R'; replace hcm := World.grownBy.cell G hcm (by simp; omega); replace D := D.grown G D.size (by simp; omega); clear G))
              go_roundw
              case rel => exact ⟨k + 1, by go_num, by omega, R, D⟩
              case measure => simp [intOf]; omega
            · go_wp2_with (go_at_call 15; refine (awake1_any _).mono ?_; rintro e w3 ⟨rfl, B3⟩)
              go_ret
              exact ⟨rfl, below_next D B3⟩
          · go_wp2_with (go_at_call 15; refine (awake1_any _).mono ?_; rintro e w3 ⟨rfl, B3⟩)
            go_ret
            exact ⟨rfl, below_next D B3⟩
set_option maxRecDepth 100000 in
set_option maxHeartbeats 4000000 in
theorem first_nil (s : ByteArray) (a : Option Addr) (cap : Nat) (w : World) (hs : s.size ≤ 20000) :
    Calls Try.prog 10 #[.string s, .slice a 0 cap] w fun e w' => e = .returned (.bool true) ∧ Below w.heap.size w w' := by
  go_enter Try.func10, Try.ntmps10
  go_wp2_with fail
  refine (from_abs s _).mono ?_
  rintro e w1 ⟨g, rfl, hg, R1, B1⟩
  go_wp2_with fail
  go_loopw [22] (fun _ wr => ∃ (t : ByteArray) (e : Int), Rd wr g t e ∧ Spent t e ∧ t.size ≤ 20000 ∧ Below w.heap.size w wr)
    (fun _ wr => farOf wr g)
  case atStart => exact ⟨s, 0, R1, .inl rfl, hs, B1⟩
  case round =>
    obtain ⟨t, e, R, hsp, ht, C⟩ := hrel
    have hgb : w.heap.size ≤ g := by have := B1.size; omega
    have hf := farOf_rd R
    by_cases hgo : e = 0 ∧ t.size ≠ 0
    · obtain ⟨rfl, hz⟩ := hgo
      have hem : t.toList.isEmpty = false := by
        rw [ByteArray.toList_eq]
        cases hd : t.data.toList with
        | nil => exact absurd (by rw [ba_size, hd]; rfl) hz
        | cons a r => rfl
      have HF := Lib.hid hf
      clear hf
      go_wp2_with (first
        | (go_at_call 39; refine (err_any R).mono ?_; rintro e w' ⟨rfl, rfl⟩)
        | (go_at_call 38; refine (left_any R).mono ?_; rintro e w' ⟨rfl, rfl⟩)
        | (go_at_call 28; refine (rnum_any R (by omega)).mono ?_; rintro e w2 ⟨rfl, R2, G2⟩))
      go_roundw
      case rel => exact ⟨_, _, R2, spent_rNum, Nat.le_trans (rNum_size t 0) ht, C.grown G2 C.size (by simp; omega)⟩
      case measure =>
        rw [HF.out, farOf_rd R2, if_pos trivial]
        split
        · rename_i h0
          have := rNum_less h0
          omega
        · omega
    · have HN : ∃ e2, e2 ≠ 0 ∧ ∀ w, Rd w g t e → Calls Try.prog 28 #[.pointer (some ⟨g, 0, none⟩)] w (RdPost w g (.int .i64 0) (ByteArray.empty, e2)) := by
        rcases hsp with rfl | ⟨he, rfl⟩
        · have hz : t.size = 0 := by
            rcases Nat.eq_zero_or_pos t.size with h | h
            · exact h
            · exact absurd ⟨rfl, by omega⟩ hgo
          have ht0 : t = ByteArray.empty := ba_ext (by
            have : t.data.toList = [] := List.eq_nil_of_length_eq_zero (by rw [← ba_size]; exact hz)
            rw [this]; rfl)
          refine ⟨5, by decide, fun w h => (rnum_any h (by omega)).mono fun _ _ h => ?_⟩
          rw [ht0, rNum_empty] at h
          exact h
        · exact ⟨e, he, fun w h => (rnum_any h (by omega)).mono fun _ _ h => by rw [spent_num he] at h; exact h⟩
      obtain ⟨e2, he2, HN⟩ := HN
      replace HN := Lib.hid HN
      have hx : ((e == 0) = false) ∨ ((e == 0) = true ∧ t.toList.isEmpty = true) := by
        by_cases h0 : e = 0
        · right
          refine ⟨by simpa using h0, ?_⟩
          have hz : t.size = 0 := by
            rcases Nat.eq_zero_or_pos t.size with h | h
            · exact h
            · exact absurd ⟨h0, by omega⟩ hgo
          have : t.data.toList = [] := List.eq_nil_of_length_eq_zero (by rw [← ba_size]; exact hz)
          rw [ByteArray.toList_eq, this]; rfl
        · left; simpa using h0
      have d1 : (e2 == 0) = false := by simpa using he2
      clear hsp hgo hf he2
      rcases hx with h0 | ⟨h0, h00⟩
      all_goals
        go_wp2_with (first
          | (go_at_call 39; refine (err_any R).mono ?_; rintro e w' ⟨rfl, rfl⟩)
          | (go_at_call 38; refine (left_any R).mono ?_; rintro e w' ⟨rfl, rfl⟩)
          | (go_at_call 28; refine (HN.out _ R).mono ?_; rintro e w2 ⟨rfl, R2, G2⟩; replace R := R2; have C2 : Below w.heap.size w w2 := C.grown G2 C.size (by simp; omega); clear R2 G2))
        refine wp_loop_rounds 1 ?_
        rw [rounds_succ]
        go_wp2_with (go_at_call 15; refine (awake1_any _).mono ?_; rintro e w3 ⟨rfl, B3⟩)
        go_ret
        exact ⟨rfl, below_next C2 B3⟩

theorem vintFirst_walk (s : ByteArray) (a : Option Addr) (len cap : Nat) (ps : List (Int × Int)) (w : World) (_hs : s.size ≤ maxLen) (hp : PairsArg w a len ps) :
    Calls Try.prog 10 #[.string s, .slice a len cap] w fun e w' => e = .returned (.bool true) ∧ Below w.heap.size w w' := by
  by_cases h1 : 20000 < s.size
  · go_enter Try.func10, Try.ntmps10
    go_wp2_with (go_at_call 15; refine (awake1_any _).mono ?_; rintro e w0 ⟨rfl, B0⟩)
    go_ret
    exact ⟨rfl, B0⟩
  · obtain ⟨rfl, hl, _, hin⟩ := hp
    rcases hin with rfl | ⟨b, off, rfl, hb, hc⟩
    · exact first_nil s a cap w (by omega)
    · exact first_some s b off cap ps w (by omega) hl hb hc
end Go.Proofs.Ytjeeplacolbihaa
