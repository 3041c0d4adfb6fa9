/-
  CONTRACTS of vint's reader: texts, lists, and what the nil reader answers.
-/
import Derived.Test.YtjeeplacolbihabMore
namespace Go.Proofs.Ytjeeplacolbihab
open Go.RowKit

set_option maxHeartbeats 400000 in
theorem rtext_any {w : World} {g : Nat} {s : ByteArray} {e : Int} (most : Int) (h : Rd w g s e) (hs : (s.size : Int) ≤ 9000000000000000000) :
    Calls Try.prog 17 #[.pointer (some ⟨g, 0, none⟩), .int .i64 most] w (RdPost w g (.string (rText s e most).1) (rText s e most).2) := by
  obtain ⟨v0, v1⟩ := rLen_val s e most
  have hz := rLen_size s e most
  by_cases he : (rLen s e most).2.2 = 0
  · by_cases hm : ((rLen s e most).2.1.size : Int) < (rLen s e most).1
    · have H := Lib.hid (show rText s e most = (ByteArray.empty, ByteArray.empty, 5) by unfold rText; rw [if_pos he, if_pos hm])
      have hd : ((rLen s e most).2.2 == 0) = true := by simpa using he
      clear he
      go_enter Try.func17, Try.ntmps17
      go_wp2_with (first | (go_at_call 24; refine (rlen_any most h hs).mono ?_; rintro e w' ⟨rfl, R, G⟩; have c0 := R.cell0) | (go_at_call 18; refine (err_any R).mono ?_; rintro e w' ⟨rfl, rfl⟩) | (go_at_call 25; refine (fail_any 5 R).mono ?_; rintro e w' ⟨rfl, R1, G1⟩))
      go_ret
      exact ⟨by rw [H.out]; rfl, by rw [H.out]; exact R1, grown_trans G G1⟩
    · obtain ⟨n, hn⟩ : ∃ n : Nat, (rLen s e most).1 = (n : Int) := ⟨(rLen s e most).1.toNat, by omega⟩
      have H := Lib.hid (show rText s e most = ((rLen s e most).2.1.extract 0 n, (rLen s e most).2.1.extract n (rLen s e most).2.1.size, 0) by unfold rText; rw [if_pos he, if_neg hm, hn]; rfl)
      have hd : ((rLen s e most).2.2 == 0) = true := by simpa using he
      have hnz : n ≤ (rLen s e most).2.1.size := by omega
      have HN := Lib.hid hn
      clear hn he hm v0 v1
      obtain ⟨u, hu⟩ : ∃ u, (rLen s e most).2.1 = u := ⟨_, rfl⟩
      have HC : Hid (∀ w : World, Rd w g s e → Calls Try.prog 24 #[.pointer (some ⟨g, 0, none⟩), .int .i64 most] w (RdPost w g (.int .i64 (n : Int)) (u, (rLen s e most).2.2))) :=
        Lib.hid fun w h => (rlen_any most h hs).mono fun e w' h => by rw [HN.out] at h; rw [← hu]; exact h
      rw [hu] at H hnz hz
      have f0 : ∀ w1, Rd w1 g u (rLen s e most).2.2 → Rd (w1.setCell ⟨g, 0, none⟩ (.string (u.extract n u.size))) g (u.extract n u.size) (rLen s e most).2.2 := fun w1 h => h.setLeft _
      have F0 := Lib.hid f0
      have HE := Lib.hid (show (rLen s e most).2.2 = 0 by simpa using hd)
      clear hu f0
      go_enter Try.func17, Try.ntmps17
      go_wp2_with (first | (go_at_call 24; refine (HC.out _ h).mono ?_; rintro e w' ⟨rfl, R, G⟩; have c0 := R.cell0; have f0 := R.free 0; have R1 := F0.out _ R; have G1 := grown_trans G (grown_setCell _ ⟨g, 0, none⟩ (.string (u.extract n u.size)))) | (go_at_call 18; refine (err_any R).mono ?_; rintro e w' ⟨rfl, rfl⟩))
      go_ret
      rw [HE.out] at R1
      exact ⟨by rw [H.out]; rfl, by rw [H.out]; exact R1, G1⟩
  · have H := Lib.hid (show rText s e most = (ByteArray.empty, (rLen s e most).2) by unfold rText; rw [if_neg he])
    have hd : ((rLen s e most).2.2 == 0) = false := by simpa using he
    clear he
    go_enter Try.func17, Try.ntmps17
    go_wp2_with (first | (go_at_call 24; refine (rlen_any most h hs).mono ?_; rintro e w' ⟨rfl, R, G⟩) | (go_at_call 18; refine (err_any R).mono ?_; rintro e w' ⟨rfl, rfl⟩))
    go_ret
    exact ⟨by rw [H.out]; rfl, by rw [H.out]; exact R, G⟩

theorem rnum_nil (w : World) : Calls Try.prog 32 #[.pointer none] w fun en w' => en = .returned (.int .i64 0) ∧ w = w' := by
  go_enter Try.func32, Try.ntmps32
  go_wp2_with (go_at_call 18; refine (err_nil _).mono ?_; rintro e w' ⟨rfl, rfl⟩)
  go_ret
  exact ⟨rfl, rfl⟩
theorem rlen_nil (most : Int) (w : World) : Calls Try.prog 24 #[.pointer none, .int .i64 most] w fun en w' => en = .returned (.int .i64 0) ∧ w = w' := by
  go_enter Try.func24, Try.ntmps24
  go_wp2_with (first | (go_at_call 32; refine (rnum_nil _).mono ?_; rintro e w' ⟨rfl, rfl⟩) | (go_at_call 18; refine (err_nil _).mono ?_; rintro e w' ⟨rfl, rfl⟩))
  go_ret
  exact ⟨rfl, rfl⟩
theorem rtext_nil (most : Int) (w : World) : Calls Try.prog 17 #[.pointer none, .int .i64 most] w fun en w' => en = .returned (.string ByteArray.empty) ∧ w = w' := by
  go_enter Try.func17, Try.ntmps17
  go_wp2_with (first | (go_at_call 24; refine (rlen_nil _ _).mono ?_; rintro e w' ⟨rfl, rfl⟩) | (go_at_call 18; refine (err_nil _).mono ?_; rintro e w' ⟨rfl, rfl⟩))
  go_ret
  exact ⟨rfl, rfl⟩
end Go.Proofs.Ytjeeplacolbihab
