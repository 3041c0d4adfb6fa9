/-
  CONTRACT of the document's reader: Text.
-/
import Derived.Test.YtjeeplacolbihaaRefRd
import Derived.RegionTactic
import Derived.BigRegion
namespace Go.Proofs.Ytjeeplacolbihaa
open Go.RowKit

theorem refNumR_any (s : ByteArray) (e : Int) (w : World) (hs : (s.size : Int) ≤ 9000000000000000000) : Calls Try.prog 27 #[rdV s e] w (RdNumPost (rNum s e) w) := by
  by_cases he : e = 0
  · subst he; exact refNumR_ok s w hs
  · exact refNumR_err s e w he

theorem rText_t1 {s : ByteArray} {e m : Int} (h : (rNum s e).2.2 ≠ 0) : rText s e m = (ByteArray.empty, (rNum s e).2) := by
  have : rLen s e m = rNum s e := by unfold rLen; rw [if_neg (fun x => h x.1)]
  unfold rText; rw [this, if_neg h]
theorem rText_t2 {s : ByteArray} {e m : Int} (h : (rNum s e).2.2 = 0) (h2 : m < (rNum s e).1) : rText s e m = (ByteArray.empty, ByteArray.empty, 2) := by
  have : rLen s e m = (0, ByteArray.empty, 2) := by unfold rLen; rw [if_pos ⟨h, h2⟩]
  unfold rText; rw [this]; dsimp only; rw [if_neg (by decide)]
theorem rText_t3 {s : ByteArray} {e m : Int} (h : (rNum s e).2.2 = 0) (h2 : ¬ m < (rNum s e).1) (h3 : ((rNum s e).2.1.size : Int) < (rNum s e).1) : rText s e m = (ByteArray.empty, ByteArray.empty, 5) := by
  have : rLen s e m = rNum s e := by unfold rLen; rw [if_neg (fun x => h2 x.2)]
  unfold rText; rw [this, if_pos h, if_pos h3]
theorem rText_t4 {s : ByteArray} {e m : Int} (h : (rNum s e).2.2 = 0) (h2 : ¬ m < (rNum s e).1) (h3 : ¬ ((rNum s e).2.1.size : Int) < (rNum s e).1) : rText s e m = ((rNum s e).2.1.extract 0 (rNum s e).1.toNat, (rNum s e).2.1.extract (rNum s e).1.toNat (rNum s e).2.1.size, 0) := by
  have : rLen s e m = rNum s e := by unfold rLen; rw [if_neg (fun x => h2 x.2)]
  unfold rText; rw [this, if_pos h, if_neg h3]

def RdTextPost (r : ByteArray × ByteArray × Int) (w : World) (e : Ending) (w' : World) : Prop := e = .returned (.tuple #[rdV r.2.1 r.2.2, .string r.1]) ∧ Below w.heap.size w w'

set_option maxRecDepth 100000 in
set_option maxHeartbeats 2000000 in
theorem refTextR_any (s : ByteArray) (e m : Int) (w : World) (hs : (s.size : Int) ≤ 9000000000000000000) : Calls Try.prog 33 #[rdV s e, .int .i64 m] w (RdTextPost (rText s e m) w) := by
  obtain ⟨v0, v1⟩ := rNum_val s e
  obtain ⟨n, u, e1, hN⟩ : ∃ n u e1, rNum s e = (n, u, e1) := ⟨_, _, _, rfl⟩
  have HC : Hid (∀ w, Calls Try.prog 27 #[rdV s e] w (RdNumPost (n, u, e1) w)) := Lib.hid fun w => by have := refNumR_any s e w hs; rw [hN] at this; exact this
  have T1 : Hid (e1 ≠ 0 → rText s e m = (ByteArray.empty, u, e1)) := Lib.hid fun h => by have := rText_t1 (s := s) (e := e) (m := m); rw [hN] at this; exact this h
  have T2 : Hid (e1 = 0 → m < n → rText s e m = (ByteArray.empty, ByteArray.empty, 2)) := Lib.hid fun h h2 => by have := rText_t2 (s := s) (e := e) (m := m); rw [hN] at this; exact this h h2
  have T3 : Hid (e1 = 0 → ¬ m < n → (u.size : Int) < n → rText s e m = (ByteArray.empty, ByteArray.empty, 5)) := Lib.hid fun h h2 h3 => by have := rText_t3 (s := s) (e := e) (m := m); rw [hN] at this; exact this h h2 h3
  have T4 : Hid (e1 = 0 → ¬ m < n → ¬ (u.size : Int) < n → rText s e m = (u.extract 0 n.toNat, u.extract n.toNat u.size, 0)) := Lib.hid fun h h2 h3 => by have := rText_t4 (s := s) (e := e) (m := m); rw [hN] at this; exact this h h2 h3
  rw [hN] at v0 v1
  have n0 : 0 ≤ n := v0
  have n1 : n ≤ 9223372036854775807 := v1
  clear hN v0 v1
  by_cases h : e1 = 0
  · subst h
    by_cases h2 : m < n
    · have H := Lib.hid (T2.out rfl h2)
      go_enter Try.func33, Try.ntmps33
      go_wp2_with (first
        | (go_at_call 27; refine (HC.out _).mono ?_; rintro e w2 ⟨rfl, B2⟩; obtain ⟨hcB, hfB⟩ := bcell B2; have hzB : w.heap.size + 1 < w2.heap.size := (by have := B2.size; simp at this; omega); have hzC : w.heap.size < w2.heap.size := (by omega))
        | (go_at_call 51; refine (refFail_any _ _).mono ?_; rintro e w4 ⟨rfl, B4⟩; obtain ⟨hcD, hfD⟩ := bcell B4; have hzD : w2.heap.size < w4.heap.size := by have := B4.size; simp at this; omega))
      refine bodyPost_ret (v := .tuple #[rdV ByteArray.empty 2, .string ByteArray.empty]) (by simp [results, Try.results33, go_sem, hcB, hcD, hzB, hzC]; try rfl) rfl ⟨by rw [H.out], ?_⟩
      have C2 : Below w.heap.size w w2 := (((Below.refl _ _).alloc (Nat.le_refl _) _).alloc (by simp) _).trans (B2.mono (by simp; omega))
      exact ((((C2.alloc (by omega) _)).trans (B4.mono (by simp; omega))).setCell (by simp) _).setCell (by simp) _
    · by_cases h3 : (u.size : Int) < n
      · have H := Lib.hid (T3.out rfl h2 h3)
        go_enter Try.func33, Try.ntmps33
        go_wp2_with (first
          | (go_at_call 27; refine (HC.out _).mono ?_; rintro e w2 ⟨rfl, B2⟩; obtain ⟨hcB, hfB⟩ := bcell B2; have hzB : w.heap.size + 1 < w2.heap.size := (by have := B2.size; simp at this; omega); have hzC : w.heap.size < w2.heap.size := (by omega))
          | (go_at_call 51; refine (refFail_any _ _).mono ?_; rintro e w4 ⟨rfl, B4⟩; obtain ⟨hcD, hfD⟩ := bcell B4; have hzD : w2.heap.size < w4.heap.size := by have := B4.size; simp at this; omega))
        refine bodyPost_ret (v := .tuple #[rdV ByteArray.empty 5, .string ByteArray.empty]) (by simp [results, Try.results33, go_sem, hcB, hcD, hzB, hzC]; try rfl) rfl ⟨by rw [H.out], ?_⟩
        have C2 : Below w.heap.size w w2 := (((Below.refl _ _).alloc (Nat.le_refl _) _).alloc (by simp) _).trans (B2.mono (by simp; omega))
        exact ((((C2.alloc (by omega) _)).trans (B4.mono (by simp; omega))).setCell (by simp) _).setCell (by simp) _
      · have H := Lib.hid (T4.out rfl h2 h3)
        obtain ⟨k, rfl⟩ : ∃ k : Nat, n = (k : Int) := ⟨n.toNat, by omega⟩
        have hk : k ≤ u.size := by omega
        rw [Int.toNat_natCast] at H
        go_enter Try.func33, Try.ntmps33
        go_wp2_with (go_at_call 27; refine (HC.out _).mono ?_; rintro e w2 ⟨rfl, B2⟩; obtain ⟨hcB, hfB⟩ := bcell B2; have hzB : w.heap.size + 1 < w2.heap.size := (by have := B2.size; simp at this; omega); have hzC : w.heap.size < w2.heap.size := (by omega))
        go_region
        all_goals go_wp2
        all_goals
          refine bodyPost_ret (v := .tuple #[rdV (u.extract k u.size) 0, .string (u.extract 0 k)]) (by simp [results, Try.results33, go_sem, hcB, hzB]; try rfl) rfl ⟨by rw [H.out], ?_⟩
          have C2 : Below w.heap.size w w2 := (((Below.refl _ _).alloc (Nat.le_refl _) _).alloc (by simp) _).trans (B2.mono (by simp; omega))
          first
            | exact (((C2.setCell (by simp) _).setCell (by simp) _).alloc (by simp [World.setCell]; omega) _).drew
            | exact ((C2.setCell (by simp) _).setCell (by simp) _).alloc (by simp [World.setCell]; omega) _
            | exact (((C2.setCell (by simp) _).setCell (by simp) _).alloc (by simp [World.setCell]; omega) _).trans (Below.refl _ _).drew
  · have d : (e1 != 0) = true := by simpa using h
    have H := Lib.hid (T1.out h)
    clear h
    go_enter Try.func33, Try.ntmps33
    go_wp2_with (go_at_call 27; refine (HC.out _).mono ?_; rintro e w2 ⟨rfl, B2⟩; obtain ⟨hcB, hfB⟩ := bcell B2; have hzB : w.heap.size + 1 < w2.heap.size := (by have := B2.size; simp at this; omega); have hzC : w.heap.size < w2.heap.size := (by omega))
    refine bodyPost_ret (v := .tuple #[rdV u e1, .string ByteArray.empty]) (by simp [results, Try.results33, go_sem, hcB, hzB]; try rfl) rfl ⟨by rw [H.out], ?_⟩
    have C2 : Below w.heap.size w w2 := (((Below.refl _ _).alloc (Nat.le_refl _) _).alloc (by simp) _).trans (B2.mono (by simp; omega))
    exact ((C2.setCell (by simp) _).setCell (by simp) _).alloc (by simp [World.setCell]; omega) _
end Go.Proofs.Ytjeeplacolbihaa
