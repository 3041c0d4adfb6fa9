/-
  THE LAW MerkleNil: its walk.
-/
import Derived.Test.YtjjadappjapjhaaMkAc
namespace Go.Proofs.Ytjjadappjapjhaa
open Go.RowKit Go.Deep

theorem prove_nil (k : Int) (w : World) : Calls Try.prog 25 #[.pointer none, .int .i64 k] w fun e w' => e = .returned (.tuple #[.slice none 0 0, .int .i64 1]) ∧ w = w' := by
  go_enter Try.func25, Try.ntmps25
  go_wp2_with fail
  go_ret2
  exact ⟨rfl, rfl⟩
theorem set_nil (k v : Int) (s : Bool) (w : World) : Calls Try.prog 21 #[.pointer none, .int .i64 k, .agg #[.int .i64 v, .bool s]] w fun e w' => e = .returned (.int .i64 1) ∧ Below w.heap.size w w' := by
  go_enter Try.func21, Try.ntmps21
  go_wp2_with fail
  go_ret
  exact ⟨rfl, by first | exact Below.refl _ _ | exact (Below.refl _ _).alloc (Nat.le_refl _) _⟩
theorem table_nil (w : World) : Calls Try.prog 23 #[.pointer none] w fun e w' => e = .returned (.slice none 0 0) ∧ Below w.heap.size w w' := by
  go_enter Try.func23, Try.ntmps23
  go_wp2_with fail
  go_ret
  exact ⟨rfl, by first | exact Below.refl _ _ | exact (Below.refl _ _).alloc (Nat.le_refl _) _⟩
theorem above_nil (w : World) : Calls Try.prog 32 #[.slice none 0 0] w fun e w' => ∃ a c, e = .returned (.slice a 0 c) ∧ Below w.heap.size w w' := by
  refine (above_any none 0 0 (fun _ => 0#32) 0 w (by exact RArg.nil _ _ _) (by decide)).mono fun e w' q => ?_
  obtain ⟨a, n, c, rfl, hr, hb⟩ := q
  obtain rfl : n = 0 := hr.1
  exact ⟨a, c, rfl, hb⟩
theorem refs5_nil (w : World) : Calls Try.prog 16 #[.slice none 0 0] w fun e w' => ∃ a c, e = .returned (.slice a 0 c) ∧ Below w.heap.size w w' := by
  refine (refs5_any none 0 0 [] w (by decide) (RArg.nil _ _ _)).mono fun e w' q => ?_
  obtain ⟨a, n, c, rfl, hr, hb⟩ := q
  obtain rfl : n = 0 := hr.1
  exact ⟨a, c, rfl, hb⟩
theorem same4_zero (w : World) : Calls Try.prog 33 #[(.agg #[.int .i64 0, .int .i64 0, .int .i64 0, .slice none 0 0, .int .i64 0, .int .i64 0, .int .i64 0]), (.agg #[.int .i64 0, .int .i64 0, .int .i64 0, .slice none 0 0, .int .i64 0, .int .i64 0, .int .i64 0])] w fun e w' => e = .returned (.bool true) ∧ Below w.heap.size w w' := by
  go_enter Try.func33, Try.ntmps33
  go_wp2_with fail
  have c0 := cells_newM w #[.int .i64 0, .int .i64 0, .int .i64 0, .slice none 0 0, .int .i64 0, .int .i64 0, .int .i64 0] 79 3 (.slice none 0 0) rfl
  go_loopw [5] (fun i wr => i = .int .i64 0 ∧ wr.cell? ⟨w.heap.size, 3, none⟩ = some (.slice none 0 0) ∧ Hid (Below w.heap.size w wr)) (fun _ _ => 0)
  case atStart =>
    exact ⟨rfl, (((Below.refl _ _).alloc (Nat.le_refl _) _).cell (p := ⟨w.heap.size, 3, none⟩) (by simp)).trans c0, Lib.hid (((Below.refl _ _).alloc (Nat.le_refl _) _).alloc (by simp) _)⟩
  case round =>
    clear c0
    obtain ⟨rfl, c0, hb⟩ := hrel
    go_wp2_with fail
    go_ret
    exact ⟨rfl, hb.out⟩
theorem fld_some (w : World) : (Instr.field 25 (.agg #[.int .i64 0, .bool false]) 1).run Try.prog w = .ok (.bool false) w := by kernel_rfl
set_option maxRecDepth 100000 in
set_option maxHeartbeats 8000000 in
theorem merkleNil_walk (key : Int) (a : Option Addr) (n c : Nat) (l : List Pr) (v : Int) (s : Bool) (w : World) (_hk : (Lit.int .i64 key).wf = true) (h : RArg encP 2 w a n c l) :
    Calls Try.prog 9 #[.int .i64 key, .slice a n c, .agg #[.int .i64 v, .bool s]] w (TruePost w) := by
  have hz : (n : Int) ≤ 9223372036854775807 := by have := h.1; have := h.2.1; omega
  have FW := Lib.hid (fun W => few20_any a n c W hz)
  have BA := Lib.hid (show Below w.heap.size w (w.alloc (.cells #[.int .i64 v, .bool s] 25)) from (Below.refl _ _).alloc (Nat.le_refl _) _)
  have NW0 := Lib.hid (new_ok none 0 0 [] (w.alloc (.cells #[.int .i64 v, .bool s] 25)) (RArg.nil _ _ _) rfl)
  have k0 := cells_newM w #[.int .i64 v, .bool s] 25 0 (.int .i64 v) rfl
  have k1 := cells_newM w #[.int .i64 v, .bool s] 25 1 (.bool s) rfl
  have KC := Lib.hid (fun W (hb : Below (w.alloc (.cells #[.int .i64 v, .bool s] 25)).heap.size (w.alloc (.cells #[.int .i64 v, .bool s] 25)) W) => (show W.cell? ⟨w.heap.size, 0, none⟩ = some (.int .i64 v) ∧ W.cell? ⟨w.heap.size, 1, none⟩ = some (.bool s) from ⟨(hb.cell (p := ⟨w.heap.size, 0, none⟩) (by simp)).trans k0, (hb.cell (p := ⟨w.heap.size, 1, none⟩) (by simp)).trans k1⟩))
  clear k0 k1
  cases ht : tblB l
  · have NW := Lib.hid (fun W (hb : Below (w.alloc (.cells #[.int .i64 v, .bool s] 25)).heap.size (w.alloc (.cells #[.int .i64 v, .bool s] 25)) W) => new_no a n c l W (h.below (below_next BA.out hb)) ht)
    clear ht h hz
    cases hf : decide (n ≤ 60)
    · rw [hf] at FW
      clear hf
      go_enter Try.func9, Try.ntmps9
      go_wp2_with (first | (go_at_call 14; (with_reducible refine NW0.out.mono ?_); rintro e w1 ⟨b1, rfl, t1, _, hb1⟩) | (go_at_call 14; (with_reducible refine (NW.out _ hb1).mono ?_); rintro e w2 ⟨rfl, hb2⟩) | (go_at_call 10; (with_reducible refine (FW.out _).mono ?_); rintro e w3 ⟨rfl, rfl⟩) | (go_at_call 11; (with_reducible refine (awake20_any _).mono ?_); rintro e w9 ⟨rfl, hb9⟩) | fail)
      go_ret
      exact ⟨rfl, below_next BA.out (below_next (below_next hb1 hb2) hb9)⟩
    · rw [hf] at FW
      clear hf
      go_enter Try.func9, Try.ntmps9
      go_wp2_with (first | (go_at_call 14; (with_reducible refine NW0.out.mono ?_); rintro e w1 ⟨b1, rfl, t1, _, hb1⟩) | (go_at_call 14; (with_reducible refine (NW.out _ hb1).mono ?_); rintro e w2 ⟨rfl, hb2⟩) | (go_at_call 10; (with_reducible refine (FW.out _).mono ?_); rintro e w3 ⟨rfl, rfl⟩) | fail)
      obtain ⟨k0, k1⟩ := KC.out _ (below_next hb1 hb2)
      have HB2 := Lib.hid (below_next BA.out (below_next hb1 hb2))
      have T1 := Lib.hid (t1.below hb2)
      obtain ⟨rt, hrt⟩ : ∃ rt, regI (lvN (tabC []) 3 0) = rt := ⟨_, rfl⟩
      have RN := Lib.hid (fun W => hrt ▸ root20_nil W)
      have RT := Lib.hid (fun W (hb : Below w2.heap.size w2 W) => hrt ▸ root20_any b1 _ W (T1.out.below hb))
      have LF := Lib.hid (fun W => leaf20_bad (.pointer none) key W (.inl rfl) (.inr rfl))
      have GT := Lib.hid (fun W => get20_bad (.pointer none) key W (.inl rfl) (.inr rfl))
      have FD := fld_some
      clear hrt hb1 hb2 t1
      go_wp2_with (first | (go_at_call 18; (with_reducible refine (node20_nil 0 0 _).mono ?_); rintro e w4 ⟨rfl, rfl⟩) | (go_at_call 19; (with_reducible refine (LF.out _).mono ?_); rintro e w4 ⟨rfl, rfl⟩) | (go_at_call 25; (with_reducible refine (prove_nil key _).mono ?_); rintro e w4 ⟨rfl, rfl⟩) | (go_at_call 21; (with_reducible refine (set_nil key v s _).mono ?_); rintro e w5 ⟨rfl, hb5⟩) | (go_at_call 22; (with_reducible refine (GT.out _).mono ?_); rintro e w6 ⟨rfl, hb6⟩) | (go_at_call 20; (with_reducible refine (RN.out _).mono ?_); rintro e w7 ⟨rfl, hb7⟩; have hb27 := below_next hb5 (below_next hb6 hb7)) | (go_at_call 20; (with_reducible refine (RT.out _ hb27).mono ?_); rintro e w4 ⟨rfl, rfl⟩) | (go_at_call 23; (with_reducible refine (table_nil _).mono ?_); rintro e w8 ⟨rfl, hb8⟩; have hb28 := below_next hb27 hb8) | (go_at_call 11; (with_reducible refine (awake20_any _).mono ?_); rintro e w9 ⟨rfl, hb9⟩) | fail)
      go_ret
      exact ⟨rfl, below_next HB2.out (below_next hb28 hb9)⟩
  · have NW := Lib.hid (fun W (hb : Below (w.alloc (.cells #[.int .i64 v, .bool s] 25)).heap.size (w.alloc (.cells #[.int .i64 v, .bool s] 25)) W) => new_ok a n c l W (h.below (below_next BA.out hb)) ht)
    clear ht h hz
    cases hf : decide (n ≤ 60)
    · rw [hf] at FW
      clear hf
      go_enter Try.func9, Try.ntmps9
      go_wp2_with (first | (go_at_call 14; (with_reducible refine NW0.out.mono ?_); rintro e w1 ⟨b1, rfl, t1, _, hb1⟩) | (go_at_call 14; (with_reducible refine (NW.out _ hb1).mono ?_); rintro e w2 ⟨b2, rfl, t2, _, hb2⟩) | (go_at_call 10; (with_reducible refine (FW.out _).mono ?_); rintro e w3 ⟨rfl, rfl⟩) | (go_at_call 11; (with_reducible refine (awake20_any _).mono ?_); rintro e w9 ⟨rfl, hb9⟩) | fail)
      go_ret
      exact ⟨rfl, below_next BA.out (below_next (below_next hb1 hb2) hb9)⟩
    · rw [hf] at FW
      clear hf
      go_enter Try.func9, Try.ntmps9
      go_wp2_with (first | (go_at_call 14; (with_reducible refine NW0.out.mono ?_); rintro e w1 ⟨b1, rfl, t1, _, hb1⟩) | (go_at_call 14; (with_reducible refine (NW.out _ hb1).mono ?_); rintro e w2 ⟨b2, rfl, t2, _, hb2⟩) | (go_at_call 10; (with_reducible refine (FW.out _).mono ?_); rintro e w3 ⟨rfl, rfl⟩) | fail)
      obtain ⟨k0, k1⟩ := KC.out _ (below_next hb1 hb2)
      have HB2 := Lib.hid (below_next BA.out (below_next hb1 hb2))
      have T1 := Lib.hid (t1.below hb2)
      obtain ⟨rt, hrt⟩ : ∃ rt, regI (lvN (tabC []) 3 0) = rt := ⟨_, rfl⟩
      have RN := Lib.hid (fun W => hrt ▸ root20_nil W)
      have RT := Lib.hid (fun W (hb : Below w2.heap.size w2 W) => hrt ▸ root20_any b1 _ W (T1.out.below hb))
      have LF := Lib.hid (fun W => leaf20_bad (.pointer none) key W (.inl rfl) (.inr rfl))
      have GT := Lib.hid (fun W => get20_bad (.pointer none) key W (.inl rfl) (.inr rfl))
      have FD := fld_some
      clear hrt hb1 hb2 t1
      have T2 := Lib.hid t2
      have P0 := Lib.hid (fun W => (show TrP W (.pointer none) (tabC []) from .inl ⟨rfl, rfl⟩))
      have PT := Lib.hid (fun W (hb : Below w2.heap.size w2 W) => (show TrP W (.pointer (some ⟨b1, 0, none⟩)) (tabC []) from .inr ⟨b1, rfl, T1.out.below hb⟩))
      have PU := Lib.hid (fun W (hb : Below w2.heap.size w2 W) => (show TrP W (.pointer (some ⟨b2, 0, none⟩)) (tabC l) from .inr ⟨b2, rfl, T2.out.below hb⟩))
      have DF0 := Lib.hid (fun W (hb : Below w2.heap.size w2 W) => diff_any _ _ _ _ W (P0.out W) (PU.out W hb))
      have DFT := Lib.hid (fun W (hb : Below w2.heap.size w2 W) => diff_any _ _ _ _ W (PT.out W hb) (PU.out W hb))
      have hl := Nat.le_trans (spansL_len (difL (tabC []) (tabC l) 3)) (show 64 ≤ 100000 by decide)
      generalize spansL (difL (tabC []) (tabC l) 3) = S at DF0 DFT hl
      have RF := Lib.hid (fun a n c W (h : RArg encS 2 W a n c S) => refs3_any a n c S W hl h)
      have SM := Lib.hid (fun a b n m c d W (hA : RArg encS 2 W a n c S) (hB : RArg encS 2 W b m d S) => same3_any a b n m c d S W hA hB)
      clear t2 hl
      go_wp2_with (first | (go_at_call 18; (with_reducible refine (node20_nil 0 0 _).mono ?_); rintro e w4 ⟨rfl, rfl⟩) | (go_at_call 19; (with_reducible refine (LF.out _).mono ?_); rintro e w4 ⟨rfl, rfl⟩) | (go_at_call 25; (with_reducible refine (prove_nil key _).mono ?_); rintro e w4 ⟨rfl, rfl⟩) | (go_at_call 21; (with_reducible refine (set_nil key v s _).mono ?_); rintro e w5 ⟨rfl, hb5⟩) | (go_at_call 22; (with_reducible refine (GT.out _).mono ?_); rintro e w6 ⟨rfl, hb6⟩) | (go_at_call 20; (with_reducible refine (RN.out _).mono ?_); rintro e w7 ⟨rfl, hb7⟩; have hb27 := below_next hb5 (below_next hb6 hb7)) | (go_at_call 20; (with_reducible refine (RT.out _ hb27).mono ?_); rintro e w4 ⟨rfl, rfl⟩) | (go_at_call 23; (with_reducible refine (table_nil _).mono ?_); rintro e w8 ⟨rfl, hb8⟩; have hb28 := below_next hb27 hb8) | (go_at_call 11; (with_reducible refine (awake20_any _).mono ?_); rintro e w9 ⟨rfl, hb9⟩) | fail)
      have HB9 := Lib.hid (below_next hb28 hb9)
      clear hb5 hb6 hb7 hb27 hb8 hb28 hb9
      go_wp2_with (first | (go_at_call 24; (with_reducible refine (DF0.out _ HB9.out).mono ?_); rintro e w10 ⟨v10, rfl, o10, hb10⟩; obtain ⟨a10, m10, k10, rfl, r10⟩ := OwnsR.argN encS_len o10; clear o10) | fail)
      have HB10 := Lib.hid (below_next HB9.out hb10)
      have R10 := Lib.hid r10
      go_wp2_with (first | (go_at_call 30; (with_reducible refine (RF.out _ _ _ _ R10.out).mono ?_); rintro e w11 ⟨a11, m11, k11, rfl, r11, hb11⟩) | fail)
      have HB11 := Lib.hid (below_next HB10.out hb11)
      have R11 := Lib.hid r11
      go_wp2_with (first | (go_at_call 24; (with_reducible refine (DFT.out _ HB11.out).mono ?_); rintro e w12 ⟨v12, rfl, o12, hb12⟩; obtain ⟨a12, m12, k12, rfl, r12⟩ := OwnsR.argN encS_len o12; clear o12) | fail)
      have HB12 := Lib.hid (below_next HB11.out hb12)
      have R12 := Lib.hid r12
      have R1112 := Lib.hid (R11.out.below hb12)
      go_wp2_with (first | (go_at_call 30; (with_reducible refine (RF.out _ _ _ _ R12.out).mono ?_); rintro e w13 ⟨a13, m13, k13, rfl, r13, hb13⟩) | fail)
      have HB13 := Lib.hid (below_next HB12.out hb13)
      have R13 := Lib.hid r13
      have R1113 := Lib.hid (R1112.out.below hb13)
      clear r10 hb10 r11 hb11 r12 hb12 r13 hb13
      go_wp2_with (first | (go_at_call 29; (with_reducible refine (SM.out _ _ _ _ _ _ _ R1113.out R13.out).mono ?_); rintro e w14 ⟨rfl, hb14⟩) | (go_at_call 32; (with_reducible refine (above_nil _).mono ?_); rintro e w15 ⟨a15, k15, rfl, hb15⟩) | (go_at_call 16; (with_reducible refine (refs5_nil _).mono ?_); rintro e w16 ⟨a16, k16, rfl, hb16⟩) | (go_at_call 33; (with_reducible refine (same4_zero _).mono ?_); rintro e w17 ⟨rfl, hb17⟩) | fail)
      go_ret
      exact ⟨rfl, below_next HB2.out (below_next HB13.out (below_next hb14 (below_next hb15 (below_next hb16 hb17))))⟩
end Go.Proofs.Ytjjadappjapjhaa
