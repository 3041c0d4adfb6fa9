/-
  THE LAW MerkleDiffs: its walk.
-/
import Derived.Test.YtjjadappjapjhaaMkAb
namespace Go.Proofs.Ytjjadappjapjhaa
open Go.RowKit Go.Deep

theorem difB_comm (C1 C2 : Nat → Option Int) (m k : Nat) : difB C1 C2 m k = difB C2 C1 m k := by
  unfold difB
  exact bne_comm
theorem difL_comm (C1 C2 : Nat → Option Int) : ∀ d, difL C1 C2 d = difL C2 C1 d
  | 0 => by unfold difL; congr 1; funext k; exact difB_comm _ _ _ _
  | d + 1 => by
    unfold difL
    rw [difL_comm C1 C2 d]
    congr 1
    funext k
    exact difB_comm _ _ _ _
set_option maxRecDepth 100000 in
set_option maxHeartbeats 8000000 in
theorem merkleDiffs_short (a1 : Option Addr) (n1 c1 : Nat) (l1 : List Pr) (a2 : Option Addr) (n2 c2 : Nat) (l2 : List Pr) (w : World) (h1 : RArg encP 2 w a1 n1 c1 l1) (h2 : RArg encP 2 w a2 n2 c2 l2)
    (hno : tblB l1 = false ∨ tblB l2 = false ∨ 60 < n1 ∨ 60 < n2) :
    Calls Try.prog 7 #[.slice a1 n1 c1, .slice a2 n2 c2] w (TruePost w) := by
  have hz1 : (n1 : Int) ≤ 9223372036854775807 := by have := h1.1; have := h1.2.1; omega
  have hz2 : (n2 : Int) ≤ 9223372036854775807 := by have := h2.1; have := h2.2.1; omega
  have FW1 := Lib.hid (fun W => few20_any a1 n1 c1 W hz1)
  have FW2 := Lib.hid (fun W => few20_any a2 n2 c2 W hz2)
  cases hf1 : decide (n1 ≤ 60) <;> cases hf2 : decide (n2 ≤ 60)
  all_goals
    rw [hf1] at FW1
    rw [hf2] at FW2
    have hF1 := hf1
    have hF2 := hf2
    clear hf1 hf2
    cases ht1 : tblB l1 <;> cases ht2 : tblB l2
    · have NW1 := Lib.hid (new_no a1 n1 c1 l1 w h1 ht1)
      have NW2 := Lib.hid (fun W (hb : Below w.heap.size w W) => new_no a2 n2 c2 l2 W (h2.below hb) ht2)
      clear hno ht1 ht2 hF1 hF2
      clear h1 h2
      go_enter Try.func7, Try.ntmps7
      go_wp2_with (first | (go_at_call 14; (with_reducible refine NW1.out.mono ?_); rintro e w1 ⟨rfl, hb1⟩) | (go_at_call 14; (with_reducible refine (NW2.out _ hb1).mono ?_); rintro e w2 ⟨rfl, hb2⟩) | (go_at_call 10; (with_reducible refine (FW1.out _).mono ?_); rintro e w3 ⟨rfl, rfl⟩) | (go_at_call 10; (with_reducible refine (FW2.out _).mono ?_); rintro e w4 ⟨rfl, rfl⟩) | (go_at_call 11; (with_reducible refine (awake20_any _).mono ?_); rintro e w9 ⟨rfl, hb9⟩) | fail)
      go_ret
      exact ⟨rfl, below_next (below_next hb1 hb2) hb9⟩
    · have NW1 := Lib.hid (new_no a1 n1 c1 l1 w h1 ht1)
      have NW2 := Lib.hid (fun W (hb : Below w.heap.size w W) => new_ok a2 n2 c2 l2 W (h2.below hb) ht2)
      clear hno ht1 ht2 hF1 hF2
      clear h1 h2
      go_enter Try.func7, Try.ntmps7
      go_wp2_with (first | (go_at_call 14; (with_reducible refine NW1.out.mono ?_); rintro e w1 ⟨rfl, hb1⟩) | (go_at_call 14; (with_reducible refine (NW2.out _ hb1).mono ?_); rintro e w2 ⟨b2, rfl, t2, _, hb2⟩) | (go_at_call 10; (with_reducible refine (FW1.out _).mono ?_); rintro e w3 ⟨rfl, rfl⟩) | (go_at_call 10; (with_reducible refine (FW2.out _).mono ?_); rintro e w4 ⟨rfl, rfl⟩) | (go_at_call 11; (with_reducible refine (awake20_any _).mono ?_); rintro e w9 ⟨rfl, hb9⟩) | fail)
      go_ret
      exact ⟨rfl, below_next (below_next hb1 hb2) hb9⟩
    · have NW1 := Lib.hid (new_ok a1 n1 c1 l1 w h1 ht1)
      have NW2 := Lib.hid (fun W (hb : Below w.heap.size w W) => new_no a2 n2 c2 l2 W (h2.below hb) ht2)
      clear hno ht1 ht2 hF1 hF2
      clear h1 h2
      go_enter Try.func7, Try.ntmps7
      go_wp2_with (first | (go_at_call 14; (with_reducible refine NW1.out.mono ?_); rintro e w1 ⟨b1, rfl, t1, _, hb1⟩) | (go_at_call 14; (with_reducible refine (NW2.out _ hb1).mono ?_); rintro e w2 ⟨rfl, hb2⟩) | (go_at_call 10; (with_reducible refine (FW1.out _).mono ?_); rintro e w3 ⟨rfl, rfl⟩) | (go_at_call 10; (with_reducible refine (FW2.out _).mono ?_); rintro e w4 ⟨rfl, rfl⟩) | (go_at_call 11; (with_reducible refine (awake20_any _).mono ?_); rintro e w9 ⟨rfl, hb9⟩) | fail)
      go_ret
      exact ⟨rfl, below_next (below_next hb1 hb2) hb9⟩
    · first
        | (exfalso
           rw [ht1, ht2] at hno
           simp at hF1 hF2 hno
           omega)
        | (have NW1 := Lib.hid (new_ok a1 n1 c1 l1 w h1 ht1)
           have NW2 := Lib.hid (fun W (hb : Below w.heap.size w W) => new_ok a2 n2 c2 l2 W (h2.below hb) ht2)
           clear hno ht1 ht2 hF1 hF2
           clear h1 h2
           go_enter Try.func7, Try.ntmps7
           go_wp2_with (first | (go_at_call 14; (with_reducible refine NW1.out.mono ?_); rintro e w1 ⟨b1, rfl, t1, _, hb1⟩) | (go_at_call 14; (with_reducible refine (NW2.out _ hb1).mono ?_); rintro e w2 ⟨b2, rfl, t2, _, hb2⟩) | (go_at_call 10; (with_reducible refine (FW1.out _).mono ?_); rintro e w3 ⟨rfl, rfl⟩) | (go_at_call 10; (with_reducible refine (FW2.out _).mono ?_); rintro e w4 ⟨rfl, rfl⟩) | (go_at_call 11; (with_reducible refine (awake20_any _).mono ?_); rintro e w9 ⟨rfl, hb9⟩) | fail)
           go_ret
           exact ⟨rfl, below_next (below_next hb1 hb2) hb9⟩)
set_option maxRecDepth 100000 in
set_option maxHeartbeats 8000000 in
theorem merkleDiffs_main (a1 : Option Addr) (n1 c1 : Nat) (l1 : List Pr) (a2 : Option Addr) (n2 c2 : Nat) (l2 : List Pr) (w : World) (h1 : RArg encP 2 w a1 n1 c1 l1) (h2 : RArg encP 2 w a2 n2 c2 l2)
    (ht1 : tblB l1 = true) (ht2 : tblB l2 = true) (hn1 : n1 ≤ 60) (hn2 : n2 ≤ 60) :
    Calls Try.prog 7 #[.slice a1 n1 c1, .slice a2 n2 c2] w (TruePost w) := by
  have hl1 : l1.length ≤ 100000 := by have := h1.1; omega
  have hl2 : l2.length ≤ 100000 := by have := h2.1; omega
  have FW1 := Lib.hid (fun W => few20_any a1 n1 c1 W (by omega))
  have FW2 := Lib.hid (fun W => few20_any a2 n2 c2 W (by omega))
  rw [decide_eq_true hn1] at FW1
  rw [decide_eq_true hn2] at FW2
  have NW1 := Lib.hid (new_ok a1 n1 c1 l1 w h1 ht1)
  have NW2 := Lib.hid (fun W (hb : Below w.heap.size w W) => new_ok a2 n2 c2 l2 W (h2.below hb) ht2)
  have LV1 := Lib.hid (fun W (hb : Below w.heap.size w W) => levelsA_any a1 n1 c1 l1 W (h1.below hb) ht1 hl1)
  have LV2 := Lib.hid (fun W (hb : Below w.heap.size w W) => levelsA_any a2 n2 c2 l2 W (h2.below hb) ht2 hl2)
  clear h1 h2 ht1 ht2 hl1 hl2
  go_enter Try.func7, Try.ntmps7
  go_wp2_with (first | (go_at_call 14; (with_reducible refine NW1.out.mono ?_); rintro e w1 ⟨b1, rfl, t1, _, hb1⟩) | (go_at_call 14; (with_reducible refine (NW2.out _ hb1).mono ?_); rintro e w2 ⟨b2, rfl, t2, _, hb2⟩) | (go_at_call 10; (with_reducible refine (FW1.out _).mono ?_); rintro e w3 ⟨rfl, rfl⟩) | (go_at_call 10; (with_reducible refine (FW2.out _).mono ?_); rintro e w4 ⟨rfl, rfl⟩) | fail)
  have T1 := Lib.hid (t1.below hb2)
  have T2 := Lib.hid t2
  have HB2 := Lib.hid (below_next hb1 hb2)
  clear t1 t2 hb1 hb2
  generalize tabC l1 = C1 at *
  generalize tabC l2 = C2 at *
  go_wp2_with (first | (go_at_call 17; (with_reducible refine (LV1.out _ HB2.out).mono ?_); rintro e w5 ⟨g1, rfl, q1, hb5⟩) | fail)
  have HB5 := Lib.hid (below_next HB2.out hb5)
  go_wp2_with (first | (go_at_call 17; (with_reducible refine (LV2.out _ HB5.out).mono ?_); rintro e w6 ⟨g2, rfl, q2, hb6⟩) | fail)
  have A1 := Lib.hid (q1.below hb6)
  have A2 := Lib.hid q2
  have HB6 := Lib.hid (below_next HB5.out hb6)
  have T16 := Lib.hid (T1.out.below (below_next hb5 hb6))
  have T26 := Lib.hid (T2.out.below (below_next hb5 hb6))
  have P1 := Lib.hid (fun W (hb : Below w6.heap.size w6 W) => (show TrP W (.pointer (some ⟨b1, 0, none⟩)) C1 from .inr ⟨b1, rfl, T16.out.below hb⟩))
  have P2 := Lib.hid (fun W (hb : Below w6.heap.size w6 W) => (show TrP W (.pointer (some ⟨b2, 0, none⟩)) C2 from .inr ⟨b2, rfl, T26.out.below hb⟩))
  clear q1 q2 hb5 hb6
  have DF := Lib.hid (diff_any _ _ C1 C2 w6 (P1.out _ (Below.refl _ _)) (P2.out _ (Below.refl _ _)))
  go_wp2_with (first | (go_at_call 24; (with_reducible refine DF.out.mono ?_); rintro e w7 ⟨v7, rfl, o7, hb7⟩; obtain ⟨a7, m7, k7, rfl, r7⟩ := OwnsR.argN encS_len o7; clear o7) | fail)
  obtain ⟨S, hS⟩ : ∃ S, spansL (difL C1 C2 3) = S := ⟨_, rfl⟩
  have hl := Nat.le_trans (spansL_len (difL C1 C2 3)) (show 64 ≤ 100000 by decide)
  have DF2 := Lib.hid (fun W (hb : Below w6.heap.size w6 W) => diff_any _ _ C2 C1 W (P2.out W hb) (P1.out W hb))
  have RD := Lib.hid (fun W (hb : Below w6.heap.size w6 W) => rdiff_any g1 g2 C1 C2 W (A1.out.below hb) (A2.out.below hb))
  rw [difL_comm C2 C1] at DF2
  rw [hS] at DF2 RD r7 hl
  have RF := Lib.hid (fun a n c W (h : RArg encS 2 W a n c S) => refs3_any a n c S W hl h)
  have SM := Lib.hid (fun a b n m c d W (hA : RArg encS 2 W a n c S) (hB : RArg encS 2 W b m d S) => same3_any a b n m c d S W hA hB)
  have R7 := Lib.hid r7
  have HB7 := Lib.hid hb7
  clear r7 hb7 hl
  go_wp2_with (first | (go_at_call 30; (with_reducible refine (RF.out _ _ _ _ R7.out).mono ?_); rintro e w8 ⟨a8, m8, k8, rfl, r8, hb8⟩) | fail)
  have HB8 := Lib.hid (below_next HB7.out hb8)
  have R78 := Lib.hid (R7.out.below hb8)
  go_wp2_with (first | (go_at_call 31; (with_reducible refine (RD.out _ HB8.out).mono ?_); rintro e w9 ⟨a9, m9, k9, rfl, r9, hb9⟩) | fail)
  have HB9 := Lib.hid (below_next HB8.out hb9)
  have R89 := Lib.hid (r8.below hb9)
  have R9 := Lib.hid r9
  have R79 := Lib.hid (R78.out.below hb9)
  clear r8 r9 hb8 hb9
  go_wp2_with (first | (go_at_call 29; (with_reducible refine (SM.out _ _ _ _ _ _ _ R89.out R9.out).mono ?_); rintro e w10 ⟨rfl, hb10⟩) | fail)
  have HB10 := Lib.hid (below_next HB9.out hb10)
  have R710 := Lib.hid (R79.out.below hb10)
  go_wp2_with (first | (go_at_call 30; (with_reducible refine (RF.out _ _ _ _ R710.out).mono ?_); rintro e w11 ⟨a11, m11, k11, rfl, r11, hb11⟩) | fail)
  have HB11 := Lib.hid (below_next HB10.out hb11)
  have R11 := Lib.hid r11
  go_wp2_with (first | (go_at_call 24; (with_reducible refine (DF2.out _ HB11.out).mono ?_); rintro e w12 ⟨v12, rfl, o12, hb12⟩; obtain ⟨a12, m12, k12, rfl, r12⟩ := OwnsR.argN encS_len o12; clear o12) | fail)
  have HB12 := Lib.hid (below_next HB11.out hb12)
  have R12 := Lib.hid r12
  have R1112 := Lib.hid (R11.out.below hb12)
  go_wp2_with (first | (go_at_call 30; (with_reducible refine (RF.out _ _ _ _ R12.out).mono ?_); rintro e w13 ⟨a13, m13, k13, rfl, r13, hb13⟩) | fail)
  have HB13 := Lib.hid (below_next HB12.out hb13)
  have R13 := Lib.hid r13
  have R1113 := Lib.hid (R1112.out.below hb13)
  clear hb10 r11 hb11 r12 hb12 r13 hb13
  go_wp2_with (first | (go_at_call 29; (with_reducible refine (SM.out _ _ _ _ _ _ _ R1113.out R13.out).mono ?_); rintro e w14 ⟨rfl, hb14⟩) | fail)
  have HB14 := Lib.hid (below_next HB13.out hb14)
  clear hb14
  have hm7 : m7 = S.length := R7.out.1
  have hz7 : (m7 : Int) ≤ 9223372036854775807 := by have := R7.out.2.1; omega
  obtain ⟨ra, hra⟩ : ∃ ra, regI (lvN C1 3 0) = ra := ⟨_, rfl⟩
  obtain ⟨rb, hrb⟩ : ∃ rb, regI (lvN C2 3 0) = rb := ⟨_, rfl⟩
  have RA := Lib.hid (fun W (hb : Below w6.heap.size w6 W) => hra ▸ root20_any b1 _ W (T16.out.below hb))
  have RB := Lib.hid (fun W (hb : Below w6.heap.size w6 W) => hrb ▸ root20_any b2 _ W (T26.out.below hb))
  clear hra hrb hS
  by_cases h0 : m7 = 0
  · subst h0
    have HM := Lib.hid hm7
    clear hm7 hz7
    cases hrr : (ra == rb)
    · go_wp2_with (first | (go_at_call 11; (with_reducible refine (awake20_any _).mono ?_); rintro e w15 ⟨rfl, hb15⟩; have HB15 := Lib.hid (below_next HB14.out hb15); clear hb15) | (go_at_call 20; (with_reducible refine (RA.out _ HB15.out).mono ?_); rintro e w16 ⟨rfl, rfl⟩) | (go_at_call 20; (with_reducible refine (RB.out _ HB15.out).mono ?_); rintro e w17 ⟨rfl, rfl⟩) | (go_at_call 31; (with_reducible refine (RD.out _ HB15.out).mono ?_); rintro e w18 ⟨a18, m18, k18, rfl, r18, hb18⟩; obtain rfl : m18 = 0 := r18.1.trans HM.out.symm; clear r18) | fail)
      go_ret
      exact ⟨rfl, below_next HB6.out (below_next HB15.out hb18)⟩
    · go_wp2_with (first | (go_at_call 11; (with_reducible refine (awake20_any _).mono ?_); rintro e w15 ⟨rfl, hb15⟩; have HB15 := Lib.hid (below_next HB14.out hb15); clear hb15) | (go_at_call 20; (with_reducible refine (RA.out _ HB15.out).mono ?_); rintro e w16 ⟨rfl, rfl⟩) | (go_at_call 20; (with_reducible refine (RB.out _ HB15.out).mono ?_); rintro e w17 ⟨rfl, rfl⟩) | fail)
      go_ret
      exact ⟨rfl, below_next HB6.out HB15.out⟩
  · have hp : (0 : Int) < (m7 : Int) := by omega
    clear hm7
    go_wp2_with (first | (go_at_call 11; (with_reducible refine (awake20_any _).mono ?_); rintro e w15 ⟨rfl, hb15⟩) | fail)
    go_ret
    exact ⟨rfl, below_next HB6.out (below_next HB14.out hb15)⟩
theorem merkleDiffs_walk (a1 : Option Addr) (n1 c1 : Nat) (l1 : List Pr) (a2 : Option Addr) (n2 c2 : Nat) (l2 : List Pr) (w : World) (h1 : RArg encP 2 w a1 n1 c1 l1) (h2 : RArg encP 2 w a2 n2 c2 l2) :
    Calls Try.prog 7 #[.slice a1 n1 c1, .slice a2 n2 c2] w (TruePost w) := by
  by_cases h : tblB l1 = false ∨ tblB l2 = false ∨ 60 < n1 ∨ 60 < n2
  · exact merkleDiffs_short a1 n1 c1 l1 a2 n2 c2 l2 w h1 h2 h
  · refine merkleDiffs_main a1 n1 c1 l1 a2 n2 c2 l2 w h1 h2 ?_ ?_ (by omega) (by omega)
    · cases ht : tblB l1
      · exact absurd (.inl ht) h
      · rfl
    · cases ht : tblB l2
      · exact absurd (.inr (.inl ht)) h
      · rfl
end Go.Proofs.Ytjjadappjapjhaa
