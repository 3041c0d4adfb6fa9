/-
  CONTRACT of the document's Open; THE WALK of the law CksumOpens.
-/
import Derived.Test.YtjeeplacolbihabRefTx
import Derived.Test.YtjeeplacolbihabBurst
namespace Go.Proofs.Ytjeeplacolbihab
open Go.RowKit

theorem openR_same {s t u : ByteArray} (hT : rText s 0 1048576 = (t, u, 0)) : s.extract 0 (s.size - u.size) = textS t := by
  have h := rText_once (s := s) (e := 0) (most := 1048576) (by rw [hT])
  rw [hT] at h
  have h : textS t ++ u = s := h
  have hz := size_app' (textS t) u
  rw [h] at hz
  have e : s.size - u.size = (textS t).size := by omega
  rw [e, ← h, ba_head]
theorem openR_lies {s t u : ByteArray} (hT : rText s 0 1048576 = (t, u, 0)) (h4 : ¬ u.size < 4) : (frameS t).size ≤ s.size := by
  have h := rText_once (s := s) (e := 0) (most := 1048576) (by rw [hT])
  rw [hT] at h
  have h : textS t ++ u = s := h
  have hz := size_app' (textS t) u
  rw [h] at hz
  have hf : (frameS t).size = (textS t).size + 4 := by unfold frameS; rw [size_app']; rfl
  omega
theorem openR_beq {s t u : ByteArray} (hT : rText s 0 1048576 = (t, u, 0)) : ((frameS t).toList == (s.extract 0 (frameS t).size).toList) = decide ((u.extract 0 4).data.toList = fourL (sumL (textS t).data.toList)) := by
  have h := rText_once (s := s) (e := 0) (most := 1048576) (by rw [hT])
  rw [hT] at h
  have h : textS t ++ u = s := h
  have hf : (frameS t).size = (textS t).data.toList.length + 4 := by unfold frameS; rw [size_app', ba_size]; rfl
  have e1 : (frameS t).data.toList = (textS t).data.toList ++ fourL (sumL (textS t).data.toList) := by unfold frameS; rw [ba_app]; rfl
  have e2 : (s.extract 0 (frameS t).size).data.toList = (textS t).data.toList ++ (u.extract 0 4).data.toList := by
    rw [ba_take, hf, ← h, ba_app, ba_take, List.take_length_add_append]
  rw [ByteArray.toList_eq, ByteArray.toList_eq, e1, e2, Bool.eq_iff_iff]
  simp only [beq_iff_eq, decide_eq_true_eq, List.append_cancel_left_eq]
  exact eq_comm

theorem rText_most {s : ByteArray} {e most : Int} (h : (rText s e most).2.2 = 0) (hm : 0 ≤ most) : ((rText s e most).1.size : Int) ≤ most := by
  unfold rText at h ⊢
  by_cases h1 : (rLen s e most).2.2 = 0
  · rw [if_pos h1] at h ⊢
    by_cases h2 : ((rLen s e most).2.1.size : Int) < (rLen s e most).1
    · rw [if_pos h2] at h; cases h
    · rw [if_neg h2]
      obtain ⟨h3, h4⟩ := rLen_once h1
      show (((rLen s e most).2.1.extract 0 (rLen s e most).1.toNat).size : Int) ≤ most
      rw [h3] at h2 ⊢
      rw [ba_size, ba_take, List.length_take, ← ba_size]
      omega
  · rw [if_neg h1] at h; exact absurd h h1

set_option maxRecDepth 100000 in
set_option maxHeartbeats 2000000 in
theorem refOpen_any (s : ByteArray) (w : World) (hs : (s.size : Int) ≤ 9000000000000000000) : Calls Try.prog 10 #[.string s] w (OpenPost (openR s) w) := by
  obtain ⟨t, u, e1, hT⟩ : ∃ t u e1, rText s 0 1048576 = (t, u, e1) := ⟨_, _, _, rfl⟩
  have P : Hid (∀ w, Calls Try.prog 21 #[rdV s 0, .int .i64 1048576] w (RdTextPost (t, u, e1) w)) := Lib.hid fun w => by have := refTextR_any s 0 1048576 w hs; rw [hT] at this; exact this
  have z1 : u.size ≤ s.size := by have := (rText_left s 0 1048576).1; rw [hT] at this; exact this
  by_cases h0 : e1 = 0
  · subst h0
    have ht : t.size ≤ 1048576 := by
      have h := rText_most (s := s) (e := 0) (most := 1048576) (by rw [hT]) (by omega)
      rw [hT] at h
      have h : (t.size : Int) ≤ 1048576 := h
      omega
    by_cases h4 : u.size < 4
    · have H : Hid (openR s = (ByteArray.empty, ByteArray.empty, 5)) := Lib.hid (by unfold openR; rw [hT, if_pos rfl, if_pos h4])
      clear hT
      go_enter Try.func10, Try.ntmps10
      go_wp2_with (first
        | (go_at_call 21; refine (P.out _).mono ?_; rintro e w2 ⟨rfl, B2⟩; obtain ⟨hcB, hfB⟩ := bcell B2; have hzB := B2.size))
      go_ret3
      exact ⟨by rw [H.out]; rfl, B2.alloc (by simpa using hzB) _⟩
    · have h4' : 4 ≤ u.size := by omega
      have hl := openR_lies hT h4
      have hq := openR_beq hT
      have hz := openR_same hT
      by_cases hk : (u.extract 0 4).data.toList = fourL (sumL (textS t).data.toList)
      · have H : Hid (openR s = (t, u.extract 4 u.size, 0)) := Lib.hid (by unfold openR; rw [hT, if_pos rfl, if_neg h4, hz, if_pos hk])
        rw [decide_eq_true hk] at hq
        clear hT hk hz
        go_enter Try.func10, Try.ntmps10
        go_wp2_with (first
          | (go_at_call 21; refine (P.out _).mono ?_; rintro e w2 ⟨rfl, B2⟩; obtain ⟨hcB, hfB⟩ := bcell B2; have hzB := B2.size)
          | (go_at_call 22; refine (refFrame_any _ _ ht).mono ?_; rintro e w4 ⟨rfl, B4⟩; obtain ⟨hcD, hfD⟩ := bcell B4; have hzD := B4.size))
        go_region
        all_goals go_wp2
        all_goals
          go_ret3
          exact ⟨by rw [H.out]; rfl, below_next (B2.alloc (by simpa using hzB) _) B4.drew⟩
      · have H : Hid (openR s = (ByteArray.empty, ByteArray.empty, 6)) := Lib.hid (by unfold openR; rw [hT, if_pos rfl, if_neg h4, hz, if_neg hk])
        rw [decide_eq_false hk] at hq
        clear hT hk hz
        go_enter Try.func10, Try.ntmps10
        go_wp2_with (first
          | (go_at_call 21; refine (P.out _).mono ?_; rintro e w2 ⟨rfl, B2⟩; obtain ⟨hcB, hfB⟩ := bcell B2; have hzB := B2.size)
          | (go_at_call 22; refine (refFrame_any _ _ ht).mono ?_; rintro e w4 ⟨rfl, B4⟩; obtain ⟨hcD, hfD⟩ := bcell B4; have hzD := B4.size))
        go_ret3
        exact ⟨by rw [H.out]; rfl, below_next (B2.alloc (by simpa using hzB) _) B4⟩
  · have H : Hid (openR s = (ByteArray.empty, ByteArray.empty, e1)) := Lib.hid (by unfold openR; rw [hT, if_neg h0])
    have d0 : (e1 != 0) = true := by simpa using h0
    clear hT h0
    go_enter Try.func10, Try.ntmps10
    go_wp2_with (first
      | (go_at_call 21; refine (P.out _).mono ?_; rintro e w2 ⟨rfl, B2⟩; obtain ⟨hcB, hfB⟩ := bcell B2; have hzB := B2.size))
    go_region
    all_goals go_wp2
    all_goals
      go_ret3
      exact ⟨by rw [H.out]; rfl, (B2.alloc (by simpa using hzB) _).drew⟩

theorem openR_bad {s : ByteArray} (h : (openR s).2.2 ≠ 0) : openR s = (ByteArray.empty, ByteArray.empty, (openR s).2.2) := by
  unfold openR at h ⊢
  by_cases h1 : (rText s 0 1048576).2.2 = 0
  · rw [if_pos h1] at h ⊢
    by_cases h2 : (rText s 0 1048576).2.1.size < 4
    · rw [if_pos h2]
    · rw [if_neg h2] at h ⊢
      by_cases h3 : ((rText s 0 1048576).2.1.extract 0 4).data.toList = fourL (sumL (s.extract 0 (s.size - (rText s 0 1048576).2.1.size)).data.toList)
      · rw [if_pos h3] at h; exact absurd rfl h
      · rw [if_neg h3]
  · rw [if_neg h1]

set_option maxRecDepth 100000 in
set_option maxHeartbeats 2000000 in
theorem cksumOpens_walk (s : ByteArray) (w : World) (_hs : s.size ≤ maxLen) :
    Calls Try.prog 3 #[.string s] w fun e w' => e = .returned (.bool true) ∧ Below w.heap.size w w' := by
  by_cases h1 : 20000 < s.size
  · go_enter Try.func3, Try.ntmps3
    go_wp2_with (go_at_call 8; refine (awake2_any _).mono ?_; rintro e w0 ⟨rfl, B0⟩)
    go_ret
    exact ⟨rfl, B0⟩
  · have hs : (s.size : Int) ≤ 9000000000000000000 := by omega
    obtain ⟨b, r, k, hO⟩ : ∃ b r k, openR s = (b, r, k) := ⟨_, _, _, rfl⟩
    have HA : Hid (∀ w, Calls Try.prog 9 #[.string s] w (OpenPost (b, r, k) w)) := Lib.hid fun w => by have := open_any s w hs; rw [hO] at this; exact this
    have HB : Hid (∀ w, Calls Try.prog 10 #[.string s] w (OpenPost (b, r, k) w)) := Lib.hid fun w => by have := refOpen_any s w hs; rw [hO] at this; exact this
    have hbad := openR_bad (s := s)
    rw [hO] at hbad
    by_cases hk : k = 0
    · subst hk
      clear hbad
      cases hr : r.toList.isEmpty
      · have HW : Hid (∀ w, Calls Try.prog 11 #[.string s] w (FramePost ByteArray.empty 2 w)) := Lib.hid fun w => cwhole_more s b r w hs hO hr
        clear hO
        go_enter Try.func3, Try.ntmps3
        go_wp2_with (first
          | (go_at_call 9; refine (HA.out _).mono ?_; rintro e w1 ⟨rfl, B1⟩)
          | (go_at_call 10; refine (HB.out _).mono ?_; rintro e w2 ⟨rfl, B2⟩)
          | (go_at_call 11; refine (HW.out _).mono ?_; rintro e w3 ⟨rfl, B3⟩)
          | (go_at_call 8; refine (awake2_any _).mono ?_; rintro e w0 ⟨rfl, B0⟩))
        go_ret
        exact ⟨rfl, below_next (below_next (below_next B1 B2) B3) B0⟩
      · have hr0 : r = ByteArray.empty := by
          apply ba_ext
          rw [ByteArray.toList_eq] at hr
          simpa using hr
        subst hr0
        have HW : Hid (∀ w, Calls Try.prog 11 #[.string s] w (FramePost b 0 w)) := Lib.hid fun w => cwhole_good s b w hs hO
        clear hO
        go_enter Try.func3, Try.ntmps3
        go_wp2_with (first
          | (go_at_call 9; refine (HA.out _).mono ?_; rintro e w1 ⟨rfl, B1⟩)
          | (go_at_call 10; refine (HB.out _).mono ?_; rintro e w2 ⟨rfl, B2⟩)
          | (go_at_call 11; refine (HW.out _).mono ?_; rintro e w3 ⟨rfl, B3⟩)
          | (go_at_call 8; refine (awake2_any _).mono ?_; rintro e w0 ⟨rfl, B0⟩))
        go_ret
        exact ⟨rfl, below_next (below_next (below_next B1 B2) B3) B0⟩
    · have hbr := hbad hk
      injection hbr with hb hr
      injection hr with hr _
      subst hb hr
      have HW : Hid (∀ w, Calls Try.prog 11 #[.string s] w (FramePost ByteArray.empty k w)) := Lib.hid fun w => cwhole_err s k w hs hk hO
      have d0 : (k == 0) = false := by simpa using hk
      clear hO hbad hk
      go_enter Try.func3, Try.ntmps3
      go_wp2_with (first
        | (go_at_call 9; refine (HA.out _).mono ?_; rintro e w1 ⟨rfl, B1⟩)
        | (go_at_call 10; refine (HB.out _).mono ?_; rintro e w2 ⟨rfl, B2⟩)
        | (go_at_call 11; refine (HW.out _).mono ?_; rintro e w3 ⟨rfl, B3⟩)
        | (go_at_call 8; refine (awake2_any _).mono ?_; rintro e w0 ⟨rfl, B0⟩))
      go_ret
      exact ⟨rfl, below_next (below_next (below_next B1 B2) B3) B0⟩
end Go.Proofs.Ytjeeplacolbihab
