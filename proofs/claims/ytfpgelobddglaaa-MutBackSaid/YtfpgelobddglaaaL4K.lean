/-
  MutBack walked.
-/
import Derived.Test.YtfpgelobddglaaaRvH
namespace Go.Proofs.Ytfpgelobddglaaa
open Go.RowKit Go.Shelf Go.ChangeShapes Go.WideShapes Go.Deep

theorem text_len {c q k : Int} {l : List Sp} {lo hi old : Int} (h : chkM c q k l lo hi old = true) : ((ofL (textT c q k l lo hi old)).size : Int) ≤ 1000000000000 := by
  obtain ⟨⟨c0, c1⟩, ⟨q0, q1⟩, ⟨k0, k1⟩, ⟨hp, hl⟩, f2, n2, n4, f4⟩ := chkM_facts h
  rw [show textT c q k l lo hi old = bodyT c q k l lo hi old from if_pos h, ← mP_all, ba_app_size]
  have h1 := mP_size (c := c) (s := q) (k := k) (l := l) (by omega) (by omega) (by omega) (by omega) hp l.length (Nat.le_refl _)
  have h2 : (ofL (tailT k lo hi old)).size ≤ 18 := by
    unfold tailT
    by_cases k2 : k = 2
    · obtain ⟨_, b, _, d⟩ := f2 k2
      rw [if_pos k2, ofL_app, ofL_bl, ofL_bl, ba_app_size]
      have := numS_size (n := lo) (by omega)
      have := numS_size (n := hi) (by omega)
      omega
    · rw [if_neg k2]
      by_cases k4 : k = 4
      · rw [if_pos k4, ofL_bl]
        have := wholeS_size old
        omega
      · rw [if_neg k4]
        exact Nat.zero_le _
  omega

set_option maxRecDepth 100000 in
set_option maxHeartbeats 4000000 in
theorem mutBack_walk (c s k : Int) (a : Option Addr) (n cp : Nat) (l : List Sp) (lo hi old : Int) (S : ByteArray) (w : World) (hA : Arg w a n cp l) (_hs : S.size ≤ maxLen) :
    Calls Try.prog 6 #[.agg #[.int .i64 c, .int .i64 s, .int .i64 k, .slice a n cp, .int .i64 lo, .int .i64 hi, .int .i64 old], .string S] w (TruePost w) := by
  have hz : (n : Int) ≤ 9223372036854775807 := by have h1 := hA.1; have h2 := hA.2.1; omega
  have hsz : (S.size : Int) ≤ 9223372036854775807 := by unfold maxLen at _hs; omega
  clear _hs
  have hln := hA.1
  obtain ⟨W1, hW1⟩ : ∃ W1, w.alloc (.cells #[.int .i64 c, .int .i64 s, .int .i64 k, .slice a n cp, .int .i64 lo, .int .i64 hi, .int .i64 old] 26) = W1 := ⟨_, rfl⟩
  have bw : Below w.heap.size w W1 := by rw [← hW1]; exact (Below.refl _ _).alloc (Nat.le_refl _) _
  have sw : w.heap.size ≤ W1.heap.size := bw.size
  have K7 := Lib.hid (fun W (h : Below W1.heap.size W1 W) => box7 (w := w) (t := 26) (v0 := .int .i64 c) (v1 := .int .i64 s) (v2 := .int .i64 k) (v3 := .slice a n cp) (v4 := .int .i64 lo) (v5 := .int .i64 hi) (v6 := .int .i64 old) (w' := W) (by rw [hW1]; exact h))
  have HS := Lib.hid ((Env.mk (L := []) (Below.refl W1.heap.size W1) (by simp)).add (hA.below bw))
  obtain ⟨q0, q1, q2, q3, q4, q5, q6⟩ := K7.out _ HS.out.low
  clear hA
  by_cases h0 : n ≤ 100
  · have hn := Lib.hid (show decide (n ≤ 100) = true from decide_eq_true h0)
    have hl : l.length ≤ 100000 := by omega
    replace hln := Lib.hid hln
    clear h0
    by_cases hbig : (S.size : Int) ≤ 5000
    · have hone := fun h => mRd_once (s := S) h
      have hbad := fun h => mRd_bad (P := cPairs) (s := S) h
      have RS0 := fun W => mread_any S W (by omega)
      by_cases hx : (mRd cPairs S).2 = 0
      · obtain ⟨c2, s2, k2, l2, lo2, hi2, old2, hE, hC2, hT2⟩ := hone hx
        have RS : Hid (∀ W, Calls Try.prog 29 #[.string S] W fun e w' => ∃ a2 n2 p2, e = .returned (.tuple #[.agg #[.int .i64 c2, .int .i64 s2, .int .i64 k2, .slice a2 n2 p2, .int .i64 lo2, .int .i64 hi2, .int .i64 old2], .int .i64 0]) ∧ Arg w' a2 n2 p2 l2 ∧ Below W.heap.size W w') := Lib.hid fun W => by have := RS0 W; rw [hE] at this; exact this
        have CQ : Hid (∀ a2 n2 p2 W, Arg W a2 n2 p2 l2 → Calls Try.prog 32 #[.agg #[.int .i64 c2, .int .i64 s2, .int .i64 k2, .slice a2 n2 p2, .int .i64 lo2, .int .i64 hi2, .int .i64 old2]] W (Gives W (.bool true))) := Lib.hid fun a2 n2 p2 W h => hC2 ▸ mcheck_any c2 s2 k2 a2 n2 p2 l2 lo2 hi2 old2 W h
        have TQ : Hid (∀ a2 n2 p2 W, Arg W a2 n2 p2 l2 → Calls Try.prog 27 #[.agg #[.int .i64 c2, .int .i64 s2, .int .i64 k2, .slice a2 n2 p2, .int .i64 lo2, .int .i64 hi2, .int .i64 old2]] W (Gives W (.string S))) := Lib.hid fun a2 n2 p2 W h => by have := mtext_any c2 s2 k2 a2 n2 p2 l2 lo2 hi2 old2 W h; rw [show (⟨(textT c2 s2 k2 l2 lo2 hi2 old2).toArray⟩ : ByteArray) = S from hT2] at this; exact this
        clear hone hbad RS0 hx hE hT2 hC2
        cases hc : chkM c s k l lo hi old
        · have hck := Lib.hid hc
          clear hc
          go_enter Try.func6, Try.ntmps6
          go_wp2_with (first | (go_at_call 14; (with_reducible refine (few4_any c s k a n cp lo hi old _ hz).mono ?_); rw [hn.out]; rintro e w2 ⟨rfl, hb⟩; replace HS := Lib.hid (HS.out.step hb); clear hb; obtain ⟨q0, q1, q2, q3, q4, q5, q6⟩ := K7.out _ HS.out.low) | (go_at_call 32; (with_reducible refine (mcheck_any c s k a n cp l lo hi old _ (HS.out.get (by repeat (first | exact List.mem_cons_self | apply List.mem_cons_of_mem)))).mono ?_); rw [hck.out]; rintro e w3 ⟨rfl, hb⟩; replace HS := Lib.hid (HS.out.step hb); clear hb; obtain ⟨q0, q1, q2, q3, q4, q5, q6⟩ := K7.out _ HS.out.low) | (go_at_call 29; (with_reducible refine (RS.out _).mono ?_); rintro e w7 ⟨a2, n2, p2, rfl, hx, hb⟩; replace HS := Lib.hid (((HS.out.step hb).add hx).step ((Below.refl _ _).alloc (Nat.le_refl _) (.cells #[.int .i64 c2, .int .i64 s2, .int .i64 k2, .slice a2 n2 p2, .int .i64 lo2, .int .i64 hi2, .int .i64 old2] 26))); clear hb hx; obtain ⟨q0, q1, q2, q3, q4, q5, q6⟩ := K7.out _ HS.out.low) | (go_at_call 15; (with_reducible refine (awake4_any _).mono ?_); rintro e w8 ⟨rfl, hb⟩; replace HS := Lib.hid (HS.out.step hb); obtain ⟨x0, x1, x2, x3, x4, x5, x6⟩ := box7 hb; have HB := Lib.hid hb; clear hb) | (go_at_call 32; (with_reducible refine (CQ.out a2 n2 p2 _ (HS.out.get (by repeat (first | exact List.mem_cons_self | apply List.mem_cons_of_mem)))).mono ?_); rintro e w9 ⟨rfl, hb⟩; replace HS := Lib.hid (HS.out.step hb); obtain ⟨x0, x1, x2, x3, x4, x5, x6⟩ := box7 (below_next HB.out hb); clear hb) | (go_at_call 27; (with_reducible refine (TQ.out a2 n2 p2 _ (HS.out.get (by repeat (first | exact List.mem_cons_self | apply List.mem_cons_of_mem)))).mono ?_); rintro e w10 ⟨rfl, hb⟩; replace HS := Lib.hid (HS.out.step hb); clear hb))
          go_ret
          exact ⟨ret_bool (by simp), bw.trans (HS.out.low.mono sw)⟩
        · have hck := Lib.hid hc
          have RB : Hid (∀ W, Calls Try.prog 29 #[.string ⟨(textT c s k l lo hi old).toArray⟩] W fun e w' => ∃ a1 n1 c1, e = .returned (.tuple #[.agg #[.int .i64 c, .int .i64 s, .int .i64 k, .slice a1 n1 c1, .int .i64 lo, .int .i64 hi, .int .i64 old], .int .i64 0]) ∧ Arg w' a1 n1 c1 l ∧ Below W.heap.size W w') := Lib.hid fun W => by have := mread_any (ofL (textT c s k l lo hi old)) W (text_len hc); rw [mRd_back hc] at this; exact this
          have SA : Hid (∀ a1 n1 c1 W, Arg W a1 n1 c1 l → Arg W a n cp l → Calls Try.prog 33 #[.agg #[.int .i64 c, .int .i64 s, .int .i64 k, .slice a1 n1 c1, .int .i64 lo, .int .i64 hi, .int .i64 old], .agg #[.int .i64 c, .int .i64 s, .int .i64 k, .slice a n cp, .int .i64 lo, .int .i64 hi, .int .i64 old]] W (Gives W (.bool true))) := Lib.hid fun a1 n1 c1 W h1 h2 => by have := msame_any c s k a1 n1 c1 l lo hi old c s k a n cp l lo hi old W h1 h2; rw [decide_eq_true ⟨rfl, rfl, rfl, rfl, rfl, rfl⟩] at this; exact this
          clear hc
          go_enter Try.func6, Try.ntmps6
          go_wp2_with (first | (go_at_call 14; (with_reducible refine (few4_any c s k a n cp lo hi old _ hz).mono ?_); rw [hn.out]; rintro e w2 ⟨rfl, hb⟩; replace HS := Lib.hid (HS.out.step hb); clear hb; obtain ⟨q0, q1, q2, q3, q4, q5, q6⟩ := K7.out _ HS.out.low) | (go_at_call 32; (with_reducible refine (mcheck_any c s k a n cp l lo hi old _ (HS.out.get (by repeat (first | exact List.mem_cons_self | apply List.mem_cons_of_mem)))).mono ?_); rw [hck.out]; rintro e w3 ⟨rfl, hb⟩; replace HS := Lib.hid (HS.out.step hb); clear hb; obtain ⟨q0, q1, q2, q3, q4, q5, q6⟩ := K7.out _ HS.out.low) | (go_at_call 27; (with_reducible refine (mtext_any c s k a n cp l lo hi old _ (HS.out.get (by repeat (first | exact List.mem_cons_self | apply List.mem_cons_of_mem)))).mono ?_); rintro e w4 ⟨rfl, hb⟩; replace HS := Lib.hid (HS.out.step hb); clear hb; obtain ⟨q0, q1, q2, q3, q4, q5, q6⟩ := K7.out _ HS.out.low) | (go_at_call 29; (with_reducible refine (RB.out _).mono ?_); rintro e w5 ⟨a1, n1, c1, rfl, hx, hb⟩; replace HS := Lib.hid (((HS.out.step hb).add hx).step ((Below.refl _ _).alloc (Nat.le_refl _) (.cells #[.int .i64 c, .int .i64 s, .int .i64 k, .slice a1 n1 c1, .int .i64 lo, .int .i64 hi, .int .i64 old] 26))); clear hb hx; obtain ⟨q0, q1, q2, q3, q4, q5, q6⟩ := K7.out _ HS.out.low) | (go_at_call 33; (with_reducible refine (SA.out a1 n1 c1 _ (HS.out.get (by repeat (first | exact List.mem_cons_self | apply List.mem_cons_of_mem))) (HS.out.get (by repeat (first | exact List.mem_cons_self | apply List.mem_cons_of_mem)))).mono ?_); rintro e w6 ⟨rfl, hb⟩; replace HS := Lib.hid (HS.out.step hb); clear hb; obtain ⟨q0, q1, q2, q3, q4, q5, q6⟩ := K7.out _ HS.out.low) | (go_at_call 29; (with_reducible refine (RS.out _).mono ?_); rintro e w7 ⟨a2, n2, p2, rfl, hx, hb⟩; replace HS := Lib.hid (((HS.out.step hb).add hx).step ((Below.refl _ _).alloc (Nat.le_refl _) (.cells #[.int .i64 c2, .int .i64 s2, .int .i64 k2, .slice a2 n2 p2, .int .i64 lo2, .int .i64 hi2, .int .i64 old2] 26))); clear hb hx; obtain ⟨q0, q1, q2, q3, q4, q5, q6⟩ := K7.out _ HS.out.low) | (go_at_call 15; (with_reducible refine (awake4_any _).mono ?_); rintro e w8 ⟨rfl, hb⟩; replace HS := Lib.hid (HS.out.step hb); obtain ⟨x0, x1, x2, x3, x4, x5, x6⟩ := box7 hb; have HB := Lib.hid hb; clear hb) | (go_at_call 32; (with_reducible refine (CQ.out a2 n2 p2 _ (HS.out.get (by repeat (first | exact List.mem_cons_self | apply List.mem_cons_of_mem)))).mono ?_); rintro e w9 ⟨rfl, hb⟩; replace HS := Lib.hid (HS.out.step hb); obtain ⟨x0, x1, x2, x3, x4, x5, x6⟩ := box7 (below_next HB.out hb); clear hb) | (go_at_call 27; (with_reducible refine (TQ.out a2 n2 p2 _ (HS.out.get (by repeat (first | exact List.mem_cons_self | apply List.mem_cons_of_mem)))).mono ?_); rintro e w10 ⟨rfl, hb⟩; replace HS := Lib.hid (HS.out.step hb); clear hb))
          go_ret
          exact ⟨ret_bool (by simp), bw.trans (HS.out.low.mono sw)⟩
      · have hE : mRd cPairs S = (noM, (mRd cPairs S).2) := by rw [← hbad hx]
        obtain ⟨x, hxx⟩ : ∃ x, (mRd cPairs S).2 = x := ⟨_, rfl⟩
        rw [hxx] at hE hx
        have RS : Hid (∀ W, Calls Try.prog 29 #[.string S] W fun e w' => ∃ a2 n2 p2, e = .returned (.tuple #[.agg #[.int .i64 0, .int .i64 0, .int .i64 0, .slice a2 n2 p2, .int .i64 0, .int .i64 0, .int .i64 0], .int .i64 x]) ∧ Arg w' a2 n2 p2 [] ∧ Below W.heap.size W w') := Lib.hid fun W => by have := RS0 W; rw [hE] at this; exact this
        have SZ : Hid (∀ a2 n2 p2 W, Arg W a2 n2 p2 [] → Calls Try.prog 31 #[.agg #[.int .i64 0, .int .i64 0, .int .i64 0, .slice a2 n2 p2, .int .i64 0, .int .i64 0, .int .i64 0], .agg #[.int .i64 0, .int .i64 0, .int .i64 0, .slice none 0 0, .int .i64 0, .int .i64 0, .int .i64 0]] W (Gives W (.bool true))) := Lib.hid fun a2 n2 p2 W h => by have := rsame4_any 0 0 0 a2 n2 p2 [] 0 0 0 0 0 0 none 0 0 [] 0 0 0 W h (Arg.nil0 W); rw [decide_eq_true ⟨rfl, rfl, rfl, rfl, rfl, rfl⟩] at this; exact this
        have d1 : (x != 0) = true := by simpa using hx
        have d2 : (x == 0) = false := by simpa using hx
        clear hone hbad RS0 hx hE
        replace hxx := Lib.hid hxx
        cases hc : chkM c s k l lo hi old
        · have hck := Lib.hid hc
          clear hc
          go_enter Try.func6, Try.ntmps6
          go_wp2_with (first | (go_at_call 14; (with_reducible refine (few4_any c s k a n cp lo hi old _ hz).mono ?_); rw [hn.out]; rintro e w2 ⟨rfl, hb⟩; replace HS := Lib.hid (HS.out.step hb); clear hb; obtain ⟨q0, q1, q2, q3, q4, q5, q6⟩ := K7.out _ HS.out.low) | (go_at_call 32; (with_reducible refine (mcheck_any c s k a n cp l lo hi old _ (HS.out.get (by repeat (first | exact List.mem_cons_self | apply List.mem_cons_of_mem)))).mono ?_); rw [hck.out]; rintro e w3 ⟨rfl, hb⟩; replace HS := Lib.hid (HS.out.step hb); clear hb; obtain ⟨q0, q1, q2, q3, q4, q5, q6⟩ := K7.out _ HS.out.low) | (go_at_call 29; (with_reducible refine (RS.out _).mono ?_); rintro e w7 ⟨a2, n2, p2, rfl, hx, hb⟩; replace HS := Lib.hid (((HS.out.step hb).add hx).step ((Below.refl _ _).alloc (Nat.le_refl _) (.cells #[.int .i64 0, .int .i64 0, .int .i64 0, .slice a2 n2 p2, .int .i64 0, .int .i64 0, .int .i64 0] 26))); clear hb hx; obtain ⟨q0, q1, q2, q3, q4, q5, q6⟩ := K7.out _ HS.out.low) | (go_at_call 15; (with_reducible refine (awake4_any _).mono ?_); rintro e w8 ⟨rfl, hb⟩; replace HS := Lib.hid (HS.out.step hb); obtain ⟨x0, x1, x2, x3, x4, x5, x6⟩ := box7 hb; have HB := Lib.hid hb; clear hb) | (go_at_call 18; (with_reducible refine (ref4_any 0 0 0 a2 n2 p2 [] 0 0 0 _ (Nat.zero_le _) (HS.out.get (by repeat (first | exact List.mem_cons_self | apply List.mem_cons_of_mem)))).mono ?_); rintro e w9 ⟨a3, n3, p3, rfl, hx, hb⟩; replace HS := Lib.hid ((HS.out.step hb).add hx); clear hb hx) | (go_at_call 31; (with_reducible refine (SZ.out a3 n3 p3 _ (HS.out.get (by repeat (first | exact List.mem_cons_self | apply List.mem_cons_of_mem)))).mono ?_); rintro e w10 ⟨rfl, hb⟩; replace HS := Lib.hid (HS.out.step hb); clear hb))
          go_ret
          exact ⟨ret_bool (by simp), bw.trans (HS.out.low.mono sw)⟩
        · have hck := Lib.hid hc
          have RB : Hid (∀ W, Calls Try.prog 29 #[.string ⟨(textT c s k l lo hi old).toArray⟩] W fun e w' => ∃ a1 n1 c1, e = .returned (.tuple #[.agg #[.int .i64 c, .int .i64 s, .int .i64 k, .slice a1 n1 c1, .int .i64 lo, .int .i64 hi, .int .i64 old], .int .i64 0]) ∧ Arg w' a1 n1 c1 l ∧ Below W.heap.size W w') := Lib.hid fun W => by have := mread_any (ofL (textT c s k l lo hi old)) W (text_len hc); rw [mRd_back hc] at this; exact this
          have SA : Hid (∀ a1 n1 c1 W, Arg W a1 n1 c1 l → Arg W a n cp l → Calls Try.prog 33 #[.agg #[.int .i64 c, .int .i64 s, .int .i64 k, .slice a1 n1 c1, .int .i64 lo, .int .i64 hi, .int .i64 old], .agg #[.int .i64 c, .int .i64 s, .int .i64 k, .slice a n cp, .int .i64 lo, .int .i64 hi, .int .i64 old]] W (Gives W (.bool true))) := Lib.hid fun a1 n1 c1 W h1 h2 => by have := msame_any c s k a1 n1 c1 l lo hi old c s k a n cp l lo hi old W h1 h2; rw [decide_eq_true ⟨rfl, rfl, rfl, rfl, rfl, rfl⟩] at this; exact this
          clear hc
          go_enter Try.func6, Try.ntmps6
          go_wp2_with (first | (go_at_call 14; (with_reducible refine (few4_any c s k a n cp lo hi old _ hz).mono ?_); rw [hn.out]; rintro e w2 ⟨rfl, hb⟩; replace HS := Lib.hid (HS.out.step hb); clear hb; obtain ⟨q0, q1, q2, q3, q4, q5, q6⟩ := K7.out _ HS.out.low) | (go_at_call 32; (with_reducible refine (mcheck_any c s k a n cp l lo hi old _ (HS.out.get (by repeat (first | exact List.mem_cons_self | apply List.mem_cons_of_mem)))).mono ?_); rw [hck.out]; rintro e w3 ⟨rfl, hb⟩; replace HS := Lib.hid (HS.out.step hb); clear hb; obtain ⟨q0, q1, q2, q3, q4, q5, q6⟩ := K7.out _ HS.out.low) | (go_at_call 27; (with_reducible refine (mtext_any c s k a n cp l lo hi old _ (HS.out.get (by repeat (first | exact List.mem_cons_self | apply List.mem_cons_of_mem)))).mono ?_); rintro e w4 ⟨rfl, hb⟩; replace HS := Lib.hid (HS.out.step hb); clear hb; obtain ⟨q0, q1, q2, q3, q4, q5, q6⟩ := K7.out _ HS.out.low) | (go_at_call 29; (with_reducible refine (RB.out _).mono ?_); rintro e w5 ⟨a1, n1, c1, rfl, hx, hb⟩; replace HS := Lib.hid (((HS.out.step hb).add hx).step ((Below.refl _ _).alloc (Nat.le_refl _) (.cells #[.int .i64 c, .int .i64 s, .int .i64 k, .slice a1 n1 c1, .int .i64 lo, .int .i64 hi, .int .i64 old] 26))); clear hb hx; obtain ⟨q0, q1, q2, q3, q4, q5, q6⟩ := K7.out _ HS.out.low) | (go_at_call 33; (with_reducible refine (SA.out a1 n1 c1 _ (HS.out.get (by repeat (first | exact List.mem_cons_self | apply List.mem_cons_of_mem))) (HS.out.get (by repeat (first | exact List.mem_cons_self | apply List.mem_cons_of_mem)))).mono ?_); rintro e w6 ⟨rfl, hb⟩; replace HS := Lib.hid (HS.out.step hb); clear hb; obtain ⟨q0, q1, q2, q3, q4, q5, q6⟩ := K7.out _ HS.out.low) | (go_at_call 29; (with_reducible refine (RS.out _).mono ?_); rintro e w7 ⟨a2, n2, p2, rfl, hx, hb⟩; replace HS := Lib.hid (((HS.out.step hb).add hx).step ((Below.refl _ _).alloc (Nat.le_refl _) (.cells #[.int .i64 0, .int .i64 0, .int .i64 0, .slice a2 n2 p2, .int .i64 0, .int .i64 0, .int .i64 0] 26))); clear hb hx; obtain ⟨q0, q1, q2, q3, q4, q5, q6⟩ := K7.out _ HS.out.low) | (go_at_call 15; (with_reducible refine (awake4_any _).mono ?_); rintro e w8 ⟨rfl, hb⟩; replace HS := Lib.hid (HS.out.step hb); obtain ⟨x0, x1, x2, x3, x4, x5, x6⟩ := box7 hb; have HB := Lib.hid hb; clear hb) | (go_at_call 18; (with_reducible refine (ref4_any 0 0 0 a2 n2 p2 [] 0 0 0 _ (Nat.zero_le _) (HS.out.get (by repeat (first | exact List.mem_cons_self | apply List.mem_cons_of_mem)))).mono ?_); rintro e w9 ⟨a3, n3, p3, rfl, hx, hb⟩; replace HS := Lib.hid ((HS.out.step hb).add hx); clear hb hx) | (go_at_call 31; (with_reducible refine (SZ.out a3 n3 p3 _ (HS.out.get (by repeat (first | exact List.mem_cons_self | apply List.mem_cons_of_mem)))).mono ?_); rintro e w10 ⟨rfl, hb⟩; replace HS := Lib.hid (HS.out.step hb); clear hb))
          go_ret
          exact ⟨ret_bool (by simp), bw.trans (HS.out.low.mono sw)⟩
    · have hbig' : ¬ (S.size : Int) ≤ 5000 := hbig
      go_enter Try.func6, Try.ntmps6
      go_wp2_with (first | (go_at_call 14; (with_reducible refine (few4_any c s k a n cp lo hi old _ hz).mono ?_); rw [hn.out]; rintro e w2 ⟨rfl, hb⟩; replace HS := Lib.hid (HS.out.step hb); clear hb; obtain ⟨q0, q1, q2, q3, q4, q5, q6⟩ := K7.out _ HS.out.low) | (go_at_call 15; (with_reducible refine (awake4_any _).mono ?_); rintro e w3 ⟨rfl, hb⟩; replace HS := Lib.hid (HS.out.step hb); clear hb; obtain ⟨q0, q1, q2, q3, q4, q5, q6⟩ := K7.out _ HS.out.low))
      go_ret
      exact ⟨rfl, bw.trans (HS.out.low.mono sw)⟩
  · have hn := Lib.hid (show decide (n ≤ 100) = false from decide_eq_false h0)
    clear h0
    replace hln := Lib.hid hln
    go_enter Try.func6, Try.ntmps6
    go_wp2_with (first | (go_at_call 14; (with_reducible refine (few4_any c s k a n cp lo hi old _ hz).mono ?_); rw [hn.out]; rintro e w2 ⟨rfl, hb⟩; replace HS := Lib.hid (HS.out.step hb); clear hb; obtain ⟨q0, q1, q2, q3, q4, q5, q6⟩ := K7.out _ HS.out.low) | (go_at_call 15; (with_reducible refine (awake4_any _).mono ?_); rintro e w3 ⟨rfl, hb⟩; replace HS := Lib.hid (HS.out.step hb); clear hb; obtain ⟨q0, q1, q2, q3, q4, q5, q6⟩ := K7.out _ HS.out.low))
    go_ret
    exact ⟨rfl, bw.trans (HS.out.low.mono sw)⟩
end Go.Proofs.Ytfpgelobddglaaa
