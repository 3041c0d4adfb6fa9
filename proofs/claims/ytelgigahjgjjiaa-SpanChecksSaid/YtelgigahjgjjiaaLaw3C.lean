/-
  THE WALKS of SpanMakes, SpanJoins, SpanMeets, SpanLesses.
-/
import Derived.Test.YtelgigahjgjjiaaLaw3B
import Derived.Test.YtelgigahjgjjiaaRefF3
namespace Go.Proofs.Ytelgigahjgjjiaa
open Go.RowKit Go.Shelf

theorem same3_yes (a b : Option Addr) (n m c d : Nat) (l : List Sp) (e : Int) (w : World) (zl : l.length ≤ 100000) (hA : Arg w a n c l) (hB : Arg w b m d l) :
    Calls Try.prog 26 #[.slice a n c, .int .i64 e, .slice b m d, .int .i64 e] w (Gives w (.bool true)) := by
  have := same3_any a b n m c d l l e e w zl hA hB
  rwa [decide_eq_true rfl, decide_eq_true rfl] at this
theorem limP_len {L S : List Sp} {x : Int} (h : limP L = (S, x)) : S.length ≤ 100000 := by
  unfold limP at h
  split at h
  · cases h; omega
  · cases h; simp
theorem makeP_len {A S : List Sp} {x : Int} (h : makeP A = (S, x)) : S.length ≤ 100000 := by
  unfold makeP at h
  split at h
  · exact limP_len h
  · cases h; simp
theorem lessP_len {A B l : List Sp} {e : Int} (h : lessP A B = (l, e)) : l.length ≤ 100000 := by have := mixP_len (fun x y => x && !y) A B; rw [show mixP (fun x y => x && !y) A B = (l, e) from h] at this; dsimp only at this; omega

set_option maxRecDepth 100000 in
set_option maxHeartbeats 2000000 in
theorem spanMakes_walk (a0 : Option Addr) (n0 c0 : Nat) (A : List Sp) (w : World) (hA : Arg w a0 n0 c0 A) :
    Calls Try.prog 4 #[.slice a0 n0 c0] w (TruePost w) := by
  have HS := Lib.hid ((Env.mk (L := []) (Below.refl w.heap.size w) (by simp)).add hA)
  by_cases h0 : n0 ≤ 200
  · have zA := few_len hA h0
    clear hA
    obtain ⟨⟨S, x⟩, hm⟩ : ∃ r, makeP A = r := ⟨_, rfl⟩
    have zS := makeP_len hm
    replace hm := Lib.hid hm
    go_enter Try.func4, Try.ntmps4
    go_wp2_with (first | (go_at_call 13; (with_reducible refine (few_yes a0 n0 c0 _ h0).mono ?_); rintro e w' ⟨rfl, rfl⟩) | (go_at_call 24; (with_reducible refine (make_any a0 n0 c0 A _ zA (HS.out.get (by repeat (first | exact List.mem_cons_self | apply List.mem_cons_of_mem)))).mono ?_); rw [hm.out]; rintro e w' ⟨am, nm, cm, rfl, hx, hb⟩; dsimp only at hx; replace HS := Lib.hid ((HS.out.step hb).add hx)) | (go_at_call 15; (with_reducible refine (refs_any a0 n0 c0 A _ zA (HS.out.get (by repeat (first | exact List.mem_cons_self | apply List.mem_cons_of_mem)))).mono ?_); rintro e w' ⟨ap, np, cp, rfl, hx, hb⟩; replace HS := Lib.hid ((HS.out.step hb).add hx)) | (go_at_call 25; (with_reducible refine (rmake_any ap np cp A _ (HS.out.get (by repeat (first | exact List.mem_cons_self | apply List.mem_cons_of_mem)))).mono ?_); rw [hm.out]; rintro e w' ⟨ax, nx, cx, rfl, hx, hb⟩; dsimp only at hx; replace HS := Lib.hid ((HS.out.step hb).add hx)) | (go_at_call 14; refine (awake_any _).mono ?_; rintro e w' ⟨rfl, hb⟩; replace HS := Lib.hid (HS.out.step hb)) | (go_at_call 26; (with_reducible refine (same3_yes am ax nm nx cm cx S x _ zS (HS.out.get (by repeat (first | exact List.mem_cons_self | apply List.mem_cons_of_mem))) (HS.out.get (by repeat (first | exact List.mem_cons_self | apply List.mem_cons_of_mem)))).mono ?_); rintro e w' ⟨rfl, hb⟩; replace HS := Lib.hid (HS.out.step hb)))
    go_ret
    exact ⟨rfl, HS.out.low⟩
  · clear hA
    go_enter Try.func4, Try.ntmps4
    go_wp2_with (first | (go_at_call 13; (with_reducible refine (few_no a0 n0 c0 A _ (HS.out.get (by repeat (first | exact List.mem_cons_self | apply List.mem_cons_of_mem))) h0).mono ?_); rintro e w' ⟨rfl, rfl⟩) | (go_at_call 14; refine (awake_any _).mono ?_; rintro e w' ⟨rfl, hb⟩; replace HS := Lib.hid (HS.out.step hb)))
    go_ret
    exact ⟨rfl, HS.out.low⟩

set_option maxRecDepth 100000 in
set_option maxHeartbeats 2000000 in
theorem spanJoins_walk (a0 : Option Addr) (n0 c0 : Nat) (A : List Sp) (a1 : Option Addr) (n1 c1 : Nat) (B : List Sp) (w : World) (hA : Arg w a0 n0 c0 A) (hB : Arg w a1 n1 c1 B) :
    Calls Try.prog 5 #[.slice a0 n0 c0, .slice a1 n1 c1] w (TruePost w) := by
  have HS := Lib.hid ((Env.mk (L := []) (Below.refl w.heap.size w) (by simp)).add hB |>.add hA)
  by_cases h0 : n0 ≤ 200
  · by_cases h1 : n1 ≤ 200
    · have zA := few_len hA h0
      have zB := few_len hB h1
      clear hA hB
      obtain ⟨⟨S, x⟩, hm⟩ : ∃ r, joinP A B = r := ⟨_, rfl⟩
      have zS := joinP_len hm
      replace hm := Lib.hid hm
      go_enter Try.func5, Try.ntmps5
      go_wp2_with (first | (go_at_call 13; (with_reducible refine (few_yes a0 n0 c0 _ h0).mono ?_); rintro e w' ⟨rfl, rfl⟩) | (go_at_call 13; (with_reducible refine (few_yes a1 n1 c1 _ h1).mono ?_); rintro e w' ⟨rfl, rfl⟩) | (go_at_call 27; (with_reducible refine (join_any A B a0 a1 n0 n1 c0 c1 _ (HS.out.get (by repeat (first | exact List.mem_cons_self | apply List.mem_cons_of_mem))) (HS.out.get (by repeat (first | exact List.mem_cons_self | apply List.mem_cons_of_mem)))).mono ?_); rw [hm.out]; rintro e w' ⟨am, nm, cm, rfl, hx, hb⟩; dsimp only at hx; replace HS := Lib.hid ((HS.out.step hb).add hx)) | (go_at_call 15; (with_reducible refine (refs_any a0 n0 c0 A _ zA (HS.out.get (by repeat (first | exact List.mem_cons_self | apply List.mem_cons_of_mem)))).mono ?_); rintro e w' ⟨ap, np, cp, rfl, hx, hb⟩; replace HS := Lib.hid ((HS.out.step hb).add hx)) | (go_at_call 15; (with_reducible refine (refs_any a1 n1 c1 B _ zB (HS.out.get (by repeat (first | exact List.mem_cons_self | apply List.mem_cons_of_mem)))).mono ?_); rintro e w' ⟨aq, nq, cq, rfl, hx, hb⟩; replace HS := Lib.hid ((HS.out.step hb).add hx)) | (go_at_call 28; (with_reducible refine (mix0_any A B ap aq np nq cp cq _ (HS.out.get (by repeat (first | exact List.mem_cons_self | apply List.mem_cons_of_mem))) (HS.out.get (by repeat (first | exact List.mem_cons_self | apply List.mem_cons_of_mem)))).mono ?_); rw [hm.out]; rintro e w' ⟨ax, nx, cx, rfl, hx, hb⟩; dsimp only at hx; replace HS := Lib.hid ((HS.out.step hb).add hx)) | (go_at_call 14; refine (awake_any _).mono ?_; rintro e w' ⟨rfl, hb⟩; replace HS := Lib.hid (HS.out.step hb)) | (go_at_call 26; (with_reducible refine (same3_yes am ax nm nx cm cx S x _ zS (HS.out.get (by repeat (first | exact List.mem_cons_self | apply List.mem_cons_of_mem))) (HS.out.get (by repeat (first | exact List.mem_cons_self | apply List.mem_cons_of_mem)))).mono ?_); rintro e w' ⟨rfl, hb⟩; replace HS := Lib.hid (HS.out.step hb)))
      go_ret
      exact ⟨rfl, HS.out.low⟩
    · clear hA hB
      go_enter Try.func5, Try.ntmps5
      go_wp2_with (first | (go_at_call 13; (with_reducible refine (few_yes a0 n0 c0 _ h0).mono ?_); rintro e w' ⟨rfl, rfl⟩) | (go_at_call 13; (with_reducible refine (few_no a1 n1 c1 B _ (HS.out.get (by repeat (first | exact List.mem_cons_self | apply List.mem_cons_of_mem))) h1).mono ?_); rintro e w' ⟨rfl, rfl⟩) | (go_at_call 14; refine (awake_any _).mono ?_; rintro e w' ⟨rfl, hb⟩; replace HS := Lib.hid (HS.out.step hb)))
      go_ret
      exact ⟨rfl, HS.out.low⟩
  · clear hA hB
    go_enter Try.func5, Try.ntmps5
    go_wp2_with (first | (go_at_call 13; (with_reducible refine (few_no a0 n0 c0 A _ (HS.out.get (by repeat (first | exact List.mem_cons_self | apply List.mem_cons_of_mem))) h0).mono ?_); rintro e w' ⟨rfl, rfl⟩) | (go_at_call 14; refine (awake_any _).mono ?_; rintro e w' ⟨rfl, hb⟩; replace HS := Lib.hid (HS.out.step hb)))
    go_ret
    exact ⟨rfl, HS.out.low⟩

set_option maxRecDepth 100000 in
set_option maxHeartbeats 2000000 in
theorem spanMeets_walk (a0 : Option Addr) (n0 c0 : Nat) (A : List Sp) (a1 : Option Addr) (n1 c1 : Nat) (B : List Sp) (w : World) (hA : Arg w a0 n0 c0 A) (hB : Arg w a1 n1 c1 B) :
    Calls Try.prog 6 #[.slice a0 n0 c0, .slice a1 n1 c1] w (TruePost w) := by
  have HS := Lib.hid ((Env.mk (L := []) (Below.refl w.heap.size w) (by simp)).add hB |>.add hA)
  by_cases h0 : n0 ≤ 200
  · by_cases h1 : n1 ≤ 200
    · have zA := few_len hA h0
      have zB := few_len hB h1
      clear hA hB
      obtain ⟨⟨S, x⟩, hm⟩ : ∃ r, meetP A B = r := ⟨_, rfl⟩
      have zS := meetP_len hm
      replace hm := Lib.hid hm
      have hv := touchB_some A B
      obtain ⟨v, kv⟩ : ∃ v, touchB A B = v := ⟨_, rfl⟩
      rw [show touchB A B = v from kv] at hv
      replace kv := Lib.hid kv
      cases kA : chkB A
      · rw [kA, Bool.false_and, Bool.false_and] at hv
        subst hv
        replace kA := Lib.hid kA
        go_enter Try.func6, Try.ntmps6
        go_wp2_with (first | (go_at_call 13; (with_reducible refine (few_yes a0 n0 c0 _ h0).mono ?_); rintro e w' ⟨rfl, rfl⟩) | (go_at_call 13; (with_reducible refine (few_yes a1 n1 c1 _ h1).mono ?_); rintro e w' ⟨rfl, rfl⟩) | (go_at_call 29; (with_reducible refine (meet_any A B a0 a1 n0 n1 c0 c1 _ (HS.out.get (by repeat (first | exact List.mem_cons_self | apply List.mem_cons_of_mem))) (HS.out.get (by repeat (first | exact List.mem_cons_self | apply List.mem_cons_of_mem)))).mono ?_); rw [hm.out]; rintro e w' ⟨am, nm, cm, rfl, hx, hb⟩; dsimp only at hx; replace HS := Lib.hid ((HS.out.step hb).add hx)) | (go_at_call 28; (with_reducible refine (mix1_any A B ap aq np nq cp cq _ (HS.out.get (by repeat (first | exact List.mem_cons_self | apply List.mem_cons_of_mem))) (HS.out.get (by repeat (first | exact List.mem_cons_self | apply List.mem_cons_of_mem)))).mono ?_); rw [hm.out]; rintro e w' ⟨ax, nx, cx, rfl, hx, hb⟩; dsimp only at hx; replace HS := Lib.hid ((HS.out.step hb).add hx)) | (go_at_call 19; (with_reducible refine (rcheck_any ap np cp A _ (HS.out.get (by repeat (first | exact List.mem_cons_self | apply List.mem_cons_of_mem)))).mono ?_); rw [kA.out]; rintro e w' ⟨rfl, hb⟩; replace HS := Lib.hid (HS.out.step hb)) | (go_at_call 15; (with_reducible refine (refs_any a0 n0 c0 A _ zA (HS.out.get (by repeat (first | exact List.mem_cons_self | apply List.mem_cons_of_mem)))).mono ?_); rintro e w' ⟨ap, np, cp, rfl, hx, hb⟩; replace HS := Lib.hid ((HS.out.step hb).add hx)) | (go_at_call 15; (with_reducible refine (refs_any a1 n1 c1 B _ zB (HS.out.get (by repeat (first | exact List.mem_cons_self | apply List.mem_cons_of_mem)))).mono ?_); rintro e w' ⟨aq, nq, cq, rfl, hx, hb⟩; replace HS := Lib.hid ((HS.out.step hb).add hx)) | (go_at_call 14; refine (awake_any _).mono ?_; rintro e w' ⟨rfl, hb⟩; replace HS := Lib.hid (HS.out.step hb)) | (go_at_call 26; (with_reducible refine (same3_yes am ax nm nx cm cx S x _ zS (HS.out.get (by repeat (first | exact List.mem_cons_self | apply List.mem_cons_of_mem))) (HS.out.get (by repeat (first | exact List.mem_cons_self | apply List.mem_cons_of_mem)))).mono ?_); rintro e w' ⟨rfl, hb⟩; replace HS := Lib.hid (HS.out.step hb)) | (go_at_call 30; (with_reducible refine (touch_any A B a0 a1 n0 n1 c0 c1 _ (HS.out.get (by repeat (first | exact List.mem_cons_self | apply List.mem_cons_of_mem))) (HS.out.get (by repeat (first | exact List.mem_cons_self | apply List.mem_cons_of_mem)))).mono ?_); rw [kv.out]; rintro e w' ⟨rfl, hb⟩; replace HS := Lib.hid (HS.out.step hb)))
        go_ret
        exact ⟨rfl, HS.out.low⟩
      · cases kB : chkB B
        · rw [kA, kB, Bool.and_false, Bool.false_and] at hv
          subst hv
          replace kA := Lib.hid kA
          replace kB := Lib.hid kB
          go_enter Try.func6, Try.ntmps6
          go_wp2_with (first | (go_at_call 13; (with_reducible refine (few_yes a0 n0 c0 _ h0).mono ?_); rintro e w' ⟨rfl, rfl⟩) | (go_at_call 13; (with_reducible refine (few_yes a1 n1 c1 _ h1).mono ?_); rintro e w' ⟨rfl, rfl⟩) | (go_at_call 29; (with_reducible refine (meet_any A B a0 a1 n0 n1 c0 c1 _ (HS.out.get (by repeat (first | exact List.mem_cons_self | apply List.mem_cons_of_mem))) (HS.out.get (by repeat (first | exact List.mem_cons_self | apply List.mem_cons_of_mem)))).mono ?_); rw [hm.out]; rintro e w' ⟨am, nm, cm, rfl, hx, hb⟩; dsimp only at hx; replace HS := Lib.hid ((HS.out.step hb).add hx)) | (go_at_call 28; (with_reducible refine (mix1_any A B ap aq np nq cp cq _ (HS.out.get (by repeat (first | exact List.mem_cons_self | apply List.mem_cons_of_mem))) (HS.out.get (by repeat (first | exact List.mem_cons_self | apply List.mem_cons_of_mem)))).mono ?_); rw [hm.out]; rintro e w' ⟨ax, nx, cx, rfl, hx, hb⟩; dsimp only at hx; replace HS := Lib.hid ((HS.out.step hb).add hx)) | (go_at_call 19; (with_reducible refine (rcheck_any ap np cp A _ (HS.out.get (by repeat (first | exact List.mem_cons_self | apply List.mem_cons_of_mem)))).mono ?_); rw [kA.out]; rintro e w' ⟨rfl, hb⟩; replace HS := Lib.hid (HS.out.step hb)) | (go_at_call 19; (with_reducible refine (rcheck_any aq nq cq B _ (HS.out.get (by repeat (first | exact List.mem_cons_self | apply List.mem_cons_of_mem)))).mono ?_); rw [kB.out]; rintro e w' ⟨rfl, hb⟩; replace HS := Lib.hid (HS.out.step hb)) | (go_at_call 15; (with_reducible refine (refs_any a0 n0 c0 A _ zA (HS.out.get (by repeat (first | exact List.mem_cons_self | apply List.mem_cons_of_mem)))).mono ?_); rintro e w' ⟨ap, np, cp, rfl, hx, hb⟩; replace HS := Lib.hid ((HS.out.step hb).add hx)) | (go_at_call 15; (with_reducible refine (refs_any a1 n1 c1 B _ zB (HS.out.get (by repeat (first | exact List.mem_cons_self | apply List.mem_cons_of_mem)))).mono ?_); rintro e w' ⟨aq, nq, cq, rfl, hx, hb⟩; replace HS := Lib.hid ((HS.out.step hb).add hx)) | (go_at_call 14; refine (awake_any _).mono ?_; rintro e w' ⟨rfl, hb⟩; replace HS := Lib.hid (HS.out.step hb)) | (go_at_call 26; (with_reducible refine (same3_yes am ax nm nx cm cx S x _ zS (HS.out.get (by repeat (first | exact List.mem_cons_self | apply List.mem_cons_of_mem))) (HS.out.get (by repeat (first | exact List.mem_cons_self | apply List.mem_cons_of_mem)))).mono ?_); rintro e w' ⟨rfl, hb⟩; replace HS := Lib.hid (HS.out.step hb)) | (go_at_call 30; (with_reducible refine (touch_any A B a0 a1 n0 n1 c0 c1 _ (HS.out.get (by repeat (first | exact List.mem_cons_self | apply List.mem_cons_of_mem))) (HS.out.get (by repeat (first | exact List.mem_cons_self | apply List.mem_cons_of_mem)))).mono ?_); rw [kv.out]; rintro e w' ⟨rfl, hb⟩; replace HS := Lib.hid (HS.out.step hb)))
          go_ret
          exact ⟨rfl, HS.out.low⟩
        · rw [kA, kB, Bool.true_and, Bool.true_and] at hv
          replace kA := Lib.hid kA
          replace kB := Lib.hid kB
          cases ks : anyB (fun x y => x && y) A B
          all_goals
            rw [ks] at hv
            first | rw [Bool.not_true] at hv | rw [Bool.not_false] at hv | skip
            subst hv
            replace ks := Lib.hid ks
            go_enter Try.func6, Try.ntmps6
            go_wp2_with (first | (go_at_call 13; (with_reducible refine (few_yes a0 n0 c0 _ h0).mono ?_); rintro e w' ⟨rfl, rfl⟩) | (go_at_call 13; (with_reducible refine (few_yes a1 n1 c1 _ h1).mono ?_); rintro e w' ⟨rfl, rfl⟩) | (go_at_call 29; (with_reducible refine (meet_any A B a0 a1 n0 n1 c0 c1 _ (HS.out.get (by repeat (first | exact List.mem_cons_self | apply List.mem_cons_of_mem))) (HS.out.get (by repeat (first | exact List.mem_cons_self | apply List.mem_cons_of_mem)))).mono ?_); rw [hm.out]; rintro e w' ⟨am, nm, cm, rfl, hx, hb⟩; dsimp only at hx; replace HS := Lib.hid ((HS.out.step hb).add hx)) | (go_at_call 28; (with_reducible refine (mix1_any A B ap aq np nq cp cq _ (HS.out.get (by repeat (first | exact List.mem_cons_self | apply List.mem_cons_of_mem))) (HS.out.get (by repeat (first | exact List.mem_cons_self | apply List.mem_cons_of_mem)))).mono ?_); rw [hm.out]; rintro e w' ⟨ax, nx, cx, rfl, hx, hb⟩; dsimp only at hx; replace HS := Lib.hid ((HS.out.step hb).add hx)) | (go_at_call 19; (with_reducible refine (rcheck_any ap np cp A _ (HS.out.get (by repeat (first | exact List.mem_cons_self | apply List.mem_cons_of_mem)))).mono ?_); rw [kA.out]; rintro e w' ⟨rfl, hb⟩; replace HS := Lib.hid (HS.out.step hb)) | (go_at_call 19; (with_reducible refine (rcheck_any aq nq cq B _ (HS.out.get (by repeat (first | exact List.mem_cons_self | apply List.mem_cons_of_mem)))).mono ?_); rw [kB.out]; rintro e w' ⟨rfl, hb⟩; replace HS := Lib.hid (HS.out.step hb)) | (go_at_call 15; (with_reducible refine (refs_any a0 n0 c0 A _ zA (HS.out.get (by repeat (first | exact List.mem_cons_self | apply List.mem_cons_of_mem)))).mono ?_); rintro e w' ⟨ap, np, cp, rfl, hx, hb⟩; replace HS := Lib.hid ((HS.out.step hb).add hx)) | (go_at_call 15; (with_reducible refine (refs_any a1 n1 c1 B _ zB (HS.out.get (by repeat (first | exact List.mem_cons_self | apply List.mem_cons_of_mem)))).mono ?_); rintro e w' ⟨aq, nq, cq, rfl, hx, hb⟩; replace HS := Lib.hid ((HS.out.step hb).add hx)) | (go_at_call 14; refine (awake_any _).mono ?_; rintro e w' ⟨rfl, hb⟩; replace HS := Lib.hid (HS.out.step hb)) | (go_at_call 26; (with_reducible refine (same3_yes am ax nm nx cm cx S x _ zS (HS.out.get (by repeat (first | exact List.mem_cons_self | apply List.mem_cons_of_mem))) (HS.out.get (by repeat (first | exact List.mem_cons_self | apply List.mem_cons_of_mem)))).mono ?_); rintro e w' ⟨rfl, hb⟩; replace HS := Lib.hid (HS.out.step hb)) | (go_at_call 30; (with_reducible refine (touch_any A B a0 a1 n0 n1 c0 c1 _ (HS.out.get (by repeat (first | exact List.mem_cons_self | apply List.mem_cons_of_mem))) (HS.out.get (by repeat (first | exact List.mem_cons_self | apply List.mem_cons_of_mem)))).mono ?_); rw [kv.out]; rintro e w' ⟨rfl, hb⟩; replace HS := Lib.hid (HS.out.step hb)) | (go_at_call 31; (with_reducible refine (some1_any A B ap aq np nq cp cq _ (HS.out.get (by repeat (first | exact List.mem_cons_self | apply List.mem_cons_of_mem))) (HS.out.get (by repeat (first | exact List.mem_cons_self | apply List.mem_cons_of_mem)))).mono ?_); rw [ks.out]; rintro e w' ⟨rfl, hb⟩; replace HS := Lib.hid (HS.out.step hb)))
            go_ret
            exact ⟨rfl, HS.out.low⟩
    · clear hA hB
      go_enter Try.func6, Try.ntmps6
      go_wp2_with (first | (go_at_call 13; (with_reducible refine (few_yes a0 n0 c0 _ h0).mono ?_); rintro e w' ⟨rfl, rfl⟩) | (go_at_call 13; (with_reducible refine (few_no a1 n1 c1 B _ (HS.out.get (by repeat (first | exact List.mem_cons_self | apply List.mem_cons_of_mem))) h1).mono ?_); rintro e w' ⟨rfl, rfl⟩) | (go_at_call 14; refine (awake_any _).mono ?_; rintro e w' ⟨rfl, hb⟩; replace HS := Lib.hid (HS.out.step hb)))
      go_ret
      exact ⟨rfl, HS.out.low⟩
  · clear hA hB
    go_enter Try.func6, Try.ntmps6
    go_wp2_with (first | (go_at_call 13; (with_reducible refine (few_no a0 n0 c0 A _ (HS.out.get (by repeat (first | exact List.mem_cons_self | apply List.mem_cons_of_mem))) h0).mono ?_); rintro e w' ⟨rfl, rfl⟩) | (go_at_call 14; refine (awake_any _).mono ?_; rintro e w' ⟨rfl, hb⟩; replace HS := Lib.hid (HS.out.step hb)))
    go_ret
    exact ⟨rfl, HS.out.low⟩

set_option maxRecDepth 100000 in
set_option maxHeartbeats 2000000 in
theorem spanLesses_walk (a0 : Option Addr) (n0 c0 : Nat) (A : List Sp) (a1 : Option Addr) (n1 c1 : Nat) (B : List Sp) (w : World) (hA : Arg w a0 n0 c0 A) (hB : Arg w a1 n1 c1 B) :
    Calls Try.prog 7 #[.slice a0 n0 c0, .slice a1 n1 c1] w (TruePost w) := by
  have HS := Lib.hid ((Env.mk (L := []) (Below.refl w.heap.size w) (by simp)).add hB |>.add hA)
  by_cases h0 : n0 ≤ 200
  · by_cases h1 : n1 ≤ 200
    · have zA := few_len hA h0
      have zB := few_len hB h1
      clear hA hB
      obtain ⟨⟨S, x⟩, hm⟩ : ∃ r, lessP A B = r := ⟨_, rfl⟩
      have zS := lessP_len hm
      replace hm := Lib.hid hm
      have hv := withinB_some A B
      obtain ⟨v, kv⟩ : ∃ v, withinB A B = v := ⟨_, rfl⟩
      rw [show withinB' A B = v from kv] at hv
      replace kv := Lib.hid kv
      cases kA : chkB A
      · rw [kA, Bool.false_and, Bool.false_and] at hv
        subst hv
        replace kA := Lib.hid kA
        go_enter Try.func7, Try.ntmps7
        go_wp2_with (first | (go_at_call 13; (with_reducible refine (few_yes a0 n0 c0 _ h0).mono ?_); rintro e w' ⟨rfl, rfl⟩) | (go_at_call 13; (with_reducible refine (few_yes a1 n1 c1 _ h1).mono ?_); rintro e w' ⟨rfl, rfl⟩) | (go_at_call 32; (with_reducible refine (less_any A B a0 a1 n0 n1 c0 c1 _ (HS.out.get (by repeat (first | exact List.mem_cons_self | apply List.mem_cons_of_mem))) (HS.out.get (by repeat (first | exact List.mem_cons_self | apply List.mem_cons_of_mem)))).mono ?_); rw [hm.out]; rintro e w' ⟨am, nm, cm, rfl, hx, hb⟩; dsimp only at hx; replace HS := Lib.hid ((HS.out.step hb).add hx)) | (go_at_call 28; (with_reducible refine (mix2_any A B ap aq np nq cp cq _ (HS.out.get (by repeat (first | exact List.mem_cons_self | apply List.mem_cons_of_mem))) (HS.out.get (by repeat (first | exact List.mem_cons_self | apply List.mem_cons_of_mem)))).mono ?_); rw [hm.out]; rintro e w' ⟨ax, nx, cx, rfl, hx, hb⟩; dsimp only at hx; replace HS := Lib.hid ((HS.out.step hb).add hx)) | (go_at_call 19; (with_reducible refine (rcheck_any ap np cp A _ (HS.out.get (by repeat (first | exact List.mem_cons_self | apply List.mem_cons_of_mem)))).mono ?_); rw [kA.out]; rintro e w' ⟨rfl, hb⟩; replace HS := Lib.hid (HS.out.step hb)) | (go_at_call 15; (with_reducible refine (refs_any a0 n0 c0 A _ zA (HS.out.get (by repeat (first | exact List.mem_cons_self | apply List.mem_cons_of_mem)))).mono ?_); rintro e w' ⟨ap, np, cp, rfl, hx, hb⟩; replace HS := Lib.hid ((HS.out.step hb).add hx)) | (go_at_call 15; (with_reducible refine (refs_any a1 n1 c1 B _ zB (HS.out.get (by repeat (first | exact List.mem_cons_self | apply List.mem_cons_of_mem)))).mono ?_); rintro e w' ⟨aq, nq, cq, rfl, hx, hb⟩; replace HS := Lib.hid ((HS.out.step hb).add hx)) | (go_at_call 14; refine (awake_any _).mono ?_; rintro e w' ⟨rfl, hb⟩; replace HS := Lib.hid (HS.out.step hb)) | (go_at_call 26; (with_reducible refine (same3_yes am ax nm nx cm cx S x _ zS (HS.out.get (by repeat (first | exact List.mem_cons_self | apply List.mem_cons_of_mem))) (HS.out.get (by repeat (first | exact List.mem_cons_self | apply List.mem_cons_of_mem)))).mono ?_); rintro e w' ⟨rfl, hb⟩; replace HS := Lib.hid (HS.out.step hb)) | (go_at_call 33; (with_reducible refine (within_any A B a0 a1 n0 n1 c0 c1 _ (HS.out.get (by repeat (first | exact List.mem_cons_self | apply List.mem_cons_of_mem))) (HS.out.get (by repeat (first | exact List.mem_cons_self | apply List.mem_cons_of_mem)))).mono ?_); rw [kv.out]; rintro e w' ⟨rfl, hb⟩; replace HS := Lib.hid (HS.out.step hb)))
        go_ret
        exact ⟨rfl, HS.out.low⟩
      · cases kB : chkB B
        · rw [kA, kB, Bool.and_false, Bool.false_and] at hv
          subst hv
          replace kA := Lib.hid kA
          replace kB := Lib.hid kB
          go_enter Try.func7, Try.ntmps7
          go_wp2_with (first | (go_at_call 13; (with_reducible refine (few_yes a0 n0 c0 _ h0).mono ?_); rintro e w' ⟨rfl, rfl⟩) | (go_at_call 13; (with_reducible refine (few_yes a1 n1 c1 _ h1).mono ?_); rintro e w' ⟨rfl, rfl⟩) | (go_at_call 32; (with_reducible refine (less_any A B a0 a1 n0 n1 c0 c1 _ (HS.out.get (by repeat (first | exact List.mem_cons_self | apply List.mem_cons_of_mem))) (HS.out.get (by repeat (first | exact List.mem_cons_self | apply List.mem_cons_of_mem)))).mono ?_); rw [hm.out]; rintro e w' ⟨am, nm, cm, rfl, hx, hb⟩; dsimp only at hx; replace HS := Lib.hid ((HS.out.step hb).add hx)) | (go_at_call 28; (with_reducible refine (mix2_any A B ap aq np nq cp cq _ (HS.out.get (by repeat (first | exact List.mem_cons_self | apply List.mem_cons_of_mem))) (HS.out.get (by repeat (first | exact List.mem_cons_self | apply List.mem_cons_of_mem)))).mono ?_); rw [hm.out]; rintro e w' ⟨ax, nx, cx, rfl, hx, hb⟩; dsimp only at hx; replace HS := Lib.hid ((HS.out.step hb).add hx)) | (go_at_call 19; (with_reducible refine (rcheck_any ap np cp A _ (HS.out.get (by repeat (first | exact List.mem_cons_self | apply List.mem_cons_of_mem)))).mono ?_); rw [kA.out]; rintro e w' ⟨rfl, hb⟩; replace HS := Lib.hid (HS.out.step hb)) | (go_at_call 19; (with_reducible refine (rcheck_any aq nq cq B _ (HS.out.get (by repeat (first | exact List.mem_cons_self | apply List.mem_cons_of_mem)))).mono ?_); rw [kB.out]; rintro e w' ⟨rfl, hb⟩; replace HS := Lib.hid (HS.out.step hb)) | (go_at_call 15; (with_reducible refine (refs_any a0 n0 c0 A _ zA (HS.out.get (by repeat (first | exact List.mem_cons_self | apply List.mem_cons_of_mem)))).mono ?_); rintro e w' ⟨ap, np, cp, rfl, hx, hb⟩; replace HS := Lib.hid ((HS.out.step hb).add hx)) | (go_at_call 15; (with_reducible refine (refs_any a1 n1 c1 B _ zB (HS.out.get (by repeat (first | exact List.mem_cons_self | apply List.mem_cons_of_mem)))).mono ?_); rintro e w' ⟨aq, nq, cq, rfl, hx, hb⟩; replace HS := Lib.hid ((HS.out.step hb).add hx)) | (go_at_call 14; refine (awake_any _).mono ?_; rintro e w' ⟨rfl, hb⟩; replace HS := Lib.hid (HS.out.step hb)) | (go_at_call 26; (with_reducible refine (same3_yes am ax nm nx cm cx S x _ zS (HS.out.get (by repeat (first | exact List.mem_cons_self | apply List.mem_cons_of_mem))) (HS.out.get (by repeat (first | exact List.mem_cons_self | apply List.mem_cons_of_mem)))).mono ?_); rintro e w' ⟨rfl, hb⟩; replace HS := Lib.hid (HS.out.step hb)) | (go_at_call 33; (with_reducible refine (within_any A B a0 a1 n0 n1 c0 c1 _ (HS.out.get (by repeat (first | exact List.mem_cons_self | apply List.mem_cons_of_mem))) (HS.out.get (by repeat (first | exact List.mem_cons_self | apply List.mem_cons_of_mem)))).mono ?_); rw [kv.out]; rintro e w' ⟨rfl, hb⟩; replace HS := Lib.hid (HS.out.step hb)))
          go_ret
          exact ⟨rfl, HS.out.low⟩
        · rw [kA, kB, Bool.true_and, Bool.true_and] at hv
          replace kA := Lib.hid kA
          replace kB := Lib.hid kB
          cases ks : anyB (fun x y => x && !y) A B
          all_goals
            rw [ks] at hv
            first | rw [Bool.not_true] at hv | rw [Bool.not_false] at hv | skip
            subst hv
            replace ks := Lib.hid ks
            go_enter Try.func7, Try.ntmps7
            go_wp2_with (first | (go_at_call 13; (with_reducible refine (few_yes a0 n0 c0 _ h0).mono ?_); rintro e w' ⟨rfl, rfl⟩) | (go_at_call 13; (with_reducible refine (few_yes a1 n1 c1 _ h1).mono ?_); rintro e w' ⟨rfl, rfl⟩) | (go_at_call 32; (with_reducible refine (less_any A B a0 a1 n0 n1 c0 c1 _ (HS.out.get (by repeat (first | exact List.mem_cons_self | apply List.mem_cons_of_mem))) (HS.out.get (by repeat (first | exact List.mem_cons_self | apply List.mem_cons_of_mem)))).mono ?_); rw [hm.out]; rintro e w' ⟨am, nm, cm, rfl, hx, hb⟩; dsimp only at hx; replace HS := Lib.hid ((HS.out.step hb).add hx)) | (go_at_call 28; (with_reducible refine (mix2_any A B ap aq np nq cp cq _ (HS.out.get (by repeat (first | exact List.mem_cons_self | apply List.mem_cons_of_mem))) (HS.out.get (by repeat (first | exact List.mem_cons_self | apply List.mem_cons_of_mem)))).mono ?_); rw [hm.out]; rintro e w' ⟨ax, nx, cx, rfl, hx, hb⟩; dsimp only at hx; replace HS := Lib.hid ((HS.out.step hb).add hx)) | (go_at_call 19; (with_reducible refine (rcheck_any ap np cp A _ (HS.out.get (by repeat (first | exact List.mem_cons_self | apply List.mem_cons_of_mem)))).mono ?_); rw [kA.out]; rintro e w' ⟨rfl, hb⟩; replace HS := Lib.hid (HS.out.step hb)) | (go_at_call 19; (with_reducible refine (rcheck_any aq nq cq B _ (HS.out.get (by repeat (first | exact List.mem_cons_self | apply List.mem_cons_of_mem)))).mono ?_); rw [kB.out]; rintro e w' ⟨rfl, hb⟩; replace HS := Lib.hid (HS.out.step hb)) | (go_at_call 15; (with_reducible refine (refs_any a0 n0 c0 A _ zA (HS.out.get (by repeat (first | exact List.mem_cons_self | apply List.mem_cons_of_mem)))).mono ?_); rintro e w' ⟨ap, np, cp, rfl, hx, hb⟩; replace HS := Lib.hid ((HS.out.step hb).add hx)) | (go_at_call 15; (with_reducible refine (refs_any a1 n1 c1 B _ zB (HS.out.get (by repeat (first | exact List.mem_cons_self | apply List.mem_cons_of_mem)))).mono ?_); rintro e w' ⟨aq, nq, cq, rfl, hx, hb⟩; replace HS := Lib.hid ((HS.out.step hb).add hx)) | (go_at_call 14; refine (awake_any _).mono ?_; rintro e w' ⟨rfl, hb⟩; replace HS := Lib.hid (HS.out.step hb)) | (go_at_call 26; (with_reducible refine (same3_yes am ax nm nx cm cx S x _ zS (HS.out.get (by repeat (first | exact List.mem_cons_self | apply List.mem_cons_of_mem))) (HS.out.get (by repeat (first | exact List.mem_cons_self | apply List.mem_cons_of_mem)))).mono ?_); rintro e w' ⟨rfl, hb⟩; replace HS := Lib.hid (HS.out.step hb)) | (go_at_call 33; (with_reducible refine (within_any A B a0 a1 n0 n1 c0 c1 _ (HS.out.get (by repeat (first | exact List.mem_cons_self | apply List.mem_cons_of_mem))) (HS.out.get (by repeat (first | exact List.mem_cons_self | apply List.mem_cons_of_mem)))).mono ?_); rw [kv.out]; rintro e w' ⟨rfl, hb⟩; replace HS := Lib.hid (HS.out.step hb)) | (go_at_call 31; (with_reducible refine (some2_any A B ap aq np nq cp cq _ (HS.out.get (by repeat (first | exact List.mem_cons_self | apply List.mem_cons_of_mem))) (HS.out.get (by repeat (first | exact List.mem_cons_self | apply List.mem_cons_of_mem)))).mono ?_); rw [ks.out]; rintro e w' ⟨rfl, hb⟩; replace HS := Lib.hid (HS.out.step hb)))
            go_ret
            exact ⟨rfl, HS.out.low⟩
    · clear hA hB
      go_enter Try.func7, Try.ntmps7
      go_wp2_with (first | (go_at_call 13; (with_reducible refine (few_yes a0 n0 c0 _ h0).mono ?_); rintro e w' ⟨rfl, rfl⟩) | (go_at_call 13; (with_reducible refine (few_no a1 n1 c1 B _ (HS.out.get (by repeat (first | exact List.mem_cons_self | apply List.mem_cons_of_mem))) h1).mono ?_); rintro e w' ⟨rfl, rfl⟩) | (go_at_call 14; refine (awake_any _).mono ?_; rintro e w' ⟨rfl, hb⟩; replace HS := Lib.hid (HS.out.step hb)))
      go_ret
      exact ⟨rfl, HS.out.low⟩
  · clear hA hB
    go_enter Try.func7, Try.ntmps7
    go_wp2_with (first | (go_at_call 13; (with_reducible refine (few_no a0 n0 c0 A _ (HS.out.get (by repeat (first | exact List.mem_cons_self | apply List.mem_cons_of_mem))) h0).mono ?_); rintro e w' ⟨rfl, rfl⟩) | (go_at_call 14; refine (awake_any _).mono ?_; rintro e w' ⟨rfl, hb⟩; replace HS := Lib.hid (HS.out.step hb)))
    go_ret
    exact ⟨rfl, HS.out.low⟩
end Go.Proofs.Ytelgigahjgjjiaa
