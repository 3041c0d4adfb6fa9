/-
  DELTA: the closure that 'both' answers, at api.Pair and api.Pair (written by wip/tools/mkDlD.py).
-/
import Derived.Test.YtnjlbgnojlmmlaaDlC
namespace Go.Proofs.Ytnjlbgnojlmmlaa
open Go.RowKit Go.Deep
attribute [local go_sem] Oper.semAt_some

abbrev encPP (x : Mt Pr Pr) : Array Value := #[Value.agg ([Value.int .i64 x.key] ++ encP x.a ++ encP x.b ++ [Value.bool x.inA, Value.bool x.inB]).toArray]
abbrev meetsPP (a : List Pr) (b : List Pr) : List (Mt Pr Pr) := meets (·.1) (·.1) ((0, 0) : Pr) ((0, 0) : Pr) a b
structure CapPP (n1 : Nat) (ex : Nat → Prop) (W : World) (Ba Bb Ka Kb : Nat) (aa ab : Option Addr) (ca cb : Nat) (a : List Pr) (b : List Pr) : Prop where
  pa : Ba < n1 ∧ ¬ ex Ba
  pb : Bb < n1 ∧ ¬ ex Bb
  qa : Ka < n1 ∧ ¬ ex Ka
  qb : Kb < n1 ∧ ¬ ex Kb
  xa : W.cell? ⟨Ba, 0, none⟩ = some (.slice aa a.length ca)
  xb : W.cell? ⟨Bb, 0, none⟩ = some (.slice ab b.length cb)
  ya : W.cell? ⟨Ka, 0, none⟩ = some (.func (.func 32) #[] #[])
  yb : W.cell? ⟨Kb, 0, none⟩ = some (.func (.func 32) #[] #[])
  ra : RK encP 2 (fun b => b < n1 ∧ ¬ ex b) W aa a
  rb : RK encP 2 (fun b => b < n1 ∧ ¬ ex b) W ab b
  la : (a.length : Int) ≤ 9223372036854775807 ∧ a.length ≤ ca
  lb : (b.length : Int) ≤ 9223372036854775807 ∧ b.length ≤ cb
  ba : ∀ x ∈ a, x.1 < 4096
  bb : ∀ x ∈ b, x.1 < 4096
theorem CapPP.kept {n1 : Nat} {ex : Nat → Prop} {W W' : World} {Ba Bb Ka Kb : Nat} {aa ab : Option Addr} {ca cb : Nat} {a : List Pr} {b : List Pr} (h : CapPP n1 ex W Ba Bb Ka Kb aa ab ca cb a b) (k : Kept n1 ex W W') : CapPP n1 ex W' Ba Bb Ka Kb aa ab ca cb a b :=
  { h with xa := (k.cell h.pa.1 h.pa.2).trans h.xa, xb := (k.cell h.pb.1 h.pb.2).trans h.xb, ya := (k.cell h.qa.1 h.qa.2).trans h.ya, yb := (k.cell h.qb.1 h.qb.2).trans h.yb, ra := h.ra.kept k, rb := h.rb.kept k }
set_option maxRecDepth 100000 in
set_option maxHeartbeats 4000000 in
theorem bothPP_in (m l n1 Ba Bb Ka Kb : Nat) (ex : Nat → Prop) (aa ab : Option Addr) (ca cb : Nat) (a : List Pr) (b : List Pr) (J Jx : List (Mt Pr Pr) → World → Prop) (W : World) (hJ : AbidesFrom W.heap.size J)
    (hY : ∀ pre x W1, J pre W1 → pre.length < (meetsPP a b).length → YieldAt Fence.wide (m - 1) Try.prog l (encPP x) W1 fun e W' =>
      (e = .returned (.bool true) ∧ J (pre ++ [x]) W' ∧ Kept n1 ex W1 W') ∨ (e = .returned (.bool false) ∧ Jx (pre ++ [x]) W'))
    (hC : CapPP n1 ex W Ba Bb Ka Kb aa ab ca cb a b) (hn : n1 ≤ W.heap.size) (h0 : J [] W) :
    CallsIn Fence.wide m Try.prog 47 #[.func (.yield l) #[] #[], .pointer (some ⟨Ba, 0, none⟩), .pointer (some ⟨Bb, 0, none⟩), .pointer (some ⟨Ka, 0, none⟩), .pointer (some ⟨Kb, 0, none⟩)] W fun e W' => (∃ v, e = .returned v) ∧
      ((∃ ys, ys = meetsPP a b ∧ J ys W') ∨ (∃ pre, pre <+: meetsPP a b ∧ Jx pre W')) := by
  obtain ⟨la, la2⟩ := hC.la
  obtain ⟨lb, lb2⟩ := hC.lb
  refine callsIn_of_wp Try.func47 rfl trivial ?_ rfl
  simp only [Try.ntmps47, List.size_toArray, List.length_cons, List.length_nil, Nat.reduceAdd, Nat.reduceSub, Array.replicate_succ, Array.replicate_zero, List.push_toArray, List.append_toArray, List.nil_append, List.cons_append]
  gi_wp2
  gi_loopw [6, 7] (fun i j wr => ∃ (p q : Nat) (pre : List (Mt Pr Pr)), i = .int .i64 (p : Int) ∧ j = .int .i64 (q : Int) ∧ p ≤ a.length ∧ q ≤ b.length ∧ meetsPP a b = pre ++ meetsPP (a.drop p) (b.drop q) ∧ Hid (J pre wr) ∧ Kept n1 ex W wr)
    (fun i j _ => (a.length - (intOf i).toNat) + (b.length - (intOf j).toNat))
  case atStart => exact ⟨0, 0, [], rfl, rfl, Nat.zero_le _, Nat.zero_le _, by simp, Lib.hid h0, Kept.refl _ _ _⟩
  case round =>
    obtain ⟨p, q, pre, rfl, rfl, hp, hq, hm0, HJ, hk⟩ := hrel
    have hm := Lib.hid hm0
    clear hm0
    obtain ⟨wo, rfl⟩ : ∃ wo, wo = wr := ⟨_, rfl⟩
    have hCo := hC.kept hk
    have hno : n1 ≤ wo.heap.size := Nat.le_trans hn hk.size
    obtain ⟨zca, zcb⟩ := And.intro hCo.xa hCo.xb
    by_cases h1 : p < a.length
    · have zp : (p : Int) < (a.length : Int) := by omega
      by_cases h2 : q < b.length
      · have zq : (q : Int) < (b.length : Int) := by omega
        rcases Int.lt_trichotomy a[p]!.1 b[q]!.1 with ho | ho | ho
        · skip
          have B1 : Below wo.heap.size wo (wo.alloc (.cells #[.int .i64 4096, .int .i64 0, .int .i64 0, .int .i64 0, .int .i64 0, .bool false, .bool false] 77)) := (Below.refl _ _).alloc (Nat.le_refl _) _
          have X1 : XB 77 (wo.alloc (.cells #[.int .i64 4096, .int .i64 0, .int .i64 0, .int .i64 0, .int .i64 0, .bool false, .bool false] 77)) wo.heap.size [.int .i64 4096, .int .i64 0, .int .i64 0, .int .i64 0, .int .i64 0, .bool false, .bool false] := heap_alloc_new _ _
          have s1 := B1.size
          obtain ⟨zca1, zcb1⟩ := And.intro (hCo.kept (Kept.below B1 hno)).xa (hCo.kept (Kept.below B1 hno)).xb
          have HB := Lib.hid B1
          have KC := Lib.hid (fun W' (hb : Below wo.heap.size wo W') => hCo.kept (Kept.below hb hno))
          have hda := drop_moreG h1
          have hdb := drop_moreG h2
          have hmin : min (a[p]!.1) (b[q]!.1) = a[p]!.1 := by omega
          have hno1 : (b[q]!.1 == a[p]!.1) = false := beq_no (by omega)
          have hno2 : ¬ b[q]!.1 = a[p]!.1 := by omega
          have hm2 : meetsPP a b = (pre ++ [⟨a[p]!.1, a[p]!, (0, 0), true, false⟩]) ++ meetsPP (a.drop (p + 1)) (b.drop (q)) := by rw [hm.out, List.append_assoc]; congr 1; rw [hda, hdb]; exact meets_lt _ _ _ _ _ _ ho
          replace hm2 := Lib.hid hm2
          clear ho
          obtain ⟨ra_, oa_, rfl, hra_, za0, za1⟩ := (KC.out _ HB.out).ra.prs h1
          have KSa := Lib.hid (fun W' (hb : Below wo.heap.size wo W') => (And.intro (KC.out W' hb).ya (And.intro (KC.out W' hb).xa (And.intro ((hb.cell (p := ⟨ra_, oa_ + p * 2, none⟩) (Nat.lt_of_lt_of_le hra_.1 hno)).trans ((HB.out.cell (p := ⟨ra_, oa_ + p * 2, none⟩) (Nat.lt_of_lt_of_le hra_.1 hno)).symm.trans za0)) ((hb.cell (p := ⟨ra_, oa_ + p * 2 + 1, none⟩) (Nat.lt_of_lt_of_le hra_.1 hno)).trans ((HB.out.cell (p := ⟨ra_, oa_ + p * 2 + 1, none⟩) (Nat.lt_of_lt_of_le hra_.1 hno)).symm.trans za1))))))
          obtain ⟨rb_, ob_, rfl, hrb_, zb0, zb1⟩ := (KC.out _ HB.out).rb.prs h2
          have KSb := Lib.hid (fun W' (hb : Below wo.heap.size wo W') => (And.intro (KC.out W' hb).yb (And.intro (KC.out W' hb).xb (And.intro ((hb.cell (p := ⟨rb_, ob_ + q * 2, none⟩) (Nat.lt_of_lt_of_le hrb_.1 hno)).trans ((HB.out.cell (p := ⟨rb_, ob_ + q * 2, none⟩) (Nat.lt_of_lt_of_le hrb_.1 hno)).symm.trans zb0)) ((hb.cell (p := ⟨rb_, ob_ + q * 2 + 1, none⟩) (Nat.lt_of_lt_of_le hrb_.1 hno)).trans ((HB.out.cell (p := ⟨rb_, ob_ + q * 2 + 1, none⟩) (Nat.lt_of_lt_of_le hrb_.1 hno)).symm.trans zb1))))))
          generalize a[p]! = x at *
          generalize b[q]! = y at *
          clear za0 za1
          clear zb0 zb1
          gi_wp2
          generalize (wo.alloc (.cells #[.int .i64 4096, .int .i64 0, .int .i64 0, .int .i64 0, .int .i64 0, .bool false, .bool false] 77)) = W1 at *
          clear zca1 zcb1 B1 s1
          have sX := HB.out.size
          have x00 := X1.at 0 _ rfl
          refine wpIn_wide.2 ?_
          go_region_held3 (fun W => W.cell? ⟨Ka, 0, none⟩ = some (.func (.func 32) #[] #[]) ∧ W.cell? ⟨Ba, 0, none⟩ = some (.slice (some ⟨ra_, oa_, none⟩) a.length ca) ∧ W.cell? ⟨ra_, oa_ + p * 2, none⟩ = some (.int .i64 x.1) ∧ W.cell? ⟨ra_, oa_ + p * 2 + 1, none⟩ = some (.int .i64 x.2)) (exact KSa.out _ (by repeat (first | with_reducible exact HB.out | with_reducible refine toDr ?_ | with_reducible refine toSet ?_ (Nat.le_refl _)))) ((go_at_call 32; (with_reducible refine (pairKey_any _ _).mono ?_); rintro e wk3 ⟨rfl, bk⟩; (have bb : Below wo.heap.size wo wk3 := (toDr HB.out).trans (bk.mono sX)); clear HB; have HB := Lib.hid bb; clear bb; (have XX := XB.below (show XB _ W1.drew _ _ from X1) bk); (have x0 := XX.at 0 _ rfl); (have f0 := XX.free 0)))
          all_goals
            have HB2 := Lib.hid (toSet (i := 0) (v := .int .i64 x.1) HB.out (Nat.le_refl _))
            have X32 := XX.set 0 (.int .i64 x.1)
            clear HB X1 sX x00 XX x0 f0 bk
            have HB := HB2
            clear HB2
            generalize (wk3.setCell ⟨wo.heap.size, 0, none⟩ (.int .i64 x.1)) = W32 at *
            obtain ⟨zca, zcb⟩ := And.intro (KC.out _ HB.out).xa (KC.out _ HB.out).xb
            gi_wp2
            clear zca zcb
            have sX := HB.out.size
            refine wpIn_wide.2 ?_
            refine wp_region_last (fun W => (W.cell? ⟨Kb, 0, none⟩ = some (.func (.func 32) #[] #[]) ∧ W.cell? ⟨Bb, 0, none⟩ = some (.slice (some ⟨rb_, ob_, none⟩) b.length cb) ∧ W.cell? ⟨rb_, ob_ + q * 2, none⟩ = some (.int .i64 y.1) ∧ W.cell? ⟨rb_, ob_ + q * 2 + 1, none⟩ = some (.int .i64 y.2)) ∧ W.cell? ⟨wo.heap.size, 0, none⟩ = some (.int .i64 x.1)) 10 (by kernel_rfl) ?_
            have hS : (fun W : World => (W.cell? ⟨Kb, 0, none⟩ = some (.func (.func 32) #[] #[]) ∧ W.cell? ⟨Bb, 0, none⟩ = some (.slice (some ⟨rb_, ob_, none⟩) b.length cb) ∧ W.cell? ⟨rb_, ob_ + q * 2, none⟩ = some (.int .i64 y.1) ∧ W.cell? ⟨rb_, ob_ + q * 2 + 1, none⟩ = some (.int .i64 y.2)) ∧ W.cell? ⟨wo.heap.size, 0, none⟩ = some (.int .i64 x.1)) W32.drew := ⟨KSb.out _ (toDr HB.out), X32.at 0 _ rfl⟩
            refine wpAnyL_take (i := 0) (v := ?_) rfl (by kernel_rfl) (by kernel_rfl) (by kernel_rfl) (by kernel_rfl) (fun _ _ _ h => h) (Or.inl ⟨by rfl, ?_⟩) hS ?_
            rotate_left
            · intro w hSw
              (try dsimp only at hSw)
              go_simp
              try with_reducible rfl
            try simp only [Act.put, List.setIfInBounds_toArray]
            refine wpAnyL_take (i := 1) (v := ?_) rfl (by kernel_rfl) (by kernel_rfl) (by kernel_rfl) (by kernel_rfl) (fun _ _ _ h => h) (Or.inl ⟨by rfl, ?_⟩) hS ?_
            rotate_left
            · intro w hSw
              (try dsimp only at hSw)
              go_simp
              try with_reducible rfl
            try simp only [Act.put]
            refine wpAnyL_take (i := 2) (v := ?_) rfl (by kernel_rfl) (by kernel_rfl) (by kernel_rfl) (by kernel_rfl) (fun _ _ _ h => h) (Or.inl ⟨by rfl, ?_⟩) hS ?_
            rotate_left
            · intro w hSw
              (try dsimp only at hSw)
              go_simp
              try with_reducible rfl
            try simp only [Act.put]
            refine wpAnyL_take (i := 3) (v := ?_) rfl (by kernel_rfl) (by kernel_rfl) (by kernel_rfl) (by kernel_rfl) (fun _ _ _ h => h) (Or.inl ⟨by rfl, ?_⟩) hS ?_
            rotate_left
            · intro w hSw
              (try dsimp only at hSw)
              go_simp
              try with_reducible rfl
            try simp only [Act.put]
            refine wpAnyL_take (i := 4) (v := ?_) rfl (by kernel_rfl) (by kernel_rfl) (by kernel_rfl) (by kernel_rfl) (fun _ _ _ h => h) (Or.inl ⟨by rfl, ?_⟩) hS ?_
            rotate_left
            · intro w hSw
              (try dsimp only at hSw)
              go_simp
              try with_reducible rfl
            try simp only [Act.put]
            refine wpAnyL_take (i := 5) (v := ?_) rfl (by kernel_rfl) (by kernel_rfl) (by kernel_rfl) (by kernel_rfl) (fun _ _ _ h => h) (Or.inl ⟨by rfl, ?_⟩) hS ?_
            rotate_left
            · intro w hSw
              (try dsimp only at hSw)
              go_simp
              try with_reducible rfl
            try simp only [Act.put]
            refine wpAnyL_take (i := 6) (v := ?_) rfl (by kernel_rfl) (by kernel_rfl) (by kernel_rfl) (by kernel_rfl) (fun _ _ _ h => h) (Or.inl ⟨by rfl, ?_⟩) hS ?_
            rotate_left
            · intro w hSw
              (try dsimp only at hSw)
              go_simp
              try with_reducible rfl
            try simp only [Act.put]
            refine wpAnyL_ready (rs := [7]) (by kernel_rfl) (by simp) (AllReadyL.cons rfl (fun K hK => ?_) AllReadyL.nil)
            go_simp
            go_wp2_with (go_at_call 32; (with_reducible refine (pairKey_any _ _).mono ?_); rintro e wk4 ⟨rfl, bk⟩; (have bb : Below wo.heap.size wo wk4 := (toDr HB.out).trans (bk.mono sX)); (have XX := XB.below (show XB _ W32.drew _ _ from X32) bk); (have x0 := XX.at 0 _ rfl); (have f0 := XX.free 0))
            have hS2 : (fun W : World => (W.cell? ⟨Kb, 0, none⟩ = some (.func (.func 32) #[] #[]) ∧ W.cell? ⟨Bb, 0, none⟩ = some (.slice (some ⟨rb_, ob_, none⟩) b.length cb) ∧ W.cell? ⟨rb_, ob_ + q * 2, none⟩ = some (.int .i64 y.1) ∧ W.cell? ⟨rb_, ob_ + q * 2 + 1, none⟩ = some (.int .i64 y.2)) ∧ W.cell? ⟨wo.heap.size, 0, none⟩ = some (.int .i64 x.1)) wk4 := ⟨KSb.out _ bb, x0⟩
            refine hK.out _ _ (.inr hS2) ?_
            clear hK K hS
            try simp only [Act.put, List.setIfInBounds_toArray, List.set_cons_zero, List.set_cons_succ]
            refine wpAnyL_ready (rs := [8]) (by kernel_rfl) (by simp) (AllReadyL.cons rfl (fun K hK => ?_) AllReadyL.nil)
            go_simp
            refine hK.out _ _ (.inr hS2) ?_
            clear hK K
            try simp only [Act.put, List.setIfInBounds_toArray, List.set_cons_zero, List.set_cons_succ]
            refine wpAnyL_take (i := 9) (v := ?_) rfl (by kernel_rfl) (by kernel_rfl) (by kernel_rfl) (by kernel_rfl) (fun _ _ _ h => h) (Or.inl ⟨by rfl, ?_⟩) hS2 ?_
            rotate_left
            · intro w hSw
              (try dsimp only at hSw)
              go_simp
              try with_reducible rfl
            try simp only [Act.put, List.setIfInBounds_toArray]
            clear hS2
            refine wpAnyL_ready (rs := [10]) (by kernel_rfl) (by simp) (AllReadyL.cons rfl (fun K hK => ?_) AllReadyL.nil)
            go_simp
            refine hK.out _ _ (.inl rfl) ?_
            clear hK K
            try simp only [Act.put, List.setIfInBounds_toArray, List.set_cons_zero, List.set_cons_succ]
            refine wpAnyL_done (by kernel_rfl) ?_ _
            have HB2 := Lib.hid (toSet (i := 0) (v := .int .i64 x.1) bb (Nat.le_refl _))
            have X42 := XX.set 0 (.int .i64 x.1)
            clear HB X32 sX XX x0 f0 bk bb
            have HB := HB2
            clear HB2
            try rw [hmin]
            generalize (wk4.setCell ⟨wo.heap.size, 0, none⟩ (.int .i64 x.1)) = W42 at *
            obtain ⟨zca, zcb⟩ := And.intro (KC.out _ HB.out).xa (KC.out _ HB.out).xb
            gi_wp2
            clear zca zcb
            have sX := HB.out.size
            have KX := Lib.hid (fun W' (hb : Below W42.heap.size W42 W') => And.intro (KSa.out W' (HB.out.trans (hb.mono sX))) ((X42.below hb).at 0 _ rfl))
            have HX := Lib.hid (Below.refl W42.heap.size W42)
            refine wpIn_wide.2 ?_
            go_region_held3 (fun W => (W.cell? ⟨Ka, 0, none⟩ = some (.func (.func 32) #[] #[]) ∧ W.cell? ⟨Ba, 0, none⟩ = some (.slice (some ⟨ra_, oa_, none⟩) a.length ca) ∧ W.cell? ⟨ra_, oa_ + p * 2, none⟩ = some (.int .i64 x.1) ∧ W.cell? ⟨ra_, oa_ + p * 2 + 1, none⟩ = some (.int .i64 x.2)) ∧ W.cell? ⟨wo.heap.size, 0, none⟩ = some (.int .i64 x.1)) (exact KX.out _ (by repeat (first | with_reducible exact HX.out | with_reducible refine toDr ?_))) ((go_at_call 32; (with_reducible refine (pairKey_any _ _).mono ?_); rintro e wk7 ⟨rfl, bk⟩; (have bb : Below W42.heap.size W42 wk7 := (toDr HX.out).trans (bk.mono (Nat.le_refl _))); clear HX; have HX := Lib.hid bb; clear bb))
            have HB2 := Lib.hid (HB.out.trans (HX.out.mono sX))
            have X72 := X42.below HX.out
            clear HB HX X42 sX KX bk
            have HB := HB2
            clear HB2
            have KK := KSa.out _ HB.out
            obtain ⟨v0, v1, v2, v3⟩ := KK
            have y1 := X72.at 1 _ rfl
            have y2 := X72.at 2 _ rfl
            have y5 := X72.at 5 _ rfl
            have f1 := X72.free 1
            have f2 := X72.free 2
            have f5 := X72.free 5
            gi_wp2
            have HB2 := Lib.hid (toSet (i := 5) (v := .bool true) (toSet (i := 2) (v := .int .i64 x.2) (toSet (i := 1) (v := .int .i64 x.1) HB.out (Nat.le_refl _)) (Nat.le_refl _)) (Nat.le_refl _))
            have X82 := (((X72.set 1 (.int .i64 x.1)).set 2 (.int .i64 x.2)).set 5 (.bool true))
            clear HB X72 v0 v1 v2 v3 y1 f1 y2 f2 y5 f5
            have HB := HB2
            clear HB2
            generalize (((wk7.setCell ⟨wo.heap.size, 1, none⟩ (.int .i64 x.1)).setCell ⟨wo.heap.size, 2, none⟩ (.int .i64 x.2)).setCell ⟨wo.heap.size, 5, none⟩ (.bool true)) = W8 at *
            have sX := HB.out.size
            have KX := Lib.hid (fun W' (hb : Below W8.heap.size W8 W') => And.intro (KSb.out W' (HB.out.trans (hb.mono sX))) ((X82.below hb).at 0 _ rfl))
            have HX := Lib.hid (Below.refl W8.heap.size W8)
            refine wpIn_wide.2 ?_
            go_region_held3 (fun W => (W.cell? ⟨Kb, 0, none⟩ = some (.func (.func 32) #[] #[]) ∧ W.cell? ⟨Bb, 0, none⟩ = some (.slice (some ⟨rb_, ob_, none⟩) b.length cb) ∧ W.cell? ⟨rb_, ob_ + q * 2, none⟩ = some (.int .i64 y.1) ∧ W.cell? ⟨rb_, ob_ + q * 2 + 1, none⟩ = some (.int .i64 y.2)) ∧ W.cell? ⟨wo.heap.size, 0, none⟩ = some (.int .i64 x.1)) (exact KX.out _ (by repeat (first | with_reducible exact HX.out | with_reducible refine toDr ?_))) ((go_at_call 32; (with_reducible refine (pairKey_any _ _).mono ?_); rintro e wk10 ⟨rfl, bk⟩; (have bb : Below W8.heap.size W8 wk10 := (toDr HX.out).trans (bk.mono (Nat.le_refl _))); clear HX; have HX := Lib.hid bb; clear bb))
            have HB2 := Lib.hid (HB.out.trans (HX.out.mono sX))
            have X102 := X82.below HX.out
            clear HB HX X82 sX KX bk
            have HB := HB2
            clear HB2
            have hJ13 := hJ pre wo wk10 none HJ.out ⟨HB.out.os, HB.out.tape, HB.out.output, HB.out.size, fun k hk _ => HB.out.block k hk⟩ (fun r e => by cases e)
            obtain ⟨fn, tmps, assign, body, hy, hR⟩ := hY pre ⟨x.1, x, (0, 0), true, false⟩ wk10 hJ13 (by rw [hm2.out, List.length_append, List.length_append, List.length_cons]; omega)
            simp only [encPP, encP, encP, List.cons_append, List.nil_append] at hy
            have y0 := X102.at 0 _ rfl
            have y1 := X102.at 1 _ rfl
            have y2 := X102.at 2 _ rfl
            have y3 := X102.at 3 _ rfl
            have y4 := X102.at 4 _ rfl
            have y5 := X102.at 5 _ rfl
            have y6 := X102.at 6 _ rfl
            gi_wp2
            refine ⟨fun h => (by cases h), hR.mono ?_⟩
            rintro e W3 (⟨rfl, hJ3, hk3⟩ | ⟨rfl, hJx3⟩)
            · gi_wp2
              go_roundw
              case rel => exact ⟨p + 1, q, pre ++ [⟨x.1, x, (0, 0), true, false⟩], by go_num, by go_num, by omega, by omega, hm2.out, Lib.hid hJ3, hk.trans ((Kept.below HB.out hno).trans hk3)⟩
              case measure => simp [intOf]; omega
            · gi_wp2
              refine bodyPost_ret (results_none rfl _ _ _) rfl ?_
              exact ⟨⟨_, rfl⟩, .inr ⟨pre ++ [⟨x.1, x, (0, 0), true, false⟩], ⟨_, hm2.out.symm⟩, hJx3⟩⟩
        · skip
          have B1 : Below wo.heap.size wo (wo.alloc (.cells #[.int .i64 4096, .int .i64 0, .int .i64 0, .int .i64 0, .int .i64 0, .bool false, .bool false] 77)) := (Below.refl _ _).alloc (Nat.le_refl _) _
          have X1 : XB 77 (wo.alloc (.cells #[.int .i64 4096, .int .i64 0, .int .i64 0, .int .i64 0, .int .i64 0, .bool false, .bool false] 77)) wo.heap.size [.int .i64 4096, .int .i64 0, .int .i64 0, .int .i64 0, .int .i64 0, .bool false, .bool false] := heap_alloc_new _ _
          have s1 := B1.size
          obtain ⟨zca1, zcb1⟩ := And.intro (hCo.kept (Kept.below B1 hno)).xa (hCo.kept (Kept.below B1 hno)).xb
          have HB := Lib.hid B1
          have KC := Lib.hid (fun W' (hb : Below wo.heap.size wo W') => hCo.kept (Kept.below hb hno))
          have hda := drop_moreG h1
          have hdb := drop_moreG h2
          have hmin : min (a[p]!.1) (b[q]!.1) = a[p]!.1 := by omega
          have hyes : (b[q]!.1 == a[p]!.1) = true := beq_yes (by omega)
          have hm2 : meetsPP a b = (pre ++ [⟨a[p]!.1, a[p]!, b[q]!, true, true⟩]) ++ meetsPP (a.drop (p + 1)) (b.drop (q + 1)) := by rw [hm.out, List.append_assoc]; congr 1; rw [hda, hdb]; exact meets_eq _ _ _ _ _ _ ho
          replace hm2 := Lib.hid hm2
          clear ho
          obtain ⟨ra_, oa_, rfl, hra_, za0, za1⟩ := (KC.out _ HB.out).ra.prs h1
          have KSa := Lib.hid (fun W' (hb : Below wo.heap.size wo W') => (And.intro (KC.out W' hb).ya (And.intro (KC.out W' hb).xa (And.intro ((hb.cell (p := ⟨ra_, oa_ + p * 2, none⟩) (Nat.lt_of_lt_of_le hra_.1 hno)).trans ((HB.out.cell (p := ⟨ra_, oa_ + p * 2, none⟩) (Nat.lt_of_lt_of_le hra_.1 hno)).symm.trans za0)) ((hb.cell (p := ⟨ra_, oa_ + p * 2 + 1, none⟩) (Nat.lt_of_lt_of_le hra_.1 hno)).trans ((HB.out.cell (p := ⟨ra_, oa_ + p * 2 + 1, none⟩) (Nat.lt_of_lt_of_le hra_.1 hno)).symm.trans za1))))))
          obtain ⟨rb_, ob_, rfl, hrb_, zb0, zb1⟩ := (KC.out _ HB.out).rb.prs h2
          have KSb := Lib.hid (fun W' (hb : Below wo.heap.size wo W') => (And.intro (KC.out W' hb).yb (And.intro (KC.out W' hb).xb (And.intro ((hb.cell (p := ⟨rb_, ob_ + q * 2, none⟩) (Nat.lt_of_lt_of_le hrb_.1 hno)).trans ((HB.out.cell (p := ⟨rb_, ob_ + q * 2, none⟩) (Nat.lt_of_lt_of_le hrb_.1 hno)).symm.trans zb0)) ((hb.cell (p := ⟨rb_, ob_ + q * 2 + 1, none⟩) (Nat.lt_of_lt_of_le hrb_.1 hno)).trans ((HB.out.cell (p := ⟨rb_, ob_ + q * 2 + 1, none⟩) (Nat.lt_of_lt_of_le hrb_.1 hno)).symm.trans zb1))))))
          generalize a[p]! = x at *
          generalize b[q]! = y at *
          clear za0 za1
          clear zb0 zb1
          gi_wp2
          generalize (wo.alloc (.cells #[.int .i64 4096, .int .i64 0, .int .i64 0, .int .i64 0, .int .i64 0, .bool false, .bool false] 77)) = W1 at *
          clear zca1 zcb1 B1 s1
          have sX := HB.out.size
          have x00 := X1.at 0 _ rfl
          refine wpIn_wide.2 ?_
          go_region_held3 (fun W => W.cell? ⟨Ka, 0, none⟩ = some (.func (.func 32) #[] #[]) ∧ W.cell? ⟨Ba, 0, none⟩ = some (.slice (some ⟨ra_, oa_, none⟩) a.length ca) ∧ W.cell? ⟨ra_, oa_ + p * 2, none⟩ = some (.int .i64 x.1) ∧ W.cell? ⟨ra_, oa_ + p * 2 + 1, none⟩ = some (.int .i64 x.2)) (exact KSa.out _ (by repeat (first | with_reducible exact HB.out | with_reducible refine toDr ?_ | with_reducible refine toSet ?_ (Nat.le_refl _)))) ((go_at_call 32; (with_reducible refine (pairKey_any _ _).mono ?_); rintro e wk3 ⟨rfl, bk⟩; (have bb : Below wo.heap.size wo wk3 := (toDr HB.out).trans (bk.mono sX)); clear HB; have HB := Lib.hid bb; clear bb; (have XX := XB.below (show XB _ W1.drew _ _ from X1) bk); (have x0 := XX.at 0 _ rfl); (have f0 := XX.free 0)))
          all_goals
            have HB2 := Lib.hid (toSet (i := 0) (v := .int .i64 x.1) HB.out (Nat.le_refl _))
            have X32 := XX.set 0 (.int .i64 x.1)
            clear HB X1 sX x00 XX x0 f0 bk
            have HB := HB2
            clear HB2
            generalize (wk3.setCell ⟨wo.heap.size, 0, none⟩ (.int .i64 x.1)) = W32 at *
            obtain ⟨zca, zcb⟩ := And.intro (KC.out _ HB.out).xa (KC.out _ HB.out).xb
            gi_wp2
            clear zca zcb
            have sX := HB.out.size
            refine wpIn_wide.2 ?_
            refine wp_region_last (fun W => (W.cell? ⟨Kb, 0, none⟩ = some (.func (.func 32) #[] #[]) ∧ W.cell? ⟨Bb, 0, none⟩ = some (.slice (some ⟨rb_, ob_, none⟩) b.length cb) ∧ W.cell? ⟨rb_, ob_ + q * 2, none⟩ = some (.int .i64 y.1) ∧ W.cell? ⟨rb_, ob_ + q * 2 + 1, none⟩ = some (.int .i64 y.2)) ∧ W.cell? ⟨wo.heap.size, 0, none⟩ = some (.int .i64 x.1)) 10 (by kernel_rfl) ?_
            have hS : (fun W : World => (W.cell? ⟨Kb, 0, none⟩ = some (.func (.func 32) #[] #[]) ∧ W.cell? ⟨Bb, 0, none⟩ = some (.slice (some ⟨rb_, ob_, none⟩) b.length cb) ∧ W.cell? ⟨rb_, ob_ + q * 2, none⟩ = some (.int .i64 y.1) ∧ W.cell? ⟨rb_, ob_ + q * 2 + 1, none⟩ = some (.int .i64 y.2)) ∧ W.cell? ⟨wo.heap.size, 0, none⟩ = some (.int .i64 x.1)) W32.drew := ⟨KSb.out _ (toDr HB.out), X32.at 0 _ rfl⟩
            refine wpAnyL_take (i := 0) (v := ?_) rfl (by kernel_rfl) (by kernel_rfl) (by kernel_rfl) (by kernel_rfl) (fun _ _ _ h => h) (Or.inl ⟨by rfl, ?_⟩) hS ?_
            rotate_left
            · intro w hSw
              (try dsimp only at hSw)
              go_simp
              try with_reducible rfl
            try simp only [Act.put, List.setIfInBounds_toArray]
            refine wpAnyL_take (i := 1) (v := ?_) rfl (by kernel_rfl) (by kernel_rfl) (by kernel_rfl) (by kernel_rfl) (fun _ _ _ h => h) (Or.inl ⟨by rfl, ?_⟩) hS ?_
            rotate_left
            · intro w hSw
              (try dsimp only at hSw)
              go_simp
              try with_reducible rfl
            try simp only [Act.put]
            refine wpAnyL_take (i := 2) (v := ?_) rfl (by kernel_rfl) (by kernel_rfl) (by kernel_rfl) (by kernel_rfl) (fun _ _ _ h => h) (Or.inl ⟨by rfl, ?_⟩) hS ?_
            rotate_left
            · intro w hSw
              (try dsimp only at hSw)
              go_simp
              try with_reducible rfl
            try simp only [Act.put]
            refine wpAnyL_take (i := 3) (v := ?_) rfl (by kernel_rfl) (by kernel_rfl) (by kernel_rfl) (by kernel_rfl) (fun _ _ _ h => h) (Or.inl ⟨by rfl, ?_⟩) hS ?_
            rotate_left
            · intro w hSw
              (try dsimp only at hSw)
              go_simp
              try with_reducible rfl
            try simp only [Act.put]
            refine wpAnyL_take (i := 4) (v := ?_) rfl (by kernel_rfl) (by kernel_rfl) (by kernel_rfl) (by kernel_rfl) (fun _ _ _ h => h) (Or.inl ⟨by rfl, ?_⟩) hS ?_
            rotate_left
            · intro w hSw
              (try dsimp only at hSw)
              go_simp
              try with_reducible rfl
            try simp only [Act.put]
            refine wpAnyL_take (i := 5) (v := ?_) rfl (by kernel_rfl) (by kernel_rfl) (by kernel_rfl) (by kernel_rfl) (fun _ _ _ h => h) (Or.inl ⟨by rfl, ?_⟩) hS ?_
            rotate_left
            · intro w hSw
              (try dsimp only at hSw)
              go_simp
              try with_reducible rfl
            try simp only [Act.put]
            refine wpAnyL_take (i := 6) (v := ?_) rfl (by kernel_rfl) (by kernel_rfl) (by kernel_rfl) (by kernel_rfl) (fun _ _ _ h => h) (Or.inl ⟨by rfl, ?_⟩) hS ?_
            rotate_left
            · intro w hSw
              (try dsimp only at hSw)
              go_simp
              try with_reducible rfl
            try simp only [Act.put]
            refine wpAnyL_ready (rs := [7]) (by kernel_rfl) (by simp) (AllReadyL.cons rfl (fun K hK => ?_) AllReadyL.nil)
            go_simp
            go_wp2_with (go_at_call 32; (with_reducible refine (pairKey_any _ _).mono ?_); rintro e wk4 ⟨rfl, bk⟩; (have bb : Below wo.heap.size wo wk4 := (toDr HB.out).trans (bk.mono sX)); (have XX := XB.below (show XB _ W32.drew _ _ from X32) bk); (have x0 := XX.at 0 _ rfl); (have f0 := XX.free 0))
            have hS2 : (fun W : World => (W.cell? ⟨Kb, 0, none⟩ = some (.func (.func 32) #[] #[]) ∧ W.cell? ⟨Bb, 0, none⟩ = some (.slice (some ⟨rb_, ob_, none⟩) b.length cb) ∧ W.cell? ⟨rb_, ob_ + q * 2, none⟩ = some (.int .i64 y.1) ∧ W.cell? ⟨rb_, ob_ + q * 2 + 1, none⟩ = some (.int .i64 y.2)) ∧ W.cell? ⟨wo.heap.size, 0, none⟩ = some (.int .i64 x.1)) wk4 := ⟨KSb.out _ bb, x0⟩
            refine hK.out _ _ (.inr hS2) ?_
            clear hK K hS
            try simp only [Act.put, List.setIfInBounds_toArray, List.set_cons_zero, List.set_cons_succ]
            refine wpAnyL_ready (rs := [8]) (by kernel_rfl) (by simp) (AllReadyL.cons rfl (fun K hK => ?_) AllReadyL.nil)
            go_simp
            refine hK.out _ _ (.inr hS2) ?_
            clear hK K
            try simp only [Act.put, List.setIfInBounds_toArray, List.set_cons_zero, List.set_cons_succ]
            refine wpAnyL_take (i := 9) (v := ?_) rfl (by kernel_rfl) (by kernel_rfl) (by kernel_rfl) (by kernel_rfl) (fun _ _ _ h => h) (Or.inl ⟨by rfl, ?_⟩) hS2 ?_
            rotate_left
            · intro w hSw
              (try dsimp only at hSw)
              go_simp
              try with_reducible rfl
            try simp only [Act.put, List.setIfInBounds_toArray]
            clear hS2
            refine wpAnyL_ready (rs := [10]) (by kernel_rfl) (by simp) (AllReadyL.cons rfl (fun K hK => ?_) AllReadyL.nil)
            go_simp
            refine hK.out _ _ (.inl rfl) ?_
            clear hK K
            try simp only [Act.put, List.setIfInBounds_toArray, List.set_cons_zero, List.set_cons_succ]
            refine wpAnyL_done (by kernel_rfl) ?_ _
            have HB2 := Lib.hid (toSet (i := 0) (v := .int .i64 x.1) bb (Nat.le_refl _))
            have X42 := XX.set 0 (.int .i64 x.1)
            clear HB X32 sX XX x0 f0 bk bb
            have HB := HB2
            clear HB2
            try rw [hmin]
            generalize (wk4.setCell ⟨wo.heap.size, 0, none⟩ (.int .i64 x.1)) = W42 at *
            obtain ⟨zca, zcb⟩ := And.intro (KC.out _ HB.out).xa (KC.out _ HB.out).xb
            gi_wp2
            clear zca zcb
            have sX := HB.out.size
            have KX := Lib.hid (fun W' (hb : Below W42.heap.size W42 W') => And.intro (KSa.out W' (HB.out.trans (hb.mono sX))) ((X42.below hb).at 0 _ rfl))
            have HX := Lib.hid (Below.refl W42.heap.size W42)
            refine wpIn_wide.2 ?_
            go_region_held3 (fun W => (W.cell? ⟨Ka, 0, none⟩ = some (.func (.func 32) #[] #[]) ∧ W.cell? ⟨Ba, 0, none⟩ = some (.slice (some ⟨ra_, oa_, none⟩) a.length ca) ∧ W.cell? ⟨ra_, oa_ + p * 2, none⟩ = some (.int .i64 x.1) ∧ W.cell? ⟨ra_, oa_ + p * 2 + 1, none⟩ = some (.int .i64 x.2)) ∧ W.cell? ⟨wo.heap.size, 0, none⟩ = some (.int .i64 x.1)) (exact KX.out _ (by repeat (first | with_reducible exact HX.out | with_reducible refine toDr ?_))) ((go_at_call 32; (with_reducible refine (pairKey_any _ _).mono ?_); rintro e wk7 ⟨rfl, bk⟩; (have bb : Below W42.heap.size W42 wk7 := (toDr HX.out).trans (bk.mono (Nat.le_refl _))); clear HX; have HX := Lib.hid bb; clear bb))
            have HB2 := Lib.hid (HB.out.trans (HX.out.mono sX))
            have X72 := X42.below HX.out
            clear HB HX X42 sX KX bk
            have HB := HB2
            clear HB2
            have KK := KSa.out _ HB.out
            obtain ⟨v0, v1, v2, v3⟩ := KK
            have y1 := X72.at 1 _ rfl
            have y2 := X72.at 2 _ rfl
            have y5 := X72.at 5 _ rfl
            have f1 := X72.free 1
            have f2 := X72.free 2
            have f5 := X72.free 5
            gi_wp2
            have HB2 := Lib.hid (toSet (i := 5) (v := .bool true) (toSet (i := 2) (v := .int .i64 x.2) (toSet (i := 1) (v := .int .i64 x.1) HB.out (Nat.le_refl _)) (Nat.le_refl _)) (Nat.le_refl _))
            have X82 := (((X72.set 1 (.int .i64 x.1)).set 2 (.int .i64 x.2)).set 5 (.bool true))
            clear HB X72 v0 v1 v2 v3 y1 f1 y2 f2 y5 f5
            have HB := HB2
            clear HB2
            generalize (((wk7.setCell ⟨wo.heap.size, 1, none⟩ (.int .i64 x.1)).setCell ⟨wo.heap.size, 2, none⟩ (.int .i64 x.2)).setCell ⟨wo.heap.size, 5, none⟩ (.bool true)) = W8 at *
            have sX := HB.out.size
            have KX := Lib.hid (fun W' (hb : Below W8.heap.size W8 W') => And.intro (KSb.out W' (HB.out.trans (hb.mono sX))) ((X82.below hb).at 0 _ rfl))
            have HX := Lib.hid (Below.refl W8.heap.size W8)
            refine wpIn_wide.2 ?_
            go_region_held3 (fun W => (W.cell? ⟨Kb, 0, none⟩ = some (.func (.func 32) #[] #[]) ∧ W.cell? ⟨Bb, 0, none⟩ = some (.slice (some ⟨rb_, ob_, none⟩) b.length cb) ∧ W.cell? ⟨rb_, ob_ + q * 2, none⟩ = some (.int .i64 y.1) ∧ W.cell? ⟨rb_, ob_ + q * 2 + 1, none⟩ = some (.int .i64 y.2)) ∧ W.cell? ⟨wo.heap.size, 0, none⟩ = some (.int .i64 x.1)) (exact KX.out _ (by repeat (first | with_reducible exact HX.out | with_reducible refine toDr ?_))) ((go_at_call 32; (with_reducible refine (pairKey_any _ _).mono ?_); rintro e wk10 ⟨rfl, bk⟩; (have bb : Below W8.heap.size W8 wk10 := (toDr HX.out).trans (bk.mono (Nat.le_refl _))); clear HX; have HX := Lib.hid bb; clear bb))
            have HB2 := Lib.hid (HB.out.trans (HX.out.mono sX))
            have X102 := X82.below HX.out
            clear HB HX X82 sX KX bk
            have HB := HB2
            clear HB2
            have KK := KSb.out _ HB.out
            obtain ⟨v0, v1, v2, v3⟩ := KK
            have y0 := X102.at 0 _ rfl
            have y1 := X102.at 1 _ rfl
            have y2 := X102.at 2 _ rfl
            have y3 := X102.at 3 _ rfl
            have y4 := X102.at 4 _ rfl
            have y5 := X102.at 5 _ rfl
            have y6 := X102.at 6 _ rfl
            have f3 := X102.free 3
            have f4 := X102.free 4
            have f6 := X102.free 6
            have HB2 := Lib.hid (toSet (i := 6) (v := .bool true) (toSet (i := 4) (v := .int .i64 y.2) (toSet (i := 3) (v := .int .i64 y.1) HB.out (Nat.le_refl _)) (Nat.le_refl _)) (Nat.le_refl _))
            clear HB
            have HB := HB2
            clear HB2
            have hJ13 := hJ pre wo (((wk10.setCell ⟨wo.heap.size, 3, none⟩ (.int .i64 y.1)).setCell ⟨wo.heap.size, 4, none⟩ (.int .i64 y.2)).setCell ⟨wo.heap.size, 6, none⟩ (.bool true)) none HJ.out ⟨HB.out.os, HB.out.tape, HB.out.output, HB.out.size, fun k hk _ => HB.out.block k hk⟩ (fun r e => by cases e)
            obtain ⟨fn, tmps, assign, body, hy, hR⟩ := hY pre ⟨x.1, x, y, true, true⟩ (((wk10.setCell ⟨wo.heap.size, 3, none⟩ (.int .i64 y.1)).setCell ⟨wo.heap.size, 4, none⟩ (.int .i64 y.2)).setCell ⟨wo.heap.size, 6, none⟩ (.bool true)) hJ13 (by rw [hm2.out, List.length_append, List.length_append, List.length_cons]; omega)
            simp only [encPP, encP, encP, List.cons_append, List.nil_append] at hy
            gi_wp2
            refine ⟨fun h => (by cases h), hR.mono ?_⟩
            rintro e W3 (⟨rfl, hJ3, hk3⟩ | ⟨rfl, hJx3⟩)
            · gi_wp2
              go_roundw
              case rel => exact ⟨p + 1, q + 1, pre ++ [⟨x.1, x, y, true, true⟩], by go_num, by go_num, by omega, by omega, hm2.out, Lib.hid hJ3, hk.trans ((Kept.below HB.out hno).trans hk3)⟩
              case measure => simp [intOf]; omega
            · gi_wp2
              refine bodyPost_ret (results_none rfl _ _ _) rfl ?_
              exact ⟨⟨_, rfl⟩, .inr ⟨pre ++ [⟨x.1, x, y, true, true⟩], ⟨_, hm2.out.symm⟩, hJx3⟩⟩
        · skip
          have B1 : Below wo.heap.size wo (wo.alloc (.cells #[.int .i64 4096, .int .i64 0, .int .i64 0, .int .i64 0, .int .i64 0, .bool false, .bool false] 77)) := (Below.refl _ _).alloc (Nat.le_refl _) _
          have X1 : XB 77 (wo.alloc (.cells #[.int .i64 4096, .int .i64 0, .int .i64 0, .int .i64 0, .int .i64 0, .bool false, .bool false] 77)) wo.heap.size [.int .i64 4096, .int .i64 0, .int .i64 0, .int .i64 0, .int .i64 0, .bool false, .bool false] := heap_alloc_new _ _
          have s1 := B1.size
          obtain ⟨zca1, zcb1⟩ := And.intro (hCo.kept (Kept.below B1 hno)).xa (hCo.kept (Kept.below B1 hno)).xb
          have HB := Lib.hid B1
          have KC := Lib.hid (fun W' (hb : Below wo.heap.size wo W') => hCo.kept (Kept.below hb hno))
          have hda := drop_moreG h1
          have hdb := drop_moreG h2
          have hmin : min (a[p]!.1) (b[q]!.1) = b[q]!.1 := by omega
          have hno1 : (a[p]!.1 == b[q]!.1) = false := beq_no (by omega)
          have hno2 : ¬ a[p]!.1 = b[q]!.1 := by omega
          have hm2 : meetsPP a b = (pre ++ [⟨b[q]!.1, (0, 0), b[q]!, false, true⟩]) ++ meetsPP (a.drop (p)) (b.drop (q + 1)) := by rw [hm.out, List.append_assoc]; congr 1; rw [hda, hdb]; exact meets_gt _ _ _ _ _ _ ho
          replace hm2 := Lib.hid hm2
          clear ho
          obtain ⟨ra_, oa_, rfl, hra_, za0, za1⟩ := (KC.out _ HB.out).ra.prs h1
          have KSa := Lib.hid (fun W' (hb : Below wo.heap.size wo W') => (And.intro (KC.out W' hb).ya (And.intro (KC.out W' hb).xa (And.intro ((hb.cell (p := ⟨ra_, oa_ + p * 2, none⟩) (Nat.lt_of_lt_of_le hra_.1 hno)).trans ((HB.out.cell (p := ⟨ra_, oa_ + p * 2, none⟩) (Nat.lt_of_lt_of_le hra_.1 hno)).symm.trans za0)) ((hb.cell (p := ⟨ra_, oa_ + p * 2 + 1, none⟩) (Nat.lt_of_lt_of_le hra_.1 hno)).trans ((HB.out.cell (p := ⟨ra_, oa_ + p * 2 + 1, none⟩) (Nat.lt_of_lt_of_le hra_.1 hno)).symm.trans za1))))))
          obtain ⟨rb_, ob_, rfl, hrb_, zb0, zb1⟩ := (KC.out _ HB.out).rb.prs h2
          have KSb := Lib.hid (fun W' (hb : Below wo.heap.size wo W') => (And.intro (KC.out W' hb).yb (And.intro (KC.out W' hb).xb (And.intro ((hb.cell (p := ⟨rb_, ob_ + q * 2, none⟩) (Nat.lt_of_lt_of_le hrb_.1 hno)).trans ((HB.out.cell (p := ⟨rb_, ob_ + q * 2, none⟩) (Nat.lt_of_lt_of_le hrb_.1 hno)).symm.trans zb0)) ((hb.cell (p := ⟨rb_, ob_ + q * 2 + 1, none⟩) (Nat.lt_of_lt_of_le hrb_.1 hno)).trans ((HB.out.cell (p := ⟨rb_, ob_ + q * 2 + 1, none⟩) (Nat.lt_of_lt_of_le hrb_.1 hno)).symm.trans zb1))))))
          generalize a[p]! = x at *
          generalize b[q]! = y at *
          clear za0 za1
          clear zb0 zb1
          gi_wp2
          generalize (wo.alloc (.cells #[.int .i64 4096, .int .i64 0, .int .i64 0, .int .i64 0, .int .i64 0, .bool false, .bool false] 77)) = W1 at *
          clear zca1 zcb1 B1 s1
          have sX := HB.out.size
          have x00 := X1.at 0 _ rfl
          refine wpIn_wide.2 ?_
          go_region_held3 (fun W => W.cell? ⟨Ka, 0, none⟩ = some (.func (.func 32) #[] #[]) ∧ W.cell? ⟨Ba, 0, none⟩ = some (.slice (some ⟨ra_, oa_, none⟩) a.length ca) ∧ W.cell? ⟨ra_, oa_ + p * 2, none⟩ = some (.int .i64 x.1) ∧ W.cell? ⟨ra_, oa_ + p * 2 + 1, none⟩ = some (.int .i64 x.2)) (exact KSa.out _ (by repeat (first | with_reducible exact HB.out | with_reducible refine toDr ?_ | with_reducible refine toSet ?_ (Nat.le_refl _)))) ((go_at_call 32; (with_reducible refine (pairKey_any _ _).mono ?_); rintro e wk3 ⟨rfl, bk⟩; (have bb : Below wo.heap.size wo wk3 := (toDr HB.out).trans (bk.mono sX)); clear HB; have HB := Lib.hid bb; clear bb; (have XX := XB.below (show XB _ W1.drew _ _ from X1) bk); (have x0 := XX.at 0 _ rfl); (have f0 := XX.free 0)))
          all_goals
            have HB2 := Lib.hid (toSet (i := 0) (v := .int .i64 x.1) HB.out (Nat.le_refl _))
            have X32 := XX.set 0 (.int .i64 x.1)
            clear HB X1 sX x00 XX x0 f0 bk
            have HB := HB2
            clear HB2
            generalize (wk3.setCell ⟨wo.heap.size, 0, none⟩ (.int .i64 x.1)) = W32 at *
            obtain ⟨zca, zcb⟩ := And.intro (KC.out _ HB.out).xa (KC.out _ HB.out).xb
            gi_wp2
            clear zca zcb
            have sX := HB.out.size
            refine wpIn_wide.2 ?_
            refine wp_region_last (fun W => (W.cell? ⟨Kb, 0, none⟩ = some (.func (.func 32) #[] #[]) ∧ W.cell? ⟨Bb, 0, none⟩ = some (.slice (some ⟨rb_, ob_, none⟩) b.length cb) ∧ W.cell? ⟨rb_, ob_ + q * 2, none⟩ = some (.int .i64 y.1) ∧ W.cell? ⟨rb_, ob_ + q * 2 + 1, none⟩ = some (.int .i64 y.2)) ∧ W.cell? ⟨wo.heap.size, 0, none⟩ = some (.int .i64 x.1)) 10 (by kernel_rfl) ?_
            have hS : (fun W : World => (W.cell? ⟨Kb, 0, none⟩ = some (.func (.func 32) #[] #[]) ∧ W.cell? ⟨Bb, 0, none⟩ = some (.slice (some ⟨rb_, ob_, none⟩) b.length cb) ∧ W.cell? ⟨rb_, ob_ + q * 2, none⟩ = some (.int .i64 y.1) ∧ W.cell? ⟨rb_, ob_ + q * 2 + 1, none⟩ = some (.int .i64 y.2)) ∧ W.cell? ⟨wo.heap.size, 0, none⟩ = some (.int .i64 x.1)) W32.drew := ⟨KSb.out _ (toDr HB.out), X32.at 0 _ rfl⟩
            refine wpAnyL_take (i := 0) (v := ?_) rfl (by kernel_rfl) (by kernel_rfl) (by kernel_rfl) (by kernel_rfl) (fun _ _ _ h => h) (Or.inl ⟨by rfl, ?_⟩) hS ?_
            rotate_left
            · intro w hSw
              (try dsimp only at hSw)
              go_simp
              try with_reducible rfl
            try simp only [Act.put, List.setIfInBounds_toArray]
            refine wpAnyL_take (i := 1) (v := ?_) rfl (by kernel_rfl) (by kernel_rfl) (by kernel_rfl) (by kernel_rfl) (fun _ _ _ h => h) (Or.inl ⟨by rfl, ?_⟩) hS ?_
            rotate_left
            · intro w hSw
              (try dsimp only at hSw)
              go_simp
              try with_reducible rfl
            try simp only [Act.put]
            refine wpAnyL_take (i := 2) (v := ?_) rfl (by kernel_rfl) (by kernel_rfl) (by kernel_rfl) (by kernel_rfl) (fun _ _ _ h => h) (Or.inl ⟨by rfl, ?_⟩) hS ?_
            rotate_left
            · intro w hSw
              (try dsimp only at hSw)
              go_simp
              try with_reducible rfl
            try simp only [Act.put]
            refine wpAnyL_take (i := 3) (v := ?_) rfl (by kernel_rfl) (by kernel_rfl) (by kernel_rfl) (by kernel_rfl) (fun _ _ _ h => h) (Or.inl ⟨by rfl, ?_⟩) hS ?_
            rotate_left
            · intro w hSw
              (try dsimp only at hSw)
              go_simp
              try with_reducible rfl
            try simp only [Act.put]
            refine wpAnyL_take (i := 4) (v := ?_) rfl (by kernel_rfl) (by kernel_rfl) (by kernel_rfl) (by kernel_rfl) (fun _ _ _ h => h) (Or.inl ⟨by rfl, ?_⟩) hS ?_
            rotate_left
            · intro w hSw
              (try dsimp only at hSw)
              go_simp
              try with_reducible rfl
            try simp only [Act.put]
            refine wpAnyL_take (i := 5) (v := ?_) rfl (by kernel_rfl) (by kernel_rfl) (by kernel_rfl) (by kernel_rfl) (fun _ _ _ h => h) (Or.inl ⟨by rfl, ?_⟩) hS ?_
            rotate_left
            · intro w hSw
              (try dsimp only at hSw)
              go_simp
              try with_reducible rfl
            try simp only [Act.put]
            refine wpAnyL_take (i := 6) (v := ?_) rfl (by kernel_rfl) (by kernel_rfl) (by kernel_rfl) (by kernel_rfl) (fun _ _ _ h => h) (Or.inl ⟨by rfl, ?_⟩) hS ?_
            rotate_left
            · intro w hSw
              (try dsimp only at hSw)
              go_simp
              try with_reducible rfl
            try simp only [Act.put]
            refine wpAnyL_ready (rs := [7]) (by kernel_rfl) (by simp) (AllReadyL.cons rfl (fun K hK => ?_) AllReadyL.nil)
            go_simp
            go_wp2_with (go_at_call 32; (with_reducible refine (pairKey_any _ _).mono ?_); rintro e wk4 ⟨rfl, bk⟩; (have bb : Below wo.heap.size wo wk4 := (toDr HB.out).trans (bk.mono sX)); (have XX := XB.below (show XB _ W32.drew _ _ from X32) bk); (have x0 := XX.at 0 _ rfl); (have f0 := XX.free 0))
            have hS2 : (fun W : World => (W.cell? ⟨Kb, 0, none⟩ = some (.func (.func 32) #[] #[]) ∧ W.cell? ⟨Bb, 0, none⟩ = some (.slice (some ⟨rb_, ob_, none⟩) b.length cb) ∧ W.cell? ⟨rb_, ob_ + q * 2, none⟩ = some (.int .i64 y.1) ∧ W.cell? ⟨rb_, ob_ + q * 2 + 1, none⟩ = some (.int .i64 y.2)) ∧ W.cell? ⟨wo.heap.size, 0, none⟩ = some (.int .i64 x.1)) wk4 := ⟨KSb.out _ bb, x0⟩
            refine hK.out _ _ (.inr hS2) ?_
            clear hK K hS
            try simp only [Act.put, List.setIfInBounds_toArray, List.set_cons_zero, List.set_cons_succ]
            refine wpAnyL_ready (rs := [8]) (by kernel_rfl) (by simp) (AllReadyL.cons rfl (fun K hK => ?_) AllReadyL.nil)
            go_simp
            refine hK.out _ _ (.inr hS2) ?_
            clear hK K
            try simp only [Act.put, List.setIfInBounds_toArray, List.set_cons_zero, List.set_cons_succ]
            refine wpAnyL_take (i := 9) (v := ?_) rfl (by kernel_rfl) (by kernel_rfl) (by kernel_rfl) (by kernel_rfl) (fun _ _ _ h => h) (Or.inl ⟨by rfl, ?_⟩) hS2 ?_
            rotate_left
            · intro w hSw
              (try dsimp only at hSw)
              go_simp
              try with_reducible rfl
            try simp only [Act.put, List.setIfInBounds_toArray]
            clear hS2
            refine wpAnyL_ready (rs := [10]) (by kernel_rfl) (by simp) (AllReadyL.cons rfl (fun K hK => ?_) AllReadyL.nil)
            go_simp
            refine hK.out _ _ (.inl rfl) ?_
            clear hK K
            try simp only [Act.put, List.setIfInBounds_toArray, List.set_cons_zero, List.set_cons_succ]
            refine wpAnyL_done (by kernel_rfl) ?_ _
            have HB2 := Lib.hid (toSet (i := 0) (v := .int .i64 y.1) bb (Nat.le_refl _))
            have X42 := XX.set 0 (.int .i64 y.1)
            clear HB X32 sX XX x0 f0 bk bb
            have HB := HB2
            clear HB2
            try rw [hmin]
            generalize (wk4.setCell ⟨wo.heap.size, 0, none⟩ (.int .i64 y.1)) = W42 at *
            obtain ⟨zca, zcb⟩ := And.intro (KC.out _ HB.out).xa (KC.out _ HB.out).xb
            gi_wp2
            clear zca zcb
            have sX := HB.out.size
            have KX := Lib.hid (fun W' (hb : Below W42.heap.size W42 W') => And.intro (KSa.out W' (HB.out.trans (hb.mono sX))) ((X42.below hb).at 0 _ rfl))
            have HX := Lib.hid (Below.refl W42.heap.size W42)
            refine wpIn_wide.2 ?_
            go_region_held3 (fun W => (W.cell? ⟨Ka, 0, none⟩ = some (.func (.func 32) #[] #[]) ∧ W.cell? ⟨Ba, 0, none⟩ = some (.slice (some ⟨ra_, oa_, none⟩) a.length ca) ∧ W.cell? ⟨ra_, oa_ + p * 2, none⟩ = some (.int .i64 x.1) ∧ W.cell? ⟨ra_, oa_ + p * 2 + 1, none⟩ = some (.int .i64 x.2)) ∧ W.cell? ⟨wo.heap.size, 0, none⟩ = some (.int .i64 y.1)) (exact KX.out _ (by repeat (first | with_reducible exact HX.out | with_reducible refine toDr ?_))) ((go_at_call 32; (with_reducible refine (pairKey_any _ _).mono ?_); rintro e wk7 ⟨rfl, bk⟩; (have bb : Below W42.heap.size W42 wk7 := (toDr HX.out).trans (bk.mono (Nat.le_refl _))); clear HX; have HX := Lib.hid bb; clear bb))
            have HB2 := Lib.hid (HB.out.trans (HX.out.mono sX))
            have X72 := X42.below HX.out
            clear HB HX X42 sX KX bk
            have HB := HB2
            clear HB2
            gi_wp2
            have sX := HB.out.size
            have KX := Lib.hid (fun W' (hb : Below wk7.heap.size wk7 W') => And.intro (KSb.out W' (HB.out.trans (hb.mono sX))) ((X72.below hb).at 0 _ rfl))
            have HX := Lib.hid (Below.refl wk7.heap.size wk7)
            refine wpIn_wide.2 ?_
            go_region_held3 (fun W => (W.cell? ⟨Kb, 0, none⟩ = some (.func (.func 32) #[] #[]) ∧ W.cell? ⟨Bb, 0, none⟩ = some (.slice (some ⟨rb_, ob_, none⟩) b.length cb) ∧ W.cell? ⟨rb_, ob_ + q * 2, none⟩ = some (.int .i64 y.1) ∧ W.cell? ⟨rb_, ob_ + q * 2 + 1, none⟩ = some (.int .i64 y.2)) ∧ W.cell? ⟨wo.heap.size, 0, none⟩ = some (.int .i64 y.1)) (exact KX.out _ (by repeat (first | with_reducible exact HX.out | with_reducible refine toDr ?_))) ((go_at_call 32; (with_reducible refine (pairKey_any _ _).mono ?_); rintro e wk10 ⟨rfl, bk⟩; (have bb : Below wk7.heap.size wk7 wk10 := (toDr HX.out).trans (bk.mono (Nat.le_refl _))); clear HX; have HX := Lib.hid bb; clear bb))
            have HB2 := Lib.hid (HB.out.trans (HX.out.mono sX))
            have X102 := X72.below HX.out
            clear HB HX X72 sX KX bk
            have HB := HB2
            clear HB2
            have KK := KSb.out _ HB.out
            obtain ⟨v0, v1, v2, v3⟩ := KK
            have y0 := X102.at 0 _ rfl
            have y1 := X102.at 1 _ rfl
            have y2 := X102.at 2 _ rfl
            have y3 := X102.at 3 _ rfl
            have y4 := X102.at 4 _ rfl
            have y5 := X102.at 5 _ rfl
            have y6 := X102.at 6 _ rfl
            have f3 := X102.free 3
            have f4 := X102.free 4
            have f6 := X102.free 6
            have HB2 := Lib.hid (toSet (i := 6) (v := .bool true) (toSet (i := 4) (v := .int .i64 y.2) (toSet (i := 3) (v := .int .i64 y.1) HB.out (Nat.le_refl _)) (Nat.le_refl _)) (Nat.le_refl _))
            clear HB
            have HB := HB2
            clear HB2
            have hJ13 := hJ pre wo (((wk10.setCell ⟨wo.heap.size, 3, none⟩ (.int .i64 y.1)).setCell ⟨wo.heap.size, 4, none⟩ (.int .i64 y.2)).setCell ⟨wo.heap.size, 6, none⟩ (.bool true)) none HJ.out ⟨HB.out.os, HB.out.tape, HB.out.output, HB.out.size, fun k hk _ => HB.out.block k hk⟩ (fun r e => by cases e)
            obtain ⟨fn, tmps, assign, body, hy, hR⟩ := hY pre ⟨y.1, (0, 0), y, false, true⟩ (((wk10.setCell ⟨wo.heap.size, 3, none⟩ (.int .i64 y.1)).setCell ⟨wo.heap.size, 4, none⟩ (.int .i64 y.2)).setCell ⟨wo.heap.size, 6, none⟩ (.bool true)) hJ13 (by rw [hm2.out, List.length_append, List.length_append, List.length_cons]; omega)
            simp only [encPP, encP, encP, List.cons_append, List.nil_append] at hy
            gi_wp2
            refine ⟨fun h => (by cases h), hR.mono ?_⟩
            rintro e W3 (⟨rfl, hJ3, hk3⟩ | ⟨rfl, hJx3⟩)
            · gi_wp2
              go_roundw
              case rel => exact ⟨p, q + 1, pre ++ [⟨y.1, (0, 0), y, false, true⟩], by go_num, by go_num, by omega, by omega, hm2.out, Lib.hid hJ3, hk.trans ((Kept.below HB.out hno).trans hk3)⟩
              case measure => simp [intOf]; omega
            · gi_wp2
              refine bodyPost_ret (results_none rfl _ _ _) rfl ?_
              exact ⟨⟨_, rfl⟩, .inr ⟨pre ++ [⟨y.1, (0, 0), y, false, true⟩], ⟨_, hm2.out.symm⟩, hJx3⟩⟩
      · obtain rfl : q = b.length := by omega
        have zq : ¬ (b.length : Int) < (b.length : Int) := by omega
        have B1 : Below wo.heap.size wo (wo.alloc (.cells #[.int .i64 4096, .int .i64 0, .int .i64 0, .int .i64 0, .int .i64 0, .bool false, .bool false] 77)) := (Below.refl _ _).alloc (Nat.le_refl _) _
        have X1 : XB 77 (wo.alloc (.cells #[.int .i64 4096, .int .i64 0, .int .i64 0, .int .i64 0, .int .i64 0, .bool false, .bool false] 77)) wo.heap.size [.int .i64 4096, .int .i64 0, .int .i64 0, .int .i64 0, .int .i64 0, .bool false, .bool false] := heap_alloc_new _ _
        have s1 := B1.size
        obtain ⟨zca1, zcb1⟩ := And.intro (hCo.kept (Kept.below B1 hno)).xa (hCo.kept (Kept.below B1 hno)).xb
        have HB := Lib.hid B1
        have KC := Lib.hid (fun W' (hb : Below wo.heap.size wo W') => hCo.kept (Kept.below hb hno))
        have hda := drop_moreG h1
        have hm2 : meetsPP a b = (pre ++ [⟨a[p]!.1, a[p]!, (0, 0), true, false⟩]) ++ meetsPP (a.drop (p + 1)) (b.drop (b.length)) := by rw [hm.out, List.append_assoc]; congr 1; rw [hda, List.drop_length]; exact meets_a _ _ _ _ _ _
        replace hm2 := Lib.hid hm2
        obtain ⟨ra_, oa_, rfl, hra_, za0, za1⟩ := (KC.out _ HB.out).ra.prs h1
        have KSa := Lib.hid (fun W' (hb : Below wo.heap.size wo W') => (And.intro (KC.out W' hb).ya (And.intro (KC.out W' hb).xa (And.intro ((hb.cell (p := ⟨ra_, oa_ + p * 2, none⟩) (Nat.lt_of_lt_of_le hra_.1 hno)).trans ((HB.out.cell (p := ⟨ra_, oa_ + p * 2, none⟩) (Nat.lt_of_lt_of_le hra_.1 hno)).symm.trans za0)) ((hb.cell (p := ⟨ra_, oa_ + p * 2 + 1, none⟩) (Nat.lt_of_lt_of_le hra_.1 hno)).trans ((HB.out.cell (p := ⟨ra_, oa_ + p * 2 + 1, none⟩) (Nat.lt_of_lt_of_le hra_.1 hno)).symm.trans za1))))))
        generalize a[p]! = x at *
        clear za0 za1
        gi_wp2
        generalize (wo.alloc (.cells #[.int .i64 4096, .int .i64 0, .int .i64 0, .int .i64 0, .int .i64 0, .bool false, .bool false] 77)) = W1 at *
        clear zca1 zcb1 B1 s1
        have sX := HB.out.size
        have x00 := X1.at 0 _ rfl
        refine wpIn_wide.2 ?_
        go_region_held3 (fun W => W.cell? ⟨Ka, 0, none⟩ = some (.func (.func 32) #[] #[]) ∧ W.cell? ⟨Ba, 0, none⟩ = some (.slice (some ⟨ra_, oa_, none⟩) a.length ca) ∧ W.cell? ⟨ra_, oa_ + p * 2, none⟩ = some (.int .i64 x.1) ∧ W.cell? ⟨ra_, oa_ + p * 2 + 1, none⟩ = some (.int .i64 x.2)) (exact KSa.out _ (by repeat (first | with_reducible exact HB.out | with_reducible refine toDr ?_ | with_reducible refine toSet ?_ (Nat.le_refl _)))) ((go_at_call 32; (with_reducible refine (pairKey_any _ _).mono ?_); rintro e wk3 ⟨rfl, bk⟩; (have bb : Below wo.heap.size wo wk3 := (toDr HB.out).trans (bk.mono sX)); clear HB; have HB := Lib.hid bb; clear bb; (have XX := XB.below (show XB _ W1.drew _ _ from X1) bk); (have x0 := XX.at 0 _ rfl); (have f0 := XX.free 0)))
        all_goals
          have HB2 := Lib.hid (toSet (i := 0) (v := .int .i64 x.1) HB.out (Nat.le_refl _))
          have X32 := XX.set 0 (.int .i64 x.1)
          clear HB X1 sX x00 XX x0 f0 bk
          have HB := HB2
          clear HB2
          generalize (wk3.setCell ⟨wo.heap.size, 0, none⟩ (.int .i64 x.1)) = W32 at *
          obtain ⟨zca, zcb⟩ := And.intro (KC.out _ HB.out).xa (KC.out _ HB.out).xb
          gi_wp2
          clear zca zcb
          have sX := HB.out.size
          have KX := Lib.hid (fun W' (hb : Below W32.heap.size W32 W') => And.intro (KSa.out W' (HB.out.trans (hb.mono sX))) ((X32.below hb).at 0 _ rfl))
          have HX := Lib.hid (Below.refl W32.heap.size W32)
          refine wpIn_wide.2 ?_
          go_region_held3 (fun W => (W.cell? ⟨Ka, 0, none⟩ = some (.func (.func 32) #[] #[]) ∧ W.cell? ⟨Ba, 0, none⟩ = some (.slice (some ⟨ra_, oa_, none⟩) a.length ca) ∧ W.cell? ⟨ra_, oa_ + p * 2, none⟩ = some (.int .i64 x.1) ∧ W.cell? ⟨ra_, oa_ + p * 2 + 1, none⟩ = some (.int .i64 x.2)) ∧ W.cell? ⟨wo.heap.size, 0, none⟩ = some (.int .i64 x.1)) (exact KX.out _ (by repeat (first | with_reducible exact HX.out | with_reducible refine toDr ?_))) ((go_at_call 32; (with_reducible refine (pairKey_any _ _).mono ?_); rintro e wk7 ⟨rfl, bk⟩; (have bb : Below W32.heap.size W32 wk7 := (toDr HX.out).trans (bk.mono (Nat.le_refl _))); clear HX; have HX := Lib.hid bb; clear bb))
          have HB2 := Lib.hid (HB.out.trans (HX.out.mono sX))
          have X72 := X32.below HX.out
          clear HB HX X32 sX KX bk
          have HB := HB2
          clear HB2
          have KK := KSa.out _ HB.out
          obtain ⟨v0, v1, v2, v3⟩ := KK
          have y1 := X72.at 1 _ rfl
          have y2 := X72.at 2 _ rfl
          have y5 := X72.at 5 _ rfl
          have f1 := X72.free 1
          have f2 := X72.free 2
          have f5 := X72.free 5
          gi_wp2
          have HB2 := Lib.hid (toSet (i := 5) (v := .bool true) (toSet (i := 2) (v := .int .i64 x.2) (toSet (i := 1) (v := .int .i64 x.1) HB.out (Nat.le_refl _)) (Nat.le_refl _)) (Nat.le_refl _))
          have X82 := (((X72.set 1 (.int .i64 x.1)).set 2 (.int .i64 x.2)).set 5 (.bool true))
          clear HB X72 v0 v1 v2 v3 y1 f1 y2 f2 y5 f5
          have HB := HB2
          clear HB2
          generalize (((wk7.setCell ⟨wo.heap.size, 1, none⟩ (.int .i64 x.1)).setCell ⟨wo.heap.size, 2, none⟩ (.int .i64 x.2)).setCell ⟨wo.heap.size, 5, none⟩ (.bool true)) = W8 at *
          obtain ⟨zca, zcb⟩ := And.intro (KC.out _ HB.out).xa (KC.out _ HB.out).xb
          refine wpIn_wide.2 ?_
          go_quiet (fail)
          have hq10 := below_refl_drewN W8 nq
          have HB2 := Lib.hid (HB.out.trans (hq10.mono HB.out.size))
          have X102 := X82.below hq10
          clear HB X82 hq10 zca zcb
          have HB := HB2
          clear HB2
          generalize W8.drewN nq = wk10 at *
          have hJ13 := hJ pre wo wk10 none HJ.out ⟨HB.out.os, HB.out.tape, HB.out.output, HB.out.size, fun k hk _ => HB.out.block k hk⟩ (fun r e => by cases e)
          obtain ⟨fn, tmps, assign, body, hy, hR⟩ := hY pre ⟨x.1, x, (0, 0), true, false⟩ wk10 hJ13 (by rw [hm2.out, List.length_append, List.length_append, List.length_cons]; omega)
          simp only [encPP, encP, encP, List.cons_append, List.nil_append] at hy
          have y0 := X102.at 0 _ rfl
          have y1 := X102.at 1 _ rfl
          have y2 := X102.at 2 _ rfl
          have y3 := X102.at 3 _ rfl
          have y4 := X102.at 4 _ rfl
          have y5 := X102.at 5 _ rfl
          have y6 := X102.at 6 _ rfl
          gi_wp2
          refine ⟨fun h => (by cases h), hR.mono ?_⟩
          rintro e W3 (⟨rfl, hJ3, hk3⟩ | ⟨rfl, hJx3⟩)
          · gi_wp2
            go_roundw
            case rel => exact ⟨p + 1, b.length, pre ++ [⟨x.1, x, (0, 0), true, false⟩], by go_num, by go_num, by omega, by omega, hm2.out, Lib.hid hJ3, hk.trans ((Kept.below HB.out hno).trans hk3)⟩
            case measure => simp [intOf]; omega
          · gi_wp2
            refine bodyPost_ret (results_none rfl _ _ _) rfl ?_
            exact ⟨⟨_, rfl⟩, .inr ⟨pre ++ [⟨x.1, x, (0, 0), true, false⟩], ⟨_, hm2.out.symm⟩, hJx3⟩⟩
    · obtain rfl : p = a.length := by omega
      have zp : ¬ (a.length : Int) < (a.length : Int) := by omega
      by_cases h2 : q < b.length
      · have zq : (q : Int) < (b.length : Int) := by omega
        have B1 : Below wo.heap.size wo (wo.alloc (.cells #[.int .i64 4096, .int .i64 0, .int .i64 0, .int .i64 0, .int .i64 0, .bool false, .bool false] 77)) := (Below.refl _ _).alloc (Nat.le_refl _) _
        have X1 : XB 77 (wo.alloc (.cells #[.int .i64 4096, .int .i64 0, .int .i64 0, .int .i64 0, .int .i64 0, .bool false, .bool false] 77)) wo.heap.size [.int .i64 4096, .int .i64 0, .int .i64 0, .int .i64 0, .int .i64 0, .bool false, .bool false] := heap_alloc_new _ _
        have s1 := B1.size
        obtain ⟨zca1, zcb1⟩ := And.intro (hCo.kept (Kept.below B1 hno)).xa (hCo.kept (Kept.below B1 hno)).xb
        have HB := Lib.hid B1
        have KC := Lib.hid (fun W' (hb : Below wo.heap.size wo W') => hCo.kept (Kept.below hb hno))
        have hdb := drop_moreG h2
        have hmin : min 4096 (b[q]!.1) = b[q]!.1 := by (have := hC.bb _ (getElem!_mem h2)); omega
        have hm2 : meetsPP a b = (pre ++ [⟨b[q]!.1, (0, 0), b[q]!, false, true⟩]) ++ meetsPP (a.drop (a.length)) (b.drop (q + 1)) := by rw [hm.out, List.append_assoc]; congr 1; rw [hdb, List.drop_length]; exact meets_b _ _ _ _ _ _
        replace hm2 := Lib.hid hm2
        obtain ⟨rb_, ob_, rfl, hrb_, zb0, zb1⟩ := (KC.out _ HB.out).rb.prs h2
        have KSb := Lib.hid (fun W' (hb : Below wo.heap.size wo W') => (And.intro (KC.out W' hb).yb (And.intro (KC.out W' hb).xb (And.intro ((hb.cell (p := ⟨rb_, ob_ + q * 2, none⟩) (Nat.lt_of_lt_of_le hrb_.1 hno)).trans ((HB.out.cell (p := ⟨rb_, ob_ + q * 2, none⟩) (Nat.lt_of_lt_of_le hrb_.1 hno)).symm.trans zb0)) ((hb.cell (p := ⟨rb_, ob_ + q * 2 + 1, none⟩) (Nat.lt_of_lt_of_le hrb_.1 hno)).trans ((HB.out.cell (p := ⟨rb_, ob_ + q * 2 + 1, none⟩) (Nat.lt_of_lt_of_le hrb_.1 hno)).symm.trans zb1))))))
        generalize b[q]! = y at *
        clear zb0 zb1
        gi_wp2
        generalize (wo.alloc (.cells #[.int .i64 4096, .int .i64 0, .int .i64 0, .int .i64 0, .int .i64 0, .bool false, .bool false] 77)) = W1 at *
        clear zca1 zcb1 B1 s1
        have sX := HB.out.size
        refine wpIn_wide.2 ?_
        refine wp_region_last (fun W => (W.cell? ⟨Kb, 0, none⟩ = some (.func (.func 32) #[] #[]) ∧ W.cell? ⟨Bb, 0, none⟩ = some (.slice (some ⟨rb_, ob_, none⟩) b.length cb) ∧ W.cell? ⟨rb_, ob_ + q * 2, none⟩ = some (.int .i64 y.1) ∧ W.cell? ⟨rb_, ob_ + q * 2 + 1, none⟩ = some (.int .i64 y.2)) ∧ W.cell? ⟨wo.heap.size, 0, none⟩ = some (.int .i64 4096)) 10 (by kernel_rfl) ?_
        have hS : (fun W : World => (W.cell? ⟨Kb, 0, none⟩ = some (.func (.func 32) #[] #[]) ∧ W.cell? ⟨Bb, 0, none⟩ = some (.slice (some ⟨rb_, ob_, none⟩) b.length cb) ∧ W.cell? ⟨rb_, ob_ + q * 2, none⟩ = some (.int .i64 y.1) ∧ W.cell? ⟨rb_, ob_ + q * 2 + 1, none⟩ = some (.int .i64 y.2)) ∧ W.cell? ⟨wo.heap.size, 0, none⟩ = some (.int .i64 4096)) W1.drew := ⟨KSb.out _ (toDr HB.out), X1.at 0 _ rfl⟩
        refine wpAnyL_take (i := 0) (v := ?_) rfl (by kernel_rfl) (by kernel_rfl) (by kernel_rfl) (by kernel_rfl) (fun _ _ _ h => h) (Or.inl ⟨by rfl, ?_⟩) hS ?_
        rotate_left
        · intro w hSw
          (try dsimp only at hSw)
          go_simp
          try with_reducible rfl
        try simp only [Act.put, List.setIfInBounds_toArray]
        refine wpAnyL_take (i := 1) (v := ?_) rfl (by kernel_rfl) (by kernel_rfl) (by kernel_rfl) (by kernel_rfl) (fun _ _ _ h => h) (Or.inl ⟨by rfl, ?_⟩) hS ?_
        rotate_left
        · intro w hSw
          (try dsimp only at hSw)
          go_simp
          try with_reducible rfl
        try simp only [Act.put]
        refine wpAnyL_take (i := 2) (v := ?_) rfl (by kernel_rfl) (by kernel_rfl) (by kernel_rfl) (by kernel_rfl) (fun _ _ _ h => h) (Or.inl ⟨by rfl, ?_⟩) hS ?_
        rotate_left
        · intro w hSw
          (try dsimp only at hSw)
          go_simp
          try with_reducible rfl
        try simp only [Act.put]
        refine wpAnyL_take (i := 3) (v := ?_) rfl (by kernel_rfl) (by kernel_rfl) (by kernel_rfl) (by kernel_rfl) (fun _ _ _ h => h) (Or.inl ⟨by rfl, ?_⟩) hS ?_
        rotate_left
        · intro w hSw
          (try dsimp only at hSw)
          go_simp
          try with_reducible rfl
        try simp only [Act.put]
        refine wpAnyL_take (i := 4) (v := ?_) rfl (by kernel_rfl) (by kernel_rfl) (by kernel_rfl) (by kernel_rfl) (fun _ _ _ h => h) (Or.inl ⟨by rfl, ?_⟩) hS ?_
        rotate_left
        · intro w hSw
          (try dsimp only at hSw)
          go_simp
          try with_reducible rfl
        try simp only [Act.put]
        refine wpAnyL_take (i := 5) (v := ?_) rfl (by kernel_rfl) (by kernel_rfl) (by kernel_rfl) (by kernel_rfl) (fun _ _ _ h => h) (Or.inl ⟨by rfl, ?_⟩) hS ?_
        rotate_left
        · intro w hSw
          (try dsimp only at hSw)
          go_simp
          try with_reducible rfl
        try simp only [Act.put]
        refine wpAnyL_take (i := 6) (v := ?_) rfl (by kernel_rfl) (by kernel_rfl) (by kernel_rfl) (by kernel_rfl) (fun _ _ _ h => h) (Or.inl ⟨by rfl, ?_⟩) hS ?_
        rotate_left
        · intro w hSw
          (try dsimp only at hSw)
          go_simp
          try with_reducible rfl
        try simp only [Act.put]
        refine wpAnyL_ready (rs := [7]) (by kernel_rfl) (by simp) (AllReadyL.cons rfl (fun K hK => ?_) AllReadyL.nil)
        go_simp
        go_wp2_with (go_at_call 32; (with_reducible refine (pairKey_any _ _).mono ?_); rintro e wk4 ⟨rfl, bk⟩; (have bb : Below wo.heap.size wo wk4 := (toDr HB.out).trans (bk.mono sX)); (have XX := XB.below (show XB _ W1.drew _ _ from X1) bk); (have x0 := XX.at 0 _ rfl); (have f0 := XX.free 0))
        have hS2 : (fun W : World => (W.cell? ⟨Kb, 0, none⟩ = some (.func (.func 32) #[] #[]) ∧ W.cell? ⟨Bb, 0, none⟩ = some (.slice (some ⟨rb_, ob_, none⟩) b.length cb) ∧ W.cell? ⟨rb_, ob_ + q * 2, none⟩ = some (.int .i64 y.1) ∧ W.cell? ⟨rb_, ob_ + q * 2 + 1, none⟩ = some (.int .i64 y.2)) ∧ W.cell? ⟨wo.heap.size, 0, none⟩ = some (.int .i64 4096)) wk4 := ⟨KSb.out _ bb, x0⟩
        refine hK.out _ _ (.inr hS2) ?_
        clear hK K hS
        try simp only [Act.put, List.setIfInBounds_toArray, List.set_cons_zero, List.set_cons_succ]
        refine wpAnyL_ready (rs := [8]) (by kernel_rfl) (by simp) (AllReadyL.cons rfl (fun K hK => ?_) AllReadyL.nil)
        go_simp
        refine hK.out _ _ (.inr hS2) ?_
        clear hK K
        try simp only [Act.put, List.setIfInBounds_toArray, List.set_cons_zero, List.set_cons_succ]
        refine wpAnyL_take (i := 9) (v := ?_) rfl (by kernel_rfl) (by kernel_rfl) (by kernel_rfl) (by kernel_rfl) (fun _ _ _ h => h) (Or.inl ⟨by rfl, ?_⟩) hS2 ?_
        rotate_left
        · intro w hSw
          (try dsimp only at hSw)
          go_simp
          try with_reducible rfl
        try simp only [Act.put, List.setIfInBounds_toArray]
        clear hS2
        refine wpAnyL_ready (rs := [10]) (by kernel_rfl) (by simp) (AllReadyL.cons rfl (fun K hK => ?_) AllReadyL.nil)
        go_simp
        refine hK.out _ _ (.inl rfl) ?_
        clear hK K
        try simp only [Act.put, List.setIfInBounds_toArray, List.set_cons_zero, List.set_cons_succ]
        refine wpAnyL_done (by kernel_rfl) ?_ _
        have HB2 := Lib.hid (toSet (i := 0) (v := .int .i64 y.1) bb (Nat.le_refl _))
        have X42 := XX.set 0 (.int .i64 y.1)
        clear HB X1 sX XX x0 f0 bk bb
        have HB := HB2
        clear HB2
        try rw [hmin]
        generalize (wk4.setCell ⟨wo.heap.size, 0, none⟩ (.int .i64 y.1)) = W42 at *
        obtain ⟨zca, zcb⟩ := And.intro (KC.out _ HB.out).xa (KC.out _ HB.out).xb
        gi_wp2
        clear zca zcb
        obtain ⟨zca, zcb⟩ := And.intro (KC.out _ HB.out).xa (KC.out _ HB.out).xb
        refine wpIn_wide.2 ?_
        go_quiet (fail)
        have hq7 := below_refl_drewN W42 nq
        have HB2 := Lib.hid (HB.out.trans (hq7.mono HB.out.size))
        have X72 := X42.below hq7
        clear HB X42 hq7 zca zcb
        have HB := HB2
        clear HB2
        generalize W42.drewN nq = wk7 at *
        gi_wp2
        have sX := HB.out.size
        have KX := Lib.hid (fun W' (hb : Below wk7.heap.size wk7 W') => And.intro (KSb.out W' (HB.out.trans (hb.mono sX))) ((X72.below hb).at 0 _ rfl))
        have HX := Lib.hid (Below.refl wk7.heap.size wk7)
        refine wpIn_wide.2 ?_
        go_region_held3 (fun W => (W.cell? ⟨Kb, 0, none⟩ = some (.func (.func 32) #[] #[]) ∧ W.cell? ⟨Bb, 0, none⟩ = some (.slice (some ⟨rb_, ob_, none⟩) b.length cb) ∧ W.cell? ⟨rb_, ob_ + q * 2, none⟩ = some (.int .i64 y.1) ∧ W.cell? ⟨rb_, ob_ + q * 2 + 1, none⟩ = some (.int .i64 y.2)) ∧ W.cell? ⟨wo.heap.size, 0, none⟩ = some (.int .i64 y.1)) (exact KX.out _ (by repeat (first | with_reducible exact HX.out | with_reducible refine toDr ?_))) ((go_at_call 32; (with_reducible refine (pairKey_any _ _).mono ?_); rintro e wk10 ⟨rfl, bk⟩; (have bb : Below wk7.heap.size wk7 wk10 := (toDr HX.out).trans (bk.mono (Nat.le_refl _))); clear HX; have HX := Lib.hid bb; clear bb))
        have HB2 := Lib.hid (HB.out.trans (HX.out.mono sX))
        have X102 := X72.below HX.out
        clear HB HX X72 sX KX bk
        have HB := HB2
        clear HB2
        have KK := KSb.out _ HB.out
        obtain ⟨v0, v1, v2, v3⟩ := KK
        have y0 := X102.at 0 _ rfl
        have y1 := X102.at 1 _ rfl
        have y2 := X102.at 2 _ rfl
        have y3 := X102.at 3 _ rfl
        have y4 := X102.at 4 _ rfl
        have y5 := X102.at 5 _ rfl
        have y6 := X102.at 6 _ rfl
        have f3 := X102.free 3
        have f4 := X102.free 4
        have f6 := X102.free 6
        have HB2 := Lib.hid (toSet (i := 6) (v := .bool true) (toSet (i := 4) (v := .int .i64 y.2) (toSet (i := 3) (v := .int .i64 y.1) HB.out (Nat.le_refl _)) (Nat.le_refl _)) (Nat.le_refl _))
        clear HB
        have HB := HB2
        clear HB2
        have hJ13 := hJ pre wo (((wk10.setCell ⟨wo.heap.size, 3, none⟩ (.int .i64 y.1)).setCell ⟨wo.heap.size, 4, none⟩ (.int .i64 y.2)).setCell ⟨wo.heap.size, 6, none⟩ (.bool true)) none HJ.out ⟨HB.out.os, HB.out.tape, HB.out.output, HB.out.size, fun k hk _ => HB.out.block k hk⟩ (fun r e => by cases e)
        obtain ⟨fn, tmps, assign, body, hy, hR⟩ := hY pre ⟨y.1, (0, 0), y, false, true⟩ (((wk10.setCell ⟨wo.heap.size, 3, none⟩ (.int .i64 y.1)).setCell ⟨wo.heap.size, 4, none⟩ (.int .i64 y.2)).setCell ⟨wo.heap.size, 6, none⟩ (.bool true)) hJ13 (by rw [hm2.out, List.length_append, List.length_append, List.length_cons]; omega)
        simp only [encPP, encP, encP, List.cons_append, List.nil_append] at hy
        gi_wp2
        refine ⟨fun h => (by cases h), hR.mono ?_⟩
        rintro e W3 (⟨rfl, hJ3, hk3⟩ | ⟨rfl, hJx3⟩)
        · gi_wp2
          go_roundw
          case rel => exact ⟨a.length, q + 1, pre ++ [⟨y.1, (0, 0), y, false, true⟩], by go_num, by go_num, by omega, by omega, hm2.out, Lib.hid hJ3, hk.trans ((Kept.below HB.out hno).trans hk3)⟩
          case measure => simp [intOf]; omega
        · gi_wp2
          refine bodyPost_ret (results_none rfl _ _ _) rfl ?_
          exact ⟨⟨_, rfl⟩, .inr ⟨pre ++ [⟨y.1, (0, 0), y, false, true⟩], ⟨_, hm2.out.symm⟩, hJx3⟩⟩
      · obtain rfl : q = b.length := by omega
        have zq : ¬ (b.length : Int) < (b.length : Int) := by omega
        gi_wp2
        go_end0
        exact ⟨⟨_, rfl⟩, .inl (by rw [hm.out, List.drop_length, List.drop_length]; simp only [meetsPP, meets_nil, List.append_nil]; exact HJ.out)⟩
end Go.Proofs.Ytnjlbgnojlmmlaa
