/-
  DELTA: the document's Between (written by wip/tools/mkDlR.py).
-/
import Derived.Test.YtmifjippdlmpiaaDlY
namespace Go.Proofs.Ytmifjippdlmpiaa
open Go.RowKit Go.Deep Go.Shelf

def RBPost (w : World) (l : List Tn) (z : Int) (e : Ending) (w' : World) : Prop := ∃ a n c, e = .returned (.tuple #[.slice a n c, .int .i64 z]) ∧ RArg encT 5 w' a n c l ∧ Below w.heap.size w w'
set_option maxRecDepth 100000 in
set_option maxHeartbeats 4000000 in
theorem rbetween_any (aa ab : Option Addr) (na nb ca cb : Nat) (a b : List Pr) (w : World) (ha : RArg encP 2 w aa na ca a) (hb : RArg encP 2 w ab nb cb b) (hla : a.length ≤ 4096) (hlb : b.length ≤ 4096) :
    Calls Try.prog 14 #[.slice aa na ca, .slice ab nb cb] w (RBPost w (betw a b).1 (betw a b).2) := by
  obtain rfl := ha.1
  obtain rfl := hb.1
  obtain ⟨i0, hi, hz0, hz1, hz2⟩ := info_parts Try.infoRTurn
  have CA := rtcheck_any aa a.length ca a w ha
  have CB := fun w' (h : Below w.heap.size w w') => rtcheck_any ab b.length cb b w' (hb.below h)
  unfold betw
  cases hta : tblB a with
  | false =>
    rw [hta] at CA
    go_enter Try.func14, Try.ntmps14
    go_wp2_with (go_at_call 43; (with_reducible refine CA.mono ?_); rintro e w1 ⟨rfl, b1⟩)
    refine bodyPost_ret (results_tmp2 rfl _ _ _) rfl ?_
    exact ⟨none, 0, 0, rfl, RArg.nil _ _ _, b1⟩
  | true =>
    rw [hta] at CA
    cases htb : tblB b with
    | false =>
      rw [htb] at CB
      go_enter Try.func14, Try.ntmps14
      go_wp2_with (first
        | (go_at_call 43; (with_reducible refine CA.mono ?_); rintro e w1 ⟨rfl, b1⟩; clear CA)
        | (go_at_call 43; (with_reducible refine (CB _ b1).mono ?_); rintro e w2 ⟨rfl, b2⟩))
      refine bodyPost_ret (results_tmp2 rfl _ _ _) rfl ?_
      exact ⟨none, 0, 0, rfl, RArg.nil _ _ _, below_next b1 b2⟩
    | true =>
      rw [htb] at CB
      have hml : (meetsPP a b).length ≤ 8192 := Nat.le_trans (meets_len _ _ _ _ a b) (by omega)
      have hbi0 : BI a b 0 0 (-1) := ⟨hta, htb, by simp, by simp⟩
      have LB := Lib.hid (tblB_low htb)
      go_enter Try.func14, Try.ntmps14
      go_wp2_with (first
        | (go_at_call 43; (with_reducible refine CA.mono ?_); rintro e w1 ⟨rfl, b1⟩; clear CA)
        | (go_at_call 43; (with_reducible refine (CB _ b1).mono ?_); rintro e w2 ⟨rfl, b2⟩; have B2 := below_next b1 b2))
      clear hta htb CB
      go_loopw [6, 7, 8] (fun v i k wr => ∃ (p q : Nat) (e : Int) (pre : List (Mt Pr Pr)), i = .int .i64 (p : Int) ∧ k = .int .i64 (q : Int) ∧ p ≤ a.length ∧ q ≤ b.length ∧ Hid (BI a b p q e) ∧ Hid (meetsPP a b = pre ++ meetsPP (a.drop p) (b.drop q)) ∧ Hid (OwnsR encT 5 88 wr w.heap.size v (betwS pre)) ∧ Below w.heap.size w wr)
        (fun _ i k _ => (a.length - (intOf i).toNat) + (b.length - (intOf k).toNat))
      case atStart => exact ⟨0, 0, -1, [], rfl, rfl, Nat.zero_le _, Nat.zero_le _, Lib.hid hbi0, Lib.hid (by simp), Lib.hid (OwnsR.nil _ _ _ _ _), B2⟩
      case round =>
        obtain ⟨p, q, e0, pre, rfl, rfl, hp, hq, hbi, hm, HO, bw⟩ := hrel
        by_cases h1 : p < a.length
        · have zp : (p : Int) < (a.length : Int) := by omega
          by_cases h2 : q < b.length
          · have zq : (q : Int) < (b.length : Int) := by omega
            rcases Int.lt_trichotomy a[p]!.1 b[q]!.1 with ho | ho | ho
            · skip
              have KA := Lib.hid (fun W (h : Below w.heap.size w W) => (ha.below h).prs h1)
              have KB := Lib.hid (fun W (h : Below w.heap.size w W) => (hb.below h).prs h2)
              have hda := drop_moreG h1
              obtain ⟨ra, oa, rfl, _, ga0, ga1⟩ := (ha.below bw).prs h1
              have hdb := drop_moreG h2
              obtain ⟨rb, ob, rfl, _, gb0, gb1⟩ := (hb.below bw).prs h2
              have htb := hbi.out.tb
              rw [hdb] at htb
              obtain ⟨ek, hbi2, hga, hgb⟩ := hbi.out.na h1 rfl (by rw [hdb]; exact (tblF_cons htb).2.2.2 _ ho)
              have hm2 : meetsPP a b = (pre ++ [⟨a[p]!.1, a[p]!, (0, 0), true, false⟩]) ++ meetsPP (a.drop (p + 1)) (b.drop (q)) := by rw [hm.out, hda, hdb, List.append_assoc]; congr 1; exact meets_lt (α := Pr) (β := Pr) (·.1) (·.1) (0, 0) (0, 0) _ _ ho
              replace hm2 := Lib.hid hm2
              replace hbi2 := Lib.hid hbi2
              have GA : ∀ W, Below w.heap.size w W → Calls Try.prog 32 #[.slice (some ⟨ra, oa, none⟩) a.length ca, .int .i64 a[p]!.1] W (Gives W (.agg #[.int .i64 a[p]!.2, .bool true])) := fun W h => by have := rget_any _ _ _ a (a[p]!.1) W (ha.below h); rw [hga] at this; exact this
              have GB : ∀ W, Below w.heap.size w W → Calls Try.prog 32 #[.slice (some ⟨rb, ob, none⟩) b.length cb, .int .i64 a[p]!.1] W (Gives W (.agg #[.int .i64 0, .bool false])) := fun W h => by have := rget_any _ _ _ b (a[p]!.1) W (hb.below h); rw [hgb] at this; exact this
              have hpl : (betwS pre).length ≤ 8192 := by
                have h3 := betwS_len pre
                have h4 : pre.length ≤ (meetsPP a b).length := by rw [hm.out, List.length_append]; omega
                omega
              clear hga hgb ek hm hbi hda hdb htb
              generalize a[p]! = x at *
              generalize b[q]! = y at *
              have d1 : decide (y.1 < x.1) = false := decide_eq_false (by omega)
              have d2 : ¬ y.1 < x.1 := by omega
              have d3 : (y.1 == x.1) = false := beq_no (by omega)
              have d4 : ¬ y.1 = x.1 := by omega
              clear ho
              have NE : ∀ w, (binOp .neq 59 (.agg #[.int .i64 x.2, .bool true]) (.agg #[.int .i64 0, .bool false])).run Try.prog w = .ok (.bool true) w := fun w => (neqCell x.2 0 true false w).trans (by simp)
              have HO1 := fun W (h : Below wr.heap.size wr W) => OwnsR.below HO.out h
              replace HO1 := Lib.hid HO1
              replace GA := Lib.hid GA
              replace GB := Lib.hid GB
              go_wp2_with (first
                | (go_at_call 32; (with_reducible refine (GA.out _ bw).mono ?_); rintro e w2 ⟨rfl, b2⟩; (have bw2 := below_next bw b2))
                | (go_at_call 32; (with_reducible refine (GB.out _ bw2).mono ?_); rintro e w3 ⟨rfl, b3⟩; (have bw3 := below_next bw2 b3); (have HO3 := HO1.out _ (below_next b2 b3)))
                | (at_builtin; refine wpList_append_own _ rfl _ _ 29 rfl w.heap.size 88 i0 (.agg #[.int .i64 0, .int .i64 0, .bool false, .int .i64 0, .bool false]) 5 40 Try.underlying29 hi hz0 hz1 hz2 rfl (by decide) _ _ _ rfl (World.ownsRow.alloc (World.ownsRow.alloc (World.ownsRow.alloc HO3 _) _) _) ⟨w3.heap.size + 1 + 1, 0, none⟩ 1 1 [.int .i64 x.1, .int .i64 x.2, .bool true, .int .i64 0, .bool false] rfl rfl ?c1 ?c2 ?c3 ?c4 ?c5 ?_))
              case c1 => exact cells_one_new5 _ _ _ _ _ _ _ _ (by simp)
              case c2 => intro u hu; simp at hu; rcases hu with rfl | rfl | rfl | rfl | rfl <;> rfl
              case c3 => unfold maxLen; omega
              case c4 => omega
              case c5 => have := bw3.size; simp; omega
              intro v' w9 hown hgrow _
              have bw9 : Below w.heap.size w w9 := (((bw3.alloc bw3.size _).alloc (by have := bw3.size; simp; omega) _).alloc (by have := bw3.size; simp; omega) _).grown hgrow (by have := bw3.size; simp; omega) (fun j hj => (World.ownsRow.lt HO3 j hj).1)
              have HO9 := OwnsR.snoc (enc := encT) (l := betwS pre) (x := ((x.1, (x.2, true), (0, false)) : Tn)) rfl hown
              rw [show betwS pre ++ [((x.1, (x.2, true), (0, false)) : Tn)] = betwS (pre ++ [⟨x.1, x, (0, 0), true, false⟩]) from by rw [betwS_snoc]; unfold stepB turnS; rw [if_neg (by simp)]] at HO9
              replace HO9 := Lib.hid HO9
              clear hown hgrow HO3 HO HO1
              clear NE
              obtain ⟨_, _, qa, _, ga9, _⟩ := KA.out _ bw9
              cases qa
              obtain ⟨_, _, qb, _, gb9, _⟩ := KB.out _ bw9
              cases qb
              go_wp2
              go_roundw
              case rel => exact ⟨p + 1, q, _, pre ++ [⟨x.1, x, (0, 0), true, false⟩], by go_num, by go_num, by omega, by omega, hbi2, hm2, HO9, bw9⟩
              case measure => simp [intOf]; omega
            · by_cases hxy0 : a[p]!.2 = b[q]!.2
              · have hxy := Lib.hid hxy0
                clear hxy0
                have KA := Lib.hid (fun W (h : Below w.heap.size w W) => (ha.below h).prs h1)
                have KB := Lib.hid (fun W (h : Below w.heap.size w W) => (hb.below h).prs h2)
                have hda := drop_moreG h1
                obtain ⟨ra, oa, rfl, _, ga0, ga1⟩ := (ha.below bw).prs h1
                have hdb := drop_moreG h2
                obtain ⟨rb, ob, rfl, _, gb0, gb1⟩ := (hb.below bw).prs h2
                obtain ⟨ek, hbi2, hga, hgb⟩ := hbi.out.nab h1 h2 rfl rfl ho
                have hm2 : meetsPP a b = (pre ++ [⟨a[p]!.1, a[p]!, b[q]!, true, true⟩]) ++ meetsPP (a.drop (p + 1)) (b.drop (q + 1)) := by rw [hm.out, hda, hdb, List.append_assoc]; congr 1; exact meets_eq (α := Pr) (β := Pr) (·.1) (·.1) (0, 0) (0, 0) _ _ ho
                replace hm2 := Lib.hid hm2
                replace hbi2 := Lib.hid hbi2
                have GA : ∀ W, Below w.heap.size w W → Calls Try.prog 32 #[.slice (some ⟨ra, oa, none⟩) a.length ca, .int .i64 a[p]!.1] W (Gives W (.agg #[.int .i64 a[p]!.2, .bool true])) := fun W h => by have := rget_any _ _ _ a (a[p]!.1) W (ha.below h); rw [hga] at this; exact this
                have GB : ∀ W, Below w.heap.size w W → Calls Try.prog 32 #[.slice (some ⟨rb, ob, none⟩) b.length cb, .int .i64 a[p]!.1] W (Gives W (.agg #[.int .i64 b[q]!.2, .bool true])) := fun W h => by have := rget_any _ _ _ b (a[p]!.1) W (hb.below h); rw [hgb] at this; exact this
                have hpl : (betwS pre).length ≤ 8192 := by
                  have h3 := betwS_len pre
                  have h4 : pre.length ≤ (meetsPP a b).length := by rw [hm.out, List.length_append]; omega
                  omega
                clear hga hgb ek hm hbi hda hdb
                generalize a[p]! = x at *
                generalize b[q]! = y at *
                have d1 : decide (y.1 < x.1) = false := decide_eq_false (by omega)
                have d2 : ¬ y.1 < x.1 := by omega
                have d3 : (y.1 == x.1) = true := beq_yes ho.symm
                clear ho
                have NE : ∀ w, (binOp .neq 59 (.agg #[.int .i64 x.2, .bool true]) (.agg #[.int .i64 y.2, .bool true])).run Try.prog w = .ok (.bool false) w := fun w => (neqCell x.2 y.2 true true w).trans (by simp [hxy.out])
                have HO1 := fun W (h : Below wr.heap.size wr W) => OwnsR.below HO.out h
                replace HO1 := Lib.hid HO1
                replace GA := Lib.hid GA
                replace GB := Lib.hid GB
                go_wp2_with (first
                  | (go_at_call 32; (with_reducible refine (GA.out _ bw).mono ?_); rintro e w2 ⟨rfl, b2⟩; (have bw2 := below_next bw b2))
                  | (go_at_call 32; (with_reducible refine (GB.out _ bw2).mono ?_); rintro e w3 ⟨rfl, b3⟩; (have bw3 := below_next bw2 b3); (have HO3 := HO1.out _ (below_next b2 b3)); (have bw9 := below_next bw3 (((Below.refl w3.heap.size w3).alloc (Nat.le_refl _) (.cells #[.int .i64 x.2, .bool true] 59)).alloc (by simp) (.cells #[.int .i64 y.2, .bool true] 59))); obtain ⟨_, _, qa, _, ga9, _⟩ := KA.out _ bw9; cases qa; obtain ⟨_, _, qb, _, gb9, _⟩ := KB.out _ bw9; cases qb))
                have HO9 := World.ownsRow.alloc (World.ownsRow.alloc HO3 (.cells #[.int .i64 x.2, .bool true] 59)) (.cells #[.int .i64 y.2, .bool true] 59)
                rw [show betwS pre = betwS (pre ++ [⟨x.1, x, y, true, true⟩]) from by rw [betwS_snoc]; unfold stepB turnS; rw [if_pos (by simp [hxy.out])]] at HO9
                have HO10 : OwnsR encT 5 88 ((w3.alloc (.cells #[.int .i64 x.2, .bool true] 59)).alloc (.cells #[.int .i64 y.2, .bool true] 59)) w.heap.size _ (betwS (pre ++ [⟨x.1, x, y, true, true⟩])) := HO9
                replace HO9 := Lib.hid HO10
                clear HO10
                clear NE
                go_roundw
                case rel => exact ⟨p + 1, q + 1, _, pre ++ [⟨x.1, x, y, true, true⟩], by go_num, by go_num, by omega, by omega, hbi2, hm2, HO9, bw9⟩
                case measure => simp [intOf]; omega
              · have hxy := Lib.hid hxy0
                clear hxy0
                have KA := Lib.hid (fun W (h : Below w.heap.size w W) => (ha.below h).prs h1)
                have KB := Lib.hid (fun W (h : Below w.heap.size w W) => (hb.below h).prs h2)
                have hda := drop_moreG h1
                obtain ⟨ra, oa, rfl, _, ga0, ga1⟩ := (ha.below bw).prs h1
                have hdb := drop_moreG h2
                obtain ⟨rb, ob, rfl, _, gb0, gb1⟩ := (hb.below bw).prs h2
                obtain ⟨ek, hbi2, hga, hgb⟩ := hbi.out.nab h1 h2 rfl rfl ho
                have hm2 : meetsPP a b = (pre ++ [⟨a[p]!.1, a[p]!, b[q]!, true, true⟩]) ++ meetsPP (a.drop (p + 1)) (b.drop (q + 1)) := by rw [hm.out, hda, hdb, List.append_assoc]; congr 1; exact meets_eq (α := Pr) (β := Pr) (·.1) (·.1) (0, 0) (0, 0) _ _ ho
                replace hm2 := Lib.hid hm2
                replace hbi2 := Lib.hid hbi2
                have GA : ∀ W, Below w.heap.size w W → Calls Try.prog 32 #[.slice (some ⟨ra, oa, none⟩) a.length ca, .int .i64 a[p]!.1] W (Gives W (.agg #[.int .i64 a[p]!.2, .bool true])) := fun W h => by have := rget_any _ _ _ a (a[p]!.1) W (ha.below h); rw [hga] at this; exact this
                have GB : ∀ W, Below w.heap.size w W → Calls Try.prog 32 #[.slice (some ⟨rb, ob, none⟩) b.length cb, .int .i64 a[p]!.1] W (Gives W (.agg #[.int .i64 b[q]!.2, .bool true])) := fun W h => by have := rget_any _ _ _ b (a[p]!.1) W (hb.below h); rw [hgb] at this; exact this
                have hpl : (betwS pre).length ≤ 8192 := by
                  have h3 := betwS_len pre
                  have h4 : pre.length ≤ (meetsPP a b).length := by rw [hm.out, List.length_append]; omega
                  omega
                clear hga hgb ek hm hbi hda hdb
                generalize a[p]! = x at *
                generalize b[q]! = y at *
                have d1 : decide (y.1 < x.1) = false := decide_eq_false (by omega)
                have d2 : ¬ y.1 < x.1 := by omega
                have d3 : (y.1 == x.1) = true := beq_yes ho.symm
                clear ho
                have NE : ∀ w, (binOp .neq 59 (.agg #[.int .i64 x.2, .bool true]) (.agg #[.int .i64 y.2, .bool true])).run Try.prog w = .ok (.bool true) w := fun w => (neqCell x.2 y.2 true true w).trans (by simp [hxy.out])
                have HO1 := fun W (h : Below wr.heap.size wr W) => OwnsR.below HO.out h
                replace HO1 := Lib.hid HO1
                replace GA := Lib.hid GA
                replace GB := Lib.hid GB
                go_wp2_with (first
                  | (go_at_call 32; (with_reducible refine (GA.out _ bw).mono ?_); rintro e w2 ⟨rfl, b2⟩; (have bw2 := below_next bw b2))
                  | (go_at_call 32; (with_reducible refine (GB.out _ bw2).mono ?_); rintro e w3 ⟨rfl, b3⟩; (have bw3 := below_next bw2 b3); (have HO3 := HO1.out _ (below_next b2 b3)))
                  | (at_builtin; refine wpList_append_own _ rfl _ _ 29 rfl w.heap.size 88 i0 (.agg #[.int .i64 0, .int .i64 0, .bool false, .int .i64 0, .bool false]) 5 40 Try.underlying29 hi hz0 hz1 hz2 rfl (by decide) _ _ _ rfl (World.ownsRow.alloc (World.ownsRow.alloc (World.ownsRow.alloc HO3 _) _) _) ⟨w3.heap.size + 1 + 1, 0, none⟩ 1 1 [.int .i64 x.1, .int .i64 x.2, .bool true, .int .i64 y.2, .bool true] rfl rfl ?c1 ?c2 ?c3 ?c4 ?c5 ?_))
                case c1 => exact cells_one_new5 _ _ _ _ _ _ _ _ (by simp)
                case c2 => intro u hu; simp at hu; rcases hu with rfl | rfl | rfl | rfl | rfl <;> rfl
                case c3 => unfold maxLen; omega
                case c4 => omega
                case c5 => have := bw3.size; simp; omega
                intro v' w9 hown hgrow _
                have bw9 : Below w.heap.size w w9 := (((bw3.alloc bw3.size _).alloc (by have := bw3.size; simp; omega) _).alloc (by have := bw3.size; simp; omega) _).grown hgrow (by have := bw3.size; simp; omega) (fun j hj => (World.ownsRow.lt HO3 j hj).1)
                have HO9 := OwnsR.snoc (enc := encT) (l := betwS pre) (x := ((x.1, (x.2, true), (y.2, true)) : Tn)) rfl hown
                rw [show betwS pre ++ [((x.1, (x.2, true), (y.2, true)) : Tn)] = betwS (pre ++ [⟨x.1, x, y, true, true⟩]) from by rw [betwS_snoc]; unfold stepB turnS; rw [if_neg (by simp [hxy.out])]] at HO9
                replace HO9 := Lib.hid HO9
                clear hown hgrow HO3 HO HO1
                clear NE
                obtain ⟨_, _, qa, _, ga9, _⟩ := KA.out _ bw9
                cases qa
                obtain ⟨_, _, qb, _, gb9, _⟩ := KB.out _ bw9
                cases qb
                go_wp2
                go_roundw
                case rel => exact ⟨p + 1, q + 1, _, pre ++ [⟨x.1, x, y, true, true⟩], by go_num, by go_num, by omega, by omega, hbi2, hm2, HO9, bw9⟩
                case measure => simp [intOf]; omega
            · skip
              have KA := Lib.hid (fun W (h : Below w.heap.size w W) => (ha.below h).prs h1)
              have KB := Lib.hid (fun W (h : Below w.heap.size w W) => (hb.below h).prs h2)
              have hda := drop_moreG h1
              obtain ⟨ra, oa, rfl, _, ga0, ga1⟩ := (ha.below bw).prs h1
              have hdb := drop_moreG h2
              obtain ⟨rb, ob, rfl, _, gb0, gb1⟩ := (hb.below bw).prs h2
              have hta := hbi.out.ta
              rw [hda] at hta
              obtain ⟨ek, hbi2, hga, hgb⟩ := hbi.out.nb h2 rfl (by rw [hda]; exact (tblF_cons hta).2.2.2 _ ho)
              have hm2 : meetsPP a b = (pre ++ [⟨b[q]!.1, (0, 0), b[q]!, false, true⟩]) ++ meetsPP (a.drop (p)) (b.drop (q + 1)) := by rw [hm.out, hda, hdb, List.append_assoc]; congr 1; exact meets_gt (α := Pr) (β := Pr) (·.1) (·.1) (0, 0) (0, 0) _ _ ho
              replace hm2 := Lib.hid hm2
              replace hbi2 := Lib.hid hbi2
              have GA : ∀ W, Below w.heap.size w W → Calls Try.prog 32 #[.slice (some ⟨ra, oa, none⟩) a.length ca, .int .i64 b[q]!.1] W (Gives W (.agg #[.int .i64 0, .bool false])) := fun W h => by have := rget_any _ _ _ a (b[q]!.1) W (ha.below h); rw [hga] at this; exact this
              have GB : ∀ W, Below w.heap.size w W → Calls Try.prog 32 #[.slice (some ⟨rb, ob, none⟩) b.length cb, .int .i64 b[q]!.1] W (Gives W (.agg #[.int .i64 b[q]!.2, .bool true])) := fun W h => by have := rget_any _ _ _ b (b[q]!.1) W (hb.below h); rw [hgb] at this; exact this
              have hpl : (betwS pre).length ≤ 8192 := by
                have h3 := betwS_len pre
                have h4 : pre.length ≤ (meetsPP a b).length := by rw [hm.out, List.length_append]; omega
                omega
              clear hga hgb ek hm hbi hda hdb hta
              generalize a[p]! = x at *
              generalize b[q]! = y at *
              have d3 : (x.1 == y.1) = false := beq_no (by omega)
              have d4 : ¬ x.1 = y.1 := by omega
              have NE : ∀ w, (binOp .neq 59 (.agg #[.int .i64 0, .bool false]) (.agg #[.int .i64 y.2, .bool true])).run Try.prog w = .ok (.bool true) w := fun w => (neqCell 0 y.2 false true w).trans (by simp)
              have HO1 := fun W (h : Below wr.heap.size wr W) => OwnsR.below HO.out h
              replace HO1 := Lib.hid HO1
              replace GA := Lib.hid GA
              replace GB := Lib.hid GB
              go_wp2_with (first
                | (go_at_call 32; (with_reducible refine (GA.out _ bw).mono ?_); rintro e w2 ⟨rfl, b2⟩; (have bw2 := below_next bw b2))
                | (go_at_call 32; (with_reducible refine (GB.out _ bw2).mono ?_); rintro e w3 ⟨rfl, b3⟩; (have bw3 := below_next bw2 b3); (have HO3 := HO1.out _ (below_next b2 b3)))
                | (at_builtin; refine wpList_append_own _ rfl _ _ 29 rfl w.heap.size 88 i0 (.agg #[.int .i64 0, .int .i64 0, .bool false, .int .i64 0, .bool false]) 5 40 Try.underlying29 hi hz0 hz1 hz2 rfl (by decide) _ _ _ rfl (World.ownsRow.alloc (World.ownsRow.alloc (World.ownsRow.alloc HO3 _) _) _) ⟨w3.heap.size + 1 + 1, 0, none⟩ 1 1 [.int .i64 y.1, .int .i64 0, .bool false, .int .i64 y.2, .bool true] rfl rfl ?c1 ?c2 ?c3 ?c4 ?c5 ?_))
              case c1 => exact cells_one_new5 _ _ _ _ _ _ _ _ (by simp)
              case c2 => intro u hu; simp at hu; rcases hu with rfl | rfl | rfl | rfl | rfl <;> rfl
              case c3 => unfold maxLen; omega
              case c4 => omega
              case c5 => have := bw3.size; simp; omega
              intro v' w9 hown hgrow _
              have bw9 : Below w.heap.size w w9 := (((bw3.alloc bw3.size _).alloc (by have := bw3.size; simp; omega) _).alloc (by have := bw3.size; simp; omega) _).grown hgrow (by have := bw3.size; simp; omega) (fun j hj => (World.ownsRow.lt HO3 j hj).1)
              have HO9 := OwnsR.snoc (enc := encT) (l := betwS pre) (x := ((y.1, (0, false), (y.2, true)) : Tn)) rfl hown
              rw [show betwS pre ++ [((y.1, (0, false), (y.2, true)) : Tn)] = betwS (pre ++ [⟨y.1, (0, 0), y, false, true⟩]) from by rw [betwS_snoc]; unfold stepB turnS; rw [if_neg (by simp)]] at HO9
              replace HO9 := Lib.hid HO9
              clear hown hgrow HO3 HO HO1
              clear NE
              obtain ⟨_, _, qa, _, ga9, _⟩ := KA.out _ bw9
              cases qa
              obtain ⟨_, _, qb, _, gb9, _⟩ := KB.out _ bw9
              cases qb
              go_wp2
              go_roundw
              case rel => exact ⟨p, q + 1, _, pre ++ [⟨y.1, (0, 0), y, false, true⟩], by go_num, by go_num, by omega, by omega, hbi2, hm2, HO9, bw9⟩
              case measure => simp [intOf]; omega
          · obtain rfl : q = b.length := by omega
            have zq : ¬ (b.length : Int) < (b.length : Int) := by omega
            have KA := Lib.hid (fun W (h : Below w.heap.size w W) => (ha.below h).prs h1)
            have hda := drop_moreG h1
            obtain ⟨ra, oa, rfl, _, ga0, ga1⟩ := (ha.below bw).prs h1
            obtain ⟨ek, hbi2, hga, hgb⟩ := hbi.out.na h1 rfl (by rw [List.drop_length]; rfl)
            have hm2 : meetsPP a b = (pre ++ [⟨a[p]!.1, a[p]!, (0, 0), true, false⟩]) ++ meetsPP (a.drop (p + 1)) (b.drop (b.length)) := by rw [hm.out, hda, List.drop_length, List.append_assoc]; congr 1; exact meets_a (α := Pr) (β := Pr) (·.1) (·.1) (0, 0) (0, 0) _ _
            replace hm2 := Lib.hid hm2
            replace hbi2 := Lib.hid hbi2
            have GA : ∀ W, Below w.heap.size w W → Calls Try.prog 32 #[.slice (some ⟨ra, oa, none⟩) a.length ca, .int .i64 a[p]!.1] W (Gives W (.agg #[.int .i64 a[p]!.2, .bool true])) := fun W h => by have := rget_any _ _ _ a (a[p]!.1) W (ha.below h); rw [hga] at this; exact this
            have GB : ∀ W, Below w.heap.size w W → Calls Try.prog 32 #[.slice ab b.length cb, .int .i64 a[p]!.1] W (Gives W (.agg #[.int .i64 0, .bool false])) := fun W h => by have := rget_any _ _ _ b (a[p]!.1) W (hb.below h); rw [hgb] at this; exact this
            have hpl : (betwS pre).length ≤ 8192 := by
              have h3 := betwS_len pre
              have h4 : pre.length ≤ (meetsPP a b).length := by rw [hm.out, List.length_append]; omega
              omega
            clear hga hgb ek hm hbi hda
            generalize a[p]! = x at *
            have NE : ∀ w, (binOp .neq 59 (.agg #[.int .i64 x.2, .bool true]) (.agg #[.int .i64 0, .bool false])).run Try.prog w = .ok (.bool true) w := fun w => (neqCell x.2 0 true false w).trans (by simp)
            have HO1 := fun W (h : Below wr.heap.size wr W) => OwnsR.below HO.out h
            replace HO1 := Lib.hid HO1
            replace GA := Lib.hid GA
            replace GB := Lib.hid GB
            go_wp2_with (first
              | (go_at_call 32; (with_reducible refine (GA.out _ bw).mono ?_); rintro e w2 ⟨rfl, b2⟩; (have bw2 := below_next bw b2))
              | (go_at_call 32; (with_reducible refine (GB.out _ bw2).mono ?_); rintro e w3 ⟨rfl, b3⟩; (have bw3 := below_next bw2 b3); (have HO3 := HO1.out _ (below_next b2 b3)))
              | (at_builtin; refine wpList_append_own _ rfl _ _ 29 rfl w.heap.size 88 i0 (.agg #[.int .i64 0, .int .i64 0, .bool false, .int .i64 0, .bool false]) 5 40 Try.underlying29 hi hz0 hz1 hz2 rfl (by decide) _ _ _ rfl (World.ownsRow.alloc (World.ownsRow.alloc (World.ownsRow.alloc HO3 _) _) _) ⟨w3.heap.size + 1 + 1, 0, none⟩ 1 1 [.int .i64 x.1, .int .i64 x.2, .bool true, .int .i64 0, .bool false] rfl rfl ?c1 ?c2 ?c3 ?c4 ?c5 ?_))
            case c1 => exact cells_one_new5 _ _ _ _ _ _ _ _ (by simp)
            case c2 => intro u hu; simp at hu; rcases hu with rfl | rfl | rfl | rfl | rfl <;> rfl
            case c3 => unfold maxLen; omega
            case c4 => omega
            case c5 => have := bw3.size; simp; omega
            intro v' w9 hown hgrow _
            have bw9 : Below w.heap.size w w9 := (((bw3.alloc bw3.size _).alloc (by have := bw3.size; simp; omega) _).alloc (by have := bw3.size; simp; omega) _).grown hgrow (by have := bw3.size; simp; omega) (fun j hj => (World.ownsRow.lt HO3 j hj).1)
            have HO9 := OwnsR.snoc (enc := encT) (l := betwS pre) (x := ((x.1, (x.2, true), (0, false)) : Tn)) rfl hown
            rw [show betwS pre ++ [((x.1, (x.2, true), (0, false)) : Tn)] = betwS (pre ++ [⟨x.1, x, (0, 0), true, false⟩]) from by rw [betwS_snoc]; unfold stepB turnS; rw [if_neg (by simp)]] at HO9
            replace HO9 := Lib.hid HO9
            clear hown hgrow HO3 HO HO1
            clear NE
            obtain ⟨_, _, qa, _, ga9, _⟩ := KA.out _ bw9
            cases qa
            go_wp2
            go_roundw
            case rel => exact ⟨p + 1, b.length, _, pre ++ [⟨x.1, x, (0, 0), true, false⟩], by go_num, by go_num, by omega, by omega, hbi2, hm2, HO9, bw9⟩
            case measure => simp [intOf]; omega
        · obtain rfl : p = a.length := by omega
          have zp : ¬ (a.length : Int) < (a.length : Int) := by omega
          by_cases h2 : q < b.length
          · have zq : (q : Int) < (b.length : Int) := by omega
            have hlow := Lib.hid (LB.out _ (getElem!_mem h2))
            have KB := Lib.hid (fun W (h : Below w.heap.size w W) => (hb.below h).prs h2)
            have hdb := drop_moreG h2
            obtain ⟨rb, ob, rfl, _, gb0, gb1⟩ := (hb.below bw).prs h2
            obtain ⟨ek, hbi2, hga, hgb⟩ := hbi.out.nb h2 rfl (by rw [List.drop_length]; rfl)
            have hm2 : meetsPP a b = (pre ++ [⟨b[q]!.1, (0, 0), b[q]!, false, true⟩]) ++ meetsPP (a.drop (a.length)) (b.drop (q + 1)) := by rw [hm.out, List.drop_length, hdb, List.append_assoc]; congr 1; exact meets_b (α := Pr) (β := Pr) (·.1) (·.1) (0, 0) (0, 0) _ _
            replace hm2 := Lib.hid hm2
            replace hbi2 := Lib.hid hbi2
            have GA : ∀ W, Below w.heap.size w W → Calls Try.prog 32 #[.slice aa a.length ca, .int .i64 b[q]!.1] W (Gives W (.agg #[.int .i64 0, .bool false])) := fun W h => by have := rget_any _ _ _ a (b[q]!.1) W (ha.below h); rw [hga] at this; exact this
            have GB : ∀ W, Below w.heap.size w W → Calls Try.prog 32 #[.slice (some ⟨rb, ob, none⟩) b.length cb, .int .i64 b[q]!.1] W (Gives W (.agg #[.int .i64 b[q]!.2, .bool true])) := fun W h => by have := rget_any _ _ _ b (b[q]!.1) W (hb.below h); rw [hgb] at this; exact this
            have hpl : (betwS pre).length ≤ 8192 := by
              have h3 := betwS_len pre
              have h4 : pre.length ≤ (meetsPP a b).length := by rw [hm.out, List.length_append]; omega
              omega
            clear hga hgb ek hm hbi hdb
            generalize b[q]! = y at *
            have d1 : y.1 < 4096 := hlow.out
            clear hlow
            have NE : ∀ w, (binOp .neq 59 (.agg #[.int .i64 0, .bool false]) (.agg #[.int .i64 y.2, .bool true])).run Try.prog w = .ok (.bool true) w := fun w => (neqCell 0 y.2 false true w).trans (by simp)
            have HO1 := fun W (h : Below wr.heap.size wr W) => OwnsR.below HO.out h
            replace HO1 := Lib.hid HO1
            replace GA := Lib.hid GA
            replace GB := Lib.hid GB
            go_wp2_with (first
              | (go_at_call 32; (with_reducible refine (GA.out _ bw).mono ?_); rintro e w2 ⟨rfl, b2⟩; (have bw2 := below_next bw b2))
              | (go_at_call 32; (with_reducible refine (GB.out _ bw2).mono ?_); rintro e w3 ⟨rfl, b3⟩; (have bw3 := below_next bw2 b3); (have HO3 := HO1.out _ (below_next b2 b3)))
              | (at_builtin; refine wpList_append_own _ rfl _ _ 29 rfl w.heap.size 88 i0 (.agg #[.int .i64 0, .int .i64 0, .bool false, .int .i64 0, .bool false]) 5 40 Try.underlying29 hi hz0 hz1 hz2 rfl (by decide) _ _ _ rfl (World.ownsRow.alloc (World.ownsRow.alloc (World.ownsRow.alloc HO3 _) _) _) ⟨w3.heap.size + 1 + 1, 0, none⟩ 1 1 [.int .i64 y.1, .int .i64 0, .bool false, .int .i64 y.2, .bool true] rfl rfl ?c1 ?c2 ?c3 ?c4 ?c5 ?_))
            case c1 => exact cells_one_new5 _ _ _ _ _ _ _ _ (by simp)
            case c2 => intro u hu; simp at hu; rcases hu with rfl | rfl | rfl | rfl | rfl <;> rfl
            case c3 => unfold maxLen; omega
            case c4 => omega
            case c5 => have := bw3.size; simp; omega
            intro v' w9 hown hgrow _
            have bw9 : Below w.heap.size w w9 := (((bw3.alloc bw3.size _).alloc (by have := bw3.size; simp; omega) _).alloc (by have := bw3.size; simp; omega) _).grown hgrow (by have := bw3.size; simp; omega) (fun j hj => (World.ownsRow.lt HO3 j hj).1)
            have HO9 := OwnsR.snoc (enc := encT) (l := betwS pre) (x := ((y.1, (0, false), (y.2, true)) : Tn)) rfl hown
            rw [show betwS pre ++ [((y.1, (0, false), (y.2, true)) : Tn)] = betwS (pre ++ [⟨y.1, (0, 0), y, false, true⟩]) from by rw [betwS_snoc]; unfold stepB turnS; rw [if_neg (by simp)]] at HO9
            replace HO9 := Lib.hid HO9
            clear hown hgrow HO3 HO HO1
            clear NE
            obtain ⟨_, _, qb, _, gb9, _⟩ := KB.out _ bw9
            cases qb
            go_wp2
            go_roundw
            case rel => exact ⟨a.length, q + 1, _, pre ++ [⟨y.1, (0, 0), y, false, true⟩], by go_num, by go_num, by omega, by omega, hbi2, hm2, HO9, bw9⟩
            case measure => simp [intOf]; omega
          · obtain rfl : q = b.length := by omega
            have zq : ¬ (b.length : Int) < (b.length : Int) := by omega
            have hpe : pre = meetsPP a b := by rw [hm.out, List.drop_length, List.drop_length]; simp only [meetsPP, meets_nil, List.append_nil]
            subst hpe
            obtain ⟨a6, c6, rfl, hR⟩ := OwnsR.arg encT_len HO.out
            replace hR := Lib.hid hR
            clear HO
            go_wp2
            refine bodyPost_ret (results_tmp2 rfl _ _ _) rfl ?_
            exact ⟨_, _, _, rfl, hR.out, bw⟩
end Go.Proofs.Ytmifjippdlmpiaa
