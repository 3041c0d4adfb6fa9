/-
  DELTA: the document's keys (written by wip/tools/mkDeH.py).
-/
import Derived.Test.YtmifjippdlmpiaaDeG
namespace Go.Proofs.Ytmifjippdlmpiaa
open Go.RowKit Go.Deep Go.Shelf

def ZRow (w : World) (l : List Int) (e : Ending) (w' : World) : Prop := ∃ v, e = .returned v ∧ OwnZ w' w.heap.size v l ∧ Below w.heap.size w w'
set_option maxRecDepth 100000 in
set_option maxHeartbeats 4000000 in
theorem rkeys_any (aa ab : Option Addr) (na nb ca cb : Nat) (l m : List Tn) (w : World) (hA : RArg encT 5 w aa na ca l) (hB : RArg encT 5 w ab nb cb m) (hll : l.length ≤ 4096) (hlm : m.length ≤ 4096) :
    Calls Try.prog 49 #[.slice aa na ca, .slice ab nb cb] w (ZRow w (keysS l m)) := by
  obtain ⟨i0, hi, hz0, hz1, hz2⟩ := info_parts Try.infoInt
  have ha := Lib.hid hA
  have hb := Lib.hid hB
  obtain ⟨rfl, hza, hca, _, _⟩ := hA
  obtain ⟨rfl, hzb, hcb, _, _⟩ := hB
  have hKl := keysS_len l m
  go_enter Try.func49, Try.ntmps49
  go_wp2_with fail
  go_loopw [5, 6, 7] (fun v i k wr => ∃ (p q : Nat) (ou : List Int), i = .int .i64 (p : Int) ∧ k = .int .i64 (q : Int) ∧ p ≤ l.length ∧ q ≤ m.length ∧ Hid (keysS l m = ou ++ keysS (l.drop p) (m.drop q)) ∧ Hid (OwnsR encI 1 3 wr w.heap.size v ou) ∧ Below w.heap.size w wr)
    (fun _ i k _ => l.length + m.length - (intOf i).toNat - (intOf k).toNat)
  case atStart => exact ⟨0, 0, [], rfl, rfl, by omega, by omega, Lib.hid rfl, Lib.hid (OwnsR.nil _ _ _ _ _), Below.refl _ _⟩
  case round =>
    obtain ⟨p, q, ou, rfl, rfl, hp, hq, HM, HO, hbl⟩ := hrel
    have hsz := hbl.size
    have hol : ou.length ≤ 8192 := by
      have h1 := congrArg List.length HM.out
      rw [List.length_append] at h1
      omega
    have hp00 : (0 : Int) ≤ (p : Int) := by omega
    have hq00 : (0 : Int) ≤ (q : Int) := by omega
    by_cases hpa : p < l.length
    · skip
      obtain ⟨b1, o1, e1, hb1, x0, x1, x2, x3, x4⟩ := (ha.out.below hbl).tns hpa
      have hda := drop_moreG hpa
      have hpz : (p : Int) < (l.length : Int) := by omega
      have hpe : ((p : Int) == (l.length : Int)) = false := beq_no (by omega)
      subst e1
      generalize l[p]! = s at x0 x1 x2 x3 x4 hda
      by_cases hqa : q < m.length
      · skip
        obtain ⟨b2, o2, e2, hb2, y0, y1, y2, y3, y4⟩ := (hb.out.below hbl).tns hqa
        have hdb := drop_moreG hqa
        have hqz : (q : Int) < (m.length : Int) := by omega
        have hqe : ((q : Int) == (m.length : Int)) = false := beq_no (by omega)
        subst e2
        generalize m[q]! = t at y0 y1 y2 y3 y4 hdb
        by_cases h1 : s.1 < t.1
        · have c1 : decide (s.1 < t.1) = true := decide_eq_true h1
          have HN := Lib.hid (show keysS l m = (ou ++ [s.1]) ++ keysS (l.drop (p + 1)) (m.drop (q)) by rw [HM.out, hda, hdb, keysS_lt _ _ h1, ← hdb]; simp)
          obtain ⟨sk, sw, si⟩ := s
          dsimp only at x0 HN
          clear x1 x2 x3 x4
          obtain ⟨tk, tw, ti⟩ := t
          dsimp only at y0 HN
          clear y1 y2 y3 y4
          try dsimp only at c1 c2
          try replace h3 := Lib.hid h3
          replace hda := Lib.hid hda
          replace hdb := Lib.hid hdb
          have HX := Lib.hid x0
          have HY := Lib.hid y0
          go_wp2_with fail
          go_quiet (fail)
          generalize HW0 : wr.drewN _ = W0
          have bw0 : Below wr.heap.size wr W0 := by rw [← HW0]; exact below_drewN2 (Below.refl _ _) _
          replace HW0 := Lib.hid HW0
          have x0 := (bw0.cell (p := ⟨b1, o1 + p * 5, none⟩) hb1).trans x0
          have y0 := (bw0.cell (p := ⟨b2, o2 + q * 5, none⟩) hb2).trans y0
          have bw := bw0
          have HWA := Lib.hid (OwnsR.below HO.out bw)
          have hbw := below_next hbl bw
          have hszw := hbw.size
          go_wp2_with (at_builtin; refine wpList_append_own _ rfl _ _ 48 rfl w.heap.size 3 i0 (.int .i64 0) 1 8 Try.underlying48 hi hz0 hz1 hz2 rfl (by decide) _ _ _ rfl (World.ownsRow.alloc HWA.out _) ⟨W0.heap.size, 0, none⟩ 1 1 [.int .i64 sk] rfl rfl ?c1 ?c2 ?c3 ?c4 ?c5 ?_)
          case c1 => exact cells_one1 _ _ _ _ rfl
          case c2 => intro x hx; simp at hx; rw [hx]; rfl
          case c3 => unfold maxLen; omega
          case c4 => omega
          case c5 => simp; omega
          intro v' w9 hown hgrow _
          have hb9 := (hbw.alloc hszw (.cells #[.int .i64 sk] 3)).grown hgrow (by simp; omega) (fun j hj => (World.ownsRow.lt HWA.out j hj).1)
          have HO2 := Lib.hid (OwnsR.snoc (enc := encI) (l := ou) (x := sk) rfl hown)
          clear hown hgrow HO
          go_wp2
          go_roundw
          case rel => exact ⟨p + 1, q, ou ++ [sk], by first | rfl | go_num, by first | rfl | go_num, by omega, by omega, HN, HO2, hb9⟩
          case measure => simp [intOf]; omega
        · have c1 : decide (s.1 < t.1) = false := decide_eq_false h1
          by_cases h2 : t.1 < s.1
          · have c2 : decide (t.1 < s.1) = true := decide_eq_true h2
            have HN := Lib.hid (show keysS l m = (ou ++ [t.1]) ++ keysS (l.drop (p)) (m.drop (q + 1)) by rw [HM.out, hda, hdb, keysS_gt _ _ h2, ← hda]; simp)
            obtain ⟨sk, sw, si⟩ := s
            dsimp only at x0 HN
            clear x1 x2 x3 x4
            obtain ⟨tk, tw, ti⟩ := t
            dsimp only at y0 HN
            clear y1 y2 y3 y4
            try dsimp only at c1 c2
            try replace h3 := Lib.hid h3
            replace hda := Lib.hid hda
            replace hdb := Lib.hid hdb
            have HX := Lib.hid x0
            have HY := Lib.hid y0
            go_wp2_with fail
            go_quiet (fail)
            generalize HW0 : wr.drewN _ = W0
            have bw0 : Below wr.heap.size wr W0 := by rw [← HW0]; exact below_drewN2 (Below.refl _ _) _
            replace HW0 := Lib.hid HW0
            have x0 := (bw0.cell (p := ⟨b1, o1 + p * 5, none⟩) hb1).trans x0
            have y0 := (bw0.cell (p := ⟨b2, o2 + q * 5, none⟩) hb2).trans y0
            go_wp2_with fail
            go_quiet (fail)
            generalize HW1 : W0.drewN _ = W1
            have bw1 : Below W0.heap.size W0 W1 := by rw [← HW1]; exact below_drewN2 (Below.refl _ _) _
            replace HW1 := Lib.hid HW1
            have x0 := (bw1.cell (p := ⟨b1, o1 + p * 5, none⟩) (Nat.lt_of_lt_of_le hb1 bw0.size)).trans x0
            have y0 := (bw1.cell (p := ⟨b2, o2 + q * 5, none⟩) (Nat.lt_of_lt_of_le hb2 bw0.size)).trans y0
            have bw := below_next bw0 bw1
            have HWA := Lib.hid (OwnsR.below HO.out bw)
            have hbw := below_next hbl bw
            have hszw := hbw.size
            go_wp2_with (at_builtin; refine wpList_append_own _ rfl _ _ 48 rfl w.heap.size 3 i0 (.int .i64 0) 1 8 Try.underlying48 hi hz0 hz1 hz2 rfl (by decide) _ _ _ rfl (World.ownsRow.alloc HWA.out _) ⟨W1.heap.size, 0, none⟩ 1 1 [.int .i64 tk] rfl rfl ?c1 ?c2 ?c3 ?c4 ?c5 ?_)
            case c1 => exact cells_one1 _ _ _ _ rfl
            case c2 => intro x hx; simp at hx; rw [hx]; rfl
            case c3 => unfold maxLen; omega
            case c4 => omega
            case c5 => simp; omega
            intro v' w9 hown hgrow _
            have hb9 := (hbw.alloc hszw (.cells #[.int .i64 tk] 3)).grown hgrow (by simp; omega) (fun j hj => (World.ownsRow.lt HWA.out j hj).1)
            have HO2 := Lib.hid (OwnsR.snoc (enc := encI) (l := ou) (x := tk) rfl hown)
            clear hown hgrow HO
            go_wp2
            go_roundw
            case rel => exact ⟨p, q + 1, ou ++ [tk], by first | rfl | go_num, by first | rfl | go_num, by omega, by omega, HN, HO2, hb9⟩
            case measure => simp [intOf]; omega
          · have c2 : decide (t.1 < s.1) = false := decide_eq_false h2
            have h3 : s.1 = t.1 := by omega
            have HN := Lib.hid (show keysS l m = (ou ++ [s.1]) ++ keysS (l.drop (p + 1)) (m.drop (q + 1)) by rw [HM.out, hda, hdb, keysS_eq _ _ h3]; simp)
            obtain ⟨sk, sw, si⟩ := s
            dsimp only at x0 HN
            clear x1 x2 x3 x4
            obtain ⟨tk, tw, ti⟩ := t
            dsimp only at y0 HN
            clear y1 y2 y3 y4
            try dsimp only at c1 c2
            try replace h3 := Lib.hid h3
            replace hda := Lib.hid hda
            replace hdb := Lib.hid hdb
            have HX := Lib.hid x0
            have HY := Lib.hid y0
            go_wp2_with fail
            go_quiet (fail)
            generalize HW0 : wr.drewN _ = W0
            have bw0 : Below wr.heap.size wr W0 := by rw [← HW0]; exact below_drewN2 (Below.refl _ _) _
            replace HW0 := Lib.hid HW0
            have x0 := (bw0.cell (p := ⟨b1, o1 + p * 5, none⟩) hb1).trans x0
            have y0 := (bw0.cell (p := ⟨b2, o2 + q * 5, none⟩) hb2).trans y0
            go_wp2_with fail
            go_quiet (fail)
            generalize HW1 : W0.drewN _ = W1
            have bw1 : Below W0.heap.size W0 W1 := by rw [← HW1]; exact below_drewN2 (Below.refl _ _) _
            replace HW1 := Lib.hid HW1
            have x0 := (bw1.cell (p := ⟨b1, o1 + p * 5, none⟩) (Nat.lt_of_lt_of_le hb1 bw0.size)).trans x0
            have y0 := (bw1.cell (p := ⟨b2, o2 + q * 5, none⟩) (Nat.lt_of_lt_of_le hb2 bw0.size)).trans y0
            have bw := below_next bw0 bw1
            have HWA := Lib.hid (OwnsR.below HO.out bw)
            have hbw := below_next hbl bw
            have hszw := hbw.size
            go_wp2_with (at_builtin; refine wpList_append_own _ rfl _ _ 48 rfl w.heap.size 3 i0 (.int .i64 0) 1 8 Try.underlying48 hi hz0 hz1 hz2 rfl (by decide) _ _ _ rfl (World.ownsRow.alloc HWA.out _) ⟨W1.heap.size, 0, none⟩ 1 1 [.int .i64 sk] rfl rfl ?c1 ?c2 ?c3 ?c4 ?c5 ?_)
            case c1 => exact cells_one1 _ _ _ _ rfl
            case c2 => intro x hx; simp at hx; rw [hx]; rfl
            case c3 => unfold maxLen; omega
            case c4 => omega
            case c5 => simp; omega
            intro v' w9 hown hgrow _
            have hb9 := (hbw.alloc hszw (.cells #[.int .i64 sk] 3)).grown hgrow (by simp; omega) (fun j hj => (World.ownsRow.lt HWA.out j hj).1)
            have HO2 := Lib.hid (OwnsR.snoc (enc := encI) (l := ou) (x := sk) rfl hown)
            clear hown hgrow HO
            go_wp2
            go_roundw
            case rel => exact ⟨p + 1, q + 1, ou ++ [sk], by first | rfl | go_num, by first | rfl | go_num, by omega, by omega, HN, HO2, hb9⟩
            case measure => simp [intOf]; omega
      · skip
        have hqz : ¬ (q : Int) < (m.length : Int) := by omega
        have hqe : ((q : Int) == (m.length : Int)) = true := beq_yes (by omega)
        have hdb : m.drop q = [] := List.drop_eq_nil_of_le (by omega)
        have HN := Lib.hid (show keysS l m = (ou ++ [s.1]) ++ keysS (l.drop (p + 1)) (m.drop (q)) by rw [HM.out, hda, hdb, keysS_a]; simp)
        obtain ⟨sk, sw, si⟩ := s
        dsimp only at x0 HN
        clear x1 x2 x3 x4
        try dsimp only at c1 c2
        try replace h3 := Lib.hid h3
        replace hda := Lib.hid hda
        replace hdb := Lib.hid hdb
        have HX := Lib.hid x0
        go_wp2_with fail
        go_quiet (fail)
        generalize HW0 : wr.drewN _ = W0
        have bw0 : Below wr.heap.size wr W0 := by rw [← HW0]; exact below_drewN2 (Below.refl _ _) _
        replace HW0 := Lib.hid HW0
        have x0 := (bw0.cell (p := ⟨b1, o1 + p * 5, none⟩) hb1).trans x0
        have bw := bw0
        have HWA := Lib.hid (OwnsR.below HO.out bw)
        have hbw := below_next hbl bw
        have hszw := hbw.size
        go_wp2_with (at_builtin; refine wpList_append_own _ rfl _ _ 48 rfl w.heap.size 3 i0 (.int .i64 0) 1 8 Try.underlying48 hi hz0 hz1 hz2 rfl (by decide) _ _ _ rfl (World.ownsRow.alloc HWA.out _) ⟨W0.heap.size, 0, none⟩ 1 1 [.int .i64 sk] rfl rfl ?c1 ?c2 ?c3 ?c4 ?c5 ?_)
        case c1 => exact cells_one1 _ _ _ _ rfl
        case c2 => intro x hx; simp at hx; rw [hx]; rfl
        case c3 => unfold maxLen; omega
        case c4 => omega
        case c5 => simp; omega
        intro v' w9 hown hgrow _
        have hb9 := (hbw.alloc hszw (.cells #[.int .i64 sk] 3)).grown hgrow (by simp; omega) (fun j hj => (World.ownsRow.lt HWA.out j hj).1)
        have HO2 := Lib.hid (OwnsR.snoc (enc := encI) (l := ou) (x := sk) rfl hown)
        clear hown hgrow HO
        go_wp2
        go_roundw
        case rel => exact ⟨p + 1, q, ou ++ [sk], by first | rfl | go_num, by first | rfl | go_num, by omega, by omega, HN, HO2, hb9⟩
        case measure => simp [intOf]; omega
    · skip
      have hpz : ¬ (p : Int) < (l.length : Int) := by omega
      have hpe : ((p : Int) == (l.length : Int)) = true := beq_yes (by omega)
      have hda : l.drop p = [] := List.drop_eq_nil_of_le (by omega)
      by_cases hqa : q < m.length
      · skip
        obtain ⟨b2, o2, e2, hb2, y0, y1, y2, y3, y4⟩ := (hb.out.below hbl).tns hqa
        have hdb := drop_moreG hqa
        have hqz : (q : Int) < (m.length : Int) := by omega
        have hqe : ((q : Int) == (m.length : Int)) = false := beq_no (by omega)
        subst e2
        generalize m[q]! = t at y0 y1 y2 y3 y4 hdb
        have HN := Lib.hid (show keysS l m = (ou ++ [t.1]) ++ keysS (l.drop (p)) (m.drop (q + 1)) by rw [HM.out, hda, hdb, keysS_b]; simp)
        obtain ⟨tk, tw, ti⟩ := t
        dsimp only at y0 HN
        clear y1 y2 y3 y4
        try dsimp only at c1 c2
        try replace h3 := Lib.hid h3
        replace hda := Lib.hid hda
        replace hdb := Lib.hid hdb
        have HY := Lib.hid y0
        go_wp2_with fail
        go_quiet (fail)
        generalize HW0 : wr.drewN _ = W0
        have bw0 : Below wr.heap.size wr W0 := by rw [← HW0]; exact below_drewN2 (Below.refl _ _) _
        replace HW0 := Lib.hid HW0
        have y0 := (bw0.cell (p := ⟨b2, o2 + q * 5, none⟩) hb2).trans y0
        go_wp2_with fail
        go_quiet (fail)
        generalize HW1 : W0.drewN _ = W1
        have bw1 : Below W0.heap.size W0 W1 := by rw [← HW1]; exact below_drewN2 (Below.refl _ _) _
        replace HW1 := Lib.hid HW1
        have y0 := (bw1.cell (p := ⟨b2, o2 + q * 5, none⟩) (Nat.lt_of_lt_of_le hb2 bw0.size)).trans y0
        have bw := below_next bw0 bw1
        have HWA := Lib.hid (OwnsR.below HO.out bw)
        have hbw := below_next hbl bw
        have hszw := hbw.size
        go_wp2_with (at_builtin; refine wpList_append_own _ rfl _ _ 48 rfl w.heap.size 3 i0 (.int .i64 0) 1 8 Try.underlying48 hi hz0 hz1 hz2 rfl (by decide) _ _ _ rfl (World.ownsRow.alloc HWA.out _) ⟨W1.heap.size, 0, none⟩ 1 1 [.int .i64 tk] rfl rfl ?c1 ?c2 ?c3 ?c4 ?c5 ?_)
        case c1 => exact cells_one1 _ _ _ _ rfl
        case c2 => intro x hx; simp at hx; rw [hx]; rfl
        case c3 => unfold maxLen; omega
        case c4 => omega
        case c5 => simp; omega
        intro v' w9 hown hgrow _
        have hb9 := (hbw.alloc hszw (.cells #[.int .i64 tk] 3)).grown hgrow (by simp; omega) (fun j hj => (World.ownsRow.lt HWA.out j hj).1)
        have HO2 := Lib.hid (OwnsR.snoc (enc := encI) (l := ou) (x := tk) rfl hown)
        clear hown hgrow HO
        go_wp2
        go_roundw
        case rel => exact ⟨p, q + 1, ou ++ [tk], by first | rfl | go_num, by first | rfl | go_num, by omega, by omega, HN, HO2, hb9⟩
        case measure => simp [intOf]; omega
      · skip
        have hqz : ¬ (q : Int) < (m.length : Int) := by omega
        have hqe : ((q : Int) == (m.length : Int)) = true := beq_yes (by omega)
        have hdb : m.drop q = [] := List.drop_eq_nil_of_le (by omega)
        have hfin := Lib.hid (show keysS l m = ou by rw [HM.out, hda, hdb, keysS_nil, List.append_nil])
        replace hda := Lib.hid hda
        replace hdb := Lib.hid hdb
        go_wp2_with fail
        go_ret
        exact ⟨_, rfl, by rw [hfin.out]; exact HO.out, hbl⟩
end Go.Proofs.Ytmifjippdlmpiaa
