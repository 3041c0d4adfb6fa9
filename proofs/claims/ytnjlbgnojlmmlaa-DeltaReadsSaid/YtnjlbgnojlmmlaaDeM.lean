/-
  DELTA: Read.
-/
import Derived.Test.YtnjlbgnojlmmlaaDeL
import Derived.Test.YtnjlbgnojlmmlaaDlV
namespace Go.Proofs.Ytnjlbgnojlmmlaa
open Go.RowKit Go.Deep Go.Shelf

theorem rTurn_key {s : ByteArray} {e z : Int} (h : (rTurn s e z).2.1 = true) : z < (rTurn s e z).1.1 ∧ (rTurn s e z).1.1 ≤ 4095 := by
  have hx := rNum_val s e
  unfold rTurn at h ⊢
  dsimp only at h ⊢
  split
  · rename_i hb; rw [if_pos hb] at h; cases h
  · rename_i hb
    have h1 : ¬ (4095 - z ≤ (rNum s e).1) := fun q => hb (.inl q)
    split
    · dsimp only; omega
    · split
      · dsimp only; omega
      · split
        · dsimp only; omega
        · dsimp only; omega
theorem rTurn_size (s : ByteArray) (e z : Int) : (rTurn s e z).2.2.1.size ≤ s.size := by
  have h1 := rNum_size s e
  have h2 := rNum_size (rNum s e).2.1 (rNum s e).2.2
  have h3 := rWhole_size (rNum (rNum s e).2.1 (rNum s e).2.2).2.1 (rNum (rNum s e).2.1 (rNum s e).2.2).2.2
  have h4 := rWhole_size (rWhole (rNum (rNum s e).2.1 (rNum s e).2.2).2.1 (rNum (rNum s e).2.1 (rNum s e).2.2).2.2).2.1 (rWhole (rNum (rNum s e).2.1 (rNum s e).2.2).2.1 (rNum (rNum s e).2.1 (rNum s e).2.2).2.2).2.2
  unfold rTurn
  dsimp only
  split
  · dsimp only; omega
  · split
    · dsimp only; omega
    · split
      · dsimp only; omega
      · split
        · dsimp only; omega
        · dsimp only; omega
def rTs : Nat → List Tn → Int → ByteArray → Int → Option (List Tn × ByteArray × Int)
  | 0, acc, _, s, e => some (acc, s, e)
  | n + 1, acc, z, s, e => if (rTurn s e z).2.1 = true then rTs n (acc ++ [(rTurn s e z).1]) (rTurn s e z).1.1 (rTurn s e z).2.2.1 (rTurn s e z).2.2.2 else none
theorem rTs_go {n : Nat} {acc : List Tn} {z : Int} {s s2 : ByteArray} {e e2 : Int} {t : Tn} (h : rTurn s e z = (t, true, s2, e2)) : rTs (n + 1) acc z s e = rTs n (acc ++ [t]) t.1 s2 e2 := by
  rw [rTs, h]; rfl
theorem rTs_stop {n : Nat} {acc : List Tn} {z : Int} {s s2 : ByteArray} {e e2 : Int} {t : Tn} (h : rTurn s e z = (t, false, s2, e2)) : rTs (n + 1) acc z s e = none := by
  rw [rTs, h]; rfl
def readD (s : ByteArray) : List Tn × Int := match rTs (rNum s 0).1.toNat [] (-1) (rNum s 0).2.1 (rNum s 0).2.2 with
  | none => ([], 3)
  | some (l, t, e) => if rEnd t e = 0 ∧ chkB l = true then (l, 0) else ([], 3)
set_option maxRecDepth 100000 in
set_option maxHeartbeats 4000000 in
theorem dread_any (s : ByteArray) (w : World) (hs : (s.size : Int) ≤ 1000000000000) : Calls Try.prog 6 #[.string s] w (BPost w (readD s).1 (readD s).2) := by
  obtain ⟨i0, hi, hz0, hz1, hz2⟩ := info_parts Try.infoTurn
  obtain ⟨x, u, e1, hA⟩ : ∃ x u e1, rNum s 0 = (x, u, e1) := ⟨_, _, _, rfl⟩
  have hx := rNum_val s 0
  have hz := rNum_size s 0
  rw [hA] at hx hz
  dsimp only at hx hz
  obtain ⟨n, rfl⟩ : ∃ n : Nat, x = (n : Int) := ⟨x.toNat, by omega⟩
  have hn1 : (n : Int) ≤ 9223372036854775807 := hx.2
  obtain ⟨R, hR⟩ : ∃ R, readD s = R := ⟨_, rfl⟩
  rw [hR]
  unfold readD at hR
  rw [hA] at hR
  dsimp only at hR
  rw [Int.toNat_natCast] at hR
  have CN : Hid (∀ W, Rd W w.heap.size s 0 → Calls Try.prog 14 #[.pointer (some ⟨w.heap.size, 0, none⟩)] W (RdPost W w.heap.size (.int .i64 (n : Int)) (u, e1))) :=
    Lib.hid fun W hR => (rnum_any hR (by omega)).mono fun e w' h => by rw [hA] at h; exact h
  obtain ⟨W0, hW0⟩ : ∃ W0, w.alloc (.cells #[.string s, .int .i64 0] 81) = W0 := ⟨_, rfl⟩
  have C0 : Hid (Calls Try.prog 13 #[.string s] w fun e w' => e = .returned (.pointer (some ⟨w.heap.size, 0, none⟩)) ∧ W0 = w') := Lib.hid (by rw [← hW0]; exact from_any s w)
  have R0 : Hid (Rd W0 w.heap.size s 0) := Lib.hid (by rw [← hW0]; exact Rd.new w s 0)
  have B0 : Below w.heap.size w W0 := by rw [← hW0]; exact (Below.refl _ _).alloc (Nat.le_refl _) _
  replace hR := Lib.hid hR
  clear hA hx hW0
  go_enter Try.func6, Try.ntmps6
  go_wp2_with (first
    | (go_at_call 13; (with_reducible refine C0.out.mono ?_); rintro en w0 ⟨rfl, rfl⟩)
    | (go_at_call 14; (with_reducible refine (CN.out _ R0.out).mono ?_); rintro en w1 ⟨rfl, R1, G1⟩))
  have B1 : Below w.heap.size w w1 := B0.grown G1 B0.size (fun k hk => by cases hk; exact Nat.le_refl _)
  replace R1 := Lib.hid R1
  clear R0 CN C0 G1 B0
  go_loopw [5, 6, 13] (fun vo la i wr => ∃ (k : Nat) (acc : List Tn) (z : Int) (t : ByteArray) (e2 : Int) (v : Value), v = vo ∧ i = .int .i64 (k : Int) ∧ la = .int .i64 z ∧ k ≤ n ∧ -1 ≤ z ∧ z ≤ 4095 ∧ (acc.length : Int) ≤ z + 1 ∧ t.size ≤ s.size ∧ Hid (OwnT wr w.heap.size v acc) ∧ Hid (Rd wr w.heap.size t e2) ∧ Below w.heap.size w wr ∧ Hid (rTs (n - k) acc z t e2 = rTs n [] (-1) u e1))
    (fun _ _ i _ => n - (intOf i).toNat)
  case atStart => exact ⟨0, [], -1, u, e1, _, rfl, rfl, rfl, by omega, by omega, by omega, by simp, hz, Lib.hid (OwnsR.nil _ _ _ _ _), R1, B1, Lib.hid rfl⟩
  case round =>
    obtain ⟨k, acc, z, t, e2, v, rfl, rfl, rfl, hk, hz0', hz1', hac, hts, HO, HRd, hbl, HE⟩ := hrel
    have hsz := hbl.size
    by_cases hlt : k < n
    · have hkz : (k : Int) < (n : Int) := by omega
      obtain ⟨tt, b, s3, e3, hq⟩ : ∃ tt b s3 e3, rTurn t e2 z = (tt, b, s3, e3) := ⟨_, _, _, _, rfl⟩
      have CT : Hid (∀ W, Rd W w.heap.size t e2 → Calls Try.prog 15 #[.pointer (some ⟨w.heap.size, 0, none⟩), .int .i64 z] W (TurnPost W w.heap.size (tt, b, s3, e3))) :=
        Lib.hid fun W hW => by have := rturn_any z hW (by omega) hz0' hz1'; rwa [hq] at this
      have h3 : s3.size ≤ t.size := by have := rTurn_size t e2 z; rw [hq] at this; exact this
      have hgv : Hid (some w.heap.size ≠ v.ownBlock) := Lib.hid (XB.not_row (t := 81) (cs := [.string t, .int .i64 e2]) (by decide) HRd.out HO.out)
      cases b with
      | false =>
        have HS := Lib.hid (show R = ([], 3) by
          rw [← hR.out, ← HE.out, show n - k = n - (k + 1) + 1 by omega, rTs_stop hq])
        clear hq
        go_wp2_with (go_at_call 15; (with_reducible refine (CT.out _ HRd.out).mono ?_); rintro en w4 ⟨rfl, R4, G4⟩; dsimp only)
        go_ret2
        exact ⟨_, by rw [HS.out]; rfl, by rw [HS.out]; exact OwnsR.nil _ _ _ _ _, (hbl.grown G4 hsz (fun k hk => by cases hk; exact Nat.le_refl _)).alloc (Nat.le_trans hsz G4.size) _⟩
      | true =>
        have hkey := rTurn_key (s := t) (e := e2) (z := z) (by rw [hq])
        rw [hq] at hkey
        obtain ⟨q1, q2⟩ := hkey
        have HN := Lib.hid (show rTs (n - (k + 1)) (acc ++ [tt]) tt.1 s3 e3 = rTs n [] (-1) u e1 by rw [← HE.out, show n - k = n - (k + 1) + 1 by omega, rTs_go hq])
        clear hq
        obtain ⟨tk, ⟨tv, ts⟩, ⟨ti, tb⟩⟩ := tt
        dsimp only at q1 q2
        go_wp2_with (first
          | (go_at_call 15; (with_reducible refine (CT.out _ HRd.out).mono ?_); rintro en w4 ⟨rfl, R4, G4⟩; dsimp only; (have hr4 := Lib.hid (World.ownsRow.kept HO.out G4 (.inr hgv.out.symm))); (have X7 : Hid (XB 46 (w4.alloc (.cells #[.int .i64 tk, .int .i64 tv, .bool ts, .int .i64 ti, .bool tb] 46)) w4.heap.size [.int .i64 tk, .int .i64 tv, .bool ts, .int .i64 ti, .bool tb]) := Lib.hid (heap_alloc_new w4 _)); (replace R4 := Lib.hid R4); (replace G4 := Lib.hid G4))
          | (at_builtin; refine wpList_append_own _ rfl _ _ 22 rfl w.heap.size 46 i0 (.agg #[.int .i64 0, .int .i64 0, .bool false, .int .i64 0, .bool false]) 5 40 Try.underlying22 hi hz0 hz1 hz2 rfl (by decide) _ _ _ rfl (World.ownsRow.alloc (World.ownsRow.alloc hr4.out _) _) ⟨w4.heap.size + 1, 0, none⟩ 1 1 [.int .i64 tk, .int .i64 tv, .bool ts, .int .i64 ti, .bool tb] rfl rfl ?c1 ?c2 ?c3 ?c4 ?c5 ?_))
        case c2 => exact ⟨rfl, rfl, rfl, rfl, rfl⟩
        case c3 => unfold maxLen; omega
        case c4 => omega
        case c5 => have := G4.out.size; simp; omega
        intro v' w9 hown hgrow _
        have hb4 : Below w.heap.size w w4 := hbl.grown G4.out hsz (fun k hk => by cases hk; exact Nat.le_refl _)
        have hb9 : Below w.heap.size w w9 := ((hb4.alloc hb4.size _).alloc (by have := hb4.size; simp; omega) _).grown hgrow (by have := hb4.size; simp; omega) (fun j hj => (World.ownsRow.lt hr4.out j hj).1)
        have hne7 : some w4.heap.size ≠ v.ownBlock := fun e => by have := (World.ownsRow.lt hr4.out _ e.symm).2; omega
        have X9 := XB.kept (XB.below X7.out ((Below.refl _ _).alloc (Nat.le_refl _) _)) hgrow hne7
        have R9 := Lib.hid (rd_grown (rd_grown (rd_grown R4.out (World.grownBy_alloc w4 _ none) (by simp)) (World.grownBy_alloc _ _ none) (by simp)) hgrow hgv.out)
        have hO9 := Lib.hid (OwnsR.snoc (enc := encT) (l := acc) (x := ((tk, (tv, ts), (ti, tb)) : Tn)) rfl hown)
        have y0 := X9.at 0 _ rfl
        clear hown hgrow X9 X7 hr4 R4 G4 CT
        go_wp2
        go_roundw
        case rel => exact ⟨k + 1, acc ++ [(tk, (tv, ts), (ti, tb))], tk, s3, e3, _, rfl, by go_num, rfl, by omega, by omega, by omega, by simp; omega, by omega, hO9, R9, hb9, HN⟩
        case measure => simp [intOf]; omega
    · have hkn : n - k = 0 := by omega
      have hkz : ¬ (k : Int) < (n : Int) := by omega
      have HS : Hid (R = if rEnd t e2 = 0 ∧ chkB acc = true then (acc, 0) else ([], 3)) := Lib.hid (by
        have h1 := HE.out
        rw [hkn] at h1
        rw [← hR.out, ← h1]; rfl)
      obtain ⟨va, vc, rfl, hA⟩ := OwnsR.arg encT_len HO.out
      have CC := Lib.hid (dcheck_any va acc.length vc acc wr hA)
      have CE := Lib.hid (end_any HRd.out)
      clear hkn HE hA
      by_cases he : rEnd t e2 = 0
      · have d1 : (rEnd t e2 == 0) = true := by simpa using he
        have d2 : (rEnd t e2 != 0) = false := by simpa using he
        have HF : Hid (R = if chkB acc = true then (acc, 0) else ([], 3)) := Lib.hid (by
          rw [HS.out]
          by_cases hc : chkB acc = true
          · rw [if_pos ⟨he, hc⟩, if_pos hc]
          · rw [if_neg (fun q => hc q.2), if_neg hc])
        generalize rEnd t e2 = x2 at d1 d2 CE
        clear he HS
        cases hc : chkB acc with
        | false =>
          rw [hc] at CC
          rw [if_neg (by rw [hc]; simp)] at HF
          replace hc := Lib.hid hc
          go_wp2_with (first
            | (go_at_call 16; (with_reducible refine CE.out.mono ?_); rintro en w5 ⟨rfl, rfl⟩)
            | (go_at_call 17; (with_reducible refine CC.out.mono ?_); rintro en w6 ⟨rfl, b6⟩))
          go_ret2
          exact ⟨_, by rw [HF.out]; rfl, by rw [HF.out]; exact OwnsR.nil _ _ _ _ _, below_next hbl b6⟩
        | true =>
          rw [hc] at CC
          rw [if_pos hc] at HF
          replace hc := Lib.hid hc
          go_wp2_with (first
            | (go_at_call 16; (with_reducible refine CE.out.mono ?_); rintro en w5 ⟨rfl, rfl⟩)
            | (go_at_call 17; (with_reducible refine CC.out.mono ?_); rintro en w6 ⟨rfl, b6⟩))
          go_ret2
          exact ⟨_, by rw [HF.out]; rfl, by rw [HF.out]; exact OwnsR.below HO.out b6, below_next hbl b6⟩
      · have d1 : (rEnd t e2 == 0) = false := by simpa using he
        have d2 : (rEnd t e2 != 0) = true := by simpa using he
        have HF : Hid (R = ([], 3)) := Lib.hid (by rw [HS.out, if_neg (fun q => he q.1)])
        generalize rEnd t e2 = x2 at d1 d2 CE
        clear he HS
        go_wp2_with (go_at_call 16; (with_reducible refine CE.out.mono ?_); rintro en w5 ⟨rfl, rfl⟩)
        go_ret2
        exact ⟨_, by rw [HF.out]; rfl, by rw [HF.out]; exact OwnsR.nil _ _ _ _ _, hbl⟩
end Go.Proofs.Ytnjlbgnojlmmlaa
