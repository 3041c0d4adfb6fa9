/-
  SCAN: contracts of Groups and Top.
-/
import Derived.Test.YtbpekloodjimoaaScG
import Derived.Laws.EntriesVeiled
namespace Go.Proofs.Ytbpekloodjimoaa
open Go.RowKit Go.Shelf
open Go.Sort (HoldsK PermIn SortedIn SWO grow putRowK putRow)

def grpsP (l on : List Sp) (wd : Int) : List Gp × Int := if tblB l = true ∧ chkB on = true ∧ 1 ≤ wd ∧ wd ≤ 4096 then (grpsF wd (clipP l on).length (clipP l on), 0) else ([], 1)
def GrpsPost (r : List Gp × Int) (w : World) (e : Ending) (w' : World) : Prop := ∃ v, e = .returned (.tuple #[v, .int .i64 r.2]) ∧ OwnsR encGp 5 57 w' w.heap.size v r.1 ∧ Below w.heap.size w w'
theorem tblF_mem : ∀ (l : List Sp) (e : Int), -1 ≤ e → tblF e l = true → ∀ p ∈ l, (0 ≤ p.1 ∧ p.1 < 4096) ∧ -1099511627776 ≤ p.2 ∧ p.2 ≤ 1099511627776
  | [], _, _, _, p, hp => absurd hp (by simp)
  | x :: t, e, he, h, p, hp => by
    rw [tblF_cons] at h
    obtain ⟨h1, h2, h3⟩ := h
    rcases List.mem_cons.1 hp with rfl | hp
    · exact ⟨by omega, h2⟩
    · exact tblF_mem t x.1 (by omega) h3 p hp
theorem tbl_small {l : List Sp} (h : tblB l = true) : small l ∧ keysB l := by
  have hm := tblF_mem l (-1) (by omega) h
  have hl := tbl_le h
  exact ⟨⟨by omega, fun p hp => (hm p hp).2⟩, fun p hp => (hm p hp).1⟩
theorem OwnsR.lowG {α : Type} {enc : α → List Value} {k : Nat} {t : TypeId} {W : World} {base base' : Nat} {v : Value} {l : List α} (h : OwnsR enc k t W base v l) (hb : base' ≤ base) : OwnsR enc k t W base' v l := by
  refine ⟨h.1, ?_⟩
  rcases h.2 with hn | ⟨k, cap, cur, rfl, hk, rest⟩
  · exact .inl hn
  · exact .inr ⟨k, cap, cur, rfl, Nat.le_trans hb hk, rest⟩
theorem cell1 {w W : World} {t : TypeId} {x : Value} (hb : Below (w.alloc (.cells #[x] t)).heap.size (w.alloc (.cells #[x] t)) W) : W.cell? ⟨w.heap.size, 0, none⟩ = some x :=
  (hb.cell (p := ⟨w.heap.size, 0, none⟩) (by simp)).trans (cell_of_row _ _ 0 _ _ _ (heap_alloc_new _ _))
set_option maxRecDepth 100000 in
set_option maxHeartbeats 4000000 in
theorem groups_any (a : Option Addr) (n c : Nat) (l : List Sp) (a3 : Option Addr) (n3 c3 : Nat) (on : List Sp) (wd : Int) (w : World) (hL : Arg w a n c l) (hO : Arg w a3 n3 c3 on) :
    Calls Try.prog 14 #[.slice a n c, .slice a3 n3 c3, .int .i64 wd] w (GrpsPost (grpsP l on wd) w) := by
  obtain ⟨R, hR⟩ : ∃ R, grpsP l on wd = R := ⟨_, rfl⟩
  rw [hR]
  obtain ⟨W1, hW1⟩ : ∃ W1, w.alloc (.cells #[.int .i64 wd] 3) = W1 := ⟨_, rfl⟩
  have bw : Below w.heap.size w W1 := by rw [← hW1]; exact (Below.refl _ _).alloc (Nat.le_refl _) _
  have g1 : w.heap.size < W1.heap.size := by rw [← hW1]; simp
  have KX := Lib.hid (fun W (h : Below W1.heap.size W1 W) => (show W.cell? ⟨w.heap.size, 0, none⟩ = some (.int .i64 wd) from cell1 (w := w) (t := 3) (by rw [hW1]; exact h)))
  have HB := Lib.hid (Below.refl W1.heap.size W1)
  have q0 := KX.out _ HB.out
  obtain ⟨r1, hr1⟩ : ∃ r, tblB l = r := ⟨_, rfl⟩
  obtain ⟨r2, hr2⟩ : ∃ r, chkB on = r := ⟨_, rfl⟩
  obtain ⟨r3, hr3⟩ : ∃ r, decide (wd < 1) = r := ⟨_, rfl⟩
  obtain ⟨r4, hr4⟩ : ∃ r, decide (4096 < wd) = r := ⟨_, rfl⟩
  have TC := Lib.hid (fun W (h : Below W1.heap.size W1 W) => hr1 ▸ tcheck_any a n c l W ((hL.below bw).below h))
  have SC := Lib.hid (fun W (h : Below W1.heap.size W1 W) => hr2 ▸ check_arg on a3 n3 c3 W ((hO.below bw).below h))
  by_cases hgood : r1 = true ∧ r2 = true ∧ r3 = false ∧ r4 = false
  · obtain ⟨rfl, rfl, rfl, rfl⟩ := hgood
    have hw1 : 1 ≤ wd := by have := of_decide_eq_false hr3; omega
    have hw2 : wd ≤ 4096 := by have := of_decide_eq_false hr4; omega
    have HR := Lib.hid (show R = (grpsF wd (clipP l on).length (clipP l on), 0) by rw [← hR]; exact if_pos ⟨hr1, hr2, hw1, hw2⟩)
    have hlt1 : ¬ wd < 1 := by omega
    have hlt2 : ¬ 4096 < wd := by omega
    have hct := clip_tbl l on
    have CL := Lib.hid (fun W (h : Below W1.heap.size W1 W) => clip_any a n c l a3 n3 c3 on W ((hL.below bw).below h) ((hO.below bw).below h))
    generalize clipP l on = M at CL hct HR
    obtain ⟨hsm, hkm⟩ := tbl_small hct
    have GA := Lib.hid (fun W (a8 : Option Addr) (n8 c8 g8 : Nat) (hA : Arg W a8 n8 c8 M) h5 c5 h8 c8' => gather_any wd hw1 hw2 w.heap.size g8 a8 n8 c8 M W hA hsm hkm h5 c5 h8 c8')
    clear hL hO hr1 hr2 hr3 hr4 hR hct hsm hkm
    go_enter Try.func14, Try.ntmps14
    go_upto_region 3 with (first | (go_at_call 23; (with_reducible refine (TC.out _ HB.out).mono ?_); rintro e wf ⟨rfl, hbf⟩; replace HB := Lib.hid (below_next HB.out hbf); clear hbf; have q0 := KX.out _ HB.out) | (go_at_call 31; (with_reducible refine (SC.out _ HB.out).mono ?_); rintro e wf ⟨rfl, hbf⟩; replace HB := Lib.hid (below_next HB.out hbf); clear hbf; have q0 := KX.out _ HB.out))
    obtain ⟨W4, hW4⟩ : ∃ W4, wf = W4 := ⟨_, rfl⟩
    rw [hW4] at HB q0 ⊢
    clear hW4
    obtain ⟨W4', hW4'⟩ : ∃ W4', W4.alloc (.cells #[Value.nilFunc] 80) = W4' := ⟨_, rfl⟩
    have b4' : Below W4.heap.size W4 W4' := by rw [← hW4']; exact (Below.refl _ _).alloc (Nat.le_refl _) _
    have hr4' : W4'.heap[W4.heap.size]? = some (.cells #[Value.nilFunc] 80) := by rw [← hW4']; exact heap_alloc_new _ _
    have x4 : W4'.cell? ⟨W4.heap.size, 0, none⟩ = some Value.nilFunc := cell_of_row _ _ 0 _ _ _ hr4'
    have f4 := frozen_of_row _ _ 0 _ _ hr4'
    obtain ⟨W5, hW5⟩ : ∃ W5, W4'.setCell ⟨W4.heap.size, 0, none⟩ (.func (.func 33) #[] #[.pointer (some ⟨w.heap.size, 0, none⟩)]) = W5 := ⟨_, rfl⟩
    have b5 : Below W4.heap.size W4 W5 := by rw [← hW5]; exact b4'.setCell (Nat.le_refl _) _
    have g5 : W4.heap.size < W5.heap.size := by rw [← hW5, ← hW4']; simp
    have hr5 : W5.heap[W4.heap.size]? = some (.cells #[.func (.func 33) #[] #[.pointer (some ⟨w.heap.size, 0, none⟩)]] 80) := by rw [← hW5]; exact heap_setCell_same _ _ 0 _ _ _ hr4'
    have KF := Lib.hid (fun W (h : Below W5.heap.size W5 W) => (show W.cell? ⟨W4.heap.size, 0, none⟩ = some (.func (.func 33) #[] #[.pointer (some ⟨w.heap.size, 0, none⟩)]) from (h.cell (p := ⟨W4.heap.size, 0, none⟩) g5).trans (cell_of_row _ _ 0 _ _ _ hr5)))
    have k0 := KF.out _ (Below.refl _ _)
    clear hr4' hr5
    have hb5 := below_next HB.out b5
    have hs5 := hb5.size
    have h15 : w.heap.size < W5.heap.size := by omega
    go_wp2_with fail
    try rw [hW5]
    replace hW5 := Lib.hid hW5
    replace hW4' := Lib.hid hW4'
    clear x4 f4
    have HBD : Below W5.heap.size W5 W5 := Below.refl _ _
    go_region_held3 (fun W => W.cell? ⟨W4.heap.size, 0, none⟩ = some (.func (.func 33) #[] #[.pointer (some ⟨w.heap.size, 0, none⟩)])) (exact KF.out _ (by repeat (first | with_reducible exact HBD | refine toDS ?_ | refine Below.alloc ?_ (by first | omega | (simp; omega)) _))) ((first | (go_at_call 12; (with_reducible refine (CL.out _ (below_next hb5 (by repeat (first | with_reducible exact HBD | refine toDS ?_ | refine Below.alloc ?_ (by first | omega | (simp; omega)) _)))).mono ?_); rintro e w6 ⟨v6, rfl, ho6, hb6⟩; obtain ⟨a8, c8, hv, _⟩ := ho6.arg; subst hv; have HBD := below_next (w := W5) (by repeat (first | with_reducible exact HBD | refine toDS ?_ | refine Below.alloc ?_ (by first | omega | (simp; omega)) _)) hb6; have HA6 := Lib.hid (Arg.of_own ho6 rfl); have HB6 := Below.refl w6.heap.size w6; have hs6 := HBD.size) | (go_at_call 34; (with_reducible refine (GA.out _ _ _ _ _ (HA6.out.below (by repeat (first | with_reducible exact HB6 | refine toDS ?_ | refine Below.alloc ?_ (by first | omega | (simp; omega)) _))) (lt_grown h15 (by repeat (first | with_reducible exact HBD | refine toDS ?_ | refine Below.alloc ?_ (by first | omega | (simp; omega)) _))) (KX.out _ (below_next hb5 (by repeat (first | with_reducible exact HBD | refine toDS ?_ | refine Below.alloc ?_ (by first | omega | (simp; omega)) _)))) (lt_grown g5 (by repeat (first | with_reducible exact HBD | refine toDS ?_ | refine Below.alloc ?_ (by first | omega | (simp; omega)) _))) (KF.out _ (by repeat (first | with_reducible exact HBD | refine toDS ?_ | refine Below.alloc ?_ (by first | omega | (simp; omega)) _)))).mono ?_); rintro e w7 ⟨v7, rfl, ho7, hb7⟩; have HBD := below_next (w := W5) (by repeat (first | with_reducible exact HBD | refine toDS ?_ | refine Below.alloc ?_ (by first | omega | (simp; omega)) _)) hb7) | fail))
    all_goals
      go_wp2_with fail
      go_ret2
      exact ⟨v7, (by rw [HR.out] <;> rfl), by rw [HR.out]; exact ho7.lowG (show w.heap.size ≤ w6.heap.size by omega), below_next bw (below_next hb5 HBD)⟩
  · have HR := Lib.hid (show R = ([], 1) by
      rw [← hR]
      refine if_neg fun q => hgood ⟨hr1.symm.trans q.1, hr2.symm.trans q.2.1, ?_, ?_⟩
      · rw [← hr3]; exact decide_eq_false (by omega)
      · rw [← hr4]; exact decide_eq_false (by omega))
    clear hL hO hR
    cases r1
    · clear hgood
      go_enter Try.func14, Try.ntmps14
      go_wp2_with (first | (go_at_call 23; (with_reducible refine (TC.out _ HB.out).mono ?_); rintro e wf ⟨rfl, hbf⟩; replace HB := Lib.hid (below_next HB.out hbf); clear hbf; have q0 := KX.out _ HB.out) | (go_at_call 31; (with_reducible refine (SC.out _ HB.out).mono ?_); rintro e wf ⟨rfl, hbf⟩; replace HB := Lib.hid (below_next HB.out hbf); clear hbf; have q0 := KX.out _ HB.out))
      go_ret2
      exact ⟨_, (by rw [HR.out] <;> rfl), by rw [HR.out]; exact OwnsR.nil _ _ _ _ _, below_next bw HB.out⟩
    · cases r2
      · clear hgood
        go_enter Try.func14, Try.ntmps14
        go_wp2_with (first | (go_at_call 23; (with_reducible refine (TC.out _ HB.out).mono ?_); rintro e wf ⟨rfl, hbf⟩; replace HB := Lib.hid (below_next HB.out hbf); clear hbf; have q0 := KX.out _ HB.out) | (go_at_call 31; (with_reducible refine (SC.out _ HB.out).mono ?_); rintro e wf ⟨rfl, hbf⟩; replace HB := Lib.hid (below_next HB.out hbf); clear hbf; have q0 := KX.out _ HB.out))
        go_ret2
        exact ⟨_, (by rw [HR.out] <;> rfl), by rw [HR.out]; exact OwnsR.nil _ _ _ _ _, below_next bw HB.out⟩
      · cases r3
        · cases r4
          · exact absurd ⟨rfl, rfl, rfl, rfl⟩ hgood
          · clear hgood
            have hlt2 : 4096 < wd := of_decide_eq_true hr4
            have hlt1 : ¬ wd < 1 := by omega
            clear hr1 hr2 hr3 hr4
            go_enter Try.func14, Try.ntmps14
            go_wp2_with (first | (go_at_call 23; (with_reducible refine (TC.out _ HB.out).mono ?_); rintro e wf ⟨rfl, hbf⟩; replace HB := Lib.hid (below_next HB.out hbf); clear hbf; have q0 := KX.out _ HB.out) | (go_at_call 31; (with_reducible refine (SC.out _ HB.out).mono ?_); rintro e wf ⟨rfl, hbf⟩; replace HB := Lib.hid (below_next HB.out hbf); clear hbf; have q0 := KX.out _ HB.out))
            go_ret2
            exact ⟨_, (by rw [HR.out] <;> rfl), by rw [HR.out]; exact OwnsR.nil _ _ _ _ _, below_next bw HB.out⟩
        · clear hgood
          have hlt1 : wd < 1 := of_decide_eq_true hr3
          clear hr1 hr2 hr3 hr4
          go_enter Try.func14, Try.ntmps14
          go_wp2_with (first | (go_at_call 23; (with_reducible refine (TC.out _ HB.out).mono ?_); rintro e wf ⟨rfl, hbf⟩; replace HB := Lib.hid (below_next HB.out hbf); clear hbf; have q0 := KX.out _ HB.out) | (go_at_call 31; (with_reducible refine (SC.out _ HB.out).mono ?_); rintro e wf ⟨rfl, hbf⟩; replace HB := Lib.hid (below_next HB.out hbf); clear hbf; have q0 := KX.out _ HB.out))
          go_ret2
          exact ⟨_, (by rw [HR.out] <;> rfl), by rw [HR.out]; exact OwnsR.nil _ _ _ _ _, below_next bw HB.out⟩
end Go.Proofs.Ytbpekloodjimoaa
