/-
  THE STATEMENT 'splicelaw22.ScanPlaces'.
-/
import Derived.Test.YthcideijpmbpnaaScN
import Derived.BigQuiet
import Derived.Deep.QuietTactic
namespace Go.Proofs.Ythcideijpmbpnaa
open Go.RowKit Go.Shelf Go.ChangeShapes Go.WideShapes Go.Deep

theorem neqPr (x y p q : Int) (w : World) : (binOp .neq 48 (.agg #[.int .i64 x, .int .i64 y]) (.agg #[.int .i64 p, .int .i64 q])).run Try.prog w = .ok (.bool (!decide ((x, y) = (p, q)))) w := by
  have u3 := Try.underlying3
  have a3 := Try.isAgg3
  have z3 := Try.sizeOf3
  have hS : Try.prog.underlying 48 = some (.struct (Try.prog.fieldsOf 48)) := by kernel_rfl
  have hp : Try.prog.stoodInHeld 48 = false := by kernel_rfl
  rw [run_neq_struct, show (10000 : Nat) = 9999 + 1 from rfl, run_equalIn_agg w 9999 48 _ _ hS hp]
  simp only [Program.fieldsOf, Try.underlying48]
  go_simp
  by_cases h1 : x = p <;> by_cases h2 : y = q <;> simp [h1, h2]
theorem pair_new (w : World) (x y : Int) (t : TypeId) : Arg (w.alloc (.cells #[.int .i64 x, .int .i64 y] t)) (some ⟨w.heap.size, 0, none⟩) 1 1 [(x, y)] := by
  refine ⟨rfl, by simp, by simp, by unfold maxLen; omega, fun j hj => ?_⟩
  have hj0 : j = 0 := by simpa using hj
  subst hj0
  exact ⟨w.heap.size, 0, rfl, by simp, cell_of_row _ _ 0 _ _ _ (heap_alloc_new _ _), cell_of_row _ _ 1 _ _ _ (heap_alloc_new _ _)⟩
set_option maxRecDepth 100000 in
set_option maxHeartbeats 2000000 in
theorem scanPlaces_walk (a : Option Addr) (n c : Nat) (l : List Sp) (a3 : Option Addr) (n3 c3 : Nat) (on : List Sp) (k0 k1 : Int) (w : World) (hL : Arg w a n c l) (hO : Arg w a3 n3 c3 on) :
    Calls Try.prog 7 #[.slice a n c, .slice a3 n3 c3, .agg #[.int .i64 k0, .int .i64 k1]] w (TruePost w) := by
  have hz1 : (n : Int) ≤ 9223372036854775807 := by have := hL.1; have := hL.2.1; omega
  have hz2 : (n3 : Int) ≤ 9223372036854775807 := by have := hO.1; have := hO.2.1; omega
  obtain ⟨W1, hW1⟩ : ∃ W1, w.alloc (.cells #[.int .i64 k0, .int .i64 k1] 63) = W1 := ⟨_, rfl⟩
  have bw : Below w.heap.size w W1 := by rw [← hW1]; exact (Below.refl _ _).alloc (Nat.le_refl _) _
  have g1 : w.heap.size < W1.heap.size := by rw [← hW1]; simp
  have hr1 : W1.heap[w.heap.size]? = some (.cells #[.int .i64 k0, .int .i64 k1] 63) := by rw [← hW1]; exact heap_alloc_new _ _
  have KX := Lib.hid (fun W (h : Below W1.heap.size W1 W) => cell2 ((h.block _ g1).trans hr1))
  obtain ⟨q0, q1⟩ := cell2 hr1
  obtain ⟨r, hr⟩ : ∃ r, decide (n ≤ 100 ∧ n3 ≤ 100) = r := ⟨_, rfl⟩
  have FW := Lib.hid (fun W => few22_any a n c a3 n3 c3 W hz1 hz2 hr)
  have HS := Lib.hid (((Env.mk (L := []) (Below.refl W1.heap.size W1) (by simp)).add (hO.below bw)).add (hL.below bw))
  cases r
  · clear hL hO hr hr1
    go_enter Try.func7, Try.ntmps7
    go_wp2_with (first | (go_at_call 10; (with_reducible refine (FW.out _).mono ?_); rintro e wf ⟨rfl, rfl⟩) | (go_at_call 11; (with_reducible refine (awake22_any _).mono ?_); rintro e wa ⟨rfl, hba⟩; replace HS := Lib.hid ((HS.out.step (by repeat (first | with_reducible exact Below.refl _ _ | with_reducible refine toDS ?_ | with_reducible refine Below.alloc ?_ (by first | exact Nat.le_refl _ | omega | (simp; omega)) _))).step hba); clear hba))
    go_ret
    exact ⟨rfl, below_next bw HS.out.low⟩
  · have h100 := of_decide_eq_true hr
    have zl : l.length ≤ 100000 := by have := hL.1; omega
    have zo : on.length ≤ 100000 := by have := hO.1; omega
    have zM : (clipP l on).length ≤ 100 := by
      have h1 := hL.1
      unfold clipP
      split
      · have := List.length_filter_le (fun p => hasB on p.1) l; omega
      · simp
    have hct := clip_tbl l on
    obtain ⟨M, hMc⟩ : ∃ M, clipP l on = M := ⟨_, rfl⟩
    have NT := Lib.hid (fun W h1 h2 => hMc ▸ nth_any a n c l a3 n3 c3 on k0 W h1 h2)
    have RK := Lib.hid (fun key W h1 h2 => hMc ▸ rankS_any a n c l a3 n3 c3 on key W h1 h2)
    have RR := Lib.hid (fun (x : Option Addr) (xn xc : Nat) (y : Option Addr) (yn yc : Nat) W h1 h2 => hMc ▸ rrank_any x xn xc l y yn yc on k1 W h1 h2 zl)
    rw [hMc] at zM hct
    have HMc := Lib.hid hMc
    obtain ⟨⟨⟨px, py⟩, is⟩, hnp⟩ : ∃ r, nthP M k0 = r := ⟨_, rfl⟩
    rw [hnp] at NT
    have PS := Lib.hid (fun (j : Nat) (hj : j < M.length) => plc_self hct hj)
    clear hL hO hr hr1 h100 hct
    by_cases hk : 0 ≤ k0 ∧ k0 < (M.length : Int)
    · obtain ⟨j, rfl⟩ : ∃ j : Nat, k0 = (j : Int) := ⟨k0.toNat, by omega⟩
      have hjM : j < M.length := by omega
      have hnp' : (M.getD j (0, 0), true) = ((px, py), is) := by rw [← hnp]; exact (if_pos hk).symm
      injection hnp' with hp1 hp2
      subst hp2
      have hps := PS.out j hjM
      rw [hp1] at hps
      dsimp only at hps
      have RK1 := Lib.hid (fun W h1 h2 => hps ▸ RK.out px W h1 h2)
      have RK2 := Lib.hid (fun W h1 h2 => RK.out k1 W h1 h2)
      have HP1 := Lib.hid hp1
      generalize plc M k1 = P1 at RR RK2
      have hjz : (j : Int) < (M.length : Int) := by omega
      have hj0 : (0 : Int) ≤ (j : Int) := by omega
      have hwj : IntKind.i64.wrap ((j : Int) + 1) = (j : Int) + 1 := IntWalk.i64_in _ (by omega)
      clear hnp hk hp1 hps RK
      replace hMc := HMc.out
      go_enter Try.func7, Try.ntmps7
      go_upto_region 5 with (first | (go_at_call 10; (with_reducible refine (FW.out _).mono ?_); rintro e wf ⟨rfl, rfl⟩) | (go_at_call 26; (with_reducible refine (NT.out _ (HS.out.get (by repeat (first | exact List.mem_cons_self | apply List.mem_cons_of_mem))) (HS.out.get (by repeat (first | exact List.mem_cons_self | apply List.mem_cons_of_mem)))).mono ?_); rintro e wn ⟨rfl, hbn⟩; dsimp only; obtain ⟨WN, hWN⟩ : ∃ WN, wn.alloc (.cells #[.int .i64 px, .int .i64 py] 48) = WN := ⟨_, rfl⟩; have bN : Below wn.heap.size wn WN := (by rw [← hWN]; exact (Below.refl _ _).alloc (Nat.le_refl _) _); have gN : wn.heap.size < WN.heap.size := (by rw [← hWN]; simp); have hrN : WN.heap[wn.heap.size]? = some (.cells #[.int .i64 px, .int .i64 py] 48) := (by rw [← hWN]; exact heap_alloc_new _ _); replace HS := Lib.hid ((HS.out.step hbn).step bN); have KN := Lib.hid (fun W (h : Below WN.heap.size WN W) => cell2 ((h.block _ gN).trans hrN)); have HN0 := Lib.hid (Below.refl WN.heap.size WN); have hbn1 := HS.out.low) | (go_at_call 14; (with_reducible refine (refs5_any a n c l _ zl ((HS.out.step (by repeat (first | with_reducible exact Below.refl _ _ | with_reducible refine toDS ?_ | with_reducible refine Below.alloc ?_ (by first | exact Nat.le_refl _ | omega | (simp; omega)) _))).get (by repeat (first | exact List.mem_cons_self | apply List.mem_cons_of_mem)))).mono ?_); rintro e w5 ⟨a5, n5, c5, rfl, h5, hb5⟩; replace HS := Lib.hid (((HS.out.step (by repeat (first | with_reducible exact Below.refl _ _ | with_reducible refine toDS ?_ | with_reducible refine Below.alloc ?_ (by first | exact Nat.le_refl _ | omega | (simp; omega)) _))).step hb5).add h5); try replace HN0 := Lib.hid (below_next HN0.out hb5)) | (go_at_call 22; (with_reducible refine (refs_any a3 n3 c3 on _ zo ((HS.out.step (by repeat (first | with_reducible exact Below.refl _ _ | with_reducible refine toDS ?_ | with_reducible refine Below.alloc ?_ (by first | exact Nat.le_refl _ | omega | (simp; omega)) _))).get (by repeat (first | exact List.mem_cons_self | apply List.mem_cons_of_mem)))).mono ?_); rintro e w3 ⟨a7, n7, c7, rfl, h7, hb7⟩; replace HS := Lib.hid (((HS.out.step (by repeat (first | with_reducible exact Below.refl _ _ | with_reducible refine toDS ?_ | with_reducible refine Below.alloc ?_ (by first | exact Nat.le_refl _ | omega | (simp; omega)) _))).step hb7).add h7); try replace HN0 := Lib.hid (below_next HN0.out hb7)) | (go_at_call 27; (with_reducible refine (rtclip_any _ _ _ l _ _ _ on _ ((HS.out.step (by repeat (first | with_reducible exact Below.refl _ _ | with_reducible refine toDS ?_ | with_reducible refine Below.alloc ?_ (by first | exact Nat.le_refl _ | omega | (simp; omega)) _))).get (by repeat (first | exact List.mem_cons_self | apply List.mem_cons_of_mem))) ((HS.out.step (by repeat (first | with_reducible exact Below.refl _ _ | with_reducible refine toDS ?_ | with_reducible refine Below.alloc ?_ (by first | exact Nat.le_refl _ | omega | (simp; omega)) _))).get (by repeat (first | exact List.mem_cons_self | apply List.mem_cons_of_mem))) zl).mono ?_); rintro e w8 ⟨a8, n8, c8, rfl, h8, hb8⟩; rw [hMc] at h8; obtain rfl : n8 = _ := h8.1; replace HS := Lib.hid (((HS.out.step (by repeat (first | with_reducible exact Below.refl _ _ | with_reducible refine toDS ?_ | with_reducible refine Below.alloc ?_ (by first | exact Nat.le_refl _ | omega | (simp; omega)) _))).step hb8).add h8); have hc8 := h8.2.2.1; have hc9 := h8.2.2.2.1; have H8 := Lib.hid h8; clear h8; replace HN0 := Lib.hid (below_next HN0.out hb8)))
      have hMw := HMc.out
      clear hMc
      obtain ⟨b8, o8, e8⟩ := H8.out.form (by omega)
      subst e8
      have hjc : j < c8 := by omega
      have hcj : ¬ c8 = j := by omega
      obtain ⟨q0, q1⟩ := KX.out _ HS.out.low
      obtain ⟨p0, p1⟩ := KN.out _ HN0.out
      have hQ : Arg w8 (some ⟨b8, o8 + j * 2, none⟩) 1 (c8 - j) [(px, py)] := by
        have h1 := (H8.out.dropA j (by omega)).takeA 1 (by omega)
        have e1 : (M.drop j).take 1 = [(px, py)] := by
          rw [List.drop_eq_getElem_cons hjM]
          have := HP1.out
          rw [List.getD_eq_getElem?_getD, List.getElem?_eq_getElem hjM] at this
          simp at this
          rw [← this]
          rfl
        rw [e1] at h1
        exact h1
      have HL8 := HS.out.get (a := a) (n := n) (c := c) (l := l) (by repeat (first | exact List.mem_cons_self | apply List.mem_cons_of_mem))
      have HO8 := HS.out.get (a := a3) (n := n3) (c := c3) (l := on) (by repeat (first | exact List.mem_cons_self | apply List.mem_cons_of_mem))
      have HLOW := Lib.hid HS.out.low
      have g18 : w.heap.size < w8.heap.size := Nat.lt_of_lt_of_le g1 HS.out.low.size
      have gN8 : wn.heap.size < w8.heap.size := Nat.lt_of_lt_of_le gN HN0.out.size
      replace HS := Lib.hid ((((Env.mk (L := []) (Below.refl w8.heap.size w8) (by simp)).add HO8).add HL8).add hQ)
      clear HL8 HO8 hQ
      have K7 := Lib.hid (fun W (h : Below w8.heap.size w8 W) => (show W.cell? ⟨w.heap.size, 0, none⟩ = some (.int .i64 (j : Int)) ∧ W.cell? ⟨w.heap.size, 1, none⟩ = some (.int .i64 k1) ∧ W.cell? ⟨wn.heap.size, 0, none⟩ = some (.int .i64 px) ∧ W.cell? ⟨wn.heap.size, 1, none⟩ = some (.int .i64 py) from ⟨(h.cell (p := ⟨w.heap.size, 0, none⟩) g18).trans q0, (h.cell (p := ⟨w.heap.size, 1, none⟩) g18).trans q1, (h.cell (p := ⟨wn.heap.size, 0, none⟩) gN8).trans p0, (h.cell (p := ⟨wn.heap.size, 1, none⟩) gN8).trans p1⟩))
      have SM := Lib.hid (fun W (xa : Option Addr) (xn xc : Nat) (ya : Option Addr) (yn yc : Nat) (h1 : Arg W xa xn xc [(px, py)]) (h2 : Arg W ya yn yc [(px, py)]) => (show Calls Try.prog 16 #[.slice xa xn xc, .slice ya yn yc] W (Gives W (.bool true)) from by
        have := same5_any xa ya xn yn xc yc _ _ W h1 h2
        rwa [decide_eq_true rfl] at this))
      have hjn : (((j : Int) + 1).toNat) = j + 1 := by omega
      have hj1 : (0 : Int) ≤ (j : Int) + 1 := by omega
      have hjj : j + 1 - j = 1 := by omega
      have hj1c : j + 1 ≤ c8 := by omega
      have hj1z : (j : Int) + 1 ≤ (c8 : Int) := by omega
      have hjle : (j : Int) ≤ (j : Int) + 1 := by omega
      have hjl0 : j ≤ j + 1 := by omega
      have hjcz : (j : Int) ≤ (c8 : Int) := by omega
      have hw0 : IntKind.i64.wrap (j : Int) = (j : Int) := IntWalk.i64_in _ (by omega)
      replace hWN := Lib.hid hWN
      replace hW1 := Lib.hid hW1
      go_wp2_with fail
      (first | go_region_held3 (fun W => W.cell? ⟨w.heap.size, 0, none⟩ = some (.int .i64 (j : Int)) ∧ W.cell? ⟨w.heap.size, 1, none⟩ = some (.int .i64 k1) ∧ W.cell? ⟨wn.heap.size, 0, none⟩ = some (.int .i64 px) ∧ W.cell? ⟨wn.heap.size, 1, none⟩ = some (.int .i64 py)) (exact K7.out _ (HS.out.step (by repeat (first | with_reducible exact Below.refl _ _ | with_reducible refine toDS ?_ | with_reducible refine Below.alloc ?_ (by first | exact Nat.le_refl _ | omega | (simp; omega)) _))).low) ((first | (go_at_call 14; (with_reducible refine (refs5_any _ 1 1 [(px, py)] _ (by simp) (by first | exact pair_new _ _ _ _ | exact (pair_new _ _ _ _).below (toDS (Below.refl _ _)))).mono ?_); rintro e w5 ⟨a5, n5, c5, rfl, h5, hb5⟩; replace HS := Lib.hid (((HS.out.step (by repeat (first | with_reducible exact Below.refl _ _ | with_reducible refine toDS ?_ | with_reducible refine Below.alloc ?_ (by first | exact Nat.le_refl _ | omega | (simp; omega)) _))).step hb5).add h5)) | (go_at_call 16; (with_reducible refine (SM.out _ _ _ _ _ _ _ ((HS.out.step (by repeat (first | with_reducible exact Below.refl _ _ | with_reducible refine toDS ?_ | with_reducible refine Below.alloc ?_ (by first | exact Nat.le_refl _ | omega | (simp; omega)) _))).get (by repeat (first | exact List.mem_cons_self | apply List.mem_cons_of_mem))) ((HS.out.step (by repeat (first | with_reducible exact Below.refl _ _ | with_reducible refine toDS ?_ | with_reducible refine Below.alloc ?_ (by first | exact Nat.le_refl _ | omega | (simp; omega)) _))).get (by repeat (first | exact List.mem_cons_self | apply List.mem_cons_of_mem)))).mono ?_); rintro e w6 ⟨rfl, hb6⟩; replace HS := Lib.hid ((HS.out.step (by repeat (first | with_reducible exact Below.refl _ _ | with_reducible refine toDS ?_ | with_reducible refine Below.alloc ?_ (by first | exact Nat.le_refl _ | omega | (simp; omega)) _))).step hb6)) | (go_at_call 28; (with_reducible refine (RK1.out _ ((HS.out.step (by repeat (first | with_reducible exact Below.refl _ _ | with_reducible refine toDS ?_ | with_reducible refine Below.alloc ?_ (by first | exact Nat.le_refl _ | omega | (simp; omega)) _))).get (by repeat (first | exact List.mem_cons_self | apply List.mem_cons_of_mem))) ((HS.out.step (by repeat (first | with_reducible exact Below.refl _ _ | with_reducible refine toDS ?_ | with_reducible refine Below.alloc ?_ (by first | exact Nat.le_refl _ | omega | (simp; omega)) _))).get (by repeat (first | exact List.mem_cons_self | apply List.mem_cons_of_mem)))).mono ?_); rintro e w7 ⟨rfl, hb7⟩; replace HS := Lib.hid ((HS.out.step (by repeat (first | with_reducible exact Below.refl _ _ | with_reducible refine toDS ?_ | with_reducible refine Below.alloc ?_ (by first | exact Nat.le_refl _ | omega | (simp; omega)) _))).step hb7)) | fail)) | fail)
      all_goals
        go_wp2_with fail
        (first | go_region_held3 (fun W => W.cell? ⟨w.heap.size, 0, none⟩ = some (.int .i64 (j : Int)) ∧ W.cell? ⟨w.heap.size, 1, none⟩ = some (.int .i64 k1) ∧ W.cell? ⟨wn.heap.size, 0, none⟩ = some (.int .i64 px) ∧ W.cell? ⟨wn.heap.size, 1, none⟩ = some (.int .i64 py)) (exact K7.out _ (HS.out.step (by repeat (first | with_reducible exact Below.refl _ _ | with_reducible refine toDS ?_ | with_reducible refine Below.alloc ?_ (by first | exact Nat.le_refl _ | omega | (simp; omega)) _))).low) ((first | (go_at_call 11; (with_reducible refine (awake22_any _).mono ?_); rintro e wa ⟨rfl, hba⟩; replace HS := Lib.hid ((HS.out.step (by repeat (first | with_reducible exact Below.refl _ _ | with_reducible refine toDS ?_ | with_reducible refine Below.alloc ?_ (by first | exact Nat.le_refl _ | omega | (simp; omega)) _))).step hba); clear hba) | (go_at_call 14; (with_reducible refine (refs5_any a n c l _ zl ((HS.out.step (by repeat (first | with_reducible exact Below.refl _ _ | with_reducible refine toDS ?_ | with_reducible refine Below.alloc ?_ (by first | exact Nat.le_refl _ | omega | (simp; omega)) _))).get (by repeat (first | exact List.mem_cons_self | apply List.mem_cons_of_mem)))).mono ?_); rintro e w5 ⟨a5, n5, c5, rfl, h5, hb5⟩; replace HS := Lib.hid (((HS.out.step (by repeat (first | with_reducible exact Below.refl _ _ | with_reducible refine toDS ?_ | with_reducible refine Below.alloc ?_ (by first | exact Nat.le_refl _ | omega | (simp; omega)) _))).step hb5).add h5); try replace HN0 := Lib.hid (below_next HN0.out hb5)) | (go_at_call 22; (with_reducible refine (refs_any a3 n3 c3 on _ zo ((HS.out.step (by repeat (first | with_reducible exact Below.refl _ _ | with_reducible refine toDS ?_ | with_reducible refine Below.alloc ?_ (by first | exact Nat.le_refl _ | omega | (simp; omega)) _))).get (by repeat (first | exact List.mem_cons_self | apply List.mem_cons_of_mem)))).mono ?_); rintro e w3 ⟨a7, n7, c7, rfl, h7, hb7⟩; replace HS := Lib.hid (((HS.out.step (by repeat (first | with_reducible exact Below.refl _ _ | with_reducible refine toDS ?_ | with_reducible refine Below.alloc ?_ (by first | exact Nat.le_refl _ | omega | (simp; omega)) _))).step hb7).add h7); try replace HN0 := Lib.hid (below_next HN0.out hb7)) | (go_at_call 28; (with_reducible refine (RK2.out _ ((HS.out.step (by repeat (first | with_reducible exact Below.refl _ _ | with_reducible refine toDS ?_ | with_reducible refine Below.alloc ?_ (by first | exact Nat.le_refl _ | omega | (simp; omega)) _))).get (by repeat (first | exact List.mem_cons_self | apply List.mem_cons_of_mem))) ((HS.out.step (by repeat (first | with_reducible exact Below.refl _ _ | with_reducible refine toDS ?_ | with_reducible refine Below.alloc ?_ (by first | exact Nat.le_refl _ | omega | (simp; omega)) _))).get (by repeat (first | exact List.mem_cons_self | apply List.mem_cons_of_mem)))).mono ?_); rintro e w7 ⟨rfl, hb7⟩; replace HS := Lib.hid ((HS.out.step (by repeat (first | with_reducible exact Below.refl _ _ | with_reducible refine toDS ?_ | with_reducible refine Below.alloc ?_ (by first | exact Nat.le_refl _ | omega | (simp; omega)) _))).step hb7)) | (go_at_call 29; (with_reducible refine (RR.out _ _ _ _ _ _ _ ((HS.out.step (by repeat (first | with_reducible exact Below.refl _ _ | with_reducible refine toDS ?_ | with_reducible refine Below.alloc ?_ (by first | exact Nat.le_refl _ | omega | (simp; omega)) _))).get (by repeat (first | exact List.mem_cons_self | apply List.mem_cons_of_mem))) ((HS.out.step (by repeat (first | with_reducible exact Below.refl _ _ | with_reducible refine toDS ?_ | with_reducible refine Below.alloc ?_ (by first | exact Nat.le_refl _ | omega | (simp; omega)) _))).get (by repeat (first | exact List.mem_cons_self | apply List.mem_cons_of_mem)))).mono ?_); rintro e w6 ⟨rfl, hb6⟩; replace HS := Lib.hid ((HS.out.step (by repeat (first | with_reducible exact Below.refl _ _ | with_reducible refine toDS ?_ | with_reducible refine Below.alloc ?_ (by first | exact Nat.le_refl _ | omega | (simp; omega)) _))).step hb6)) | fail)) | fail)
        all_goals
          go_wp2_with fail
          go_ret
          exact ⟨rfl, below_next bw (below_next HLOW.out (HS.out.step (by repeat (first | with_reducible exact Below.refl _ _ | with_reducible refine toDS ?_ | with_reducible refine Below.alloc ?_ (by first | exact Nat.le_refl _ | omega | (simp; omega)) _))).low)⟩
    · have hnp' : ((0, 0), false) = ((px, py), is) := by rw [← hnp]; exact (if_neg hk).symm
      injection hnp' with hp1 hp2
      subst hp2
      injection hp1 with e1 e2
      subst e1 e2
      have RK2 := Lib.hid (fun W h1 h2 => RK.out k1 W h1 h2)
      generalize plc M k1 = P1 at RR RK2
      have NE := fun w => neqPr 0 0 0 0 w
      rw [decide_eq_true (show ((0, 0) : Int × Int) = (0, 0) from rfl)] at NE
      have hkk : k0 < 0 ∨ (0 ≤ k0 ∧ (M.length : Int) ≤ k0) := by omega
      clear hnp hk RK PS
      replace hMc := HMc.out
      rcases hkk with hk0 | ⟨hk0, hkl⟩
      all_goals
        try have hk0' : ¬ 0 ≤ k0 := by omega
        try have hkl' : ¬ k0 < (M.length : Int) := by omega
        go_enter Try.func7, Try.ntmps7
        go_upto_region 5 with (first | (go_at_call 10; (with_reducible refine (FW.out _).mono ?_); rintro e wf ⟨rfl, rfl⟩) | (go_at_call 26; (with_reducible refine (NT.out _ (HS.out.get (by repeat (first | exact List.mem_cons_self | apply List.mem_cons_of_mem))) (HS.out.get (by repeat (first | exact List.mem_cons_self | apply List.mem_cons_of_mem)))).mono ?_); rintro e wn ⟨rfl, hbn⟩; dsimp only; have bN : Below wn.heap.size wn (wn.alloc (.cells #[.int .i64 0, .int .i64 0] 48)) := (Below.refl _ _).alloc (Nat.le_refl _) _; replace HS := Lib.hid ((HS.out.step hbn).step bN); have KN := Lib.hid (fun W (h : Below (wn.alloc (.cells #[.int .i64 0, .int .i64 0] 48)).heap.size (wn.alloc (.cells #[.int .i64 0, .int .i64 0] 48)) W) => cell2 ((h.block _ (by simp)).trans (heap_alloc_new wn (.cells #[.int .i64 0, .int .i64 0] 48)))); have HN0 := Lib.hid (Below.refl (wn.alloc (.cells #[.int .i64 0, .int .i64 0] 48)).heap.size (wn.alloc (.cells #[.int .i64 0, .int .i64 0] 48)))) | (go_at_call 14; (with_reducible refine (refs5_any a n c l _ zl ((HS.out.step (by repeat (first | with_reducible exact Below.refl _ _ | with_reducible refine toDS ?_ | with_reducible refine Below.alloc ?_ (by first | exact Nat.le_refl _ | omega | (simp; omega)) _))).get (by repeat (first | exact List.mem_cons_self | apply List.mem_cons_of_mem)))).mono ?_); rintro e w5 ⟨a5, n5, c5, rfl, h5, hb5⟩; replace HS := Lib.hid (((HS.out.step (by repeat (first | with_reducible exact Below.refl _ _ | with_reducible refine toDS ?_ | with_reducible refine Below.alloc ?_ (by first | exact Nat.le_refl _ | omega | (simp; omega)) _))).step hb5).add h5); try replace HN0 := Lib.hid (below_next HN0.out hb5)) | (go_at_call 22; (with_reducible refine (refs_any a3 n3 c3 on _ zo ((HS.out.step (by repeat (first | with_reducible exact Below.refl _ _ | with_reducible refine toDS ?_ | with_reducible refine Below.alloc ?_ (by first | exact Nat.le_refl _ | omega | (simp; omega)) _))).get (by repeat (first | exact List.mem_cons_self | apply List.mem_cons_of_mem)))).mono ?_); rintro e w3 ⟨a7, n7, c7, rfl, h7, hb7⟩; replace HS := Lib.hid (((HS.out.step (by repeat (first | with_reducible exact Below.refl _ _ | with_reducible refine toDS ?_ | with_reducible refine Below.alloc ?_ (by first | exact Nat.le_refl _ | omega | (simp; omega)) _))).step hb7).add h7); try replace HN0 := Lib.hid (below_next HN0.out hb7)) | (go_at_call 27; (with_reducible refine (rtclip_any _ _ _ l _ _ _ on _ ((HS.out.step (by repeat (first | with_reducible exact Below.refl _ _ | with_reducible refine toDS ?_ | with_reducible refine Below.alloc ?_ (by first | exact Nat.le_refl _ | omega | (simp; omega)) _))).get (by repeat (first | exact List.mem_cons_self | apply List.mem_cons_of_mem))) ((HS.out.step (by repeat (first | with_reducible exact Below.refl _ _ | with_reducible refine toDS ?_ | with_reducible refine Below.alloc ?_ (by first | exact Nat.le_refl _ | omega | (simp; omega)) _))).get (by repeat (first | exact List.mem_cons_self | apply List.mem_cons_of_mem))) zl).mono ?_); rintro e w8 ⟨a8, n8, c8, rfl, h8, hb8⟩; rw [hMc] at h8; obtain rfl : n8 = _ := h8.1; replace HS := Lib.hid (((HS.out.step (by repeat (first | with_reducible exact Below.refl _ _ | with_reducible refine toDS ?_ | with_reducible refine Below.alloc ?_ (by first | exact Nat.le_refl _ | omega | (simp; omega)) _))).step hb8).add h8); have hc8 := h8.2.2.1; have hc9 := h8.2.2.2.1; have H8 := Lib.hid h8; clear h8; replace HN0 := Lib.hid (below_next HN0.out hb8)))
        clear hMc
        obtain ⟨q0, q1⟩ := KX.out _ HS.out.low
        obtain ⟨p0, p1⟩ := KN.out _ HN0.out
        have HL8 := HS.out.get (a := a) (n := n) (c := c) (l := l) (by repeat (first | exact List.mem_cons_self | apply List.mem_cons_of_mem))
        have HO8 := HS.out.get (a := a3) (n := n3) (c := c3) (l := on) (by repeat (first | exact List.mem_cons_self | apply List.mem_cons_of_mem))
        have HLOW := Lib.hid HS.out.low
        have g18 : w.heap.size < w8.heap.size := Nat.lt_of_lt_of_le g1 HS.out.low.size
        replace HS := Lib.hid (((Env.mk (L := []) (Below.refl w8.heap.size w8) (by simp)).add HO8).add HL8)
        clear HL8 HO8
        replace hW1 := Lib.hid hW1
        go_wp2_with fail
        go_quiet (fail)
        go_wp2_with fail
        have K7 := Lib.hid (fun W (h : Below w8.heap.size w8 W) => (show W.cell? ⟨w.heap.size, 0, none⟩ = some (.int .i64 k0) ∧ W.cell? ⟨w.heap.size, 1, none⟩ = some (.int .i64 k1) from ⟨(h.cell (p := ⟨w.heap.size, 0, none⟩) g18).trans q0, (h.cell (p := ⟨w.heap.size, 1, none⟩) g18).trans q1⟩))
        have hbq := below_drewN (Below.refl w8.heap.size w8) nq
        generalize w8.drewN nq = W9 at hbq ⊢
        replace HS := Lib.hid (HS.out.step hbq)
        (first | go_region_held3 (fun W => W.cell? ⟨w.heap.size, 0, none⟩ = some (.int .i64 k0) ∧ W.cell? ⟨w.heap.size, 1, none⟩ = some (.int .i64 k1)) (exact K7.out _ (HS.out.step (by repeat (first | with_reducible exact Below.refl _ _ | with_reducible refine toDS ?_ | with_reducible refine Below.alloc ?_ (by first | exact Nat.le_refl _ | omega | (simp; omega)) _))).low) ((first | (go_at_call 11; (with_reducible refine (awake22_any _).mono ?_); rintro e wa ⟨rfl, hba⟩; replace HS := Lib.hid ((HS.out.step (by repeat (first | with_reducible exact Below.refl _ _ | with_reducible refine toDS ?_ | with_reducible refine Below.alloc ?_ (by first | exact Nat.le_refl _ | omega | (simp; omega)) _))).step hba); clear hba) | (go_at_call 14; (with_reducible refine (refs5_any a n c l _ zl ((HS.out.step (by repeat (first | with_reducible exact Below.refl _ _ | with_reducible refine toDS ?_ | with_reducible refine Below.alloc ?_ (by first | exact Nat.le_refl _ | omega | (simp; omega)) _))).get (by repeat (first | exact List.mem_cons_self | apply List.mem_cons_of_mem)))).mono ?_); rintro e w5 ⟨a5, n5, c5, rfl, h5, hb5⟩; replace HS := Lib.hid (((HS.out.step (by repeat (first | with_reducible exact Below.refl _ _ | with_reducible refine toDS ?_ | with_reducible refine Below.alloc ?_ (by first | exact Nat.le_refl _ | omega | (simp; omega)) _))).step hb5).add h5); try replace HN0 := Lib.hid (below_next HN0.out hb5)) | (go_at_call 22; (with_reducible refine (refs_any a3 n3 c3 on _ zo ((HS.out.step (by repeat (first | with_reducible exact Below.refl _ _ | with_reducible refine toDS ?_ | with_reducible refine Below.alloc ?_ (by first | exact Nat.le_refl _ | omega | (simp; omega)) _))).get (by repeat (first | exact List.mem_cons_self | apply List.mem_cons_of_mem)))).mono ?_); rintro e w3 ⟨a7, n7, c7, rfl, h7, hb7⟩; replace HS := Lib.hid (((HS.out.step (by repeat (first | with_reducible exact Below.refl _ _ | with_reducible refine toDS ?_ | with_reducible refine Below.alloc ?_ (by first | exact Nat.le_refl _ | omega | (simp; omega)) _))).step hb7).add h7); try replace HN0 := Lib.hid (below_next HN0.out hb7)) | (go_at_call 28; (with_reducible refine (RK2.out _ ((HS.out.step (by repeat (first | with_reducible exact Below.refl _ _ | with_reducible refine toDS ?_ | with_reducible refine Below.alloc ?_ (by first | exact Nat.le_refl _ | omega | (simp; omega)) _))).get (by repeat (first | exact List.mem_cons_self | apply List.mem_cons_of_mem))) ((HS.out.step (by repeat (first | with_reducible exact Below.refl _ _ | with_reducible refine toDS ?_ | with_reducible refine Below.alloc ?_ (by first | exact Nat.le_refl _ | omega | (simp; omega)) _))).get (by repeat (first | exact List.mem_cons_self | apply List.mem_cons_of_mem)))).mono ?_); rintro e w7 ⟨rfl, hb7⟩; replace HS := Lib.hid ((HS.out.step (by repeat (first | with_reducible exact Below.refl _ _ | with_reducible refine toDS ?_ | with_reducible refine Below.alloc ?_ (by first | exact Nat.le_refl _ | omega | (simp; omega)) _))).step hb7)) | (go_at_call 29; (with_reducible refine (RR.out _ _ _ _ _ _ _ ((HS.out.step (by repeat (first | with_reducible exact Below.refl _ _ | with_reducible refine toDS ?_ | with_reducible refine Below.alloc ?_ (by first | exact Nat.le_refl _ | omega | (simp; omega)) _))).get (by repeat (first | exact List.mem_cons_self | apply List.mem_cons_of_mem))) ((HS.out.step (by repeat (first | with_reducible exact Below.refl _ _ | with_reducible refine toDS ?_ | with_reducible refine Below.alloc ?_ (by first | exact Nat.le_refl _ | omega | (simp; omega)) _))).get (by repeat (first | exact List.mem_cons_self | apply List.mem_cons_of_mem)))).mono ?_); rintro e w6 ⟨rfl, hb6⟩; replace HS := Lib.hid ((HS.out.step (by repeat (first | with_reducible exact Below.refl _ _ | with_reducible refine toDS ?_ | with_reducible refine Below.alloc ?_ (by first | exact Nat.le_refl _ | omega | (simp; omega)) _))).step hb6)) | fail)) | fail)
        all_goals
          go_wp2_with fail
          go_ret
          exact ⟨rfl, below_next bw (below_next HLOW.out (HS.out.step (by repeat (first | with_reducible exact Below.refl _ _ | with_reducible refine toDS ?_ | with_reducible refine Below.alloc ?_ (by first | exact Nat.le_refl _ | omega | (simp; omega)) _))).low)⟩
end Go.Proofs.Ythcideijpmbpnaa
