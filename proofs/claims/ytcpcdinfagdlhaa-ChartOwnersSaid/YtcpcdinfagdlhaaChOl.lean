/-
  ChartOwners.
-/
import Derived.Test.YtcpcdinfagdlhaaChOx
namespace Go.Proofs.Ytcpcdinfagdlhaa
open Go.RowKit Go.Shelf Go.ChangeShapes Go.WideShapes Go.Deep

theorem srch_plc (p : Sd → Bool) (ep nx : Int) (l : List Sd) : (plcC p ep nx l = -1 ∧ srchC p ep nx l = ((0, 0, 0, 0), false)) ∨ ∃ k : Nat, k < l.length ∧ plcC p ep nx l = (k : Int) ∧ srchC p ep nx l = (l[k]!, true) := by
  unfold plcC srchC
  by_cases hc : chkC ep nx l = true
  · rw [if_pos hc]
    rcases idxC_spec p l with ⟨h, _⟩ | ⟨k, hk, he, _, _⟩
    · refine .inl ⟨h, if_neg ?_⟩
      rw [h]; rintro ⟨_, q⟩; omega
    · refine .inr ⟨k, hk, he, ?_⟩
      rw [if_pos ⟨hc, by rw [he]; omega⟩, he, Int.toNat_natCast]
  · rw [if_neg hc]
    exact .inl ⟨rfl, if_neg (fun q => hc q.1)⟩
theorem one_any8 (p : Sd → Bool) (ep nx : Int) (a : Option Addr) (n c : Nat) (l : List Sd) (w : World) (h : RArg encS 4 w a n c l) :
    Calls Try.prog 16 #[.agg #[.int .i64 (srchC p ep nx l).1.1, .int .i64 (srchC p ep nx l).1.2.1, .int .i64 (srchC p ep nx l).1.2.2.1, .int .i64 (srchC p ep nx l).1.2.2.2], .bool (srchC p ep nx l).2, .agg #[.int .i64 ep, .int .i64 nx, .slice a n c], .int .i64 (plcC p ep nx l)] w (Gives w (.bool true)) := by
  rcases srch_plc p ep nx l with ⟨h1, h2⟩ | ⟨k, hk, h1, h2⟩
  · rw [h1, h2]; exact one_none ep nx a n c w
  · rw [h1, h2]
    obtain ⟨⟨i, lo, hi, nd⟩, hs⟩ : ∃ s, l[k]! = s := ⟨_, rfl⟩
    rw [hs]
    exact one_some ep nx i lo hi nd k a n c l w h hk hs
theorem Stable.ints (a : Option Addr) (n c : Nat) (Z : List Int) : Stable (fun W => RArg encI 1 W a n c Z) := fun _ _ h hb => h.below hb
set_option maxRecDepth 100000 in
set_option maxHeartbeats 8000000 in
theorem owners_in (ep nx : Int) (a : Option Addr) (n c : Nat) (l : List Sd) (key : Int) (a3 : Option Addr) (n3 c3 : Nat) (K : List Sp) (w : World) (h : RArg encS 4 w a n c l) (hK : Arg w a3 n3 c3 K) (hl : n ≤ 60) (hk : n3 ≤ 100) :
    Calls Try.prog 3 #[.agg #[.int .i64 ep, .int .i64 nx, .slice a n c], .int .i64 key, .slice a3 n3 c3] w (TruePost w) := by
  have hn := Lib.hid h.1
  have hz : (n : Int) ≤ 9223372036854775807 := by omega
  have hkz : (n3 : Int) ≤ 100 := by omega
  have zl : l.length ≤ 100000 := by have := hn.out; omega
  have zk : K.length ≤ 100000 := by have := hK.1; omega
  obtain ⟨W1, hW1⟩ : ∃ W1, w.alloc (.cells #[.int .i64 ep, .int .i64 nx, .slice a n c] 24) = W1 := ⟨_, rfl⟩
  have bw : Below w.heap.size w W1 := by rw [← hW1]; exact (Below.refl _ _).alloc (Nat.le_refl _) _
  have g1 : w.heap.size < W1.heap.size := by rw [← hW1]; simp
  have hr1 : W1.heap[w.heap.size]? = some (.cells #[.int .i64 ep, .int .i64 nx, .slice a n c] 24) := by rw [← hW1]; exact heap_alloc_new _ _
  have K3 := Lib.hid (fun W (h : Below W1.heap.size W1 W) => c3K ((h.block _ g1).trans hr1))
  have HA := Lib.hid (fun W (hb : Below W1.heap.size W1 W) => (h.below bw).below hb)
  have HKA := Lib.hid (fun W (hb : Below W1.heap.size W1 W) => (hK.below bw).below hb)
  have HF := Lib.hid (fun W => few8_any ep nx a n c W hz (decide_eq_true hl))
  have CO := Lib.hid (fun W (hb : Below W1.heap.size W1 W) => owner_any ep nx key a n c l W ((h.below bw).below hb))
  have CF := Lib.hid (fun W (hb : Below W1.heap.size W1 W) => find_any ep nx key a n c l W ((h.below bw).below hb))
  have RO := Lib.hid (fun ra rn rc W (h : RArg encS 4 W ra rn rc l) => rowner8_any ep nx key ra rn rc l W h)
  have RF := Lib.hid (fun ra rn rc W (h : RArg encS 4 W ra rn rc l) => rfind8_any ep nx key ra rn rc l W h)
  have O1 := Lib.hid (fun ra rn rc W (h : RArg encS 4 W ra rn rc l) => one_any8 (ownP key) ep nx ra rn rc l W h)
  have O2 := Lib.hid (fun ra rn rc W (h : RArg encS 4 W ra rn rc l) => one_any8 (fun x => x.1 == key) ep nx ra rn rc l W h)
  have C1 := Lib.hid (fun a n c W (h : RArg encS 4 W a n c l) => chk_any ep nx a n c l W h)
  have C2 := Lib.hid (fun a n c W (h : RArg encS 4 W a n c l) => rcheck8_any ep nx a n c l W h)
  have P1 := Lib.hid (fun a n c a3 n3 c3 W (h : RArg encS 4 W a n c l) (hK : Arg W a3 n3 c3 K) => owners_any ep nx a n c l a3 n3 c3 K W h hK)
  have P2 := Lib.hid (fun a n c a3 n3 c3 W (h : RArg encS 4 W a n c l) (hK : Arg W a3 n3 c3 K) => rowners8_any ep nx a n c l a3 n3 c3 K W h hK)
  rw [show (fun x : Sd => decide (x.2.1 ≤ key) && decide (key < x.2.2.1)) = ownP key from rfl] at CO
  generalize ownersC ep nx l K = Z at P1 P2
  generalize chkC ep nx l = ck at C1 C2
  generalize srchC (ownP key) ep nx l = s1 at CO O1
  generalize srchC (fun x => x.1 == key) ep nx l = s2 at CF O2
  generalize plcC (ownP key) ep nx l = at1 at RO O1
  generalize plcC (fun x => x.1 == key) ep nx l = at2 at RF O2
  obtain ⟨⟨i1, lo1, hi1, nd1⟩, is1⟩ := s1
  obtain ⟨⟨i2, lo2, hi2, nd2⟩, is2⟩ := s2
  dsimp only at CO CF O1 O2
  obtain ⟨q0, q1, q2⟩ := K3.out _ (Below.refl _ _)
  clear h hK hr1 hk
  go_enter Try.func3, Try.ntmps3
  go_upto_region 6 with (first
    | (go_at_call 11; (with_reducible refine (HF.out _).mono ?_); rintro e w2 ⟨rfl, b2⟩; have B2 := b2; obtain ⟨q0, q1, q2⟩ := K3.out _ B2)
    | (go_at_call 13; (with_reducible refine (ref8_any ep nx a n c l _ (HA.out _ B2) zl).mono ?_); rintro e w3 ⟨ra, rn, rc, rfl, hr, _, b3⟩; have B3 := below_next B2 b3; obtain ⟨W4, hW4⟩ : ∃ W4, w3.alloc (.cells #[.int .i64 ep, .int .i64 nx, .slice ra rn rc] 30) = W4 := ⟨_, rfl⟩; have b4 : Below w3.heap.size w3 W4 := (by rw [← hW4]; exact (Below.refl _ _).alloc (Nat.le_refl _) _); have g4 : w3.heap.size < W4.heap.size := (by rw [← hW4]; simp); have hr4 : W4.heap[w3.heap.size]? = some (.cells #[.int .i64 ep, .int .i64 nx, .slice ra rn rc] 30) := (by rw [← hW4]; exact heap_alloc_new _ _); have B4 := below_next B3 b4; obtain ⟨q0, q1, q2⟩ := K3.out _ B4; have hr5 := Lib.hid (hr.below b4); replace hr4 := Lib.hid hr4)
    | (go_at_call 14; (with_reducible refine (CO.out _ B4).mono ?_); rintro e w5 ⟨rfl, b5⟩; have B5 := below_next B4 b5; obtain ⟨W6, hW6⟩ : ∃ W6, w5.alloc (.cells #[.int .i64 i1, .int .i64 lo1, .int .i64 hi1, .int .i64 nd1] 35) = W6 := ⟨_, rfl⟩; have b6 : Below w5.heap.size w5 W6 := (by rw [← hW6]; exact (Below.refl _ _).alloc (Nat.le_refl _) _); have g6 : w5.heap.size < W6.heap.size := (by rw [← hW6]; simp); have hr6 : W6.heap[w5.heap.size]? = some (.cells #[.int .i64 i1, .int .i64 lo1, .int .i64 hi1, .int .i64 nd1] 35) := (by rw [← hW6]; exact heap_alloc_new _ _); have B6 := below_next B5 b6; obtain ⟨q0, q1, q2⟩ := K3.out _ B6; replace hr6 := Lib.hid hr6)
    | (go_at_call 15; (with_reducible refine (CF.out _ B6).mono ?_); rintro e w7 ⟨rfl, b7⟩; have B7 := below_next B6 b7; obtain ⟨W8, hW8⟩ : ∃ W8, w7.alloc (.cells #[.int .i64 i2, .int .i64 lo2, .int .i64 hi2, .int .i64 nd2] 35) = W8 := ⟨_, rfl⟩; have b8 : Below w7.heap.size w7 W8 := (by rw [← hW8]; exact (Below.refl _ _).alloc (Nat.le_refl _) _); have g8 : w7.heap.size < W8.heap.size := (by rw [← hW8]; simp); have hr8 : W8.heap[w7.heap.size]? = some (.cells #[.int .i64 i2, .int .i64 lo2, .int .i64 hi2, .int .i64 nd2] 35) := (by rw [← hW8]; exact heap_alloc_new _ _); have B8 := below_next B7 b8; replace hr8 := Lib.hid hr8))
  have b68 := below_next b7 b8
  have b48 := below_next (below_next b5 b6) b68
  have KD := Lib.hid (fun W (hb : Below W8.heap.size W8 W) => (show (W.cell? ⟨w3.heap.size, 0, none⟩ = some (.int .i64 ep) ∧ W.cell? ⟨w3.heap.size, 1, none⟩ = some (.int .i64 nx) ∧ W.cell? ⟨w3.heap.size, 2, none⟩ = some (.slice ra rn rc)) ∧ (W.cell? ⟨w5.heap.size, 0, none⟩ = some (.int .i64 i1) ∧ W.cell? ⟨w5.heap.size, 1, none⟩ = some (.int .i64 lo1) ∧ W.cell? ⟨w5.heap.size, 2, none⟩ = some (.int .i64 hi1) ∧ W.cell? ⟨w5.heap.size, 3, none⟩ = some (.int .i64 nd1)) ∧ (W.cell? ⟨w7.heap.size, 0, none⟩ = some (.int .i64 i2) ∧ W.cell? ⟨w7.heap.size, 1, none⟩ = some (.int .i64 lo2) ∧ W.cell? ⟨w7.heap.size, 2, none⟩ = some (.int .i64 hi2) ∧ W.cell? ⟨w7.heap.size, 3, none⟩ = some (.int .i64 nd2)) from
    have x3 := ((below_next b48 hb).block _ g4).trans hr4.out
    have x5 := ((below_next b68 hb).block _ g6).trans hr6.out
    have x7 := (hb.block _ g8).trans hr8.out
    ⟨⟨cell_of_row _ _ 0 _ _ _ x3, cell_of_row _ _ 1 _ _ _ x3, cell_of_row _ _ 2 _ _ _ x3⟩, ⟨cell_of_row _ _ 0 _ _ _ x5, cell_of_row _ _ 1 _ _ _ x5, cell_of_row _ _ 2 _ _ _ x5, cell_of_row _ _ 3 _ _ _ x5⟩, ⟨cell_of_row _ _ 0 _ _ _ x7, cell_of_row _ _ 1 _ _ _ x7, cell_of_row _ _ 2 _ _ _ x7, cell_of_row _ _ 3 _ _ _ x7⟩⟩))
  have KE := Lib.hid (fun W (hb : Below W8.heap.size W8 W) => (show (W.cell? ⟨w.heap.size, 0, none⟩ = some (.int .i64 ep) ∧ W.cell? ⟨w.heap.size, 1, none⟩ = some (.int .i64 nx) ∧ W.cell? ⟨w.heap.size, 2, none⟩ = some (.slice a n c)) ∧ (W.cell? ⟨w3.heap.size, 0, none⟩ = some (.int .i64 ep) ∧ W.cell? ⟨w3.heap.size, 1, none⟩ = some (.int .i64 nx) ∧ W.cell? ⟨w3.heap.size, 2, none⟩ = some (.slice ra rn rc)) from ⟨K3.out _ (below_next B8 hb), (KD.out _ hb).1⟩))
  have HS := Lib.hid ((((EnvS.start W8).add (Stable.row encS 4 a n c l) (HA.out _ B8)).add (Stable.row encS 4 ra rn rc l) (hr5.out.below b48)).add (Stable.arg a3 n3 c3 K) (HKA.out _ B8))
  have HS0 := Lib.hid HS.out.low
  have HS1 := HS
  clear q0 q1 q2 hr b2 b3 b4 b5 b6 b7 b8 b48 b68 B2 B3 B4 B5 B6 B7 g4 g6 g8
  replace hW1 := Lib.hid hW1
  replace hW4 := Lib.hid hW4
  replace hW6 := Lib.hid hW6
  go_cut [52] from 35 to 52 (fun b wx => b = .bool false ∧ Below W8.heap.size W8 wx)
  case first =>
    (first | go_region_held3 (fun W => (W.cell? ⟨w3.heap.size, 0, none⟩ = some (.int .i64 ep) ∧ W.cell? ⟨w3.heap.size, 1, none⟩ = some (.int .i64 nx) ∧ W.cell? ⟨w3.heap.size, 2, none⟩ = some (.slice ra rn rc)) ∧ (W.cell? ⟨w5.heap.size, 0, none⟩ = some (.int .i64 i1) ∧ W.cell? ⟨w5.heap.size, 1, none⟩ = some (.int .i64 lo1) ∧ W.cell? ⟨w5.heap.size, 2, none⟩ = some (.int .i64 hi1) ∧ W.cell? ⟨w5.heap.size, 3, none⟩ = some (.int .i64 nd1)) ∧ (W.cell? ⟨w7.heap.size, 0, none⟩ = some (.int .i64 i2) ∧ W.cell? ⟨w7.heap.size, 1, none⟩ = some (.int .i64 lo2) ∧ W.cell? ⟨w7.heap.size, 2, none⟩ = some (.int .i64 hi2) ∧ W.cell? ⟨w7.heap.size, 3, none⟩ = some (.int .i64 nd2))) (exact KD.out _ (HS.out.step (by repeat (first | with_reducible exact Below.refl _ _ | with_reducible refine toDK ?_ | with_reducible refine Below.alloc ?_ (by first | exact Nat.le_refl _ | omega | (simp; omega)) _ | with_reducible refine Below.setCell ?_ (by first | with_reducible exact Nat.le_refl _ | (dsimp only; omega)) _))).low) ((first
      | (go_at_call 17; (with_reducible refine (RO.out ra rn rc _ ((HS.out.step (by repeat (first | with_reducible exact Below.refl _ _ | with_reducible refine toDK ?_ | with_reducible refine Below.alloc ?_ (by first | exact Nat.le_refl _ | omega | (simp; omega)) _ | with_reducible refine Below.setCell ?_ (by first | with_reducible exact Nat.le_refl _ | (dsimp only; omega)) _))).get (fun W => RArg encS 4 W ra rn rc l) (by repeat (first | exact List.mem_cons_self | apply List.mem_cons_of_mem)))).mono ?_); rintro e wa ⟨rfl, ba⟩; replace HS := Lib.hid ((HS.out.step (by repeat (first | with_reducible exact Below.refl _ _ | with_reducible refine toDK ?_ | with_reducible refine Below.alloc ?_ (by first | exact Nat.le_refl _ | omega | (simp; omega)) _ | with_reducible refine Below.setCell ?_ (by first | with_reducible exact Nat.le_refl _ | (dsimp only; omega)) _))).step ba); clear ba)
      | (go_at_call 16; (with_reducible refine (O1.out ra rn rc _ ((HS.out.step (by repeat (first | with_reducible exact Below.refl _ _ | with_reducible refine toDK ?_ | with_reducible refine Below.alloc ?_ (by first | exact Nat.le_refl _ | omega | (simp; omega)) _ | with_reducible refine Below.setCell ?_ (by first | with_reducible exact Nat.le_refl _ | (dsimp only; omega)) _))).get (fun W => RArg encS 4 W ra rn rc l) (by repeat (first | exact List.mem_cons_self | apply List.mem_cons_of_mem)))).mono ?_); rintro e wa ⟨rfl, ba⟩; replace HS := Lib.hid ((HS.out.step (by repeat (first | with_reducible exact Below.refl _ _ | with_reducible refine toDK ?_ | with_reducible refine Below.alloc ?_ (by first | exact Nat.le_refl _ | omega | (simp; omega)) _ | with_reducible refine Below.setCell ?_ (by first | with_reducible exact Nat.le_refl _ | (dsimp only; omega)) _))).step ba); clear ba)
      | (go_at_call 18; (with_reducible refine (RF.out ra rn rc _ ((HS.out.step (by repeat (first | with_reducible exact Below.refl _ _ | with_reducible refine toDK ?_ | with_reducible refine Below.alloc ?_ (by first | exact Nat.le_refl _ | omega | (simp; omega)) _ | with_reducible refine Below.setCell ?_ (by first | with_reducible exact Nat.le_refl _ | (dsimp only; omega)) _))).get (fun W => RArg encS 4 W ra rn rc l) (by repeat (first | exact List.mem_cons_self | apply List.mem_cons_of_mem)))).mono ?_); rintro e wa ⟨rfl, ba⟩; replace HS := Lib.hid ((HS.out.step (by repeat (first | with_reducible exact Below.refl _ _ | with_reducible refine toDK ?_ | with_reducible refine Below.alloc ?_ (by first | exact Nat.le_refl _ | omega | (simp; omega)) _ | with_reducible refine Below.setCell ?_ (by first | with_reducible exact Nat.le_refl _ | (dsimp only; omega)) _))).step ba); clear ba)
      | (go_at_call 16; (with_reducible refine (O2.out ra rn rc _ ((HS.out.step (by repeat (first | with_reducible exact Below.refl _ _ | with_reducible refine toDK ?_ | with_reducible refine Below.alloc ?_ (by first | exact Nat.le_refl _ | omega | (simp; omega)) _ | with_reducible refine Below.setCell ?_ (by first | with_reducible exact Nat.le_refl _ | (dsimp only; omega)) _))).get (fun W => RArg encS 4 W ra rn rc l) (by repeat (first | exact List.mem_cons_self | apply List.mem_cons_of_mem)))).mono ?_); rintro e wa ⟨rfl, ba⟩; replace HS := Lib.hid ((HS.out.step (by repeat (first | with_reducible exact Below.refl _ _ | with_reducible refine toDK ?_ | with_reducible refine Below.alloc ?_ (by first | exact Nat.le_refl _ | omega | (simp; omega)) _ | with_reducible refine Below.setCell ?_ (by first | with_reducible exact Nat.le_refl _ | (dsimp only; omega)) _))).step ba); clear ba))) | fail)
    all_goals
      go_wp2_with fail
      go_meet
      exact ⟨rfl, (HS.out.step (by repeat (first | with_reducible exact Below.refl _ _ | with_reducible refine toDK ?_ | with_reducible refine Below.alloc ?_ (by first | exact Nat.le_refl _ | omega | (simp; omega)) _ | with_reducible refine Below.setCell ?_ (by first | with_reducible exact Nat.le_refl _ | (dsimp only; omega)) _))).low⟩
  case rest =>
    obtain ⟨rfl, bc⟩ := hcut
    have HS := Lib.hid (HS1.out.step bc)
    go_upto_region 8 with fail
    (first | go_region_held3 (fun W => (W.cell? ⟨w.heap.size, 0, none⟩ = some (.int .i64 ep) ∧ W.cell? ⟨w.heap.size, 1, none⟩ = some (.int .i64 nx) ∧ W.cell? ⟨w.heap.size, 2, none⟩ = some (.slice a n c)) ∧ (W.cell? ⟨w3.heap.size, 0, none⟩ = some (.int .i64 ep) ∧ W.cell? ⟨w3.heap.size, 1, none⟩ = some (.int .i64 nx) ∧ W.cell? ⟨w3.heap.size, 2, none⟩ = some (.slice ra rn rc))) (exact KE.out _ (HS.out.step (by repeat (first | with_reducible exact Below.refl _ _ | with_reducible refine toDK ?_ | with_reducible refine Below.alloc ?_ (by first | exact Nat.le_refl _ | omega | (simp; omega)) _ | with_reducible refine Below.setCell ?_ (by first | with_reducible exact Nat.le_refl _ | (dsimp only; omega)) _))).low) ((first
      | (go_at_call 12; (with_reducible refine (awake8_any _).mono ?_); rintro e wa ⟨rfl, ba⟩; replace HS := Lib.hid ((HS.out.step (by repeat (first | with_reducible exact Below.refl _ _ | with_reducible refine toDK ?_ | with_reducible refine Below.alloc ?_ (by first | exact Nat.le_refl _ | omega | (simp; omega)) _ | with_reducible refine Below.setCell ?_ (by first | with_reducible exact Nat.le_refl _ | (dsimp only; omega)) _))).step ba); clear ba)
      | (go_at_call 19; (with_reducible refine (C1.out a n c _ ((HS.out.step (by repeat (first | with_reducible exact Below.refl _ _ | with_reducible refine toDK ?_ | with_reducible refine Below.alloc ?_ (by first | exact Nat.le_refl _ | omega | (simp; omega)) _ | with_reducible refine Below.setCell ?_ (by first | with_reducible exact Nat.le_refl _ | (dsimp only; omega)) _))).get (fun W => RArg encS 4 W a n c l) (by repeat (first | exact List.mem_cons_self | apply List.mem_cons_of_mem)))).mono ?_); rintro e wa ⟨rfl, ba⟩; replace HS := Lib.hid ((HS.out.step (by repeat (first | with_reducible exact Below.refl _ _ | with_reducible refine toDK ?_ | with_reducible refine Below.alloc ?_ (by first | exact Nat.le_refl _ | omega | (simp; omega)) _ | with_reducible refine Below.setCell ?_ (by first | with_reducible exact Nat.le_refl _ | (dsimp only; omega)) _))).step ba); clear ba)
      | (go_at_call 20; (with_reducible refine (C2.out ra rn rc _ ((HS.out.step (by repeat (first | with_reducible exact Below.refl _ _ | with_reducible refine toDK ?_ | with_reducible refine Below.alloc ?_ (by first | exact Nat.le_refl _ | omega | (simp; omega)) _ | with_reducible refine Below.setCell ?_ (by first | with_reducible exact Nat.le_refl _ | (dsimp only; omega)) _))).get (fun W => RArg encS 4 W ra rn rc l) (by repeat (first | exact List.mem_cons_self | apply List.mem_cons_of_mem)))).mono ?_); rintro e wa ⟨rfl, ba⟩; replace HS := Lib.hid ((HS.out.step (by repeat (first | with_reducible exact Below.refl _ _ | with_reducible refine toDK ?_ | with_reducible refine Below.alloc ?_ (by first | exact Nat.le_refl _ | omega | (simp; omega)) _ | with_reducible refine Below.setCell ?_ (by first | with_reducible exact Nat.le_refl _ | (dsimp only; omega)) _))).step ba); clear ba)
      | (go_at_call 22; (with_reducible refine (P1.out a n c a3 n3 c3 _ ((HS.out.step (by repeat (first | with_reducible exact Below.refl _ _ | with_reducible refine toDK ?_ | with_reducible refine Below.alloc ?_ (by first | exact Nat.le_refl _ | omega | (simp; omega)) _ | with_reducible refine Below.setCell ?_ (by first | with_reducible exact Nat.le_refl _ | (dsimp only; omega)) _))).get (fun W => RArg encS 4 W a n c l) (by repeat (first | exact List.mem_cons_self | apply List.mem_cons_of_mem))) ((HS.out.step (by repeat (first | with_reducible exact Below.refl _ _ | with_reducible refine toDK ?_ | with_reducible refine Below.alloc ?_ (by first | exact Nat.le_refl _ | omega | (simp; omega)) _ | with_reducible refine Below.setCell ?_ (by first | with_reducible exact Nat.le_refl _ | (dsimp only; omega)) _))).get (fun W => Arg W a3 n3 c3 K) (by repeat (first | exact List.mem_cons_self | apply List.mem_cons_of_mem)))).mono ?_); rintro e wa ⟨va, rfl, hO, ba⟩; obtain ⟨oa, oc, rfl, hoa⟩ := OwnsI.rarg hO; replace HS := Lib.hid (((HS.out.step (by repeat (first | with_reducible exact Below.refl _ _ | with_reducible refine toDK ?_ | with_reducible refine Below.alloc ?_ (by first | exact Nat.le_refl _ | omega | (simp; omega)) _ | with_reducible refine Below.setCell ?_ (by first | with_reducible exact Nat.le_refl _ | (dsimp only; omega)) _))).step ba).add (Stable.ints oa Z.length oc Z) hoa); clear ba hO hoa)
      | (go_at_call 24; (with_reducible refine (refs_any a3 n3 c3 K _ zk ((HS.out.step (by repeat (first | with_reducible exact Below.refl _ _ | with_reducible refine toDK ?_ | with_reducible refine Below.alloc ?_ (by first | exact Nat.le_refl _ | omega | (simp; omega)) _ | with_reducible refine Below.setCell ?_ (by first | with_reducible exact Nat.le_refl _ | (dsimp only; omega)) _))).get (fun W => Arg W a3 n3 c3 K) (by repeat (first | exact List.mem_cons_self | apply List.mem_cons_of_mem)))).mono ?_); rintro e wa ⟨ka, kn, kc, rfl, hk9, ba⟩; replace HS := Lib.hid (((HS.out.step (by repeat (first | with_reducible exact Below.refl _ _ | with_reducible refine toDK ?_ | with_reducible refine Below.alloc ?_ (by first | exact Nat.le_refl _ | omega | (simp; omega)) _ | with_reducible refine Below.setCell ?_ (by first | with_reducible exact Nat.le_refl _ | (dsimp only; omega)) _))).step ba).add (Stable.arg ka kn kc K) hk9); clear ba hk9)
      | (go_at_call 23; (with_reducible refine (P2.out ra rn rc ka kn kc _ ((HS.out.step (by repeat (first | with_reducible exact Below.refl _ _ | with_reducible refine toDK ?_ | with_reducible refine Below.alloc ?_ (by first | exact Nat.le_refl _ | omega | (simp; omega)) _ | with_reducible refine Below.setCell ?_ (by first | with_reducible exact Nat.le_refl _ | (dsimp only; omega)) _))).get (fun W => RArg encS 4 W ra rn rc l) (by repeat (first | exact List.mem_cons_self | apply List.mem_cons_of_mem))) ((HS.out.step (by repeat (first | with_reducible exact Below.refl _ _ | with_reducible refine toDK ?_ | with_reducible refine Below.alloc ?_ (by first | exact Nat.le_refl _ | omega | (simp; omega)) _ | with_reducible refine Below.setCell ?_ (by first | with_reducible exact Nat.le_refl _ | (dsimp only; omega)) _))).get (fun W => Arg W ka kn kc K) (by repeat (first | exact List.mem_cons_self | apply List.mem_cons_of_mem)))).mono ?_); rintro e wa ⟨vb, rfl, hO, ba⟩; obtain ⟨pa, pc, rfl, hpa⟩ := OwnsI.rarg hO; replace HS := Lib.hid (((HS.out.step (by repeat (first | with_reducible exact Below.refl _ _ | with_reducible refine toDK ?_ | with_reducible refine Below.alloc ?_ (by first | exact Nat.le_refl _ | omega | (simp; omega)) _ | with_reducible refine Below.setCell ?_ (by first | with_reducible exact Nat.le_refl _ | (dsimp only; omega)) _))).step ba).add (Stable.ints pa Z.length pc Z) hpa); clear ba hO hpa)
      | (go_at_call 21; (with_reducible refine (sameZ_any oa pa Z.length Z.length oc pc Z _ ((HS.out.step (by repeat (first | with_reducible exact Below.refl _ _ | with_reducible refine toDK ?_ | with_reducible refine Below.alloc ?_ (by first | exact Nat.le_refl _ | omega | (simp; omega)) _ | with_reducible refine Below.setCell ?_ (by first | with_reducible exact Nat.le_refl _ | (dsimp only; omega)) _))).get (fun W => RArg encI 1 W oa Z.length oc Z) (by repeat (first | exact List.mem_cons_self | apply List.mem_cons_of_mem))) ((HS.out.step (by repeat (first | with_reducible exact Below.refl _ _ | with_reducible refine toDK ?_ | with_reducible refine Below.alloc ?_ (by first | exact Nat.le_refl _ | omega | (simp; omega)) _ | with_reducible refine Below.setCell ?_ (by first | with_reducible exact Nat.le_refl _ | (dsimp only; omega)) _))).get (fun W => RArg encI 1 W pa Z.length pc Z) (by repeat (first | exact List.mem_cons_self | apply List.mem_cons_of_mem)))).mono ?_); rintro e wa ⟨rfl, ba⟩; replace HS := Lib.hid ((HS.out.step (by repeat (first | with_reducible exact Below.refl _ _ | with_reducible refine toDK ?_ | with_reducible refine Below.alloc ?_ (by first | exact Nat.le_refl _ | omega | (simp; omega)) _ | with_reducible refine Below.setCell ?_ (by first | with_reducible exact Nat.le_refl _ | (dsimp only; omega)) _))).step ba); clear ba))) | fail)
    all_goals
      go_wp2_with fail
      go_ret
      exact ⟨ret_bool (by simp), below_next bw (below_next B8 (HS.out.step (by repeat (first | with_reducible exact Below.refl _ _ | with_reducible refine toDK ?_ | with_reducible refine Below.alloc ?_ (by first | exact Nat.le_refl _ | omega | (simp; omega)) _ | with_reducible refine Below.setCell ?_ (by first | with_reducible exact Nat.le_refl _ | (dsimp only; omega)) _))).low)⟩
set_option maxRecDepth 100000 in
set_option maxHeartbeats 2000000 in
theorem chartOwners_walk (ep nx : Int) (a : Option Addr) (n c : Nat) (l : List Sd) (key : Int) (a3 : Option Addr) (n3 c3 : Nat) (K : List Sp) (w : World) (h : RArg encS 4 w a n c l) (_hk : (Lit.int .i64 key).wf = true) (hK : Arg w a3 n3 c3 K) :
    Calls Try.prog 3 #[.agg #[.int .i64 ep, .int .i64 nx, .slice a n c], .int .i64 key, .slice a3 n3 c3] w (TruePost w) := by
  have hz : (n : Int) ≤ 9223372036854775807 := by have h1 := h.1; have h2 := h.2.1; omega
  have hz3 : (n3 : Int) ≤ 9223372036854775807 := by have h1 := hK.1; have h2 := hK.2.1; omega
  have bw : Below w.heap.size w (w.alloc (.cells #[.int .i64 ep, .int .i64 nx, .slice a n c] 24)) := (Below.refl _ _).alloc (Nat.le_refl _) _
  by_cases hl : n ≤ 60
  · by_cases hk : n3 ≤ 100
    · exact owners_in ep nx a n c l key a3 n3 c3 K w h hK hl hk
    · have HF := Lib.hid (fun W => few8_any ep nx a n c W hz (decide_eq_true hl))
      have hkz : ¬ (n3 : Int) ≤ 100 := by omega
      clear h hK
      go_enter Try.func3, Try.ntmps3
      go_wp2_with (first
        | (go_at_call 11; (with_reducible refine (HF.out _).mono ?_); rintro e w2 ⟨rfl, b2⟩)
        | (go_at_call 12; (with_reducible refine (awake8_any _).mono ?_); rintro e w3 ⟨rfl, b3⟩))
      go_ret
      exact ⟨rfl, below_next bw (below_next b2 b3)⟩
  · have HF := Lib.hid (fun W => few8_any ep nx a n c W hz (decide_eq_false hl))
    clear h hK
    go_enter Try.func3, Try.ntmps3
    go_wp2_with (first
      | (go_at_call 11; (with_reducible refine (HF.out _).mono ?_); rintro e w2 ⟨rfl, b2⟩)
      | (go_at_call 12; (with_reducible refine (awake8_any _).mono ?_); rintro e w3 ⟨rfl, b3⟩))
    go_ret
    exact ⟨rfl, below_next bw (below_next b2 b3)⟩
end Go.Proofs.Ytcpcdinfagdlhaa
