/-
  ChartReads.
-/
import Derived.Test.YtcpcdinfagdlhaaChRd
namespace Go.Proofs.Ytcpcdinfagdlhaa
open Go.RowKit Go.Shelf Go.ChangeShapes Go.WideShapes Go.Deep

theorem readC_len (s : ByteArray) : (readC s).2.2.1.length ≤ 24 := by
  rcases readC_err s with h | ⟨_, h⟩
  · exact (chkC_parts (readC_once h).1).2.2.1.2
  · rw [h]; simp
set_option maxRecDepth 100000 in
set_option maxHeartbeats 8000000 in
theorem creads_in (ep nx : Int) (a : Option Addr) (n c : Nat) (l : List Sd) (s : ByteArray) (w : World) (h : RArg encS 4 w a n c l) (hl : n ≤ 60) (hbig : (s.size : Int) ≤ 2000) :
    Calls Try.prog 5 #[.agg #[.int .i64 ep, .int .i64 nx, .slice a n c], .string s] w (TruePost w) := by
  have hn := Lib.hid h.1
  have hz : (n : Int) ≤ 9223372036854775807 := by omega
  have zl : l.length ≤ 100000 := by have := hn.out; omega
  obtain ⟨W1, hW1⟩ : ∃ W1, w.alloc (.cells #[.int .i64 ep, .int .i64 nx, .slice a n c] 24) = W1 := ⟨_, rfl⟩
  have bw : Below w.heap.size w W1 := by rw [← hW1]; exact (Below.refl _ _).alloc (Nat.le_refl _) _
  have g1 : w.heap.size < W1.heap.size := by rw [← hW1]; simp
  have hr1 : W1.heap[w.heap.size]? = some (.cells #[.int .i64 ep, .int .i64 nx, .slice a n c] 24) := by rw [← hW1]; exact heap_alloc_new _ _
  have K3 := Lib.hid (fun W (h : Below W1.heap.size W1 W) => c3K ((h.block _ g1).trans hr1))
  have HA := Lib.hid (fun W (hb : Below W1.heap.size W1 W) => (h.below bw).below hb)
  have HF := Lib.hid (fun W => few8_any ep nx a n c W hz (decide_eq_true hl))
  have CR := Lib.hid (fun W => cread_any s W (by omega))
  have DR := Lib.hid (fun W => rread8_any s W (by omega))
  have T1 := Lib.hid (fun a n c W (h : RArg encS 4 W a n c l) => ctext_any ep nx a n c l W h)
  have T2 := Lib.hid (fun a n c W (h : RArg encS 4 W a n c l) => rtext8_any ep nx a n c l W h)
  have hml := readC_len s
  generalize ofC (textC ep nx l) = X at T1 T2
  generalize readC s = rr at CR DR hml
  obtain ⟨ep2, nx2, M, x⟩ := rr
  dsimp only at hml
  have zm : M.length ≤ 100000 := by omega
  obtain ⟨q0, q1, q2⟩ := K3.out _ (Below.refl _ _)
  clear h hr1 hml
  go_enter Try.func5, Try.ntmps5
  go_upto_region 5 with (first
    | (go_at_call 11; (with_reducible refine (HF.out _).mono ?_); rintro e w2 ⟨rfl, b2⟩; have B2 := b2; obtain ⟨q0, q1, q2⟩ := K3.out _ B2)
    | (go_at_call 30; (with_reducible refine (CR.out _).mono ?_); rintro e w3 ⟨da, dn, dc, rfl, hd, b3⟩; dsimp only at hd; have B3 := below_next B2 b3; obtain ⟨W4, hW4⟩ : ∃ W4, w3.alloc (.cells #[.int .i64 ep2, .int .i64 nx2, .slice da dn dc] 24) = W4 := ⟨_, rfl⟩; have b4 : Below w3.heap.size w3 W4 := (by rw [← hW4]; exact (Below.refl _ _).alloc (Nat.le_refl _) _); have g4 : w3.heap.size < W4.heap.size := (by rw [← hW4]; simp); have hr4 : W4.heap[w3.heap.size]? = some (.cells #[.int .i64 ep2, .int .i64 nx2, .slice da dn dc] 24) := (by rw [← hW4]; exact heap_alloc_new _ _); have B4 := below_next B3 b4; have hd4 := Lib.hid (hd.below b4); replace hr4 := Lib.hid hr4; clear hd)
    | (go_at_call 31; (with_reducible refine (DR.out _).mono ?_); rintro e w5 ⟨ra, rn, rc, rfl, hr, b5⟩; dsimp only at hr; have B5 := below_next B4 b5; obtain ⟨W6, hW6⟩ : ∃ W6, w5.alloc (.cells #[.int .i64 ep2, .int .i64 nx2, .slice ra rn rc] 30) = W6 := ⟨_, rfl⟩; have b6 : Below w5.heap.size w5 W6 := (by rw [← hW6]; exact (Below.refl _ _).alloc (Nat.le_refl _) _); have g6 : w5.heap.size < W6.heap.size := (by rw [← hW6]; simp); have hr6 : W6.heap[w5.heap.size]? = some (.cells #[.int .i64 ep2, .int .i64 nx2, .slice ra rn rc] 30) := (by rw [← hW6]; exact heap_alloc_new _ _); have B6 := below_next B5 b6; have hr7 := Lib.hid (hr.below b6); replace hr6 := Lib.hid hr6; clear hr))
  have b46 := below_next b5 b6
  have KD := Lib.hid (fun W (hb : Below W6.heap.size W6 W) => (show (W.cell? ⟨w.heap.size, 0, none⟩ = some (.int .i64 ep) ∧ W.cell? ⟨w.heap.size, 1, none⟩ = some (.int .i64 nx) ∧ W.cell? ⟨w.heap.size, 2, none⟩ = some (.slice a n c)) ∧ (W.cell? ⟨w3.heap.size, 0, none⟩ = some (.int .i64 ep2) ∧ W.cell? ⟨w3.heap.size, 1, none⟩ = some (.int .i64 nx2) ∧ W.cell? ⟨w3.heap.size, 2, none⟩ = some (.slice da dn dc)) ∧ (W.cell? ⟨w5.heap.size, 0, none⟩ = some (.int .i64 ep2) ∧ W.cell? ⟨w5.heap.size, 1, none⟩ = some (.int .i64 nx2) ∧ W.cell? ⟨w5.heap.size, 2, none⟩ = some (.slice ra rn rc)) from
    ⟨K3.out _ (below_next B6 hb), c3K (((below_next b46 hb).block _ g4).trans hr4.out), c3K ((hb.block _ g6).trans hr6.out)⟩))
  have HS := Lib.hid ((((EnvS.start W6).add (Stable.row encS 4 a n c l) (HA.out _ B6)).add (Stable.row encS 4 da dn dc M) (hd4.out.below b46)).add (Stable.row encS 4 ra rn rc M) hr7.out)
  clear q0 q1 q2 b2 b3 b4 b5 b6 b46 B2 B3 B4 B5 g4 g6
  replace hW1 := Lib.hid hW1
  replace hW4 := Lib.hid hW4
  replace hW6 := Lib.hid hW6
  (first | go_region_held3 (fun W => (W.cell? ⟨w.heap.size, 0, none⟩ = some (.int .i64 ep) ∧ W.cell? ⟨w.heap.size, 1, none⟩ = some (.int .i64 nx) ∧ W.cell? ⟨w.heap.size, 2, none⟩ = some (.slice a n c)) ∧ (W.cell? ⟨w3.heap.size, 0, none⟩ = some (.int .i64 ep2) ∧ W.cell? ⟨w3.heap.size, 1, none⟩ = some (.int .i64 nx2) ∧ W.cell? ⟨w3.heap.size, 2, none⟩ = some (.slice da dn dc)) ∧ (W.cell? ⟨w5.heap.size, 0, none⟩ = some (.int .i64 ep2) ∧ W.cell? ⟨w5.heap.size, 1, none⟩ = some (.int .i64 nx2) ∧ W.cell? ⟨w5.heap.size, 2, none⟩ = some (.slice ra rn rc))) (exact KD.out _ (HS.out.step (by repeat (first | with_reducible exact Below.refl _ _ | with_reducible refine toDK ?_ | with_reducible refine Below.alloc ?_ (by first | exact Nat.le_refl _ | omega | (simp; omega)) _ | with_reducible refine Below.setCell ?_ (by first | with_reducible exact Nat.le_refl _ | (dsimp only; omega)) _))).low) ((first
    | (go_at_call 12; (with_reducible refine (awake8_any _).mono ?_); rintro e wa ⟨rfl, ba⟩; replace HS := Lib.hid ((HS.out.step (by repeat (first | with_reducible exact Below.refl _ _ | with_reducible refine toDK ?_ | with_reducible refine Below.alloc ?_ (by first | exact Nat.le_refl _ | omega | (simp; omega)) _ | with_reducible refine Below.setCell ?_ (by first | with_reducible exact Nat.le_refl _ | (dsimp only; omega)) _))).step ba); clear ba)
    | (go_at_call 32; (with_reducible refine (T1.out a n c _ ((HS.out.step (by repeat (first | with_reducible exact Below.refl _ _ | with_reducible refine toDK ?_ | with_reducible refine Below.alloc ?_ (by first | exact Nat.le_refl _ | omega | (simp; omega)) _ | with_reducible refine Below.setCell ?_ (by first | with_reducible exact Nat.le_refl _ | (dsimp only; omega)) _))).get (fun W => RArg encS 4 W a n c l) (by repeat (first | exact List.mem_cons_self | apply List.mem_cons_of_mem)))).mono ?_); rintro e wa ⟨rfl, ba⟩; replace HS := Lib.hid ((HS.out.step (by repeat (first | with_reducible exact Below.refl _ _ | with_reducible refine toDK ?_ | with_reducible refine Below.alloc ?_ (by first | exact Nat.le_refl _ | omega | (simp; omega)) _ | with_reducible refine Below.setCell ?_ (by first | with_reducible exact Nat.le_refl _ | (dsimp only; omega)) _))).step ba); clear ba)
    | (go_at_call 13; (with_reducible refine (ref8_any ep nx a n c l _ ((HS.out.step (by repeat (first | with_reducible exact Below.refl _ _ | with_reducible refine toDK ?_ | with_reducible refine Below.alloc ?_ (by first | exact Nat.le_refl _ | omega | (simp; omega)) _ | with_reducible refine Below.setCell ?_ (by first | with_reducible exact Nat.le_refl _ | (dsimp only; omega)) _))).get (fun W => RArg encS 4 W a n c l) (by repeat (first | exact List.mem_cons_self | apply List.mem_cons_of_mem))) zl).mono ?_); rintro e wa ⟨ka, kn, kc, rfl, hk, _, ba⟩; replace HS := Lib.hid (((HS.out.step (by repeat (first | with_reducible exact Below.refl _ _ | with_reducible refine toDK ?_ | with_reducible refine Below.alloc ?_ (by first | exact Nat.le_refl _ | omega | (simp; omega)) _ | with_reducible refine Below.setCell ?_ (by first | with_reducible exact Nat.le_refl _ | (dsimp only; omega)) _))).step ba).add (Stable.row encS 4 ka kn kc l) hk); clear ba hk)
    | (go_at_call 33; (with_reducible refine (T2.out ka kn kc _ ((HS.out.step (by repeat (first | with_reducible exact Below.refl _ _ | with_reducible refine toDK ?_ | with_reducible refine Below.alloc ?_ (by first | exact Nat.le_refl _ | omega | (simp; omega)) _ | with_reducible refine Below.setCell ?_ (by first | with_reducible exact Nat.le_refl _ | (dsimp only; omega)) _))).get (fun W => RArg encS 4 W ka kn kc l) (by repeat (first | exact List.mem_cons_self | apply List.mem_cons_of_mem)))).mono ?_); rintro e wa ⟨rfl, ba⟩; replace HS := Lib.hid ((HS.out.step (by repeat (first | with_reducible exact Below.refl _ _ | with_reducible refine toDK ?_ | with_reducible refine Below.alloc ?_ (by first | exact Nat.le_refl _ | omega | (simp; omega)) _ | with_reducible refine Below.setCell ?_ (by first | with_reducible exact Nat.le_refl _ | (dsimp only; omega)) _))).step ba); clear ba)
    | (go_at_call 13; (with_reducible refine (ref8_any ep2 nx2 da dn dc M _ ((HS.out.step (by repeat (first | with_reducible exact Below.refl _ _ | with_reducible refine toDK ?_ | with_reducible refine Below.alloc ?_ (by first | exact Nat.le_refl _ | omega | (simp; omega)) _ | with_reducible refine Below.setCell ?_ (by first | with_reducible exact Nat.le_refl _ | (dsimp only; omega)) _))).get (fun W => RArg encS 4 W da dn dc M) (by repeat (first | exact List.mem_cons_self | apply List.mem_cons_of_mem))) zm).mono ?_); rintro e wa ⟨ma, mn, mc, rfl, hm, _, ba⟩; replace HS := Lib.hid (((HS.out.step (by repeat (first | with_reducible exact Below.refl _ _ | with_reducible refine toDK ?_ | with_reducible refine Below.alloc ?_ (by first | exact Nat.le_refl _ | omega | (simp; omega)) _ | with_reducible refine Below.setCell ?_ (by first | with_reducible exact Nat.le_refl _ | (dsimp only; omega)) _))).step ba).add (Stable.row encS 4 ma mn mc M) hm); clear ba hm)
    | (go_at_call 27; (with_reducible refine (same8_any ep2 nx2 ma ra mn rn mc rc M _ ((HS.out.step (by repeat (first | with_reducible exact Below.refl _ _ | with_reducible refine toDK ?_ | with_reducible refine Below.alloc ?_ (by first | exact Nat.le_refl _ | omega | (simp; omega)) _ | with_reducible refine Below.setCell ?_ (by first | with_reducible exact Nat.le_refl _ | (dsimp only; omega)) _))).get (fun W => RArg encS 4 W ma mn mc M) (by repeat (first | exact List.mem_cons_self | apply List.mem_cons_of_mem))) ((HS.out.step (by repeat (first | with_reducible exact Below.refl _ _ | with_reducible refine toDK ?_ | with_reducible refine Below.alloc ?_ (by first | exact Nat.le_refl _ | omega | (simp; omega)) _ | with_reducible refine Below.setCell ?_ (by first | with_reducible exact Nat.le_refl _ | (dsimp only; omega)) _))).get (fun W => RArg encS 4 W ra rn rc M) (by repeat (first | exact List.mem_cons_self | apply List.mem_cons_of_mem)))).mono ?_); rintro e wa ⟨rfl, ba⟩; replace HS := Lib.hid ((HS.out.step (by repeat (first | with_reducible exact Below.refl _ _ | with_reducible refine toDK ?_ | with_reducible refine Below.alloc ?_ (by first | exact Nat.le_refl _ | omega | (simp; omega)) _ | with_reducible refine Below.setCell ?_ (by first | with_reducible exact Nat.le_refl _ | (dsimp only; omega)) _))).step ba); clear ba))) | fail)
  all_goals
    go_wp2_with fail
    go_ret
    exact ⟨ret_bool (by simp), below_next bw (below_next B6 (HS.out.step (by repeat (first | with_reducible exact Below.refl _ _ | with_reducible refine toDK ?_ | with_reducible refine Below.alloc ?_ (by first | exact Nat.le_refl _ | omega | (simp; omega)) _ | with_reducible refine Below.setCell ?_ (by first | with_reducible exact Nat.le_refl _ | (dsimp only; omega)) _))).low)⟩
set_option maxRecDepth 100000 in
set_option maxHeartbeats 2000000 in
theorem chartReads_walk (ep nx : Int) (a : Option Addr) (n c : Nat) (l : List Sd) (s : ByteArray) (w : World) (h : RArg encS 4 w a n c l) (hs : s.size ≤ maxLen) :
    Calls Try.prog 5 #[.agg #[.int .i64 ep, .int .i64 nx, .slice a n c], .string s] w (TruePost w) := by
  have hsz : (s.size : Int) ≤ 9223372036854775807 := by unfold maxLen at hs; omega
  clear hs
  have hz : (n : Int) ≤ 9223372036854775807 := by have h1 := h.1; have h2 := h.2.1; omega
  have bw : Below w.heap.size w (w.alloc (.cells #[.int .i64 ep, .int .i64 nx, .slice a n c] 24)) := (Below.refl _ _).alloc (Nat.le_refl _) _
  by_cases hl : n ≤ 60
  · by_cases hbig : (s.size : Int) ≤ 2000
    · exact creads_in ep nx a n c l s w h hl hbig
    · have HF := Lib.hid (fun W => few8_any ep nx a n c W hz (decide_eq_true hl))
      clear h
      go_enter Try.func5, Try.ntmps5
      go_wp2_with (first
        | (go_at_call 11; (with_reducible refine (HF.out _).mono ?_); rintro e w2 ⟨rfl, b2⟩)
        | (go_at_call 12; (with_reducible refine (awake8_any _).mono ?_); rintro e w3 ⟨rfl, b3⟩))
      go_ret
      exact ⟨rfl, below_next bw (below_next b2 b3)⟩
  · have HF := Lib.hid (fun W => few8_any ep nx a n c W hz (decide_eq_false hl))
    clear h
    go_enter Try.func5, Try.ntmps5
    go_wp2_with (first
      | (go_at_call 11; (with_reducible refine (HF.out _).mono ?_); rintro e w2 ⟨rfl, b2⟩)
      | (go_at_call 12; (with_reducible refine (awake8_any _).mono ?_); rintro e w3 ⟨rfl, b3⟩))
    go_ret
    exact ⟨rfl, below_next bw (below_next b2 b3)⟩
end Go.Proofs.Ytcpcdinfagdlhaa
