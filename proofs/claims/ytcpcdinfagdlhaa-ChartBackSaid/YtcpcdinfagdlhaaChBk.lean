/-
  ChartBack.
-/
import Derived.Test.YtcpcdinfagdlhaaChZ
import Derived.Test.YtcpcdinfagdlhaaChQ
import Derived.BigQuiet
namespace Go.Proofs.Ytcpcdinfagdlhaa
open Go.RowKit Go.Shelf Go.ChangeShapes Go.WideShapes Go.Deep

/-- Rows of shards that lie in a world. -/
structure EnvC (w0 W : World) (L : List (Option Addr × Nat × Nat × List Sd)) : Prop where
  low : Below w0.heap.size w0 W
  is : ∀ x ∈ L, RArg encS 4 W x.1 x.2.1 x.2.2.1 x.2.2.2
theorem EnvC.start (w : World) : EnvC w w [] := ⟨Below.refl _ _, by simp⟩
theorem EnvC.step {w0 W W' : World} {L : List (Option Addr × Nat × Nat × List Sd)} (h : EnvC w0 W L) (hb : Below W.heap.size W W') : EnvC w0 W' L := ⟨below_next h.low hb, fun x hx => (h.is x hx).below hb⟩
theorem EnvC.add {w0 W : World} {L : List (Option Addr × Nat × Nat × List Sd)} (h : EnvC w0 W L) {a : Option Addr} {n c : Nat} {l : List Sd} (hp : RArg encS 4 W a n c l) : EnvC w0 W ((a, n, c, l) :: L) := ⟨h.low, fun x hx => by
  rcases List.mem_cons.1 hx with rfl | hx
  · exact hp
  · exact h.is x hx⟩
theorem EnvC.get {w0 W : World} {L : List (Option Addr × Nat × Nat × List Sd)} (h : EnvC w0 W L) {a : Option Addr} {n c : Nat} {l : List Sd} (hm : (a, n, c, l) ∈ L) : RArg encS 4 W a n c l := h.is _ hm
theorem ofC_size (l : List UInt8) : (ofC l).size = l.length := by rw [ba_size]; simp [ofC]
theorem numS_len9 (n : Int) (h : n ≤ 9223372036854775807) : (bl (numS n)).length ≤ 9 := by
  have := numS_size h
  have e : (bl (numS n)).length = (numS n).size := Array.length_toList
  omega
theorem shsT_len : ∀ (l : List Sd), (∀ s ∈ l, fitS s) → (shsT l).length ≤ 27 * l.length
  | [], _ => by simp [shsT]
  | s :: t, h => by
    have h1 := shsT_len t (fun q hq => h q (by simp [hq]))
    obtain ⟨a0, a1, b0, b1, c0, c1⟩ := h s (by simp)
    have k1 := numS_len9 s.1 (by omega)
    have k2 := numS_len9 s.2.2.1 (by omega)
    have k3 := numS_len9 s.2.2.2 (by omega)
    show (shT s ++ shsT t).length ≤ _
    unfold shT
    simp only [List.length_append, List.length_cons]
    omega
theorem textC_len {ep nx : Int} {l : List Sd} (h : chkC ep nx l = true) : ((ofC (textC ep nx l)).size : Int) ≤ 1000000000000 := by
  obtain ⟨hep, hnx, hl, _, _, _⟩ := chkC_parts h
  rw [ofC_size, show textC ep nx l = bodyC ep nx l from if_pos h]
  unfold bodyC
  have k1 := numS_len9 ep (by omega)
  have k2 := numS_len9 nx (by omega)
  have k3 := numS_len9 (l.length : Int) (by omega)
  have k4 := shsT_len l (chk_fit h)
  simp only [List.length_append]
  omega
set_option maxRecDepth 100000 in
set_option maxHeartbeats 4000000 in
theorem cback_tt (ep nx : Int) (a : Option Addr) (n c : Nat) (l : List Sd) (s : ByteArray) (w : World) (h : RArg encS 4 w a n c l) (hl : l.length ≤ 60) (hbig : (s.size : Int) ≤ 2000) (ht : chkC ep nx l = true) (ep2 nx2 : Int) (l2 : List Sd) (hr : readC s = (ep2, nx2, l2, 0)) (ht2 : ofC (textC ep2 nx2 l2) = s) :
    Calls Try.prog 6 #[.agg #[.int .i64 ep, .int .i64 nx, .slice a n c], .string s] w (TruePost w) := by
  obtain rfl := h.1
  have hz : (l.length : Int) ≤ 9223372036854775807 := by omega
  have zl : l.length ≤ 100000 := by omega
  obtain ⟨W1, hW1⟩ : ∃ W1, w.alloc (.cells #[.int .i64 ep, .int .i64 nx, .slice a l.length c] 24) = W1 := ⟨_, rfl⟩
  have bw : Below w.heap.size w W1 := by rw [← hW1]; exact (Below.refl _ _).alloc (Nat.le_refl _) _
  have g1 : w.heap.size < W1.heap.size := by rw [← hW1]; simp
  have hr1 : W1.heap[w.heap.size]? = some (.cells #[.int .i64 ep, .int .i64 nx, .slice a l.length c] 24) := by rw [← hW1]; exact heap_alloc_new _ _
  have K3 := Lib.hid (fun W (h : Below W1.heap.size W1 W) => c3K ((h.block _ g1).trans hr1))
  have HF := Lib.hid (fun W => few8_any ep nx a l.length c W hz (decide_eq_true hl))
  have HC := Lib.hid (fun W (hb : Below W1.heap.size W1 W) => (show Calls Try.prog 19 #[.agg #[.int .i64 ep, .int .i64 nx, .slice a l.length c]] W (Gives W (.bool true)) from ht ▸ chk_any ep nx a l.length c l W ((h.below bw).below hb)))
  have CR := Lib.hid (fun W => (show Calls Try.prog 30 #[.string s] W (ReadPost (ep2, nx2, l2, 0) W) from hr ▸ cread_any s W (by omega)))
  have CK2 := Lib.hid (fun a n c W (h : RArg encS 4 W a n c l2) => (show Calls Try.prog 32 #[.agg #[.int .i64 ep2, .int .i64 nx2, .slice a n c]] W (Gives W (.string s)) from ht2 ▸ ctext_any ep2 nx2 a n c l2 W h))
  have CT := Lib.hid (fun W (hb : Below W1.heap.size W1 W) => ctext_any ep nx a l.length c l W ((h.below bw).below hb))
  have CB := Lib.hid (fun W => cread_any (ofC (textC ep nx l)) W (textC_len ht))
  rw [readC_back ht] at CB
  generalize ofC (textC ep nx l) = X at CT CB
  have HR := Lib.hid (fun W (hb : Below W1.heap.size W1 W) => (h.below bw).below hb)
  obtain ⟨q0, q1, q2⟩ := K3.out _ (Below.refl _ _)
  clear ht hr h hr1 ht2
  go_enter Try.func6, Try.ntmps6
  go_wp2_with (first
    | (go_at_call 11; (with_reducible refine (HF.out _).mono ?_); rintro e w2 ⟨rfl, b2⟩; have B2 := b2; obtain ⟨q0, q1, q2⟩ := K3.out _ B2)
    | (go_at_call 19; (with_reducible refine (HC.out _ B2).mono ?_); rintro e w3 ⟨rfl, b3⟩; have B3 := below_next B2 b3; obtain ⟨q0, q1, q2⟩ := K3.out _ B3)
    | (go_at_call 32; (with_reducible refine (CT.out _ B3).mono ?_); rintro e w4 ⟨rfl, b4⟩; have B4 := below_next B3 b4)
    | (go_at_call 30; (with_reducible refine (CB.out _).mono ?_); rintro e w5 ⟨da, dn, dc, rfl, hd, b5⟩; dsimp only at hd; obtain rfl : dn = l.length := hd.1; have B5 := below_next B4 b5))
  obtain ⟨WD, hWD⟩ : ∃ WD, w5.alloc (.cells #[.int .i64 ep, .int .i64 nx, .slice da l.length dc] 24) = WD := ⟨_, rfl⟩
  have b6 : Below w5.heap.size w5 WD := by rw [← hWD]; exact (Below.refl _ _).alloc (Nat.le_refl _) _
  have g6 : w5.heap.size < WD.heap.size := by rw [← hWD]; simp
  have B6 := below_next B5 b6
  have hr6 : WD.heap[w5.heap.size]? = some (.cells #[.int .i64 ep, .int .i64 nx, .slice da l.length dc] 24) := by rw [← hWD]; exact heap_alloc_new _ _
  have KD := Lib.hid (fun W (hb : Below WD.heap.size WD W) => (show ((W.cell? ⟨w.heap.size, 0, none⟩ = some (.int .i64 ep) ∧ W.cell? ⟨w.heap.size, 1, none⟩ = some (.int .i64 nx) ∧ W.cell? ⟨w.heap.size, 2, none⟩ = some (.slice a l.length c)) ∧ (W.cell? ⟨w5.heap.size, 0, none⟩ = some (.int .i64 ep) ∧ W.cell? ⟨w5.heap.size, 1, none⟩ = some (.int .i64 nx) ∧ W.cell? ⟨w5.heap.size, 2, none⟩ = some (.slice da l.length dc))) from ⟨K3.out _ (below_next B6 hb), c3K ((hb.block _ g6).trans hr6)⟩))
  have HS := Lib.hid (((EnvC.start WD).add (HR.out _ B6)).add (hd.below b6))
  replace HR := Lib.hid (HR.out)
  clear q0 q1 q2 hr6
  rw [hWD]
  replace hWD := Lib.hid hWD
  go_cut [35] from 26 to 35 (fun b wx => b = .bool false ∧ Below WD.heap.size WD wx)
  case first =>
    obtain ⟨q0, q1, q2⟩ := (KD.out _ (Below.refl _ _)).1
    (first | go_region_held3 (fun W => (W.cell? ⟨w.heap.size, 0, none⟩ = some (.int .i64 ep) ∧ W.cell? ⟨w.heap.size, 1, none⟩ = some (.int .i64 nx) ∧ W.cell? ⟨w.heap.size, 2, none⟩ = some (.slice a l.length c)) ∧ (W.cell? ⟨w5.heap.size, 0, none⟩ = some (.int .i64 ep) ∧ W.cell? ⟨w5.heap.size, 1, none⟩ = some (.int .i64 nx) ∧ W.cell? ⟨w5.heap.size, 2, none⟩ = some (.slice da l.length dc))) (exact KD.out _ (HS.out.step (by repeat (first | with_reducible exact Below.refl _ _ | with_reducible refine toDK ?_ | with_reducible refine Below.alloc ?_ (by first | exact Nat.le_refl _ | omega | (simp; omega)) _ | with_reducible refine Below.setCell ?_ (by first | with_reducible exact Nat.le_refl _ | (dsimp only; omega)) _))).low) ((first
      | (go_at_call 13; (with_reducible refine (ref8_any ep nx da l.length dc l _ ((HS.out.step (by repeat (first | with_reducible exact Below.refl _ _ | with_reducible refine toDK ?_ | with_reducible refine Below.alloc ?_ (by first | exact Nat.le_refl _ | omega | (simp; omega)) _ | with_reducible refine Below.setCell ?_ (by first | with_reducible exact Nat.le_refl _ | (dsimp only; omega)) _))).get (by repeat (first | exact List.mem_cons_self | apply List.mem_cons_of_mem))) zl).mono ?_); rintro e w8 ⟨a8, n8, c8, rfl, h8, _, b8⟩; replace HS := Lib.hid (((HS.out.step (by repeat (first | with_reducible exact Below.refl _ _ | with_reducible refine toDK ?_ | with_reducible refine Below.alloc ?_ (by first | exact Nat.le_refl _ | omega | (simp; omega)) _ | with_reducible refine Below.setCell ?_ (by first | with_reducible exact Nat.le_refl _ | (dsimp only; omega)) _))).step b8).add h8); clear h8 b8)
      | (go_at_call 13; (with_reducible refine (ref8_any ep nx a l.length c l _ ((HS.out.step (by repeat (first | with_reducible exact Below.refl _ _ | with_reducible refine toDK ?_ | with_reducible refine Below.alloc ?_ (by first | exact Nat.le_refl _ | omega | (simp; omega)) _ | with_reducible refine Below.setCell ?_ (by first | with_reducible exact Nat.le_refl _ | (dsimp only; omega)) _))).get (by repeat (first | exact List.mem_cons_self | apply List.mem_cons_of_mem))) zl).mono ?_); rintro e w9 ⟨a9, n9, c9, rfl, h9, _, b9⟩; replace HS := Lib.hid (((HS.out.step (by repeat (first | with_reducible exact Below.refl _ _ | with_reducible refine toDK ?_ | with_reducible refine Below.alloc ?_ (by first | exact Nat.le_refl _ | omega | (simp; omega)) _ | with_reducible refine Below.setCell ?_ (by first | with_reducible exact Nat.le_refl _ | (dsimp only; omega)) _))).step b9).add h9); clear h9 b9)
      | (go_at_call 27; (with_reducible refine (same8_any ep nx a8 a9 n8 n9 c8 c9 l _ ((HS.out.step (by repeat (first | with_reducible exact Below.refl _ _ | with_reducible refine toDK ?_ | with_reducible refine Below.alloc ?_ (by first | exact Nat.le_refl _ | omega | (simp; omega)) _ | with_reducible refine Below.setCell ?_ (by first | with_reducible exact Nat.le_refl _ | (dsimp only; omega)) _))).get (by repeat (first | exact List.mem_cons_self | apply List.mem_cons_of_mem))) ((HS.out.step (by repeat (first | with_reducible exact Below.refl _ _ | with_reducible refine toDK ?_ | with_reducible refine Below.alloc ?_ (by first | exact Nat.le_refl _ | omega | (simp; omega)) _ | with_reducible refine Below.setCell ?_ (by first | with_reducible exact Nat.le_refl _ | (dsimp only; omega)) _))).get (by repeat (first | exact List.mem_cons_self | apply List.mem_cons_of_mem)))).mono ?_); rintro e w10 ⟨rfl, b10⟩; replace HS := Lib.hid ((HS.out.step (by repeat (first | with_reducible exact Below.refl _ _ | with_reducible refine toDK ?_ | with_reducible refine Below.alloc ?_ (by first | exact Nat.le_refl _ | omega | (simp; omega)) _ | with_reducible refine Below.setCell ?_ (by first | with_reducible exact Nat.le_refl _ | (dsimp only; omega)) _))).step b10); clear b10))) | fail)
    all_goals
      go_wp2_with fail
      go_meet
      exact ⟨rfl, (HS.out.step (by repeat (first | with_reducible exact Below.refl _ _ | with_reducible refine toDK ?_ | with_reducible refine Below.alloc ?_ (by first | exact Nat.le_refl _ | omega | (simp; omega)) _ | with_reducible refine Below.setCell ?_ (by first | with_reducible exact Nat.le_refl _ | (dsimp only; omega)) _))).low⟩
  case rest =>
    obtain ⟨rfl, bc⟩ := hcut
    have B7 := below_next B6 bc
    go_wp2_with (go_at_call 30; (with_reducible refine (CR.out _).mono ?_); rintro e w11 ⟨ea, en, ec, rfl, he, b11⟩; dsimp only at he; have B11 := below_next B7 b11; obtain ⟨WE, hWE⟩ : ∃ WE, w11.alloc (.cells #[.int .i64 ep2, .int .i64 nx2, .slice ea en ec] 24) = WE := ⟨_, rfl⟩; have b12 : Below w11.heap.size w11 WE := (by rw [← hWE]; exact (Below.refl _ _).alloc (Nat.le_refl _) _); have g12 : w11.heap.size < WE.heap.size := (by rw [← hWE]; simp); have hr12 : WE.heap[w11.heap.size]? = some (.cells #[.int .i64 ep2, .int .i64 nx2, .slice ea en ec] 24) := (by rw [← hWE]; exact heap_alloc_new _ _); have B12 := below_next B11 b12; have he2 := Lib.hid (he.below b12))
    replace hWE := Lib.hid hWE
    go_wp2_with (go_at_call 12; (with_reducible refine (awake8_any _).mono ?_); rintro e w13 ⟨rfl, b13⟩; have B13 := below_next B12 b13; have hr13 := (b13.block _ g12).trans hr12; obtain ⟨u0, u1, u2⟩ := c3K hr13; replace hr13 := Lib.hid hr13)
    go_wp2_with (go_at_call 32; (with_reducible refine (CK2.out _ _ _ _ (he2.out.below b13)).mono ?_); rintro e w14 ⟨rfl, b14⟩; have B14 := below_next B13 b14)
    go_ret
    exact ⟨ret_bool (by simp), below_next bw B14⟩
set_option maxRecDepth 100000 in
set_option maxHeartbeats 4000000 in
theorem cback_tf (ep nx : Int) (a : Option Addr) (n c : Nat) (l : List Sd) (s : ByteArray) (w : World) (h : RArg encS 4 w a n c l) (hl : l.length ≤ 60) (hbig : (s.size : Int) ≤ 2000) (ht : chkC ep nx l = true) (x : Int) (ep2 nx2 : Int) (hx : x ≠ 0) (hr : readC s = (ep2, nx2, [], x)) :
    Calls Try.prog 6 #[.agg #[.int .i64 ep, .int .i64 nx, .slice a n c], .string s] w (TruePost w) := by
  obtain rfl := h.1
  have hz : (l.length : Int) ≤ 9223372036854775807 := by omega
  have zl : l.length ≤ 100000 := by omega
  obtain ⟨W1, hW1⟩ : ∃ W1, w.alloc (.cells #[.int .i64 ep, .int .i64 nx, .slice a l.length c] 24) = W1 := ⟨_, rfl⟩
  have bw : Below w.heap.size w W1 := by rw [← hW1]; exact (Below.refl _ _).alloc (Nat.le_refl _) _
  have g1 : w.heap.size < W1.heap.size := by rw [← hW1]; simp
  have hr1 : W1.heap[w.heap.size]? = some (.cells #[.int .i64 ep, .int .i64 nx, .slice a l.length c] 24) := by rw [← hW1]; exact heap_alloc_new _ _
  have K3 := Lib.hid (fun W (h : Below W1.heap.size W1 W) => c3K ((h.block _ g1).trans hr1))
  have HF := Lib.hid (fun W => few8_any ep nx a l.length c W hz (decide_eq_true hl))
  have HC := Lib.hid (fun W (hb : Below W1.heap.size W1 W) => (show Calls Try.prog 19 #[.agg #[.int .i64 ep, .int .i64 nx, .slice a l.length c]] W (Gives W (.bool true)) from ht ▸ chk_any ep nx a l.length c l W ((h.below bw).below hb)))
  have CR := Lib.hid (fun W => (show Calls Try.prog 30 #[.string s] W (ReadPost (ep2, nx2, [], x) W) from hr ▸ cread_any s W (by omega)))
  have d1 : (x == 0) = false := by simpa using hx
  have d2 : (x != 0) = true := by simpa using hx
  have CT := Lib.hid (fun W (hb : Below W1.heap.size W1 W) => ctext_any ep nx a l.length c l W ((h.below bw).below hb))
  have CB := Lib.hid (fun W => cread_any (ofC (textC ep nx l)) W (textC_len ht))
  rw [readC_back ht] at CB
  generalize ofC (textC ep nx l) = X at CT CB
  have HR := Lib.hid (fun W (hb : Below W1.heap.size W1 W) => (h.below bw).below hb)
  obtain ⟨q0, q1, q2⟩ := K3.out _ (Below.refl _ _)
  clear ht hr h hr1 hx
  go_enter Try.func6, Try.ntmps6
  go_wp2_with (first
    | (go_at_call 11; (with_reducible refine (HF.out _).mono ?_); rintro e w2 ⟨rfl, b2⟩; have B2 := b2; obtain ⟨q0, q1, q2⟩ := K3.out _ B2)
    | (go_at_call 19; (with_reducible refine (HC.out _ B2).mono ?_); rintro e w3 ⟨rfl, b3⟩; have B3 := below_next B2 b3; obtain ⟨q0, q1, q2⟩ := K3.out _ B3)
    | (go_at_call 32; (with_reducible refine (CT.out _ B3).mono ?_); rintro e w4 ⟨rfl, b4⟩; have B4 := below_next B3 b4)
    | (go_at_call 30; (with_reducible refine (CB.out _).mono ?_); rintro e w5 ⟨da, dn, dc, rfl, hd, b5⟩; dsimp only at hd; obtain rfl : dn = l.length := hd.1; have B5 := below_next B4 b5))
  obtain ⟨WD, hWD⟩ : ∃ WD, w5.alloc (.cells #[.int .i64 ep, .int .i64 nx, .slice da l.length dc] 24) = WD := ⟨_, rfl⟩
  have b6 : Below w5.heap.size w5 WD := by rw [← hWD]; exact (Below.refl _ _).alloc (Nat.le_refl _) _
  have g6 : w5.heap.size < WD.heap.size := by rw [← hWD]; simp
  have B6 := below_next B5 b6
  have hr6 : WD.heap[w5.heap.size]? = some (.cells #[.int .i64 ep, .int .i64 nx, .slice da l.length dc] 24) := by rw [← hWD]; exact heap_alloc_new _ _
  have KD := Lib.hid (fun W (hb : Below WD.heap.size WD W) => (show ((W.cell? ⟨w.heap.size, 0, none⟩ = some (.int .i64 ep) ∧ W.cell? ⟨w.heap.size, 1, none⟩ = some (.int .i64 nx) ∧ W.cell? ⟨w.heap.size, 2, none⟩ = some (.slice a l.length c)) ∧ (W.cell? ⟨w5.heap.size, 0, none⟩ = some (.int .i64 ep) ∧ W.cell? ⟨w5.heap.size, 1, none⟩ = some (.int .i64 nx) ∧ W.cell? ⟨w5.heap.size, 2, none⟩ = some (.slice da l.length dc))) from ⟨K3.out _ (below_next B6 hb), c3K ((hb.block _ g6).trans hr6)⟩))
  have HS := Lib.hid (((EnvC.start WD).add (HR.out _ B6)).add (hd.below b6))
  replace HR := Lib.hid (HR.out)
  clear q0 q1 q2 hr6
  rw [hWD]
  replace hWD := Lib.hid hWD
  go_cut [35] from 26 to 35 (fun b wx => b = .bool false ∧ Below WD.heap.size WD wx)
  case first =>
    obtain ⟨q0, q1, q2⟩ := (KD.out _ (Below.refl _ _)).1
    (first | go_region_held3 (fun W => (W.cell? ⟨w.heap.size, 0, none⟩ = some (.int .i64 ep) ∧ W.cell? ⟨w.heap.size, 1, none⟩ = some (.int .i64 nx) ∧ W.cell? ⟨w.heap.size, 2, none⟩ = some (.slice a l.length c)) ∧ (W.cell? ⟨w5.heap.size, 0, none⟩ = some (.int .i64 ep) ∧ W.cell? ⟨w5.heap.size, 1, none⟩ = some (.int .i64 nx) ∧ W.cell? ⟨w5.heap.size, 2, none⟩ = some (.slice da l.length dc))) (exact KD.out _ (HS.out.step (by repeat (first | with_reducible exact Below.refl _ _ | with_reducible refine toDK ?_ | with_reducible refine Below.alloc ?_ (by first | exact Nat.le_refl _ | omega | (simp; omega)) _ | with_reducible refine Below.setCell ?_ (by first | with_reducible exact Nat.le_refl _ | (dsimp only; omega)) _))).low) ((first
      | (go_at_call 13; (with_reducible refine (ref8_any ep nx da l.length dc l _ ((HS.out.step (by repeat (first | with_reducible exact Below.refl _ _ | with_reducible refine toDK ?_ | with_reducible refine Below.alloc ?_ (by first | exact Nat.le_refl _ | omega | (simp; omega)) _ | with_reducible refine Below.setCell ?_ (by first | with_reducible exact Nat.le_refl _ | (dsimp only; omega)) _))).get (by repeat (first | exact List.mem_cons_self | apply List.mem_cons_of_mem))) zl).mono ?_); rintro e w8 ⟨a8, n8, c8, rfl, h8, _, b8⟩; replace HS := Lib.hid (((HS.out.step (by repeat (first | with_reducible exact Below.refl _ _ | with_reducible refine toDK ?_ | with_reducible refine Below.alloc ?_ (by first | exact Nat.le_refl _ | omega | (simp; omega)) _ | with_reducible refine Below.setCell ?_ (by first | with_reducible exact Nat.le_refl _ | (dsimp only; omega)) _))).step b8).add h8); clear h8 b8)
      | (go_at_call 13; (with_reducible refine (ref8_any ep nx a l.length c l _ ((HS.out.step (by repeat (first | with_reducible exact Below.refl _ _ | with_reducible refine toDK ?_ | with_reducible refine Below.alloc ?_ (by first | exact Nat.le_refl _ | omega | (simp; omega)) _ | with_reducible refine Below.setCell ?_ (by first | with_reducible exact Nat.le_refl _ | (dsimp only; omega)) _))).get (by repeat (first | exact List.mem_cons_self | apply List.mem_cons_of_mem))) zl).mono ?_); rintro e w9 ⟨a9, n9, c9, rfl, h9, _, b9⟩; replace HS := Lib.hid (((HS.out.step (by repeat (first | with_reducible exact Below.refl _ _ | with_reducible refine toDK ?_ | with_reducible refine Below.alloc ?_ (by first | exact Nat.le_refl _ | omega | (simp; omega)) _ | with_reducible refine Below.setCell ?_ (by first | with_reducible exact Nat.le_refl _ | (dsimp only; omega)) _))).step b9).add h9); clear h9 b9)
      | (go_at_call 27; (with_reducible refine (same8_any ep nx a8 a9 n8 n9 c8 c9 l _ ((HS.out.step (by repeat (first | with_reducible exact Below.refl _ _ | with_reducible refine toDK ?_ | with_reducible refine Below.alloc ?_ (by first | exact Nat.le_refl _ | omega | (simp; omega)) _ | with_reducible refine Below.setCell ?_ (by first | with_reducible exact Nat.le_refl _ | (dsimp only; omega)) _))).get (by repeat (first | exact List.mem_cons_self | apply List.mem_cons_of_mem))) ((HS.out.step (by repeat (first | with_reducible exact Below.refl _ _ | with_reducible refine toDK ?_ | with_reducible refine Below.alloc ?_ (by first | exact Nat.le_refl _ | omega | (simp; omega)) _ | with_reducible refine Below.setCell ?_ (by first | with_reducible exact Nat.le_refl _ | (dsimp only; omega)) _))).get (by repeat (first | exact List.mem_cons_self | apply List.mem_cons_of_mem)))).mono ?_); rintro e w10 ⟨rfl, b10⟩; replace HS := Lib.hid ((HS.out.step (by repeat (first | with_reducible exact Below.refl _ _ | with_reducible refine toDK ?_ | with_reducible refine Below.alloc ?_ (by first | exact Nat.le_refl _ | omega | (simp; omega)) _ | with_reducible refine Below.setCell ?_ (by first | with_reducible exact Nat.le_refl _ | (dsimp only; omega)) _))).step b10); clear b10))) | fail)
    all_goals
      go_wp2_with fail
      go_meet
      exact ⟨rfl, (HS.out.step (by repeat (first | with_reducible exact Below.refl _ _ | with_reducible refine toDK ?_ | with_reducible refine Below.alloc ?_ (by first | exact Nat.le_refl _ | omega | (simp; omega)) _ | with_reducible refine Below.setCell ?_ (by first | with_reducible exact Nat.le_refl _ | (dsimp only; omega)) _))).low⟩
  case rest =>
    obtain ⟨rfl, bc⟩ := hcut
    have B7 := below_next B6 bc
    go_wp2_with (go_at_call 30; (with_reducible refine (CR.out _).mono ?_); rintro e w11 ⟨ea, en, ec, rfl, he, b11⟩; dsimp only at he; obtain rfl : en = 0 := he.1; have B11 := below_next B7 b11; obtain ⟨WE, hWE⟩ : ∃ WE, w11.alloc (.cells #[.int .i64 ep2, .int .i64 nx2, .slice ea 0 ec] 24) = WE := ⟨_, rfl⟩; have b12 : Below w11.heap.size w11 WE := (by rw [← hWE]; exact (Below.refl _ _).alloc (Nat.le_refl _) _); have g12 : w11.heap.size < WE.heap.size := (by rw [← hWE]; simp); have hr12 : WE.heap[w11.heap.size]? = some (.cells #[.int .i64 ep2, .int .i64 nx2, .slice ea 0 ec] 24) := (by rw [← hWE]; exact heap_alloc_new _ _); have B12 := below_next B11 b12; have he2 := Lib.hid (he.below b12))
    replace hWE := Lib.hid hWE
    go_wp2_with (go_at_call 12; (with_reducible refine (awake8_any _).mono ?_); rintro e w13 ⟨rfl, b13⟩; have B13 := below_next B12 b13; have hr13 := (b13.block _ g12).trans hr12; obtain ⟨u0, u1, u2⟩ := c3K hr13; replace hr13 := Lib.hid hr13)
    go_ret
    exact ⟨ret_bool (by simp), below_next bw B13⟩
set_option maxRecDepth 100000 in
set_option maxHeartbeats 4000000 in
theorem cback_ft (ep nx : Int) (a : Option Addr) (n c : Nat) (l : List Sd) (s : ByteArray) (w : World) (h : RArg encS 4 w a n c l) (hl : l.length ≤ 60) (hbig : (s.size : Int) ≤ 2000) (ht : chkC ep nx l = false) (ep2 nx2 : Int) (l2 : List Sd) (hr : readC s = (ep2, nx2, l2, 0)) (ht2 : ofC (textC ep2 nx2 l2) = s) :
    Calls Try.prog 6 #[.agg #[.int .i64 ep, .int .i64 nx, .slice a n c], .string s] w (TruePost w) := by
  obtain rfl := h.1
  have hz : (l.length : Int) ≤ 9223372036854775807 := by omega
  have zl : l.length ≤ 100000 := by omega
  obtain ⟨W1, hW1⟩ : ∃ W1, w.alloc (.cells #[.int .i64 ep, .int .i64 nx, .slice a l.length c] 24) = W1 := ⟨_, rfl⟩
  have bw : Below w.heap.size w W1 := by rw [← hW1]; exact (Below.refl _ _).alloc (Nat.le_refl _) _
  have g1 : w.heap.size < W1.heap.size := by rw [← hW1]; simp
  have hr1 : W1.heap[w.heap.size]? = some (.cells #[.int .i64 ep, .int .i64 nx, .slice a l.length c] 24) := by rw [← hW1]; exact heap_alloc_new _ _
  have K3 := Lib.hid (fun W (h : Below W1.heap.size W1 W) => c3K ((h.block _ g1).trans hr1))
  have HF := Lib.hid (fun W => few8_any ep nx a l.length c W hz (decide_eq_true hl))
  have HC := Lib.hid (fun W (hb : Below W1.heap.size W1 W) => (show Calls Try.prog 19 #[.agg #[.int .i64 ep, .int .i64 nx, .slice a l.length c]] W (Gives W (.bool false)) from ht ▸ chk_any ep nx a l.length c l W ((h.below bw).below hb)))
  have CR := Lib.hid (fun W => (show Calls Try.prog 30 #[.string s] W (ReadPost (ep2, nx2, l2, 0) W) from hr ▸ cread_any s W (by omega)))
  have CK2 := Lib.hid (fun a n c W (h : RArg encS 4 W a n c l2) => (show Calls Try.prog 32 #[.agg #[.int .i64 ep2, .int .i64 nx2, .slice a n c]] W (Gives W (.string s)) from ht2 ▸ ctext_any ep2 nx2 a n c l2 W h))
  have HR := Lib.hid (fun W (hb : Below W1.heap.size W1 W) => (h.below bw).below hb)
  obtain ⟨q0, q1, q2⟩ := K3.out _ (Below.refl _ _)
  clear ht hr h hr1 ht2
  go_enter Try.func6, Try.ntmps6
  go_wp2_with (first
    | (go_at_call 11; (with_reducible refine (HF.out _).mono ?_); rintro e w2 ⟨rfl, b2⟩; have B2 := b2; obtain ⟨q0, q1, q2⟩ := K3.out _ B2)
    | (go_at_call 19; (with_reducible refine (HC.out _ B2).mono ?_); rintro e w3 ⟨rfl, b3⟩; have B3 := below_next B2 b3; obtain ⟨q0, q1, q2⟩ := K3.out _ B3))
  go_wp2_with (go_at_call 30; (with_reducible refine (CR.out _).mono ?_); rintro e w11 ⟨ea, en, ec, rfl, he, b11⟩; dsimp only at he; have B11 := below_next B3 b11; obtain ⟨WE, hWE⟩ : ∃ WE, w11.alloc (.cells #[.int .i64 ep2, .int .i64 nx2, .slice ea en ec] 24) = WE := ⟨_, rfl⟩; have b12 : Below w11.heap.size w11 WE := (by rw [← hWE]; exact (Below.refl _ _).alloc (Nat.le_refl _) _); have g12 : w11.heap.size < WE.heap.size := (by rw [← hWE]; simp); have hr12 : WE.heap[w11.heap.size]? = some (.cells #[.int .i64 ep2, .int .i64 nx2, .slice ea en ec] 24) := (by rw [← hWE]; exact heap_alloc_new _ _); have B12 := below_next B11 b12; have he2 := Lib.hid (he.below b12))
  replace hWE := Lib.hid hWE
  go_wp2_with (go_at_call 12; (with_reducible refine (awake8_any _).mono ?_); rintro e w13 ⟨rfl, b13⟩; have B13 := below_next B12 b13; have hr13 := (b13.block _ g12).trans hr12; obtain ⟨u0, u1, u2⟩ := c3K hr13; replace hr13 := Lib.hid hr13)
  go_wp2_with (go_at_call 32; (with_reducible refine (CK2.out _ _ _ _ (he2.out.below b13)).mono ?_); rintro e w14 ⟨rfl, b14⟩; have B14 := below_next B13 b14)
  go_ret
  exact ⟨ret_bool (by simp), below_next bw B14⟩
set_option maxRecDepth 100000 in
set_option maxHeartbeats 4000000 in
theorem cback_ff (ep nx : Int) (a : Option Addr) (n c : Nat) (l : List Sd) (s : ByteArray) (w : World) (h : RArg encS 4 w a n c l) (hl : l.length ≤ 60) (hbig : (s.size : Int) ≤ 2000) (ht : chkC ep nx l = false) (x : Int) (ep2 nx2 : Int) (hx : x ≠ 0) (hr : readC s = (ep2, nx2, [], x)) :
    Calls Try.prog 6 #[.agg #[.int .i64 ep, .int .i64 nx, .slice a n c], .string s] w (TruePost w) := by
  obtain rfl := h.1
  have hz : (l.length : Int) ≤ 9223372036854775807 := by omega
  have zl : l.length ≤ 100000 := by omega
  obtain ⟨W1, hW1⟩ : ∃ W1, w.alloc (.cells #[.int .i64 ep, .int .i64 nx, .slice a l.length c] 24) = W1 := ⟨_, rfl⟩
  have bw : Below w.heap.size w W1 := by rw [← hW1]; exact (Below.refl _ _).alloc (Nat.le_refl _) _
  have g1 : w.heap.size < W1.heap.size := by rw [← hW1]; simp
  have hr1 : W1.heap[w.heap.size]? = some (.cells #[.int .i64 ep, .int .i64 nx, .slice a l.length c] 24) := by rw [← hW1]; exact heap_alloc_new _ _
  have K3 := Lib.hid (fun W (h : Below W1.heap.size W1 W) => c3K ((h.block _ g1).trans hr1))
  have HF := Lib.hid (fun W => few8_any ep nx a l.length c W hz (decide_eq_true hl))
  have HC := Lib.hid (fun W (hb : Below W1.heap.size W1 W) => (show Calls Try.prog 19 #[.agg #[.int .i64 ep, .int .i64 nx, .slice a l.length c]] W (Gives W (.bool false)) from ht ▸ chk_any ep nx a l.length c l W ((h.below bw).below hb)))
  have CR := Lib.hid (fun W => (show Calls Try.prog 30 #[.string s] W (ReadPost (ep2, nx2, [], x) W) from hr ▸ cread_any s W (by omega)))
  have d1 : (x == 0) = false := by simpa using hx
  have d2 : (x != 0) = true := by simpa using hx
  have HR := Lib.hid (fun W (hb : Below W1.heap.size W1 W) => (h.below bw).below hb)
  obtain ⟨q0, q1, q2⟩ := K3.out _ (Below.refl _ _)
  clear ht hr h hr1 hx
  go_enter Try.func6, Try.ntmps6
  go_wp2_with (first
    | (go_at_call 11; (with_reducible refine (HF.out _).mono ?_); rintro e w2 ⟨rfl, b2⟩; have B2 := b2; obtain ⟨q0, q1, q2⟩ := K3.out _ B2)
    | (go_at_call 19; (with_reducible refine (HC.out _ B2).mono ?_); rintro e w3 ⟨rfl, b3⟩; have B3 := below_next B2 b3; obtain ⟨q0, q1, q2⟩ := K3.out _ B3))
  go_wp2_with (go_at_call 30; (with_reducible refine (CR.out _).mono ?_); rintro e w11 ⟨ea, en, ec, rfl, he, b11⟩; dsimp only at he; obtain rfl : en = 0 := he.1; have B11 := below_next B3 b11; obtain ⟨WE, hWE⟩ : ∃ WE, w11.alloc (.cells #[.int .i64 ep2, .int .i64 nx2, .slice ea 0 ec] 24) = WE := ⟨_, rfl⟩; have b12 : Below w11.heap.size w11 WE := (by rw [← hWE]; exact (Below.refl _ _).alloc (Nat.le_refl _) _); have g12 : w11.heap.size < WE.heap.size := (by rw [← hWE]; simp); have hr12 : WE.heap[w11.heap.size]? = some (.cells #[.int .i64 ep2, .int .i64 nx2, .slice ea 0 ec] 24) := (by rw [← hWE]; exact heap_alloc_new _ _); have B12 := below_next B11 b12; have he2 := Lib.hid (he.below b12))
  replace hWE := Lib.hid hWE
  go_wp2_with (go_at_call 12; (with_reducible refine (awake8_any _).mono ?_); rintro e w13 ⟨rfl, b13⟩; have B13 := below_next B12 b13; have hr13 := (b13.block _ g12).trans hr12; obtain ⟨u0, u1, u2⟩ := c3K hr13; replace hr13 := Lib.hid hr13)
  go_ret
  exact ⟨ret_bool (by simp), below_next bw B13⟩
set_option maxRecDepth 100000 in
set_option maxHeartbeats 2000000 in
theorem chartBack_walk (ep nx : Int) (a : Option Addr) (n c : Nat) (l : List Sd) (s : ByteArray) (w : World) (h : RArg encS 4 w a n c l) (hs : s.size ≤ maxLen) :
    Calls Try.prog 6 #[.agg #[.int .i64 ep, .int .i64 nx, .slice a n c], .string s] w (TruePost w) := by
  have hsz : (s.size : Int) ≤ 9223372036854775807 := by unfold maxLen at hs; omega
  clear hs
  by_cases hl : l.length ≤ 60
  · by_cases hbig : (s.size : Int) ≤ 2000
    · obtain ⟨ep2, nx2, l2, x, hr⟩ : ∃ ep2 nx2 l2 x, readC s = (ep2, nx2, l2, x) := ⟨_, _, _, _, rfl⟩
      have he := readC_err s
      have ho := readC_once (s := s)
      rw [hr] at he ho
      dsimp only at he ho
      cases ht : chkC ep nx l with
      | true =>
        rcases he with rfl | ⟨hx, rfl⟩
        · exact cback_tt ep nx a n c l s w h hl hbig ht ep2 nx2 l2 hr (ho rfl).2
        · exact cback_tf ep nx a n c l s w h hl hbig ht x ep2 nx2 hx hr
      | false =>
        rcases he with rfl | ⟨hx, rfl⟩
        · exact cback_ft ep nx a n c l s w h hl hbig ht ep2 nx2 l2 hr (ho rfl).2
        · exact cback_ff ep nx a n c l s w h hl hbig ht x ep2 nx2 hx hr
    · obtain rfl := h.1
      have hz : (l.length : Int) ≤ 9223372036854775807 := by omega
      have HF := Lib.hid (fun W => few8_any ep nx a l.length c W hz (decide_eq_true hl))
      have bw : Below w.heap.size w (w.alloc (.cells #[.int .i64 ep, .int .i64 nx, .slice a l.length c] 24)) := (Below.refl _ _).alloc (Nat.le_refl _) _
      clear h
      go_enter Try.func6, Try.ntmps6
      go_wp2_with (first
        | (go_at_call 11; (with_reducible refine (HF.out _).mono ?_); rintro e w2 ⟨rfl, b2⟩)
        | (go_at_call 12; (with_reducible refine (awake8_any _).mono ?_); rintro e w3 ⟨rfl, b3⟩))
      go_ret
      exact ⟨rfl, below_next bw (below_next b2 b3)⟩
  · obtain rfl := h.1
    have hz : (l.length : Int) ≤ 9223372036854775807 := h.2.1
    have HF := Lib.hid (fun W => few8_any ep nx a l.length c W hz (decide_eq_false hl))
    have bw : Below w.heap.size w (w.alloc (.cells #[.int .i64 ep, .int .i64 nx, .slice a l.length c] 24)) := (Below.refl _ _).alloc (Nat.le_refl _) _
    clear h
    go_enter Try.func6, Try.ntmps6
    go_wp2_with (first
      | (go_at_call 11; (with_reducible refine (HF.out _).mono ?_); rintro e w2 ⟨rfl, b2⟩)
      | (go_at_call 12; (with_reducible refine (awake8_any _).mono ?_); rintro e w3 ⟨rfl, b3⟩))
    go_ret
    exact ⟨rfl, below_next bw (below_next b2 b3)⟩
end Go.Proofs.Ytcpcdinfagdlhaa
