/-
  ScanBack.
-/
import Derived.Test.YtcpcdinfagdlhaaScV
import Derived.Test.YtcpcdinfagdlhaaScR
import Derived.BigQuiet
namespace Go.Proofs.Ytcpcdinfagdlhaa
open Go.RowKit Go.Shelf Go.ChangeShapes Go.WideShapes Go.Deep

theorem Arg.nilS (w : World) : Arg w none 0 0 [] := ⟨rfl, by simp, Nat.le_refl _, Nat.zero_le _, PIn.nil _ _ _⟩
theorem numL_ne (n : Nat) : numL n ≠ [] := by rw [numL]; split <;> simp
theorem textK_ne {on : List Sp} {af lim : Int} (h : curB on af lim = true) : (ofK (textK on af lim)).toList.isEmpty = false := by
  obtain ⟨_, _, _, hlim, _⟩ := cur_parts h
  have h2 : bl (numS lim) ≠ [] := by
    unfold numS bl
    rw [if_neg (by omega)]
    simpa using numL_ne _
  have h3 : textK on af lim ≠ [] := by
    rw [show textK on af lim = bodyK on af lim from if_pos h]
    unfold bodyK
    intro hq
    simp only [List.append_eq_nil_iff] at hq
    exact h2 hq.1.1.2
  rw [ByteArray.toList_eq]
  cases hq : textK on af lim with
  | nil => exact absurd hq h3
  | cons a t => rfl
theorem numS_len9S (n : Int) (h : n ≤ 9223372036854775807) : (bl (numS n)).length ≤ 9 := by
  have := numS_size h
  have e : (bl (numS n)).length = (numS n).size := Array.length_toList
  omega
theorem spsT_len : ∀ (l : List Sp), (∀ s ∈ l, fitK s) → (spsT l).length ≤ 18 * l.length
  | [], _ => by simp [spsT]
  | s :: t, h => by
    have h1 := spsT_len t (fun q hq => h q (by simp [hq]))
    obtain ⟨a0, a1, b0, b1⟩ := h s (by simp)
    have k1 := numS_len9S s.1 (by omega)
    have k2 := numS_len9S s.2 (by omega)
    show (spT s ++ spsT t).length ≤ _
    unfold spT
    simp only [List.length_append, List.length_cons]
    omega
theorem textK_len {on : List Sp} {af lim : Int} (h : curB on af lim = true) : ((ofK (textK on af lim)).size : Int) ≤ 1000000000000 := by
  obtain ⟨hf, hl, haf, hlim, _⟩ := cur_parts h
  rw [show (ofK (textK on af lim)).size = (textK on af lim).length from by rw [ba_size]; simp [ofK], show textK on af lim = bodyK on af lim from if_pos h]
  unfold bodyK
  have k1 : (bl (wholeS af)).length ≤ 10 := by
    have := wholeS_size af
    have e : (bl (wholeS af)).length = (wholeS af).size := Array.length_toList
    omega
  have k2 := numS_len9S lim (by omega)
  have k3 := numS_len9S (on.length : Int) (by omega)
  have k4 := spsT_len on hf
  simp only [List.length_append]
  omega
set_option maxRecDepth 100000 in
set_option maxHeartbeats 4000000 in
theorem sback_tt (a : Option Addr) (n c : Nat) (on : List Sp) (af lim : Int) (s : ByteArray) (w : World) (h : Arg w a n c on) (hl : n ≤ 100) (hbig : (s.size : Int) ≤ 2000) (ht : curB on af lim = true) (l2 : List Sp) (af2 lim2 : Int) (hr : readK s = (l2, af2, lim2, 0)) (hc2 : curB l2 af2 lim2 = true) (ht2 : ofK (textK l2 af2 lim2) = s) :
    Calls Try.prog 10 #[.agg #[.slice a n c, .int .i64 af, .int .i64 lim], .string s] w (TruePost w) := by
  have hbn : s.size ≤ 2000 := by omega
  have zl : on.length ≤ 100000 := by have := h.1; omega
  obtain ⟨W1, hW1⟩ : ∃ W1, w.alloc (.cells #[.slice a n c, .int .i64 af, .int .i64 lim] 69) = W1 := ⟨_, rfl⟩
  have bw : Below w.heap.size w W1 := by rw [← hW1]; exact (Below.refl _ _).alloc (Nat.le_refl _) _
  have g1 : w.heap.size < W1.heap.size := by rw [← hW1]; simp
  have hr1 : W1.heap[w.heap.size]? = some (.cells #[.slice a n c, .int .i64 af, .int .i64 lim] 69) := by rw [← hW1]; exact heap_alloc_new _ _
  have K3 := Lib.hid (fun W (h : Below W1.heap.size W1 W) => c3S ((h.block _ g1).trans hr1))
  have CR := Lib.hid (fun W => (show Calls Try.prog 50 #[.string s] W (ReadPostK (l2, af2, lim2, 0) W) from hr ▸ sread_any s W (by omega)))
  have CT := Lib.hid (fun W (hb : Below W1.heap.size W1 W) => stext_any on af lim a n c W ((h.below bw).below hb))
  have CK2 := Lib.hid (fun a n c W (h : Arg W a n c l2) => (show Calls Try.prog 49 #[.agg #[.slice a n c, .int .i64 af2, .int .i64 lim2]] W (Gives W (.string s)) from ht2 ▸ stext_any l2 af2 lim2 a n c W h))
  have z2 : l2.length ≤ 100000 := by have := (cur_parts hc2).2.1; omega
  have CC2 := Lib.hid (fun a n c W (h : Arg W a n c l2) => (show Calls Try.prog 52 #[.slice a n c] W (Gives W (.bool true)) from (cur_parts hc2).2.2.2.2 ▸ rcheck_any a n c l2 W h))
  have CB := Lib.hid (fun W => sread_any (ofK (textK on af lim)) W (textK_len ht))
  have hXn := textK_ne ht
  rw [readK_back ht] at CB
  generalize ofK (textK on af lim) = X at CT CB hXn
  have HR := Lib.hid (fun W (hb : Below W1.heap.size W1 W) => (h.below bw).below hb)
  obtain ⟨q0, q1, q2⟩ := K3.out _ (Below.refl _ _)
  have B1 : Below W1.heap.size W1 W1 := Below.refl _ _
  clear ht hr h hr1 ht2 hc2
  go_enter Try.func10, Try.ntmps10
  go_wp2_with (first
    | (go_at_call 49; (with_reducible refine (CT.out _ B1).mono ?_); rintro e w4 ⟨rfl, b4⟩; have B4 := below_next B1 b4; obtain ⟨q0, q1, q2⟩ := K3.out _ B4)
    | (go_at_call 50; (with_reducible refine (CB.out _).mono ?_); rintro e w5 ⟨da, dn, dc, rfl, hd, b5⟩; dsimp only at hd; have B5 := below_next B4 b5))
  obtain ⟨WD, hWD⟩ : ∃ WD, w5.alloc (.cells #[.slice da dn dc, .int .i64 af, .int .i64 lim] 69) = WD := ⟨_, rfl⟩
  have b6 : Below w5.heap.size w5 WD := by rw [← hWD]; exact (Below.refl _ _).alloc (Nat.le_refl _) _
  have g6 : w5.heap.size < WD.heap.size := by rw [← hWD]; simp
  have B6 := below_next B5 b6
  have hr6 : WD.heap[w5.heap.size]? = some (.cells #[.slice da dn dc, .int .i64 af, .int .i64 lim] 69) := by rw [← hWD]; exact heap_alloc_new _ _
  have KD := Lib.hid (fun W (hb : Below WD.heap.size WD W) => (show ((W.cell? ⟨w.heap.size, 0, none⟩ = some (.slice a n c) ∧ W.cell? ⟨w.heap.size, 1, none⟩ = some (.int .i64 af) ∧ W.cell? ⟨w.heap.size, 2, none⟩ = some (.int .i64 lim)) ∧ (W.cell? ⟨w5.heap.size, 0, none⟩ = some (.slice da dn dc) ∧ W.cell? ⟨w5.heap.size, 1, none⟩ = some (.int .i64 af) ∧ W.cell? ⟨w5.heap.size, 2, none⟩ = some (.int .i64 lim))) from ⟨K3.out _ (below_next B6 hb), c3S ((hb.block _ g6).trans hr6)⟩))
  have HS := Lib.hid (((Env.mk (L := []) (Below.refl WD.heap.size WD) (by simp)).add (HR.out _ B6)).add (hd.below b6))
  clear q0 q1 q2 hr6
  rw [hWD]
  replace hWD := Lib.hid hWD
  go_cut [38] from 29 to 38 (fun b wx => b = .bool false ∧ Below WD.heap.size WD wx)
  case first =>
    obtain ⟨q0, q1, q2⟩ := (KD.out _ (Below.refl _ _)).1
    (first | go_region_held3 (fun W => (W.cell? ⟨w.heap.size, 0, none⟩ = some (.slice a n c) ∧ W.cell? ⟨w.heap.size, 1, none⟩ = some (.int .i64 af) ∧ W.cell? ⟨w.heap.size, 2, none⟩ = some (.int .i64 lim)) ∧ (W.cell? ⟨w5.heap.size, 0, none⟩ = some (.slice da dn dc) ∧ W.cell? ⟨w5.heap.size, 1, none⟩ = some (.int .i64 af) ∧ W.cell? ⟨w5.heap.size, 2, none⟩ = some (.int .i64 lim))) (exact KD.out _ (HS.out.step (by repeat (first | with_reducible exact Below.refl _ _ | with_reducible refine toDU ?_ | with_reducible refine Below.alloc ?_ (by first | exact Nat.le_refl _ | omega | (simp; omega)) _ | with_reducible refine Below.setCell ?_ (by first | with_reducible exact Nat.le_refl _ | (dsimp only; omega)) _))).low) ((first
      | (go_at_call 39; (with_reducible refine (ref22_any da dn dc on af lim _ ((HS.out.step (by repeat (first | with_reducible exact Below.refl _ _ | with_reducible refine toDU ?_ | with_reducible refine Below.alloc ?_ (by first | exact Nat.le_refl _ | omega | (simp; omega)) _ | with_reducible refine Below.setCell ?_ (by first | with_reducible exact Nat.le_refl _ | (dsimp only; omega)) _))).get (by repeat (first | exact List.mem_cons_self | apply List.mem_cons_of_mem))) zl).mono ?_); rintro e w8 ⟨a8, n8, c8, rfl, h8, _, b8⟩; replace HS := Lib.hid (((HS.out.step (by repeat (first | with_reducible exact Below.refl _ _ | with_reducible refine toDU ?_ | with_reducible refine Below.alloc ?_ (by first | exact Nat.le_refl _ | omega | (simp; omega)) _ | with_reducible refine Below.setCell ?_ (by first | with_reducible exact Nat.le_refl _ | (dsimp only; omega)) _))).step b8).add h8); clear h8 b8)
      | (go_at_call 39; (with_reducible refine (ref22_any a n c on af lim _ ((HS.out.step (by repeat (first | with_reducible exact Below.refl _ _ | with_reducible refine toDU ?_ | with_reducible refine Below.alloc ?_ (by first | exact Nat.le_refl _ | omega | (simp; omega)) _ | with_reducible refine Below.setCell ?_ (by first | with_reducible exact Nat.le_refl _ | (dsimp only; omega)) _))).get (by repeat (first | exact List.mem_cons_self | apply List.mem_cons_of_mem))) zl).mono ?_); rintro e w9 ⟨a9, n9, c9, rfl, h9, _, b9⟩; replace HS := Lib.hid (((HS.out.step (by repeat (first | with_reducible exact Below.refl _ _ | with_reducible refine toDU ?_ | with_reducible refine Below.alloc ?_ (by first | exact Nat.le_refl _ | omega | (simp; omega)) _ | with_reducible refine Below.setCell ?_ (by first | with_reducible exact Nat.le_refl _ | (dsimp only; omega)) _))).step b9).add h9); clear h9 b9)
      | (go_at_call 51; (with_reducible refine (rsame22_any a8 a9 n8 n9 c8 c9 on on af lim af lim _ ((HS.out.step (by repeat (first | with_reducible exact Below.refl _ _ | with_reducible refine toDU ?_ | with_reducible refine Below.alloc ?_ (by first | exact Nat.le_refl _ | omega | (simp; omega)) _ | with_reducible refine Below.setCell ?_ (by first | with_reducible exact Nat.le_refl _ | (dsimp only; omega)) _))).get (by repeat (first | exact List.mem_cons_self | apply List.mem_cons_of_mem))) ((HS.out.step (by repeat (first | with_reducible exact Below.refl _ _ | with_reducible refine toDU ?_ | with_reducible refine Below.alloc ?_ (by first | exact Nat.le_refl _ | omega | (simp; omega)) _ | with_reducible refine Below.setCell ?_ (by first | with_reducible exact Nat.le_refl _ | (dsimp only; omega)) _))).get (by repeat (first | exact List.mem_cons_self | apply List.mem_cons_of_mem))) rfl rfl rfl).mono ?_); rintro e w10 ⟨rfl, b10⟩; replace HS := Lib.hid ((HS.out.step (by repeat (first | with_reducible exact Below.refl _ _ | with_reducible refine toDU ?_ | with_reducible refine Below.alloc ?_ (by first | exact Nat.le_refl _ | omega | (simp; omega)) _ | with_reducible refine Below.setCell ?_ (by first | with_reducible exact Nat.le_refl _ | (dsimp only; omega)) _))).step b10); clear b10))) | fail)
    all_goals
      go_wp2_with fail
      go_meet
      exact ⟨rfl, (HS.out.step (by repeat (first | with_reducible exact Below.refl _ _ | with_reducible refine toDU ?_ | with_reducible refine Below.alloc ?_ (by first | exact Nat.le_refl _ | omega | (simp; omega)) _ | with_reducible refine Below.setCell ?_ (by first | with_reducible exact Nat.le_refl _ | (dsimp only; omega)) _))).low⟩
  case rest =>
    obtain ⟨rfl, bc⟩ := hcut
    have B7 := below_next B6 bc
    go_wp2_with (go_at_call 50; (with_reducible refine (CR.out _).mono ?_); rintro e w11 ⟨ea, en, ec, rfl, he, b11⟩; dsimp only at he; have B11 := below_next B7 b11; obtain ⟨WE, hWE⟩ : ∃ WE, w11.alloc (.cells #[.slice ea en ec, .int .i64 af2, .int .i64 lim2] 69) = WE := ⟨_, rfl⟩; have b12 : Below w11.heap.size w11 WE := (by rw [← hWE]; exact (Below.refl _ _).alloc (Nat.le_refl _) _); have g12 : w11.heap.size < WE.heap.size := (by rw [← hWE]; simp); have hr12 : WE.heap[w11.heap.size]? = some (.cells #[.slice ea en ec, .int .i64 af2, .int .i64 lim2] 69) := (by rw [← hWE]; exact heap_alloc_new _ _); have B12 := below_next B11 b12; have he2 := Lib.hid (he.below b12))
    replace hWE := Lib.hid hWE
    go_wp2_with (go_at_call 35; (with_reducible refine (awake22_any _).mono ?_); rintro e w13 ⟨rfl, b13⟩; have B13 := below_next B12 b13; have hr13 := (b13.block _ g12).trans hr12; obtain ⟨u0, u1, u2⟩ := c3S hr13; have he3 := Lib.hid (he2.out.below b13); replace hr13 := Lib.hid hr13)
    go_wp2_with (first
      | (go_at_call 49; (with_reducible refine (CK2.out _ _ _ _ he3.out).mono ?_); rintro e w14 ⟨rfl, b14⟩; have B14 := below_next B13 b14; obtain ⟨u0, u1, u2⟩ := c3S ((b14.block _ (heap_ltS hr13.out)).trans hr13.out); have he4 := Lib.hid (he3.out.below b14))
      | (go_at_call 24; (with_reducible refine (refsN_any _ _ _ l2 _ z2 he4.out).mono ?_); rintro e w15 ⟨a15, n15, c15, rfl, h15, _, b15⟩; have B15 := below_next B14 b15)
      | (go_at_call 52; (with_reducible refine (CC2.out _ _ _ _ h15).mono ?_); rintro e w16 ⟨rfl, b16⟩; have B16 := below_next B15 b16))
    go_ret
    exact ⟨ret_bool (by simp), below_next bw B16⟩
set_option maxRecDepth 100000 in
set_option maxHeartbeats 4000000 in
theorem sback_tf (a : Option Addr) (n c : Nat) (on : List Sp) (af lim : Int) (s : ByteArray) (w : World) (h : Arg w a n c on) (hl : n ≤ 100) (hbig : (s.size : Int) ≤ 2000) (ht : curB on af lim = true) (x : Int) (hx : x ≠ 0) (hr : readK s = ([], 0, 0, x)) :
    Calls Try.prog 10 #[.agg #[.slice a n c, .int .i64 af, .int .i64 lim], .string s] w (TruePost w) := by
  have hbn : s.size ≤ 2000 := by omega
  have zl : on.length ≤ 100000 := by have := h.1; omega
  obtain ⟨W1, hW1⟩ : ∃ W1, w.alloc (.cells #[.slice a n c, .int .i64 af, .int .i64 lim] 69) = W1 := ⟨_, rfl⟩
  have bw : Below w.heap.size w W1 := by rw [← hW1]; exact (Below.refl _ _).alloc (Nat.le_refl _) _
  have g1 : w.heap.size < W1.heap.size := by rw [← hW1]; simp
  have hr1 : W1.heap[w.heap.size]? = some (.cells #[.slice a n c, .int .i64 af, .int .i64 lim] 69) := by rw [← hW1]; exact heap_alloc_new _ _
  have K3 := Lib.hid (fun W (h : Below W1.heap.size W1 W) => c3S ((h.block _ g1).trans hr1))
  have CR := Lib.hid (fun W => (show Calls Try.prog 50 #[.string s] W (ReadPostK ([], 0, 0, x) W) from hr ▸ sread_any s W (by omega)))
  have CT := Lib.hid (fun W (hb : Below W1.heap.size W1 W) => stext_any on af lim a n c W ((h.below bw).below hb))
  have d1 : (x == 0) = false := by simpa using hx
  have d2 : (x != 0) = true := by simpa using hx
  have CB := Lib.hid (fun W => sread_any (ofK (textK on af lim)) W (textK_len ht))
  have hXn := textK_ne ht
  rw [readK_back ht] at CB
  generalize ofK (textK on af lim) = X at CT CB hXn
  have HR := Lib.hid (fun W (hb : Below W1.heap.size W1 W) => (h.below bw).below hb)
  obtain ⟨q0, q1, q2⟩ := K3.out _ (Below.refl _ _)
  have B1 : Below W1.heap.size W1 W1 := Below.refl _ _
  clear ht hr h hr1 hx
  go_enter Try.func10, Try.ntmps10
  go_wp2_with (first
    | (go_at_call 49; (with_reducible refine (CT.out _ B1).mono ?_); rintro e w4 ⟨rfl, b4⟩; have B4 := below_next B1 b4; obtain ⟨q0, q1, q2⟩ := K3.out _ B4)
    | (go_at_call 50; (with_reducible refine (CB.out _).mono ?_); rintro e w5 ⟨da, dn, dc, rfl, hd, b5⟩; dsimp only at hd; have B5 := below_next B4 b5))
  obtain ⟨WD, hWD⟩ : ∃ WD, w5.alloc (.cells #[.slice da dn dc, .int .i64 af, .int .i64 lim] 69) = WD := ⟨_, rfl⟩
  have b6 : Below w5.heap.size w5 WD := by rw [← hWD]; exact (Below.refl _ _).alloc (Nat.le_refl _) _
  have g6 : w5.heap.size < WD.heap.size := by rw [← hWD]; simp
  have B6 := below_next B5 b6
  have hr6 : WD.heap[w5.heap.size]? = some (.cells #[.slice da dn dc, .int .i64 af, .int .i64 lim] 69) := by rw [← hWD]; exact heap_alloc_new _ _
  have KD := Lib.hid (fun W (hb : Below WD.heap.size WD W) => (show ((W.cell? ⟨w.heap.size, 0, none⟩ = some (.slice a n c) ∧ W.cell? ⟨w.heap.size, 1, none⟩ = some (.int .i64 af) ∧ W.cell? ⟨w.heap.size, 2, none⟩ = some (.int .i64 lim)) ∧ (W.cell? ⟨w5.heap.size, 0, none⟩ = some (.slice da dn dc) ∧ W.cell? ⟨w5.heap.size, 1, none⟩ = some (.int .i64 af) ∧ W.cell? ⟨w5.heap.size, 2, none⟩ = some (.int .i64 lim))) from ⟨K3.out _ (below_next B6 hb), c3S ((hb.block _ g6).trans hr6)⟩))
  have HS := Lib.hid (((Env.mk (L := []) (Below.refl WD.heap.size WD) (by simp)).add (HR.out _ B6)).add (hd.below b6))
  clear q0 q1 q2 hr6
  rw [hWD]
  replace hWD := Lib.hid hWD
  go_cut [38] from 29 to 38 (fun b wx => b = .bool false ∧ Below WD.heap.size WD wx)
  case first =>
    obtain ⟨q0, q1, q2⟩ := (KD.out _ (Below.refl _ _)).1
    (first | go_region_held3 (fun W => (W.cell? ⟨w.heap.size, 0, none⟩ = some (.slice a n c) ∧ W.cell? ⟨w.heap.size, 1, none⟩ = some (.int .i64 af) ∧ W.cell? ⟨w.heap.size, 2, none⟩ = some (.int .i64 lim)) ∧ (W.cell? ⟨w5.heap.size, 0, none⟩ = some (.slice da dn dc) ∧ W.cell? ⟨w5.heap.size, 1, none⟩ = some (.int .i64 af) ∧ W.cell? ⟨w5.heap.size, 2, none⟩ = some (.int .i64 lim))) (exact KD.out _ (HS.out.step (by repeat (first | with_reducible exact Below.refl _ _ | with_reducible refine toDU ?_ | with_reducible refine Below.alloc ?_ (by first | exact Nat.le_refl _ | omega | (simp; omega)) _ | with_reducible refine Below.setCell ?_ (by first | with_reducible exact Nat.le_refl _ | (dsimp only; omega)) _))).low) ((first
      | (go_at_call 39; (with_reducible refine (ref22_any da dn dc on af lim _ ((HS.out.step (by repeat (first | with_reducible exact Below.refl _ _ | with_reducible refine toDU ?_ | with_reducible refine Below.alloc ?_ (by first | exact Nat.le_refl _ | omega | (simp; omega)) _ | with_reducible refine Below.setCell ?_ (by first | with_reducible exact Nat.le_refl _ | (dsimp only; omega)) _))).get (by repeat (first | exact List.mem_cons_self | apply List.mem_cons_of_mem))) zl).mono ?_); rintro e w8 ⟨a8, n8, c8, rfl, h8, _, b8⟩; replace HS := Lib.hid (((HS.out.step (by repeat (first | with_reducible exact Below.refl _ _ | with_reducible refine toDU ?_ | with_reducible refine Below.alloc ?_ (by first | exact Nat.le_refl _ | omega | (simp; omega)) _ | with_reducible refine Below.setCell ?_ (by first | with_reducible exact Nat.le_refl _ | (dsimp only; omega)) _))).step b8).add h8); clear h8 b8)
      | (go_at_call 39; (with_reducible refine (ref22_any a n c on af lim _ ((HS.out.step (by repeat (first | with_reducible exact Below.refl _ _ | with_reducible refine toDU ?_ | with_reducible refine Below.alloc ?_ (by first | exact Nat.le_refl _ | omega | (simp; omega)) _ | with_reducible refine Below.setCell ?_ (by first | with_reducible exact Nat.le_refl _ | (dsimp only; omega)) _))).get (by repeat (first | exact List.mem_cons_self | apply List.mem_cons_of_mem))) zl).mono ?_); rintro e w9 ⟨a9, n9, c9, rfl, h9, _, b9⟩; replace HS := Lib.hid (((HS.out.step (by repeat (first | with_reducible exact Below.refl _ _ | with_reducible refine toDU ?_ | with_reducible refine Below.alloc ?_ (by first | exact Nat.le_refl _ | omega | (simp; omega)) _ | with_reducible refine Below.setCell ?_ (by first | with_reducible exact Nat.le_refl _ | (dsimp only; omega)) _))).step b9).add h9); clear h9 b9)
      | (go_at_call 51; (with_reducible refine (rsame22_any a8 a9 n8 n9 c8 c9 on on af lim af lim _ ((HS.out.step (by repeat (first | with_reducible exact Below.refl _ _ | with_reducible refine toDU ?_ | with_reducible refine Below.alloc ?_ (by first | exact Nat.le_refl _ | omega | (simp; omega)) _ | with_reducible refine Below.setCell ?_ (by first | with_reducible exact Nat.le_refl _ | (dsimp only; omega)) _))).get (by repeat (first | exact List.mem_cons_self | apply List.mem_cons_of_mem))) ((HS.out.step (by repeat (first | with_reducible exact Below.refl _ _ | with_reducible refine toDU ?_ | with_reducible refine Below.alloc ?_ (by first | exact Nat.le_refl _ | omega | (simp; omega)) _ | with_reducible refine Below.setCell ?_ (by first | with_reducible exact Nat.le_refl _ | (dsimp only; omega)) _))).get (by repeat (first | exact List.mem_cons_self | apply List.mem_cons_of_mem))) rfl rfl rfl).mono ?_); rintro e w10 ⟨rfl, b10⟩; replace HS := Lib.hid ((HS.out.step (by repeat (first | with_reducible exact Below.refl _ _ | with_reducible refine toDU ?_ | with_reducible refine Below.alloc ?_ (by first | exact Nat.le_refl _ | omega | (simp; omega)) _ | with_reducible refine Below.setCell ?_ (by first | with_reducible exact Nat.le_refl _ | (dsimp only; omega)) _))).step b10); clear b10))) | fail)
    all_goals
      go_wp2_with fail
      go_meet
      exact ⟨rfl, (HS.out.step (by repeat (first | with_reducible exact Below.refl _ _ | with_reducible refine toDU ?_ | with_reducible refine Below.alloc ?_ (by first | exact Nat.le_refl _ | omega | (simp; omega)) _ | with_reducible refine Below.setCell ?_ (by first | with_reducible exact Nat.le_refl _ | (dsimp only; omega)) _))).low⟩
  case rest =>
    obtain ⟨rfl, bc⟩ := hcut
    have B7 := below_next B6 bc
    go_wp2_with (go_at_call 50; (with_reducible refine (CR.out _).mono ?_); rintro e w11 ⟨ea, en, ec, rfl, he, b11⟩; dsimp only at he; have B11 := below_next B7 b11; obtain ⟨WE, hWE⟩ : ∃ WE, w11.alloc (.cells #[.slice ea en ec, .int .i64 0, .int .i64 0] 69) = WE := ⟨_, rfl⟩; have b12 : Below w11.heap.size w11 WE := (by rw [← hWE]; exact (Below.refl _ _).alloc (Nat.le_refl _) _); have g12 : w11.heap.size < WE.heap.size := (by rw [← hWE]; simp); have hr12 : WE.heap[w11.heap.size]? = some (.cells #[.slice ea en ec, .int .i64 0, .int .i64 0] 69) := (by rw [← hWE]; exact heap_alloc_new _ _); have B12 := below_next B11 b12; have he2 := Lib.hid (he.below b12); replace hWE := Lib.hid hWE)
    rw [hWE.out]
    go_wp2_with (go_at_call 35; (with_reducible refine (awake22_any _).mono ?_); rintro e w13 ⟨rfl, b13⟩; have B13 := below_next B12 b13; have hr13 := (b13.block _ g12).trans hr12; obtain ⟨u0, u1, u2⟩ := c3S hr13; have he3 := Lib.hid (he2.out.below b13); replace hr13 := Lib.hid hr13)
    go_wp2_with (first
      | (go_at_call 39; (with_reducible refine (ref22_any _ _ _ [] 0 0 _ he3.out (by simp)).mono ?_); rintro e w14 ⟨a14, n14, c14, rfl, h14, _, b14⟩; have B14 := below_next B13 b14)
      | (go_at_call 51; (with_reducible refine (rsame22_any _ none _ 0 _ 0 [] [] 0 0 0 0 _ h14 (Arg.nilS _) rfl rfl rfl).mono ?_); rintro e w15 ⟨rfl, b15⟩; have B15 := below_next B14 b15))
    go_ret
    exact ⟨ret_bool (by simp), below_next bw B15⟩
set_option maxRecDepth 100000 in
set_option maxHeartbeats 4000000 in
theorem sback_ft (a : Option Addr) (n c : Nat) (on : List Sp) (af lim : Int) (s : ByteArray) (w : World) (h : Arg w a n c on) (hl : n ≤ 100) (hbig : (s.size : Int) ≤ 2000) (ht : curB on af lim = false) (l2 : List Sp) (af2 lim2 : Int) (hr : readK s = (l2, af2, lim2, 0)) (hc2 : curB l2 af2 lim2 = true) (ht2 : ofK (textK l2 af2 lim2) = s) :
    Calls Try.prog 10 #[.agg #[.slice a n c, .int .i64 af, .int .i64 lim], .string s] w (TruePost w) := by
  have hbn : s.size ≤ 2000 := by omega
  have zl : on.length ≤ 100000 := by have := h.1; omega
  obtain ⟨W1, hW1⟩ : ∃ W1, w.alloc (.cells #[.slice a n c, .int .i64 af, .int .i64 lim] 69) = W1 := ⟨_, rfl⟩
  have bw : Below w.heap.size w W1 := by rw [← hW1]; exact (Below.refl _ _).alloc (Nat.le_refl _) _
  have g1 : w.heap.size < W1.heap.size := by rw [← hW1]; simp
  have hr1 : W1.heap[w.heap.size]? = some (.cells #[.slice a n c, .int .i64 af, .int .i64 lim] 69) := by rw [← hW1]; exact heap_alloc_new _ _
  have K3 := Lib.hid (fun W (h : Below W1.heap.size W1 W) => c3S ((h.block _ g1).trans hr1))
  have CR := Lib.hid (fun W => (show Calls Try.prog 50 #[.string s] W (ReadPostK (l2, af2, lim2, 0) W) from hr ▸ sread_any s W (by omega)))
  have CT := Lib.hid (fun W (hb : Below W1.heap.size W1 W) => stext_any on af lim a n c W ((h.below bw).below hb))
  have CK2 := Lib.hid (fun a n c W (h : Arg W a n c l2) => (show Calls Try.prog 49 #[.agg #[.slice a n c, .int .i64 af2, .int .i64 lim2]] W (Gives W (.string s)) from ht2 ▸ stext_any l2 af2 lim2 a n c W h))
  have z2 : l2.length ≤ 100000 := by have := (cur_parts hc2).2.1; omega
  have CC2 := Lib.hid (fun a n c W (h : Arg W a n c l2) => (show Calls Try.prog 52 #[.slice a n c] W (Gives W (.bool true)) from (cur_parts hc2).2.2.2.2 ▸ rcheck_any a n c l2 W h))
  rw [show ofK (textK on af lim) = ⟨#[]⟩ by rw [show textK on af lim = [] from if_neg (by rw [ht]; simp)]; rfl] at CT
  have HR := Lib.hid (fun W (hb : Below W1.heap.size W1 W) => (h.below bw).below hb)
  obtain ⟨q0, q1, q2⟩ := K3.out _ (Below.refl _ _)
  have B1 : Below W1.heap.size W1 W1 := Below.refl _ _
  clear ht hr h hr1 ht2 hc2
  go_enter Try.func10, Try.ntmps10
  go_wp2_with (first
    | (go_at_call 49; (with_reducible refine (CT.out _ B1).mono ?_); rintro e w4 ⟨rfl, b4⟩; have B4 := below_next B1 b4; obtain ⟨q0, q1, q2⟩ := K3.out _ B4))
  go_wp2_with (go_at_call 50; (with_reducible refine (CR.out _).mono ?_); rintro e w11 ⟨ea, en, ec, rfl, he, b11⟩; dsimp only at he; have B11 := below_next B4 b11; obtain ⟨WE, hWE⟩ : ∃ WE, w11.alloc (.cells #[.slice ea en ec, .int .i64 af2, .int .i64 lim2] 69) = WE := ⟨_, rfl⟩; have b12 : Below w11.heap.size w11 WE := (by rw [← hWE]; exact (Below.refl _ _).alloc (Nat.le_refl _) _); have g12 : w11.heap.size < WE.heap.size := (by rw [← hWE]; simp); have hr12 : WE.heap[w11.heap.size]? = some (.cells #[.slice ea en ec, .int .i64 af2, .int .i64 lim2] 69) := (by rw [← hWE]; exact heap_alloc_new _ _); have B12 := below_next B11 b12; have he2 := Lib.hid (he.below b12))
  replace hWE := Lib.hid hWE
  go_wp2_with (go_at_call 35; (with_reducible refine (awake22_any _).mono ?_); rintro e w13 ⟨rfl, b13⟩; have B13 := below_next B12 b13; have hr13 := (b13.block _ g12).trans hr12; obtain ⟨u0, u1, u2⟩ := c3S hr13; have he3 := Lib.hid (he2.out.below b13); replace hr13 := Lib.hid hr13)
  go_wp2_with (first
    | (go_at_call 49; (with_reducible refine (CK2.out _ _ _ _ he3.out).mono ?_); rintro e w14 ⟨rfl, b14⟩; have B14 := below_next B13 b14; obtain ⟨u0, u1, u2⟩ := c3S ((b14.block _ (heap_ltS hr13.out)).trans hr13.out); have he4 := Lib.hid (he3.out.below b14))
    | (go_at_call 24; (with_reducible refine (refsN_any _ _ _ l2 _ z2 he4.out).mono ?_); rintro e w15 ⟨a15, n15, c15, rfl, h15, _, b15⟩; have B15 := below_next B14 b15)
    | (go_at_call 52; (with_reducible refine (CC2.out _ _ _ _ h15).mono ?_); rintro e w16 ⟨rfl, b16⟩; have B16 := below_next B15 b16))
  go_ret
  exact ⟨ret_bool (by simp), below_next bw B16⟩
set_option maxRecDepth 100000 in
set_option maxHeartbeats 4000000 in
theorem sback_ff (a : Option Addr) (n c : Nat) (on : List Sp) (af lim : Int) (s : ByteArray) (w : World) (h : Arg w a n c on) (hl : n ≤ 100) (hbig : (s.size : Int) ≤ 2000) (ht : curB on af lim = false) (x : Int) (hx : x ≠ 0) (hr : readK s = ([], 0, 0, x)) :
    Calls Try.prog 10 #[.agg #[.slice a n c, .int .i64 af, .int .i64 lim], .string s] w (TruePost w) := by
  have hbn : s.size ≤ 2000 := by omega
  have zl : on.length ≤ 100000 := by have := h.1; omega
  obtain ⟨W1, hW1⟩ : ∃ W1, w.alloc (.cells #[.slice a n c, .int .i64 af, .int .i64 lim] 69) = W1 := ⟨_, rfl⟩
  have bw : Below w.heap.size w W1 := by rw [← hW1]; exact (Below.refl _ _).alloc (Nat.le_refl _) _
  have g1 : w.heap.size < W1.heap.size := by rw [← hW1]; simp
  have hr1 : W1.heap[w.heap.size]? = some (.cells #[.slice a n c, .int .i64 af, .int .i64 lim] 69) := by rw [← hW1]; exact heap_alloc_new _ _
  have K3 := Lib.hid (fun W (h : Below W1.heap.size W1 W) => c3S ((h.block _ g1).trans hr1))
  have CR := Lib.hid (fun W => (show Calls Try.prog 50 #[.string s] W (ReadPostK ([], 0, 0, x) W) from hr ▸ sread_any s W (by omega)))
  have CT := Lib.hid (fun W (hb : Below W1.heap.size W1 W) => stext_any on af lim a n c W ((h.below bw).below hb))
  have d1 : (x == 0) = false := by simpa using hx
  have d2 : (x != 0) = true := by simpa using hx
  rw [show ofK (textK on af lim) = ⟨#[]⟩ by rw [show textK on af lim = [] from if_neg (by rw [ht]; simp)]; rfl] at CT
  have HR := Lib.hid (fun W (hb : Below W1.heap.size W1 W) => (h.below bw).below hb)
  obtain ⟨q0, q1, q2⟩ := K3.out _ (Below.refl _ _)
  have B1 : Below W1.heap.size W1 W1 := Below.refl _ _
  clear ht hr h hr1 hx
  go_enter Try.func10, Try.ntmps10
  go_wp2_with (first
    | (go_at_call 49; (with_reducible refine (CT.out _ B1).mono ?_); rintro e w4 ⟨rfl, b4⟩; have B4 := below_next B1 b4; obtain ⟨q0, q1, q2⟩ := K3.out _ B4))
  go_wp2_with (go_at_call 50; (with_reducible refine (CR.out _).mono ?_); rintro e w11 ⟨ea, en, ec, rfl, he, b11⟩; dsimp only at he; have B11 := below_next B4 b11; obtain ⟨WE, hWE⟩ : ∃ WE, w11.alloc (.cells #[.slice ea en ec, .int .i64 0, .int .i64 0] 69) = WE := ⟨_, rfl⟩; have b12 : Below w11.heap.size w11 WE := (by rw [← hWE]; exact (Below.refl _ _).alloc (Nat.le_refl _) _); have g12 : w11.heap.size < WE.heap.size := (by rw [← hWE]; simp); have hr12 : WE.heap[w11.heap.size]? = some (.cells #[.slice ea en ec, .int .i64 0, .int .i64 0] 69) := (by rw [← hWE]; exact heap_alloc_new _ _); have B12 := below_next B11 b12; have he2 := Lib.hid (he.below b12); replace hWE := Lib.hid hWE)
  rw [hWE.out]
  go_wp2_with (go_at_call 35; (with_reducible refine (awake22_any _).mono ?_); rintro e w13 ⟨rfl, b13⟩; have B13 := below_next B12 b13; have hr13 := (b13.block _ g12).trans hr12; obtain ⟨u0, u1, u2⟩ := c3S hr13; have he3 := Lib.hid (he2.out.below b13); replace hr13 := Lib.hid hr13)
  go_wp2_with (first
    | (go_at_call 39; (with_reducible refine (ref22_any _ _ _ [] 0 0 _ he3.out (by simp)).mono ?_); rintro e w14 ⟨a14, n14, c14, rfl, h14, _, b14⟩; have B14 := below_next B13 b14)
    | (go_at_call 51; (with_reducible refine (rsame22_any _ none _ 0 _ 0 [] [] 0 0 0 0 _ h14 (Arg.nilS _) rfl rfl rfl).mono ?_); rintro e w15 ⟨rfl, b15⟩; have B15 := below_next B14 b15))
  go_ret
  exact ⟨ret_bool (by simp), below_next bw B15⟩
set_option maxRecDepth 100000 in
set_option maxHeartbeats 2000000 in
theorem scanBack_walk (a : Option Addr) (n c : Nat) (on : List Sp) (af lim : Int) (s : ByteArray) (w : World) (h : Arg w a n c on) (hs : s.size ≤ maxLen) :
    Calls Try.prog 10 #[.agg #[.slice a n c, .int .i64 af, .int .i64 lim], .string s] w (TruePost w) := by
  have hsz : (s.size : Int) ≤ 9223372036854775807 := by unfold maxLen at hs; omega
  have hz : (n : Int) ≤ 9223372036854775807 := by have := h.1; have := h.2.1; omega
  clear hs
  by_cases hl : n ≤ 100
  · by_cases hbig : (s.size : Int) ≤ 2000
    · obtain ⟨l2, af2, lim2, x, hr⟩ : ∃ l2 af2 lim2 x, readK s = (l2, af2, lim2, x) := ⟨_, _, _, _, rfl⟩
      have he := readK_err s
      have ho := readK_once (s := s)
      rw [hr] at he ho
      dsimp only at he ho
      cases ht : curB on af lim with
      | true =>
        rcases he with rfl | ⟨hx, rfl, rfl, rfl⟩
        · exact sback_tt a n c on af lim s w h hl hbig ht l2 af2 lim2 hr (ho rfl).1 (ho rfl).2
        · exact sback_tf a n c on af lim s w h hl hbig ht x hx hr
      | false =>
        rcases he with rfl | ⟨hx, rfl, rfl, rfl⟩
        · exact sback_ft a n c on af lim s w h hl hbig ht l2 af2 lim2 hr (ho rfl).1 (ho rfl).2
        · exact sback_ff a n c on af lim s w h hl hbig ht x hx hr
    · have hlz : (n : Int) ≤ 100 := by omega
      have hbz : ¬ s.size ≤ 2000 := by omega
      obtain ⟨W1, hW1⟩ : ∃ W1, w.alloc (.cells #[.slice a n c, .int .i64 af, .int .i64 lim] 69) = W1 := ⟨_, rfl⟩
      have bw : Below w.heap.size w W1 := by rw [← hW1]; exact (Below.refl _ _).alloc (Nat.le_refl _) _
      obtain ⟨q0, q1, q2⟩ := c3S (show W1.heap[w.heap.size]? = some (.cells #[.slice a n c, .int .i64 af, .int .i64 lim] 69) by rw [← hW1]; exact heap_alloc_new _ _)
      clear h
      go_enter Try.func10, Try.ntmps10
      go_wp2_with (go_at_call 35; (with_reducible refine (awake22_any _).mono ?_); rintro e w3 ⟨rfl, b3⟩)
      go_ret
      exact ⟨rfl, below_next bw b3⟩
  · have hlz : ¬ (n : Int) ≤ 100 := by omega
    obtain ⟨W1, hW1⟩ : ∃ W1, w.alloc (.cells #[.slice a n c, .int .i64 af, .int .i64 lim] 69) = W1 := ⟨_, rfl⟩
    have bw : Below w.heap.size w W1 := by rw [← hW1]; exact (Below.refl _ _).alloc (Nat.le_refl _) _
    obtain ⟨q0, q1, q2⟩ := c3S (show W1.heap[w.heap.size]? = some (.cells #[.slice a n c, .int .i64 af, .int .i64 lim] 69) by rw [← hW1]; exact heap_alloc_new _ _)
    clear h
    go_enter Try.func10, Try.ntmps10
    go_wp2_with (go_at_call 35; (with_reducible refine (awake22_any _).mono ?_); rintro e w3 ⟨rfl, b3⟩)
    go_ret
    exact ⟨rfl, below_next bw b3⟩
end Go.Proofs.Ytcpcdinfagdlhaa
