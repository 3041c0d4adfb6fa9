/-
  CONTRACTS of Touch and Alone.
-/
import Derived.Test.YtfnjadiibiedgaaMutC
namespace Go.Proofs.Ytfnjadiibiedgaa
open Go.RowKit Go.Shelf

theorem chkM_and {c s k : Int} {l : List Sp} {lo hi old : Int} (h : chkM c s k l lo hi old = true) : btw 1 c 1048576 = true ∧ btw 1 s 1073741824 = true ∧ bareB k lo hi old = true ∧ fitsB k l lo hi old = true := by
  unfold chkM at h
  rw [Bool.and_eq_true, Bool.and_eq_true, Bool.and_eq_true] at h
  exact ⟨h.1.1.1, h.1.1.2, h.1.2, h.2⟩
theorem fits_kind {k : Int} {l : List Sp} {lo hi old : Int} (h : fitsB k l lo hi old = true) : (k = 2 ∧ l = [] ∧ oneB (lo, hi) = true) ∨ ((k = 1 ∨ k = 3 ∨ k = 4 ∨ k = 5) ∧ okPs l = true ∧ 1 ≤ l.length ∧ l.length ≤ 8) := by
  unfold fitsB at h
  split at h
  · rename_i e
    rw [Bool.and_eq_true, Bool.and_eq_true] at h
    have := of_decide_eq_true h.1.1
    exact .inr ⟨.inl e, h.1.2, by omega, by omega⟩
  · split at h
    · rename_i e
      rw [Bool.and_eq_true] at h
      exact .inl ⟨e, List.eq_nil_of_length_eq_zero (by simpa using h.1), h.2⟩
    · split at h
      · rename_i e
        rw [Bool.and_eq_true] at h
        have h1 : l.length = 1 := by simpa using h.1
        exact .inr ⟨.inr (.inl e), h.2, by omega, by omega⟩
      · split at h
        · rename_i e
          rw [Bool.and_eq_true, Bool.and_eq_true] at h
          have h1 : l.length = 1 := by simpa using h.1.1
          exact .inr ⟨.inr (.inr (.inl e)), h.1.2, by omega, by omega⟩
        · split at h
          · rename_i e
            rw [Bool.and_eq_true, Bool.and_eq_true] at h
            have h1 : l.length = 2 := by simpa using h.1.1
            exact .inr ⟨.inr (.inr (.inr e)), h.1.2, by omega, by omega⟩
          · cases h
theorem okP_bd {p : Sp} (h : okP p = true) : (0 ≤ p.1 ∧ p.1 ≤ 4095) ∧ (-1099511627776 ≤ p.2 ∧ p.2 ≤ 1099511627776) := by
  unfold okP isVal btw at h
  rw [Bool.and_eq_true, decide_eq_true_eq, decide_eq_true_eq] at h
  exact h
theorem okPs_get {l : List Sp} (h : okPs l = true) {k : Nat} (hk : k < l.length) : okP (l.getD k (0, 0)) = true := List.all_eq_true.1 h _ (List.mem_iff_getElem?.2 ⟨k, getD_of hk⟩)

def sing (p : Sp) : Sp := (p.1, p.1 + 1)
def touchL (c s k : Int) (l : List Sp) (lo hi old : Int) : List Sp := if chkM c s k l lo hi old = true then (if k = 2 then [(lo, hi)] else setOf (hasB (l.map sing))) else []
def part (l : List Sp) (k n : Nat) : List Sp := (List.range n).map fun j => if j < k then sing (l.getD j (0, 0)) else (0, 0)
theorem part_len (l : List Sp) (k n : Nat) : (part l k n).length = n := by simp [part]
theorem part_get (l : List Sp) (k n j : Nat) (h : j < n) : (part l k n)[j]? = some (if j < k then sing (l.getD j (0, 0)) else (0, 0)) := by simp [part, h]
theorem part_zero (l : List Sp) (n : Nat) : part l 0 n = List.replicate n (0, 0) := by
  refine List.ext_getElem? fun j => ?_
  by_cases h : j < n
  · rw [part_get _ _ _ _ h, if_neg (by omega)]; simp [h]
  · rw [List.getElem?_eq_none (by rw [part_len]; omega), List.getElem?_eq_none (by simp; omega)]
theorem part_full (l : List Sp) : part l l.length l.length = l.map sing := by
  refine List.ext_getElem? fun j => ?_
  by_cases h : j < l.length
  · rw [part_get _ _ _ _ h, if_pos h]; simp [h]
  · rw [List.getElem?_eq_none (by rw [part_len]; omega), List.getElem?_eq_none (by simp; omega)]
theorem part_set (l : List Sp) (k n : Nat) (hk : k < n) : (part l k n).set k (sing (l.getD k (0, 0))) = part l (k + 1) n := by
  refine List.ext_getElem? fun j => ?_
  rw [List.getElem?_set]
  by_cases h : j < n
  · rw [part_get _ _ _ _ h, part_get _ _ _ _ h]
    by_cases e : k = j
    · subst e
      rw [if_pos rfl, if_pos (by rw [part_len]; exact hk), if_pos (by omega)]
    · rw [if_neg e]
      by_cases h2 : j < k
      · rw [if_pos h2, if_pos (by omega)]
      · rw [if_neg h2, if_neg (by omega)]
  · rw [if_neg (by omega), List.getElem?_eq_none (by rw [part_len]; omega), List.getElem?_eq_none (by rw [part_len]; omega)]
theorem flatP_set2 (L : List Sp) (k : Nat) (x y : Int) (hk : k < L.length) : ((flatP L).set (k * 2) (.int .i64 x)).set (k * 2 + 1) (.int .i64 y) = flatP (L.set k (x, y)) := by
  induction L generalizing k with
  | nil => exact absurd hk (Nat.not_lt_zero _)
  | cons s t ih =>
    rw [show flatP (s :: t) = (.int .i64 s.1) :: (.int .i64 s.2) :: flatP t from rfl]
    cases k with
    | zero => rfl
    | succ k =>
      have := ih k (by simpa using hk)
      rw [show (k + 1) * 2 = k * 2 + 1 + 1 from by omega, show k * 2 + 1 + 1 + 1 = (k * 2 + 1) + 1 + 1 from rfl]
      simp only [List.set_cons_succ]
      rw [this]; rfl
theorem made_two (z : Value) (m : Nat) : (madeCells #[z, z] m).toList = List.replicate m z := by
  apply List.ext_getElem?
  intro j
  by_cases hj : j < m
  · simp [madeCells, hj]
    rcases Nat.mod_two_eq_zero_or_one j with h | h <;> simp [h]
  · simp [madeCells, hj]
theorem flatP_zeros (n : Nat) : flatP (List.replicate n (0, 0)) = List.replicate (n * 2) (.int .i64 0) := by
  induction n with
  | zero => rfl
  | succ n ih =>
    rw [List.replicate_succ, show flatP (((0, 0) : Sp) :: List.replicate n (0, 0)) = (.int .i64 0) :: (.int .i64 0) :: flatP (List.replicate n (0, 0)) from rfl, ih, show (n + 1) * 2 = n * 2 + 1 + 1 from by omega]
    rfl
theorem sing_all {l : List Sp} (h : okPs l = true) : (l.map sing).all oneB = true := by
  rw [List.all_eq_true]
  intro s hs
  obtain ⟨p, hp, rfl⟩ := List.mem_map.1 hs
  have := (okP_bd (List.all_eq_true.1 h p hp)).1
  exact (oneB_iff _).2 (by show 0 ≤ p.1 ∧ p.1 < p.1 + 1 ∧ p.1 + 1 ≤ 4096; omega)
theorem merge_len (l : List Sp) (h : l.all oneB = true) : (setOf (hasB l)).length ≤ l.length := by
  have hp : (l.mergeSort fun x y => decide (x.1 ≤ y.1)).Perm l := List.mergeSort_perm _ _
  have hs : (l.mergeSort fun x y => decide (x.1 ≤ y.1)).Pairwise (fun x y => x.1 ≤ y.1) := by
    have := List.pairwise_mergeSort (le := fun x y : Sp => decide (x.1 ≤ y.1)) (fun a b c h1 h2 => by simp at *; omega) (fun a b => by simp; omega) l
    exact this.imp fun h => by simpa using h
  rw [← made (by simpa using h) hp hs]
  have := fold_len (l.mergeSort fun x y => decide (x.1 ≤ y.1)) []
  simp at this
  exact this
theorem make_sing {l : List Sp} (h : okPs l = true) (hl : l.length ≤ 8) : makeP (l.map sing) = (setOf (hasB (l.map sing)), 0) := by
  rw [show makeP (l.map sing) = limP (setOf (hasB (l.map sing))) from if_pos (sing_all h)]
  refine if_pos ?_
  have := merge_len (l.map sing) (sing_all h)
  simp at this
  omega

set_option maxRecDepth 100000 in
set_option maxHeartbeats 2000000 in
theorem touch_pairs (c s k : Int) (a : Option Addr) (n cp : Nat) (l : List Sp) (lo hi old : Int) (w : World) (hA : Arg w a n cp l) (hc : chkM c s k l lo hi old = true) (hk : k ≠ 2) :
    Calls Try.prog 16 #[.agg #[.int .i64 c, .int .i64 s, .int .i64 k, .slice a n cp, .int .i64 lo, .int .i64 hi, .int .i64 old]] w (ListArg w (setOf (hasB (l.map sing)))) := by
  obtain ⟨i0, hi0, hz0, hz1, hz2⟩ := info_parts Try.infoSpan
  have hb0 : Below w.heap.size w (w.alloc (.cells #[.int .i64 c, .int .i64 s, .int .i64 k, .slice a n cp, .int .i64 lo, .int .i64 hi, .int .i64 old] 26)) := (Below.refl _ _).alloc (Nat.le_refl _) _
  have hv : okPs l = true ∧ 1 ≤ l.length ∧ l.length ≤ 8 := by
    rcases fits_kind (chkM_and hc).2.2.2 with h | h
    · exact absurd h.1 hk
    · exact h.2
  have hn := hA.1
  have hn8 : n ≤ 8 := by omega
  have HV := Lib.hid hv.1
  have HM := Lib.hid (make_sing hv.1 hv.2.2)
  have HA := Lib.hid hA
  have h1 := Lib.hid hc
  have hk2 : (k == 2) = false := by simpa using hk
  replace hn := Lib.hid hn
  clear hv hA hc hk
  go_enter Try.func16, Try.ntmps16
  go_wp2_with (first | (go_at_call 32; (with_reducible refine (mcheck_any c s k a n cp l lo hi old _ (HA.out.below hb0)).mono ?_); rw [h1.out]; rintro e w2 ⟨rfl, b2⟩; obtain ⟨g0, g1, g2, g3, g4, g5, g6⟩ := box7 b2; have b02 := below_next hb0 b2) | (at_make; refine wpList_make_full _ rfl (.tmp 19) (.tmp 19) 29 rfl w.heap.size 24 i0 (.agg #[.int .i64 0, .int .i64 0]) 2 Try.underlying29 hi0 hz0 hz1 .i64 .i64 n n n rfl rfl rfl rfl (by rw [hz2]; omega) (by unfold maxLen; omega) b02.size ?_))
  intro w3 hrow hg3
  have b03 : Below w.heap.size w w3 := b02.grown hg3 b02.size (fun _ h => by cases h)
  have G : w2.heap.size < w3.heap.size := (hrow.lt w2.heap.size rfl).2
  have hr : w3.ownsRow w.heap.size 24 2 (.slice (some ⟨w2.heap.size, 0, none⟩) n n) n (flatP (part l 0 n)) := by
    rw [part_zero, flatP_zeros, ← made_two]; exact hrow
  have HR := Lib.hid hr
  have c3 : w3.cell? ⟨w.heap.size, 3, none⟩ = some (.slice a n cp) := by
    have := World.cell?_of_block (hg3.block w.heap.size (World.block_lt_of_cell? _ _ g3) (fun h => by cases h)) (a := ⟨w.heap.size, 3, none⟩)
    exact this.trans g3
  have hbase : w.heap.size ≤ w2.heap.size := b02.size
  generalize w2.heap.size = g at *
  clear hrow hr hg3
  go_wp2_with fail
  go_loopw [4, 5, 24] (fun _ _ i wr => ∃ (j : Nat), i = .int .i64 (j : Int) ∧ j ≤ n ∧ Hid (wr.ownsRow w.heap.size 24 2 (.slice (some ⟨g, 0, none⟩) n n) n (flatP (part l j n))) ∧ Below w.heap.size w wr)
    (fun _ _ i _ => n - (intOf i).toNat)
  case atStart => exact ⟨0, rfl, by omega, HR, b03⟩
  case round =>
    obtain ⟨j, rfl, hj, HO, hbl⟩ := hrel
    have hsz := hbl.size
    by_cases hlt : j < n
    · have hjl : j < l.length := by rw [← hn.out]; exact hlt
      obtain ⟨b, off, e, hb, d0, d1⟩ := (HA.out.2.2.2.2.below hbl) j hjl
      subst e
      obtain ⟨p, hp⟩ : ∃ s, l.getD j (0, 0) = s := ⟨_, rfl⟩
      rw [hp] at d0 d1
      have hbd := (okP_bd (okPs_get HV.out hjl)).1
      rw [hp] at hbd
      have hset := part_set l j n hlt
      rw [hp] at hset
      replace hp := Lib.hid hp
      obtain ⟨x, y⟩ := p
      dsimp only at d0 d1 hbd
      obtain ⟨x0, x1⟩ := hbd
      have R1 := World.ownsRow.alloc HO.out (.cells #[.int .i64 x, .int .i64 y] 90)
      have k0 : ∃ v, (wr.alloc (.cells #[.int .i64 x, .int .i64 y] 90)).cell? ⟨g, j * 2, none⟩ = some v := ⟨_, (World.ownsRow.cellAt R1 (j * 2) (by omega)).trans (flatP_get (part l j n) j (by rw [part_len]; exact hlt)).1⟩
      have k1 : ∃ v, (wr.alloc (.cells #[.int .i64 x, .int .i64 y] 90)).cell? ⟨g, j * 2 + 1, none⟩ = some v := ⟨_, (World.ownsRow.cellAt R1 (j * 2 + 1) (by omega)).trans (flatP_get (part l j n) j (by rw [part_len]; exact hlt)).2⟩
      obtain ⟨v0, k0⟩ := k0
      obtain ⟨v1, k1⟩ := k1
      have f0 := World.ownsRow.frozenAt R1 (j * 2)
      have f1 := World.ownsRow.frozenAt R1 (j * 2 + 1)
      have R2 := (World.ownsRow.stored (World.ownsRow.stored R1 (j * 2) (.int .i64 x)).1 (j * 2 + 1) (.int .i64 (x + 1))).1
      rw [flatP_set2 _ _ _ _ (by rw [part_len]; exact hlt), show (x, x + 1) = sing (x, y) from rfl, hset] at R2
      replace R2 := Lib.hid R2
      replace R1 := Lib.hid R1
      replace hset := Lib.hid hset
      have bW := ((hbl.alloc hsz (.cells #[.int .i64 x, .int .i64 y] 90)).setCell (p := ⟨g, j * 2, none⟩) hbase (.int .i64 x)).setCell (p := ⟨g, j * 2 + 1, none⟩) hbase (.int .i64 (x + 1))
      go_wp2
      go_roundw
      case rel => exact ⟨j + 1, by go_num, by omega, R2, bW⟩
      case measure => simp [intOf]; omega
    · have hj' : j = n := by omega
      have hfin := HO.out
      rw [hj'] at hfin
      have e0 : part l n n = l.map sing := by rw [hn.out]; exact part_full l
      rw [e0] at hfin
      have hlen : n = (l.map sing).length := by rw [List.length_map]; exact hn.out
      have AR := Lib.hid (Arg.of_own (ownsP_of_row hfin hlen) hlen)
      have hz : (l.map sing).length ≤ 100000 := by omega
      replace hlen := Lib.hid hlen
      replace e0 := Lib.hid e0
      rw [hj']
      replace hj' := Lib.hid hj'
      clear hfin HO
      go_wp2_with (go_at_call 54; (with_reducible refine (make_any _ _ _ _ _ hz AR.out).mono ?_); rw [HM.out]; rintro e w6 ⟨a6, n6, c6, rfl, h6, b6⟩; dsimp only at h6; replace h6 := Lib.hid h6)
      go_ret
      exact ⟨_, _, _, rfl, h6.out, below_next hbl b6⟩

set_option maxRecDepth 100000 in
set_option maxHeartbeats 2000000 in
theorem touch_del (c s : Int) (a : Option Addr) (n cp : Nat) (l : List Sp) (lo hi old : Int) (w : World) (hA : Arg w a n cp l) (hc : chkM c s 2 l lo hi old = true) :
    Calls Try.prog 16 #[.agg #[.int .i64 c, .int .i64 s, .int .i64 2, .slice a n cp, .int .i64 lo, .int .i64 hi, .int .i64 old]] w (ListArg w [(lo, hi)]) := by
  have hb0 : Below w.heap.size w (w.alloc (.cells #[.int .i64 c, .int .i64 s, .int .i64 2, .slice a n cp, .int .i64 lo, .int .i64 hi, .int .i64 old] 26)) := (Below.refl _ _).alloc (Nat.le_refl _) _
  have HA := Lib.hid hA
  have h1 := Lib.hid hc
  clear hA hc
  go_enter Try.func16, Try.ntmps16
  go_wp2_with (first | (go_at_call 32; (with_reducible refine (mcheck_any c s 2 a n cp l lo hi old _ (HA.out.below hb0)).mono ?_); rw [h1.out]; rintro e w2 ⟨rfl, b2⟩; obtain ⟨g0, g1, g2, g3, g4, g5, g6⟩ := box7 b2; have b02 := below_next hb0 b2))
  go_ret
  exact ⟨_, _, _, rfl, arg_new w2 24 [(lo, hi)] #[.int .i64 lo, .int .i64 hi] rfl (by simp), below_alloc b02 _⟩
set_option maxRecDepth 100000 in
theorem mtouch_bad (c s k : Int) (a : Option Addr) (n cp : Nat) (l : List Sp) (lo hi old : Int) (w : World) (hA : Arg w a n cp l) (hc : chkM c s k l lo hi old = false) :
    Calls Try.prog 16 #[.agg #[.int .i64 c, .int .i64 s, .int .i64 k, .slice a n cp, .int .i64 lo, .int .i64 hi, .int .i64 old]] w (ListArg w []) := by
  have hb0 : Below w.heap.size w (w.alloc (.cells #[.int .i64 c, .int .i64 s, .int .i64 k, .slice a n cp, .int .i64 lo, .int .i64 hi, .int .i64 old] 26)) := (Below.refl _ _).alloc (Nat.le_refl _) _
  have HA := Lib.hid hA
  have h1 := Lib.hid hc
  clear hA hc
  go_enter Try.func16, Try.ntmps16
  go_wp2_with (first | (go_at_call 32; (with_reducible refine (mcheck_any c s k a n cp l lo hi old _ (HA.out.below hb0)).mono ?_); rw [h1.out]; rintro e w2 ⟨rfl, b2⟩; obtain ⟨g0, g1, g2, g3, g4, g5, g6⟩ := box7 b2; have b02 := below_next hb0 b2))
  go_ret
  exact ⟨_, _, _, rfl, ⟨rfl, by simp, Nat.le_refl _, Nat.zero_le _, PIn.nil _ _ _⟩, b02⟩
theorem mtouch_any (c s k : Int) (a : Option Addr) (n cp : Nat) (l : List Sp) (lo hi old : Int) (w : World) (hA : Arg w a n cp l) :
    Calls Try.prog 16 #[.agg #[.int .i64 c, .int .i64 s, .int .i64 k, .slice a n cp, .int .i64 lo, .int .i64 hi, .int .i64 old]] w (ListArg w (touchL c s k l lo hi old)) := by
  cases hc : chkM c s k l lo hi old
  · rw [show touchL c s k l lo hi old = [] from if_neg (by rw [hc]; simp)]
    exact mtouch_bad c s k a n cp l lo hi old w hA hc
  · by_cases hk : k = 2
    · subst hk
      rw [show touchL c s 2 l lo hi old = [(lo, hi)] from (if_pos hc).trans (if_pos rfl)]
      exact touch_del c s a n cp l lo hi old w hA hc
    · rw [show touchL c s k l lo hi old = setOf (hasB (l.map sing)) from (if_pos hc).trans (if_neg hk)]
      exact touch_pairs c s k a n cp l lo hi old w hA hc hk

def aloneB (c s k : Int) (l : List Sp) (lo hi old : Int) : Bool := (k == 3 || k == 4) && chkM c s k l lo hi old
set_option maxRecDepth 100000 in
set_option maxHeartbeats 1000000 in
theorem malone_any (c s k : Int) (a : Option Addr) (n cp : Nat) (l : List Sp) (lo hi old : Int) (w : World) (hA : Arg w a n cp l) :
    Calls Try.prog 22 #[.agg #[.int .i64 c, .int .i64 s, .int .i64 k, .slice a n cp, .int .i64 lo, .int .i64 hi, .int .i64 old]] w (Gives w (.bool (aloneB c s k l lo hi old))) := by
  obtain ⟨r, h1⟩ : ∃ r, chkM c s k l lo hi old = r := ⟨_, rfl⟩
  have hF := Lib.hid (show aloneB c s k l lo hi old = ((k == 3 || k == 4) && r) by rw [← h1]; rfl)
  have HA := Lib.hid hA
  replace h1 := Lib.hid h1
  clear hA
  by_cases k3 : k = 3
  · subst k3
    have hb0 : Below w.heap.size w (w.alloc (.cells #[.int .i64 c, .int .i64 s, .int .i64 3, .slice a n cp, .int .i64 lo, .int .i64 hi, .int .i64 old] 26)) := (Below.refl _ _).alloc (Nat.le_refl _) _
    go_enter Try.func22, Try.ntmps22
    go_wp2_with (first | (go_at_call 32; (with_reducible refine (mcheck_any c s 3 a n cp l lo hi old _ (HA.out.below hb0)).mono ?_); rw [h1.out]; rintro e w2 ⟨rfl, b2⟩; obtain ⟨g0, g1, g2, g3, g4, g5, g6⟩ := box7 b2; have b02 := below_next hb0 b2))
    go_ret
    exact ⟨ret_bool (by rw [hF.out]; simp), b02⟩
  · have k3' : (k == 3) = false := by simpa using k3
    replace k3 := Lib.hid k3
    by_cases k4 : k = 4
    · subst k4
      have hb0 : Below w.heap.size w (w.alloc (.cells #[.int .i64 c, .int .i64 s, .int .i64 4, .slice a n cp, .int .i64 lo, .int .i64 hi, .int .i64 old] 26)) := (Below.refl _ _).alloc (Nat.le_refl _) _
      go_enter Try.func22, Try.ntmps22
      go_wp2_with (first | (go_at_call 32; (with_reducible refine (mcheck_any c s 4 a n cp l lo hi old _ (HA.out.below hb0)).mono ?_); rw [h1.out]; rintro e w2 ⟨rfl, b2⟩; obtain ⟨g0, g1, g2, g3, g4, g5, g6⟩ := box7 b2; have b02 := below_next hb0 b2))
      go_ret
      exact ⟨ret_bool (by rw [hF.out]; simp), b02⟩
    · have k4' : (k == 4) = false := by simpa using k4
      replace k4 := Lib.hid k4
      go_enter Try.func22, Try.ntmps22
      go_wp2
      go_ret
      exact ⟨ret_bool (by rw [hF.out, k3', k4']; rfl), (Below.refl _ _).alloc (Nat.le_refl _) _⟩
end Go.Proofs.Ytfnjadiibiedgaa
