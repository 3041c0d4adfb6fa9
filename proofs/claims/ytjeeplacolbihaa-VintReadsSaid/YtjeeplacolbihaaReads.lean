/-
  THE WALK of the law VintReads: it returns true, and writes nothing that was there.
-/
import Derived.Test.YtjeeplacolbihaaRefLs
import Derived.Test.YtjeeplacolbihaaPairs
import Derived.Test.YtjeeplacolbihaaSame
import Derived.Deep.RegionHeld3
import Derived.Deep.DrawnRows
namespace Go.Proofs.Ytjeeplacolbihaa
open Go.RowKit
attribute [local go_sem ↓] Go.wp_at_zero Go.wp_at_succ

theorem rInts_both : ∀ (n : Nat) (acc : List Int) (s : ByteArray) (e : Int), (rInts n acc s e).1.length ≤ acc.length + s.size ∧ (rInts n acc s e).2.1.size ≤ s.size := by
  intro n
  induction n with
  | zero => intro acc s e; exact ⟨Nat.le_add_right _ _, Nat.le_refl _⟩
  | succ n ih =>
    intro acc s e
    by_cases h : (rWhole s e).2.2 = 0
    · rw [rInts_go h]
      obtain ⟨i1, i2⟩ := ih (acc ++ [(rWhole s e).1]) (rWhole s e).2.1 (rWhole s e).2.2
      have hl := rWhole_less h
      rw [List.length_append, List.length_singleton] at i1
      exact ⟨by omega, by omega⟩
    · rw [rInts_stop h]
      exact ⟨Nat.zero_le _, rWhole_size s e⟩
theorem rList_both (s : ByteArray) (e m : Int) : (rList s e m).1.length ≤ s.size ∧ (rList s e m).2.1.size ≤ s.size := by
  have h1 := rInts_both (rLen s e m).1.toNat [] (rLen s e m).2.1 (rLen s e m).2.2
  have h2 := rLen_size s e m
  rw [List.length_nil] at h1
  exact ⟨by unfold rList; omega, by unfold rList; omega⟩
theorem run_least2 (P : Program) (w : World) (ts : Array TypeId) (t : TypeId) (k k1 : IntKind) (x y : Int) : (Builtin.min_ ts t #[.int k x, .int k1 y]).run P w = .ok (.int k (if y < x then y else x)) w := by
  simp [Builtin.min_, Builtin.min2]
theorem rText_rest (s : ByteArray) (e most : Int) : (rText s e most).2.1.size ≤ s.size := by
  have hl := rLen_size s e most
  have h0 : ByteArray.empty.size = 0 := rfl
  unfold rText
  split
  · split
    · simp only [h0]; omega
    · simp only [ba_size (ByteArray.extract _ _ _), ba_drop, List.length_drop, ← ba_size]
      omega
  · exact hl
theorem rFlag_size (s : ByteArray) (e : Int) : (rFlag s e).2.1.size ≤ s.size := by
  unfold rFlag
  split
  · split
    · simp
    · split
      · show (s.extract 1 s.size).size ≤ s.size
        rw [ba_size, ba_drop, List.length_drop, ← ba_size]; omega
      · simp
  · exact Nat.le_refl _
set_option maxRecDepth 100000 in
set_option maxHeartbeats 20000000 in
theorem reads_some (s : ByteArray) (b off cap : Nat) (ps : List (Int × Int)) (w : World) (hs : s.size ≤ 20000) (hl : (ps.length : Int) ≤ 9223372036854775807) (hb : b < w.heap.size)
    (hc : ∀ k, k < ps.length → w.cell? ⟨b, off + k * 2, none⟩ = some (.int .i64 (ps.getD k (0, 0)).1) ∧ w.cell? ⟨b, off + k * 2 + 1, none⟩ = some (.int .i64 (ps.getD k (0, 0)).2)) :
    Calls Try.prog 5 #[.string s, .slice (some ⟨b, off, none⟩) ps.length cap] w fun e w' => e = .returned (.bool true) ∧ Below w.heap.size w w' := by
  have HC := Lib.hid hc
  clear hc
  go_enter Try.func5, Try.ntmps5
  go_wp2_with fail
  refine (from_abs s _).mono ?_
  rintro e w1 ⟨g, rfl, hg, R1, B1⟩
  have hgT := R1.lt
  go_wp2_with fail
  have RT : Rd (w1.alloc (.cells #[.string s, .int .i64 0] 34)) g s 0 := R1.same (heap_alloc_old w1 _ hgT)
  have VT : Rv (w1.alloc (.cells #[.string s, .int .i64 0] 34)) w1.heap.size s 0 := Rv.new _ _ _
  have BT : Below w.heap.size w (w1.alloc (.cells #[.string s, .int .i64 0] 34)) := B1.alloc B1.size _
  have hlow := B1.size
  obtain ⟨T, hT⟩ : ∃ T, w1.heap.size = T := ⟨_, rfl⟩
  rw [hT] at VT hgT hlow ⊢
  clear R1 B1
  go_loopw [7] (fun i wr => ∃ (k : Nat) (t : ByteArray) (e : Int), i = .int .i64 (k : Int) ∧ k ≤ ps.length ∧ t.size ≤ 20000 ∧ Rd wr g t e ∧ Rv wr T t e ∧ Below w.heap.size w wr)
    (fun i _ => ps.length - (intOf i).toNat)
  case atStart => exact ⟨0, s, 0, rfl, by omega, hs, RT, VT, BT⟩
  case round =>
    obtain ⟨k, t, e, rfl, hk, ht, R, V, hbl⟩ := hrel
    clear RT VT BT hT
    by_cases hgo : k < ps.length ∧ k < 60
    · obtain ⟨hlt, h60⟩ := hgo
      have hcK := (hbl.cell (p := ⟨b, off + k * 2, none⟩) (by exact hb)).trans (HC.out k hlt).1
      have hcm := (hbl.cell (p := ⟨b, off + k * 2 + 1, none⟩) (by exact hb)).trans (HC.out k hlt).2
      obtain ⟨K, hK⟩ : ∃ K, (ps.getD k (0, 0)).1 = K := ⟨_, rfl⟩
      obtain ⟨m, hm⟩ : ∃ m, (ps.getD k (0, 0)).2 = m := ⟨_, rfl⟩
      rw [hK] at hcK
      rw [hm] at hcm
      clear hK hm
      have v0 := V.cell0
      have v1 := V.cell1
      have hTlt := V.lt
      have hglt := R.lt
      have hgne : g ≠ T := by omega
      by_cases hK0 : K = 0
      · subst hK0
        obtain ⟨n, t2, e2, hN⟩ : ∃ n t2 e2, rNum t e = (n, t2, e2) := ⟨_, _, _, rfl⟩
        have ht2 : t2.size ≤ 20000 := by have := rNum_size t e; rw [hN] at this; exact Nat.le_trans this ht
        have P1 : Hid (∀ w, Calls Try.prog 27 #[rdV t e] w (RdNumPost (n, t2, e2) w)) := Lib.hid fun w => by have := refNumR_any t e w (by omega); rw [hN] at this; exact this
        have P2 : Hid (∀ w, Rd w g t e → Calls Try.prog 28 #[.pointer (some ⟨g, 0, none⟩)] w (RdPost w g (.int .i64 n) (t2, e2))) := Lib.hid fun w h => by have := rnum_any h (by omega); rw [hN] at this; exact this
        clear hN
        go_wp2_with (first
          | (go_at_call 27; refine (P1.out _).mono ?_; rintro en w5 ⟨rfl, B5⟩; have R5 := R.below B5; have V5 := V.below B5; have C5 := below_next hbl B5; have hR5 := R5.lt; have hV5 := V5.lt)
          | fail)
        have RW : Rd (w5.alloc (.cells #[.string t2, .int .i64 e2] 34)) g t e := R5.same (heap_alloc_old w5 _ hR5)
        have VW : Rv (w5.alloc (.cells #[.string t2, .int .i64 e2] 34)) T t e := V5.same (heap_alloc_old w5 _ hV5)
        have UW : Rv (w5.alloc (.cells #[.string t2, .int .i64 e2] 34)) w5.heap.size t2 e2 := Rv.new _ _ _
        have CW : Below w.heap.size w (w5.alloc (.cells #[.string t2, .int .i64 e2] 34)) := C5.alloc C5.size _
        have hgU : g ≠ w5.heap.size := by omega
        have hTU : T ≠ w5.heap.size := by omega
        have hlowW : w.heap.size ≤ w5.heap.size := C5.size
        obtain ⟨U, hU⟩ : ∃ U, w5.heap.size = U := ⟨_, rfl⟩
        obtain ⟨W, hW⟩ : ∃ W, w5.alloc (.cells #[.string t2, .int .i64 e2] 34) = W := ⟨_, rfl⟩
        rw [hU] at UW hgU hTU hlowW ⊢
        rw [hW] at RW VW UW CW ⊢
        have x0 := UW.cell0
        have x1 := UW.cell1
        clear hW hU B5 R5 V5 C5 hR5 hV5 R V hbl v0 v1 hTlt hglt P1 hcK hcm
        go_region_held3 (fun w' => w'.cell? ⟨U, 0, none⟩ = some (.string t2) ∧ w'.cell? ⟨U, 1, none⟩ = some (.int .i64 e2)) (first | exact ⟨x0, x1⟩ | exact ⟨y0, y1⟩ | go_keep) ((first
          | (go_at_call 28; refine (P2.out _ (show Rd W.drew g t e from RW)).mono ?_; rintro en w6 ⟨rfl, R6, G6⟩; have V6 : Rv w6 T t e := (show Rv W.drew T t e from VW).grown G6 (by simp; omega); have U6 : Rv w6 U t2 e2 := (show Rv W.drew U t2 e2 from UW).grown G6 (by simp; omega); have y0 := U6.cell0; have y1 := U6.cell1; have z0 := V6.cell0; have z1 := V6.cell1; have z2 := V6.free 0; have z3 := V6.free 1; have C6 : Below w.heap.size w w6 := CW.drew.grown G6 CW.size (by simp; omega))
          | fail))
        have RX : Rd ((w6.setCell ⟨T, 0, none⟩ (.string t2)).setCell ⟨T, 1, none⟩ (.int .i64 e2)) g t2 e2 := rd_grown (rd_grown R6 (grown_setCell w6 ⟨T, 0, none⟩ (.string t2)) (by simp; omega)) (grown_setCell _ ⟨T, 1, none⟩ (.int .i64 e2)) (by simp; omega)
        have VX : Rv ((w6.setCell ⟨T, 0, none⟩ (.string t2)).setCell ⟨T, 1, none⟩ (.int .i64 e2)) T t2 e2 := V6.put t2 e2
        have CX : Below w.heap.size w ((w6.setCell ⟨T, 0, none⟩ (.string t2)).setCell ⟨T, 1, none⟩ (.int .i64 e2)) := (C6.setCell (by simp; omega) _).setCell (by simp; omega) _
        obtain ⟨X, hX⟩ : ∃ X, ((w6.setCell ⟨T, 0, none⟩ (.string t2)).setCell ⟨T, 1, none⟩ (.int .i64 e2)) = X := ⟨_, rfl⟩
        rw [hX] at RX VX CX ⊢
        clear hX R6 G6 V6 U6 y0 y1 z0 z1 z2 z3 C6 x0 x1 RW VW UW CW P2
        have x0 := VX.cell0
        have x1 := VX.cell1
        go_wp2_with fail
        go_region_held3 (fun w' => w'.cell? ⟨T, 0, none⟩ = some (.string t2) ∧ w'.cell? ⟨T, 1, none⟩ = some (.int .i64 e2)) (first | exact ⟨x0, x1⟩ | exact ⟨y0, y1⟩ | go_keep) ((first
          | (go_at_call 38; refine (left_any (show Rd X.drew g t2 e2 from RX)).mono ?_; rintro en w' ⟨rfl, rfl⟩)
          | (go_at_call 39; refine (err_any (show Rd X.drew g t2 e2 from RX)).mono ?_; rintro en w' ⟨rfl, rfl⟩)
          | (go_at_call 40; refine (end_any (show Rd X.drew g t2 e2 from RX)).mono ?_; rintro en w' ⟨rfl, rfl⟩)
          | (go_at_call 41; refine (refEndR_any t2 e2 _).mono ?_; rintro en w7 ⟨rfl, B7⟩; have R7 := (show Rd X.drew g t2 e2 from RX).below B7; have V7 := (show Rv X.drew T t2 e2 from VX).below B7; have y0 := V7.cell0; have y1 := V7.cell1; have C7 := below_next CX.drew B7)
          | fail))
        all_goals
          go_wp2
          go_roundw
          case rel => exact ⟨k + 1, t2, e2, by go_num, by omega, ht2, R7, V7, C7⟩
          case measure => simp [intOf]; omega
      · -- another
        by_cases hK1 : K = 1
        · subst hK1
          obtain ⟨n, t2, e2, hN⟩ : ∃ n t2 e2, rWhole t e = (n, t2, e2) := ⟨_, _, _, rfl⟩
          have ht2 : t2.size ≤ 20000 := by have := rWhole_size t e; rw [hN] at this; exact Nat.le_trans this ht
          have P1 : Hid (∀ w, Calls Try.prog 29 #[rdV t e] w (RdNumPost (n, t2, e2) w)) := Lib.hid fun w => by have := refWholeR_any t e w (by omega); rw [hN] at this; exact this
          have P2 : Hid (∀ w, Rd w g t e → Calls Try.prog 30 #[.pointer (some ⟨g, 0, none⟩)] w (RdPost w g (.int .i64 n) (t2, e2))) := Lib.hid fun w h => by have := rwhole_any h (by omega); rw [hN] at this; exact this
          clear hN
          go_wp2_with (first
            | (go_at_call 29; refine (P1.out _).mono ?_; rintro en w5 ⟨rfl, B5⟩; have R5 := R.below B5; have V5 := V.below B5; have C5 := below_next hbl B5; have hR5 := R5.lt; have hV5 := V5.lt)
            | fail)
          have RW : Rd (w5.alloc (.cells #[.string t2, .int .i64 e2] 34)) g t e := R5.same (heap_alloc_old w5 _ hR5)
          have VW : Rv (w5.alloc (.cells #[.string t2, .int .i64 e2] 34)) T t e := V5.same (heap_alloc_old w5 _ hV5)
          have UW : Rv (w5.alloc (.cells #[.string t2, .int .i64 e2] 34)) w5.heap.size t2 e2 := Rv.new _ _ _
          have CW : Below w.heap.size w (w5.alloc (.cells #[.string t2, .int .i64 e2] 34)) := C5.alloc C5.size _
          have hgU : g ≠ w5.heap.size := by omega
          have hTU : T ≠ w5.heap.size := by omega
          have hlowW : w.heap.size ≤ w5.heap.size := C5.size
          obtain ⟨U, hU⟩ : ∃ U, w5.heap.size = U := ⟨_, rfl⟩
          obtain ⟨W, hW⟩ : ∃ W, w5.alloc (.cells #[.string t2, .int .i64 e2] 34) = W := ⟨_, rfl⟩
          rw [hU] at UW hgU hTU hlowW ⊢
          rw [hW] at RW VW UW CW ⊢
          have x0 := UW.cell0
          have x1 := UW.cell1
          clear hW hU B5 R5 V5 C5 hR5 hV5 R V hbl v0 v1 hTlt hglt P1 hcK hcm
          go_region_held3 (fun w' => w'.cell? ⟨U, 0, none⟩ = some (.string t2) ∧ w'.cell? ⟨U, 1, none⟩ = some (.int .i64 e2)) (first | exact ⟨x0, x1⟩ | exact ⟨y0, y1⟩ | go_keep) ((first
            | (go_at_call 30; refine (P2.out _ (show Rd W.drew g t e from RW)).mono ?_; rintro en w6 ⟨rfl, R6, G6⟩; have V6 : Rv w6 T t e := (show Rv W.drew T t e from VW).grown G6 (by simp; omega); have U6 : Rv w6 U t2 e2 := (show Rv W.drew U t2 e2 from UW).grown G6 (by simp; omega); have y0 := U6.cell0; have y1 := U6.cell1; have z0 := V6.cell0; have z1 := V6.cell1; have z2 := V6.free 0; have z3 := V6.free 1; have C6 : Below w.heap.size w w6 := CW.drew.grown G6 CW.size (by simp; omega))
            | fail))
          have RX : Rd ((w6.setCell ⟨T, 0, none⟩ (.string t2)).setCell ⟨T, 1, none⟩ (.int .i64 e2)) g t2 e2 := rd_grown (rd_grown R6 (grown_setCell w6 ⟨T, 0, none⟩ (.string t2)) (by simp; omega)) (grown_setCell _ ⟨T, 1, none⟩ (.int .i64 e2)) (by simp; omega)
          have VX : Rv ((w6.setCell ⟨T, 0, none⟩ (.string t2)).setCell ⟨T, 1, none⟩ (.int .i64 e2)) T t2 e2 := V6.put t2 e2
          have CX : Below w.heap.size w ((w6.setCell ⟨T, 0, none⟩ (.string t2)).setCell ⟨T, 1, none⟩ (.int .i64 e2)) := (C6.setCell (by simp; omega) _).setCell (by simp; omega) _
          obtain ⟨X, hX⟩ : ∃ X, ((w6.setCell ⟨T, 0, none⟩ (.string t2)).setCell ⟨T, 1, none⟩ (.int .i64 e2)) = X := ⟨_, rfl⟩
          rw [hX] at RX VX CX ⊢
          clear hX R6 G6 V6 U6 y0 y1 z0 z1 z2 z3 C6 x0 x1 RW VW UW CW P2
          have x0 := VX.cell0
          have x1 := VX.cell1
          go_wp2_with fail
          go_region_held3 (fun w' => w'.cell? ⟨T, 0, none⟩ = some (.string t2) ∧ w'.cell? ⟨T, 1, none⟩ = some (.int .i64 e2)) (first | exact ⟨x0, x1⟩ | exact ⟨y0, y1⟩ | go_keep) ((first
            | (go_at_call 38; refine (left_any (show Rd X.drew g t2 e2 from RX)).mono ?_; rintro en w' ⟨rfl, rfl⟩)
            | (go_at_call 39; refine (err_any (show Rd X.drew g t2 e2 from RX)).mono ?_; rintro en w' ⟨rfl, rfl⟩)
            | (go_at_call 40; refine (end_any (show Rd X.drew g t2 e2 from RX)).mono ?_; rintro en w' ⟨rfl, rfl⟩)
            | (go_at_call 41; refine (refEndR_any t2 e2 _).mono ?_; rintro en w7 ⟨rfl, B7⟩; have R7 := (show Rd X.drew g t2 e2 from RX).below B7; have V7 := (show Rv X.drew T t2 e2 from VX).below B7; have y0 := V7.cell0; have y1 := V7.cell1; have C7 := below_next CX.drew B7)
            | fail))
          all_goals
            go_wp2
            go_roundw
            case rel => exact ⟨k + 1, t2, e2, by go_num, by omega, ht2, R7, V7, C7⟩
            case measure => simp [intOf]; omega
        · -- another
          by_cases hK2 : K = 2
          · subst hK2
            obtain ⟨n, t2, e2, hN⟩ : ∃ n t2 e2, rFlag t e = (n, t2, e2) := ⟨_, _, _, rfl⟩
            have ht2 : t2.size ≤ 20000 := by have := rFlag_size t e; rw [hN] at this; exact Nat.le_trans this ht
            have P1 : Hid (∀ w, Calls Try.prog 31 #[rdV t e] w (RdFlagPost (n, t2, e2) w)) := Lib.hid fun w => by have := refFlagR_any t e w; rw [hN] at this; exact this
            have P2 : Hid (∀ w, Rd w g t e → Calls Try.prog 32 #[.pointer (some ⟨g, 0, none⟩)] w (RdPost w g (.bool n) (t2, e2))) := Lib.hid fun w h => by have := rflag_any h; rw [hN] at this; exact this
            clear hN
            go_wp2_with (first
              | (go_at_call 31; refine (P1.out _).mono ?_; rintro en w5 ⟨rfl, B5⟩; have R5 := R.below B5; have V5 := V.below B5; have C5 := below_next hbl B5; have hR5 := R5.lt; have hV5 := V5.lt)
              | fail)
            have RW : Rd (w5.alloc (.cells #[.string t2, .int .i64 e2] 34)) g t e := R5.same (heap_alloc_old w5 _ hR5)
            have VW : Rv (w5.alloc (.cells #[.string t2, .int .i64 e2] 34)) T t e := V5.same (heap_alloc_old w5 _ hV5)
            have UW : Rv (w5.alloc (.cells #[.string t2, .int .i64 e2] 34)) w5.heap.size t2 e2 := Rv.new _ _ _
            have CW : Below w.heap.size w (w5.alloc (.cells #[.string t2, .int .i64 e2] 34)) := C5.alloc C5.size _
            have hgU : g ≠ w5.heap.size := by omega
            have hTU : T ≠ w5.heap.size := by omega
            have hlowW : w.heap.size ≤ w5.heap.size := C5.size
            obtain ⟨U, hU⟩ : ∃ U, w5.heap.size = U := ⟨_, rfl⟩
            obtain ⟨W, hW⟩ : ∃ W, w5.alloc (.cells #[.string t2, .int .i64 e2] 34) = W := ⟨_, rfl⟩
            rw [hU] at UW hgU hTU hlowW ⊢
            rw [hW] at RW VW UW CW ⊢
            have x0 := UW.cell0
            have x1 := UW.cell1
            clear hW hU B5 R5 V5 C5 hR5 hV5 R V hbl v0 v1 hTlt hglt P1 hcK hcm
            go_region_held3 (fun w' => w'.cell? ⟨U, 0, none⟩ = some (.string t2) ∧ w'.cell? ⟨U, 1, none⟩ = some (.int .i64 e2)) (first | exact ⟨x0, x1⟩ | exact ⟨y0, y1⟩ | go_keep) ((first
              | (go_at_call 32; refine (P2.out _ (show Rd W.drew g t e from RW)).mono ?_; rintro en w6 ⟨rfl, R6, G6⟩; have V6 : Rv w6 T t e := (show Rv W.drew T t e from VW).grown G6 (by simp; omega); have U6 : Rv w6 U t2 e2 := (show Rv W.drew U t2 e2 from UW).grown G6 (by simp; omega); have y0 := U6.cell0; have y1 := U6.cell1; have z0 := V6.cell0; have z1 := V6.cell1; have z2 := V6.free 0; have z3 := V6.free 1; have C6 : Below w.heap.size w w6 := CW.drew.grown G6 CW.size (by simp; omega))
              | fail))
            have RX : Rd ((w6.setCell ⟨T, 0, none⟩ (.string t2)).setCell ⟨T, 1, none⟩ (.int .i64 e2)) g t2 e2 := rd_grown (rd_grown R6 (grown_setCell w6 ⟨T, 0, none⟩ (.string t2)) (by simp; omega)) (grown_setCell _ ⟨T, 1, none⟩ (.int .i64 e2)) (by simp; omega)
            have VX : Rv ((w6.setCell ⟨T, 0, none⟩ (.string t2)).setCell ⟨T, 1, none⟩ (.int .i64 e2)) T t2 e2 := V6.put t2 e2
            have CX : Below w.heap.size w ((w6.setCell ⟨T, 0, none⟩ (.string t2)).setCell ⟨T, 1, none⟩ (.int .i64 e2)) := (C6.setCell (by simp; omega) _).setCell (by simp; omega) _
            obtain ⟨X, hX⟩ : ∃ X, ((w6.setCell ⟨T, 0, none⟩ (.string t2)).setCell ⟨T, 1, none⟩ (.int .i64 e2)) = X := ⟨_, rfl⟩
            rw [hX] at RX VX CX ⊢
            clear hX R6 G6 V6 U6 y0 y1 z0 z1 z2 z3 C6 x0 x1 RW VW UW CW P2
            have x0 := VX.cell0
            have x1 := VX.cell1
            go_wp2_with fail
            go_region_held3 (fun w' => w'.cell? ⟨T, 0, none⟩ = some (.string t2) ∧ w'.cell? ⟨T, 1, none⟩ = some (.int .i64 e2)) (first | exact ⟨x0, x1⟩ | exact ⟨y0, y1⟩ | go_keep) ((first
              | (go_at_call 38; refine (left_any (show Rd X.drew g t2 e2 from RX)).mono ?_; rintro en w' ⟨rfl, rfl⟩)
              | (go_at_call 39; refine (err_any (show Rd X.drew g t2 e2 from RX)).mono ?_; rintro en w' ⟨rfl, rfl⟩)
              | (go_at_call 40; refine (end_any (show Rd X.drew g t2 e2 from RX)).mono ?_; rintro en w' ⟨rfl, rfl⟩)
              | (go_at_call 41; refine (refEndR_any t2 e2 _).mono ?_; rintro en w7 ⟨rfl, B7⟩; have R7 := (show Rd X.drew g t2 e2 from RX).below B7; have V7 := (show Rv X.drew T t2 e2 from VX).below B7; have y0 := V7.cell0; have y1 := V7.cell1; have C7 := below_next CX.drew B7)
              | fail))
            all_goals
              go_wp2
              go_roundw
              case rel => exact ⟨k + 1, t2, e2, by go_num, by omega, ht2, R7, V7, C7⟩
              case measure => simp [intOf]; omega
          · -- another
            by_cases hK3 : K = 3
            · subst hK3
              obtain ⟨n, t2, e2, hN⟩ : ∃ n t2 e2, rText t e m = (n, t2, e2) := ⟨_, _, _, rfl⟩
              have ht2 : t2.size ≤ 20000 := by have := (rText_rest t e m); rw [hN] at this; exact Nat.le_trans this ht
              have P1 : Hid (∀ w, Calls Try.prog 33 #[rdV t e, .int .i64 m] w (RdTextPost (n, t2, e2) w)) := Lib.hid fun w => by have := refTextR_any t e m w (by omega); rw [hN] at this; exact this
              have P2 : Hid (∀ w, Rd w g t e → Calls Try.prog 34 #[.pointer (some ⟨g, 0, none⟩), .int .i64 m] w (RdPost w g (.string n) (t2, e2))) := Lib.hid fun w h => by have := rtext_any m h (by omega); rw [hN] at this; exact this
              clear hN
              have hcm0 := (hbl.cell (p := ⟨b, off + k * 2 + 1, none⟩) (by exact hb)).symm.trans hcm
              have j0 : (0 : Int) ≤ (k : Int) := by omega
              have j1 : (k : Int) < (ps.length : Int) := by omega
              have RA : Rd (wr.alloc (.cells #[.string ByteArray.empty, .int .i64 0] 34)) g t e := R.same (heap_alloc_old wr _ hglt)
              have VA : Rv (wr.alloc (.cells #[.string ByteArray.empty, .int .i64 0] 34)) T t e := V.same (heap_alloc_old wr _ hTlt)
              have UA : Rv (wr.alloc (.cells #[.string ByteArray.empty, .int .i64 0] 34)) wr.heap.size ByteArray.empty 0 := Rv.new _ _ _
              have CA : Below w.heap.size w (wr.alloc (.cells #[.string ByteArray.empty, .int .i64 0] 34)) := hbl.alloc hbl.size _
              have hcA := (CA.cell (p := ⟨b, off + k * 2 + 1, none⟩) (by exact hb)).trans ((hbl.cell (p := ⟨b, off + k * 2 + 1, none⟩) (by exact hb)).symm.trans hcm)
              have VA0 := VA.cell0
              have VA1 := VA.cell1
              go_upto_region 20 with fail
              go_cut [15, 16] (fun p v wx => ∃ U, p = .pointer (some ⟨U, 0, none⟩) ∧ v = .string n ∧ g ≠ U ∧ T ≠ U ∧ w.heap.size ≤ U ∧ Rd wx g t e ∧ Rv wx T t e ∧ Rv wx U t2 e2 ∧ Below w.heap.size w wx)
              case first =>
                go_region_held3 (fun w' => w'.cell? ⟨T, 0, none⟩ = some (.string t) ∧ w'.cell? ⟨T, 1, none⟩ = some (.int .i64 e) ∧ w'.cell? ⟨b, off + k * 2 + 1, none⟩ = some (.int .i64 m)) (first | exact ⟨v0, v1, hcm⟩ | exact ⟨VA0, VA1, hcA⟩ | exact ⟨y0, y1, y2⟩ | exact ⟨p0, p1, p2⟩ | go_keep) ((first
                  | (go_at_call 33; refine (P1.out _).mono ?_; rintro en w5 ⟨rfl, B5⟩; have R5 := (show Rd wr.drew g t e from R).below B5; have V5 := (show Rv wr.drew T t e from V).below B5; have C5 := below_next hbl.drew B5; have hR5 := R5.lt; have hV5 := V5.lt; have y0 := V5.cell0; have y1 := V5.cell1; have y2 := (C5.cell (p := ⟨b, off + k * 2 + 1, none⟩) (by exact hb)).trans ((hbl.cell (p := ⟨b, off + k * 2 + 1, none⟩) (by exact hb)).symm.trans hcm))
                  | (go_at_call 33; refine (P1.out _).mono ?_; rintro en w5 ⟨rfl, B5⟩; have R5 := (show Rd (wr.alloc _).drew g t e from RA).below B5; have V5 := (show Rv (wr.alloc _).drew T t e from VA).below B5; have U5 := (show Rv (wr.alloc _).drew wr.heap.size ByteArray.empty 0 from UA).below B5; have C5 := below_next CA.drew B5; have hR5 := R5.lt; have hV5 := V5.lt; have u0 := U5.cell0; have u1 := U5.cell1; have u2 := U5.free 0; have u3 := U5.free 1; have y0 := V5.cell0; have y1 := V5.cell1; have y2 := (C5.cell (p := ⟨b, off + k * 2 + 1, none⟩) (by exact hb)).trans ((hbl.cell (p := ⟨b, off + k * 2 + 1, none⟩) (by exact hb)).symm.trans hcm); have U6 := U5.put t2 e2; have V6 : Rv ((w5.setCell ⟨wr.heap.size, 0, none⟩ (.string t2)).setCell ⟨wr.heap.size, 1, none⟩ (.int .i64 e2)) T t e := (V5.grown (grown_setCell w5 ⟨wr.heap.size, 0, none⟩ (.string t2)) (by simp; omega)).grown (grown_setCell _ ⟨wr.heap.size, 1, none⟩ (.int .i64 e2)) (by simp; omega); have R6 : Rd ((w5.setCell ⟨wr.heap.size, 0, none⟩ (.string t2)).setCell ⟨wr.heap.size, 1, none⟩ (.int .i64 e2)) g t e := rd_grown (rd_grown R5 (grown_setCell w5 ⟨wr.heap.size, 0, none⟩ (.string t2)) (by simp; omega)) (grown_setCell _ ⟨wr.heap.size, 1, none⟩ (.int .i64 e2)) (by simp; omega); have C6 : Below w.heap.size w ((w5.setCell ⟨wr.heap.size, 0, none⟩ (.string t2)).setCell ⟨wr.heap.size, 1, none⟩ (.int .i64 e2)) := (C5.setCell hbl.size _).setCell hbl.size _; have p0 := V6.cell0; have p1 := V6.cell1; have p2 := (C6.cell (p := ⟨b, off + k * 2 + 1, none⟩) (by exact hb)).trans ((hbl.cell (p := ⟨b, off + k * 2 + 1, none⟩) (by exact hb)).symm.trans hcm))
                  | fail))
                all_goals
                  go_wp2
                  go_meet
                  first
                    | exact ⟨_, rfl, rfl, by omega, by omega, hbl.size, R6, V6, U6, C6⟩
                    | exact ⟨_, rfl, rfl, by omega, by omega, C5.size, R5.same (heap_alloc_old w5 _ hR5), V5.same (heap_alloc_old w5 _ hV5), Rv.new _ _ _, C5.alloc C5.size _⟩
              case rest =>
                obtain ⟨U, rfl, rfl, hgU, hTU, hlowW, RW, VW, UW, CW⟩ := hcut
                clear R V hbl v0 v1 hTlt hglt P1 hcK hcm RA VA UA CA hcA VA0 VA1
                have x0 := UW.cell0
                have x1 := UW.cell1
                have x2 := (CW.cell (p := ⟨b, off + k * 2 + 1, none⟩) (by exact hb)).trans hcm0
                go_wp2_with fail
                go_region_held3 (fun w' => w'.cell? ⟨U, 0, none⟩ = some (.string t2) ∧ w'.cell? ⟨U, 1, none⟩ = some (.int .i64 e2) ∧ w'.cell? ⟨b, off + k * 2 + 1, none⟩ = some (.int .i64 m)) (first | exact ⟨x0, x1, x2⟩ | exact ⟨y0, y1, y2⟩ | exact ⟨p0, p1, p2⟩ | go_keep) ((first
                  | (go_at_call 34; refine (P2.out _ (show Rd (World.drew _) g t e from RW)).mono ?_; rintro en w6 ⟨rfl, R6, G6⟩; have V6 : Rv w6 T t e := (show Rv (World.drew _) T t e from VW).grown G6 (by simp; omega); have U6 : Rv w6 U t2 e2 := (show Rv (World.drew _) U t2 e2 from UW).grown G6 (by simp; omega); have y0 := U6.cell0; have y1 := U6.cell1; have z0 := V6.cell0; have z1 := V6.cell1; have z2 := V6.free 0; have z3 := V6.free 1; have C6 : Below w.heap.size w w6 := CW.drew.grown G6 CW.size (by simp; omega); have y2 := (C6.cell (p := ⟨b, off + k * 2 + 1, none⟩) (by exact hb)).trans hcm0; have C8 : Below w.heap.size w ((w6.setCell ⟨T, 0, none⟩ (.string t2)).setCell ⟨T, 1, none⟩ (.int .i64 e2)) := (C6.setCell (by simp; omega) _).setCell (by simp; omega) _; have U8 : Rv ((w6.setCell ⟨T, 0, none⟩ (.string t2)).setCell ⟨T, 1, none⟩ (.int .i64 e2)) U t2 e2 := (U6.grown (grown_setCell w6 ⟨T, 0, none⟩ (.string t2)) (by simp; omega)).grown (grown_setCell _ ⟨T, 1, none⟩ (.int .i64 e2)) (by simp; omega); have p0 := U8.cell0; have p1 := U8.cell1; have p2 := (C8.cell (p := ⟨b, off + k * 2 + 1, none⟩) (by exact hb)).trans hcm0)
                  | fail))
                clear C8 U8 p0 p1 p2 x2 y2 hcm0
                have RX : Rd ((w6.setCell ⟨T, 0, none⟩ (.string t2)).setCell ⟨T, 1, none⟩ (.int .i64 e2)) g t2 e2 := rd_grown (rd_grown R6 (grown_setCell w6 ⟨T, 0, none⟩ (.string t2)) (by simp; omega)) (grown_setCell _ ⟨T, 1, none⟩ (.int .i64 e2)) (by simp; omega)
                have VX : Rv ((w6.setCell ⟨T, 0, none⟩ (.string t2)).setCell ⟨T, 1, none⟩ (.int .i64 e2)) T t2 e2 := V6.put t2 e2
                have CX : Below w.heap.size w ((w6.setCell ⟨T, 0, none⟩ (.string t2)).setCell ⟨T, 1, none⟩ (.int .i64 e2)) := (C6.setCell (by simp; omega) _).setCell (by simp; omega) _
                obtain ⟨X, hX⟩ : ∃ X, ((w6.setCell ⟨T, 0, none⟩ (.string t2)).setCell ⟨T, 1, none⟩ (.int .i64 e2)) = X := ⟨_, rfl⟩
                rw [hX] at RX VX CX ⊢
                clear hX R6 G6 V6 U6 y0 y1 z0 z1 z2 z3 C6 x0 x1 RW VW UW CW P2
                have x0 := VX.cell0
                have x1 := VX.cell1
                go_wp2_with fail
                go_region_held3 (fun w' => w'.cell? ⟨T, 0, none⟩ = some (.string t2) ∧ w'.cell? ⟨T, 1, none⟩ = some (.int .i64 e2)) (first | exact ⟨x0, x1⟩ | exact ⟨y0, y1⟩ | go_keep) ((first
                  | (go_at_call 38; refine (left_any (show Rd X.drew g t2 e2 from RX)).mono ?_; rintro en w' ⟨rfl, rfl⟩)
                  | (go_at_call 39; refine (err_any (show Rd X.drew g t2 e2 from RX)).mono ?_; rintro en w' ⟨rfl, rfl⟩)
                  | (go_at_call 40; refine (end_any (show Rd X.drew g t2 e2 from RX)).mono ?_; rintro en w' ⟨rfl, rfl⟩)
                  | (go_at_call 41; refine (refEndR_any t2 e2 _).mono ?_; rintro en w7 ⟨rfl, B7⟩; have R7 := (show Rd X.drew g t2 e2 from RX).below B7; have V7 := (show Rv X.drew T t2 e2 from VX).below B7; have y0 := V7.cell0; have y1 := V7.cell1; have C7 := below_next CX.drew B7)
                  | fail))
                all_goals
                  go_wp2
                  go_roundw
                  case rel => exact ⟨k + 1, t2, e2, by go_num, by omega, ht2, R7, V7, C7⟩
                  case measure => simp [intOf]; omega
            · -- another
              by_cases hK4 : K = 4
              · subst hK4
                obtain ⟨M, hM⟩ : ∃ M : Int, (if 300 < m then 300 else m) = M := ⟨_, rfl⟩
                have hmin : ∀ w, (Builtin.min_ #[3, 3] 3 #[.int .i64 m, .int .i64 300]).run Try.prog w = .ok (.int .i64 M) w := by
                  intro w
                  rw [run_least2, hM]
                clear hM
                obtain ⟨xs, t2, e2, hN⟩ : ∃ n t2 e2, rList t e M = (n, t2, e2) := ⟨_, _, _, rfl⟩
                have ht2 : t2.size ≤ 20000 := by have := (rList_both t e M).2; rw [hN] at this; exact Nat.le_trans this ht
                have hxs : (xs.length : Int) ≤ 1000000000000 := by have := (rList_both t e M).1; rw [hN] at this; have : xs.length ≤ t.size := this; omega
                have P1 : Hid (∀ w, Calls Try.prog 35 #[rdV t e, .int .i64 M] w (RdListPost (xs, t2, e2) w)) := Lib.hid fun w => by have := refListR_any t e M w (by omega); rw [hN] at this; exact this
                have P2 : Hid (∀ w, Rd w g t e → Calls Try.prog 37 #[.pointer (some ⟨g, 0, none⟩), .int .i64 M] w (ListPost w g xs (t2, e2))) := Lib.hid fun w h => by have := rlist_any M h (by omega); rw [hN] at this; exact this
                clear hN
                have hcm0 := (hbl.cell (p := ⟨b, off + k * 2 + 1, none⟩) (by exact hb)).symm.trans hcm
                have j0 : (0 : Int) ≤ (k : Int) := by omega
                have j1 : (k : Int) < (ps.length : Int) := by omega
                have RA : Rd (wr.alloc (.cells #[.string ByteArray.empty, .int .i64 0] 34)) g t e := R.same (heap_alloc_old wr _ hglt)
                have VA : Rv (wr.alloc (.cells #[.string ByteArray.empty, .int .i64 0] 34)) T t e := V.same (heap_alloc_old wr _ hTlt)
                have UA : Rv (wr.alloc (.cells #[.string ByteArray.empty, .int .i64 0] 34)) wr.heap.size ByteArray.empty 0 := Rv.new _ _ _
                have CA : Below w.heap.size w (wr.alloc (.cells #[.string ByteArray.empty, .int .i64 0] 34)) := hbl.alloc hbl.size _
                have ZA : wr.heap.size + 1 ≤ ((wr.alloc (.cells #[.string ByteArray.empty, .int .i64 0] 34)).drew).heap.size := by simp
                have hcA := (CA.cell (p := ⟨b, off + k * 2 + 1, none⟩) (by exact hb)).trans hcm0
                have VA0 := VA.cell0
                have VA1 := VA.cell1
                go_upto_region 23 with fail
                go_cut [17, 18] (fun p v wx => ∃ U a cp, p = .pointer (some ⟨U, 0, none⟩) ∧ v = .slice a xs.length cp ∧ OwnsI wx (T + 1) (.slice a xs.length cp) xs ∧ g ≠ U ∧ T ≠ U ∧ w.heap.size ≤ U ∧ Rd wx g t e ∧ Rv wx T t e ∧ Rv wx U t2 e2 ∧ Below w.heap.size w wx)
                case first =>
                  go_region_held3 (fun w' => w'.cell? ⟨T, 0, none⟩ = some (.string t) ∧ w'.cell? ⟨T, 1, none⟩ = some (.int .i64 e) ∧ w'.cell? ⟨b, off + k * 2 + 1, none⟩ = some (.int .i64 m)) (first | exact ⟨v0, v1, hcm⟩ | exact ⟨VA0, VA1, hcA⟩ | exact ⟨y0, y1, y2⟩ | exact ⟨p0, p1, p2⟩ | go_keep) ((first
                    | (go_at_call 35; refine (P1.out _).mono ?_; rintro en w5 ⟨v5, rfl, O5, B5⟩; have R5 := (show Rd wr.drew g t e from R).below B5; have V5 := (show Rv wr.drew T t e from V).below B5; have C5 := below_next hbl.drew B5; have hR5 := R5.lt; have hV5 := V5.lt; have O6 : OwnsI (w5.alloc (.cells #[.string t2, .int .i64 e2] 34)) (T + 1) v5 xs := ((show OwnsI w5 wr.heap.size v5 xs from O5).more _).mono hTlt; have y0 := V5.cell0; have y1 := V5.cell1; have y2 := (C5.cell (p := ⟨b, off + k * 2 + 1, none⟩) (by exact hb)).trans hcm0)
                    | (go_at_call 35; refine (P1.out _).mono ?_; rintro en w5 ⟨v5, rfl, O5, B5⟩; have R5 := (show Rd (wr.alloc _).drew g t e from RA).below B5; have V5 := (show Rv (wr.alloc _).drew T t e from VA).below B5; have U5 := (show Rv (wr.alloc _).drew wr.heap.size ByteArray.empty 0 from UA).below B5; have C5 := below_next CA.drew B5; have O7 : OwnsI w5 (wr.heap.size + 1) v5 xs := O5.mono ZA; have hR5 := R5.lt; have hV5 := V5.lt; have u0 := U5.cell0; have u1 := U5.cell1; have u2 := U5.free 0; have u3 := U5.free 1; have y0 := V5.cell0; have y1 := V5.cell1; have y2 := (C5.cell (p := ⟨b, off + k * 2 + 1, none⟩) (by exact hb)).trans hcm0; have U6 := U5.put t2 e2; have V6 : Rv ((w5.setCell ⟨wr.heap.size, 0, none⟩ (.string t2)).setCell ⟨wr.heap.size, 1, none⟩ (.int .i64 e2)) T t e := (V5.grown (grown_setCell w5 ⟨wr.heap.size, 0, none⟩ (.string t2)) (by simp; omega)).grown (grown_setCell _ ⟨wr.heap.size, 1, none⟩ (.int .i64 e2)) (by simp; omega); have R6 : Rd ((w5.setCell ⟨wr.heap.size, 0, none⟩ (.string t2)).setCell ⟨wr.heap.size, 1, none⟩ (.int .i64 e2)) g t e := rd_grown (rd_grown R5 (grown_setCell w5 ⟨wr.heap.size, 0, none⟩ (.string t2)) (by simp; omega)) (grown_setCell _ ⟨wr.heap.size, 1, none⟩ (.int .i64 e2)) (by simp; omega); have O6 : OwnsI ((w5.setCell ⟨wr.heap.size, 0, none⟩ (.string t2)).setCell ⟨wr.heap.size, 1, none⟩ (.int .i64 e2)) (T + 1) v5 xs := ((O7.far ⟨wr.heap.size, 0, none⟩ (.string t2) (by simp)).far ⟨wr.heap.size, 1, none⟩ (.int .i64 e2) (by simp)).mono (by omega); have C6 : Below w.heap.size w ((w5.setCell ⟨wr.heap.size, 0, none⟩ (.string t2)).setCell ⟨wr.heap.size, 1, none⟩ (.int .i64 e2)) := (C5.setCell hbl.size _).setCell hbl.size _; have p0 := V6.cell0; have p1 := V6.cell1; have p2 := (C6.cell (p := ⟨b, off + k * 2 + 1, none⟩) (by exact hb)).trans hcm0)
                    | fail))
                  all_goals
                    obtain ⟨a5, c5, rfl, _⟩ := O6.arg
                    go_wp2
                    go_meet
                    first
                      | exact ⟨_, _, _, rfl, rfl, O6, by omega, by omega, hbl.size, R6, V6, U6, C6⟩
                      | exact ⟨_, _, _, rfl, rfl, O6, by omega, by omega, C5.size, R5.same (heap_alloc_old w5 _ hR5), V5.same (heap_alloc_old w5 _ hV5), Rv.new _ _ _, C5.alloc C5.size _⟩
                case rest =>
                  obtain ⟨U, a5, c5, rfl, rfl, OW, hgU, hTU, hlowW, RW, VW, UW, CW⟩ := hcut
                  clear R V hbl v0 v1 hTlt hglt P1 hcK hcm RA VA UA CA hcA VA0 VA1 ZA
                  have x0 := UW.cell0
                  have x1 := UW.cell1
                  have x2 := (CW.cell (p := ⟨b, off + k * 2 + 1, none⟩) (by exact hb)).trans hcm0
                  have hTW := VW.lt
                  go_wp2_with fail
                  go_region_held3 (fun w' => w'.cell? ⟨U, 0, none⟩ = some (.string t2) ∧ w'.cell? ⟨U, 1, none⟩ = some (.int .i64 e2) ∧ w'.cell? ⟨b, off + k * 2 + 1, none⟩ = some (.int .i64 m)) (first | exact ⟨x0, x1, x2⟩ | exact ⟨q0, q1, q2⟩ | exact ⟨y0, y1, y2⟩ | exact ⟨p0, p1, p2⟩ | go_keep) ((first
                    | (go_at_call 37; refine (P2.out _ (show Rd (World.drew _) g t e from RW)).mono ?_; rintro en w4 hp4; obtain ⟨a4, c4, rfl, O4, R4, G4⟩ := ListPost.row hp4; have V4 : Rv w4 T t e := (show Rv (World.drew _) T t e from VW).grown G4 (by simp; omega); have U4 : Rv w4 U t2 e2 := (show Rv (World.drew _) U t2 e2 from UW).grown G4 (by simp; omega); have C4 : Below w.heap.size w w4 := CW.drew.grown G4 CW.size (by simp; omega); have N4 : OwnsI w4 (T + 1) (.slice a5 xs.length c5) xs := OwnsI.past (show OwnsI (World.drew _) (T + 1) _ xs from OW) G4 (by omega); have i1 := OwnsI.ints O4; have i2 := OwnsI.ints N4; have q0 := U4.cell0; have q1 := U4.cell1; have q2 := (C4.cell (p := ⟨b, off + k * 2 + 1, none⟩) (by exact hb)).trans hcm0)
                    | (go_at_call 36; refine (same_any a4 a5 c4 c5 xs _ hxs i1 i2).mono ?_; rintro en w6 ⟨rfl, B6⟩; have R6 := R4.below B6; have V6 := V4.below B6; have U6 := U4.below B6; have G6 := B6; have y0 := U6.cell0; have y1 := U6.cell1; have z0 := V6.cell0; have z1 := V6.cell1; have z2 := V6.free 0; have z3 := V6.free 1; have C6 : Below w.heap.size w w6 := below_next C4 B6; have y2 := (C6.cell (p := ⟨b, off + k * 2 + 1, none⟩) (by exact hb)).trans hcm0; have C8 : Below w.heap.size w ((w6.setCell ⟨T, 0, none⟩ (.string t2)).setCell ⟨T, 1, none⟩ (.int .i64 e2)) := (C6.setCell (by simp; omega) _).setCell (by simp; omega) _; have U8 : Rv ((w6.setCell ⟨T, 0, none⟩ (.string t2)).setCell ⟨T, 1, none⟩ (.int .i64 e2)) U t2 e2 := (U6.grown (grown_setCell w6 ⟨T, 0, none⟩ (.string t2)) (by simp; omega)).grown (grown_setCell _ ⟨T, 1, none⟩ (.int .i64 e2)) (by simp; omega); have p0 := U8.cell0; have p1 := U8.cell1; have p2 := (C8.cell (p := ⟨b, off + k * 2 + 1, none⟩) (by exact hb)).trans hcm0)
                    | fail))
                  clear C8 U8 p0 p1 p2 x2 y2 hcm0 B6 q0 q1 q2 i1 i2 N4 C4 U4 V4 R4 O4 G4 hp4 hmin OW hTW
                  have RX : Rd ((w6.setCell ⟨T, 0, none⟩ (.string t2)).setCell ⟨T, 1, none⟩ (.int .i64 e2)) g t2 e2 := rd_grown (rd_grown R6 (grown_setCell w6 ⟨T, 0, none⟩ (.string t2)) (by simp; omega)) (grown_setCell _ ⟨T, 1, none⟩ (.int .i64 e2)) (by simp; omega)
                  have VX : Rv ((w6.setCell ⟨T, 0, none⟩ (.string t2)).setCell ⟨T, 1, none⟩ (.int .i64 e2)) T t2 e2 := V6.put t2 e2
                  have CX : Below w.heap.size w ((w6.setCell ⟨T, 0, none⟩ (.string t2)).setCell ⟨T, 1, none⟩ (.int .i64 e2)) := (C6.setCell (by simp; omega) _).setCell (by simp; omega) _
                  obtain ⟨X, hX⟩ : ∃ X, ((w6.setCell ⟨T, 0, none⟩ (.string t2)).setCell ⟨T, 1, none⟩ (.int .i64 e2)) = X := ⟨_, rfl⟩
                  rw [hX] at RX VX CX ⊢
                  clear hX R6 G6 V6 U6 y0 y1 z0 z1 z2 z3 C6 x0 x1 RW VW UW CW P2
                  have x0 := VX.cell0
                  have x1 := VX.cell1
                  go_wp2_with fail
                  go_region_held3 (fun w' => w'.cell? ⟨T, 0, none⟩ = some (.string t2) ∧ w'.cell? ⟨T, 1, none⟩ = some (.int .i64 e2)) (first | exact ⟨x0, x1⟩ | exact ⟨y0, y1⟩ | go_keep) ((first
                    | (go_at_call 38; refine (left_any (show Rd X.drew g t2 e2 from RX)).mono ?_; rintro en w' ⟨rfl, rfl⟩)
                    | (go_at_call 39; refine (err_any (show Rd X.drew g t2 e2 from RX)).mono ?_; rintro en w' ⟨rfl, rfl⟩)
                    | (go_at_call 40; refine (end_any (show Rd X.drew g t2 e2 from RX)).mono ?_; rintro en w' ⟨rfl, rfl⟩)
                    | (go_at_call 41; refine (refEndR_any t2 e2 _).mono ?_; rintro en w7 ⟨rfl, B7⟩; have R7 := (show Rd X.drew g t2 e2 from RX).below B7; have V7 := (show Rv X.drew T t2 e2 from VX).below B7; have y0 := V7.cell0; have y1 := V7.cell1; have C7 := below_next CX.drew B7)
                    | fail))
                  all_goals
                    go_wp2
                    go_roundw
                    case rel => exact ⟨k + 1, t2, e2, by go_num, by omega, ht2, R7, V7, C7⟩
                    case measure => simp [intOf]; omega
              · -- another
                have b0 : (K == 0) = false := by simpa using hK0
                have b1 : (K == 1) = false := by simpa using hK1
                have b2 : (K == 2) = false := by simpa using hK2
                have b3 : (K == 3) = false := by simpa using hK3
                have b4 : (K == 4) = false := by simpa using hK4
                clear hK0 hK1 hK2 hK3 hK4
                go_wp2
                go_roundw
                case rel => exact ⟨k + 1, t, e, by go_num, by omega, ht, R, V, hbl⟩
                case measure => simp [intOf]; omega
    · have hx : (k < ps.length ∧ 60 ≤ k) ∨ ps.length ≤ k := by omega
      clear hgo
      rcases hx with ⟨hx1, hx2⟩ | hx1
      all_goals
        go_wp2_with (first
          | (go_at_call 15; refine (awake1_any _).mono ?_; rintro e w3 ⟨rfl, B3⟩)
          | (go_at_call 28; refine (rnum_nil _).mono ?_; rintro e w' ⟨rfl, rfl⟩)
          | (go_at_call 30; refine (rwhole_nil _).mono ?_; rintro e w' ⟨rfl, rfl⟩)
          | (go_at_call 32; refine (rflag_nil _).mono ?_; rintro e w' ⟨rfl, rfl⟩)
          | (go_at_call 34; refine (rtext_nil _ _).mono ?_; rintro e w' ⟨rfl, rfl⟩)
          | (go_at_call 37; refine (rlist_nil _ _).mono ?_; rintro e w' ⟨rfl, rfl⟩)
          | (go_at_call 38; refine (left_nil _).mono ?_; rintro e w' ⟨rfl, rfl⟩)
          | (go_at_call 39; refine (err_nil _).mono ?_; rintro e w' ⟨rfl, rfl⟩)
          | (go_at_call 40; refine (end_nil _).mono ?_; rintro e w' ⟨rfl, rfl⟩))
        go_ret
        exact ⟨rfl, below_next hbl B3⟩

set_option maxRecDepth 100000 in
set_option maxHeartbeats 4000000 in
theorem reads_nil (s : ByteArray) (a : Option Addr) (cap : Nat) (w : World) (hs : s.size ≤ 20000) :
    Calls Try.prog 5 #[.string s, .slice a 0 cap] w fun e w' => e = .returned (.bool true) ∧ Below w.heap.size w w' := by
  go_enter Try.func5, Try.ntmps5
  go_wp2_with fail
  refine (from_abs s _).mono ?_
  rintro e w1 ⟨g, rfl, hg, R1, B1⟩
  go_wp2_with fail
  have BT : Below w.heap.size w (w1.alloc (.cells #[.string s, .int .i64 0] 34)) := B1.alloc B1.size _
  refine wp_loop_rounds 1 ?_
  rw [rounds_succ]
  go_wp2_with (first
          | (go_at_call 15; refine (awake1_any _).mono ?_; rintro e w3 ⟨rfl, B3⟩)
          | (go_at_call 28; refine (rnum_nil _).mono ?_; rintro e w' ⟨rfl, rfl⟩)
          | (go_at_call 30; refine (rwhole_nil _).mono ?_; rintro e w' ⟨rfl, rfl⟩)
          | (go_at_call 32; refine (rflag_nil _).mono ?_; rintro e w' ⟨rfl, rfl⟩)
          | (go_at_call 34; refine (rtext_nil _ _).mono ?_; rintro e w' ⟨rfl, rfl⟩)
          | (go_at_call 37; refine (rlist_nil _ _).mono ?_; rintro e w' ⟨rfl, rfl⟩)
          | (go_at_call 38; refine (left_nil _).mono ?_; rintro e w' ⟨rfl, rfl⟩)
          | (go_at_call 39; refine (err_nil _).mono ?_; rintro e w' ⟨rfl, rfl⟩)
          | (go_at_call 40; refine (end_nil _).mono ?_; rintro e w' ⟨rfl, rfl⟩))
  go_ret
  exact ⟨rfl, below_next BT B3⟩

set_option maxRecDepth 100000 in
set_option maxHeartbeats 4000000 in
theorem vintReads_walk (s : ByteArray) (a : Option Addr) (len cap : Nat) (ps : List (Int × Int)) (w : World) (_hs : s.size ≤ maxLen) (hp : PairsArg w a len ps) :
    Calls Try.prog 5 #[.string s, .slice a len cap] w fun e w' => e = .returned (.bool true) ∧ Below w.heap.size w w' := by
  by_cases h1 : 20000 < s.size
  · go_enter Try.func5, Try.ntmps5
    go_wp2_with (go_at_call 15; refine (awake1_any _).mono ?_; rintro e w0 ⟨rfl, B0⟩)
    go_ret
    exact ⟨rfl, B0⟩
  · obtain ⟨rfl, hl, _, hin⟩ := hp
    rcases hin with rfl | ⟨b, off, rfl, hb, hc⟩
    · exact reads_nil s a cap w (by omega)
    · exact reads_some s b off cap ps w (by omega) hl hb hc
end Go.Proofs.Ytjeeplacolbihaa
