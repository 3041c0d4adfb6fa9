/-
  A CONTRACT of scan.Read.
-/
import Derived.Test.YtcpcdinfagdlhaaScU
import Derived.Test.YtcpcdinfagdlhaaScJ
namespace Go.Proofs.Ytcpcdinfagdlhaa
open Go.RowKit Go.Shelf Go.ChangeShapes Go.WideShapes Go.Deep

def ReadPostK (r : List Sp × Int × Int × Int) (w : World) (e : Ending) (w' : World) : Prop := ∃ a n c,
  e = .returned (.tuple #[.agg #[.slice a n c, .int .i64 r.2.1, .int .i64 r.2.2.1], .int .i64 r.2.2.2]) ∧ Arg w' a n c r.1 ∧ Below w.heap.size w w'
theorem OwnsP.arg' {t : TypeId} {w : World} {base : Nat} {va : Option Addr} {vc : Nat} {l : List Sp} (h : OwnsP t w base (.slice va l.length vc) l) : Arg w va l.length vc l := by
  obtain ⟨a, c, e, h1, h2, h3, _⟩ := OwnsP.arg h
  cases e
  exact ⟨rfl, by unfold maxLen at h2; omega, h1, h2, h3⟩
theorem grown_setCellS (w : World) (p : Addr) (v : Value) : w.grownBy (w.setCell p v) (some p.block) := grown_setCell w p v
set_option maxRecDepth 100000 in
set_option maxHeartbeats 4000000 in
theorem sread_any (s : ByteArray) (w : World) (hs : (s.size : Int) ≤ 1000000000000) : Calls Try.prog 50 #[.string s] w (ReadPostK (readK s) w) := by
  obtain ⟨af, s1, e1, hA⟩ : ∃ x s1 e3, rWhole s 0 = (x, s1, e3) := ⟨_, _, _, rfl⟩
  obtain ⟨lim, s2, e2, hB⟩ : ∃ y s2 e4, rNum s1 e1 = (y, s2, e4) := ⟨_, _, _, rfl⟩
  obtain ⟨m, s3, e3, hN⟩ : ∃ yy ss ee, rNum s2 e2 = (yy, ss, ee) := ⟨_, _, _, rfl⟩
  obtain ⟨n, hn⟩ : ∃ n : Nat, min m 64 = (n : Int) := ⟨(min m 64).toNat, by have := (rNum_val s2 e2).1; rw [hN] at this; dsimp only at this; omega⟩
  have hn64 : n ≤ 64 := by omega
  obtain ⟨l, t, e, hC⟩ : ∃ y s2 e4, rKs n [] s3 e3 = (y, s2, e4) := ⟨_, _, _, rfl⟩
  have hs1 : s1.size ≤ s.size := by have := rWhole_size s 0; rw [hA] at this; exact this
  have hs2 : s2.size ≤ s1.size := by have := rNum_size s1 e1; rw [hB] at this; exact this
  have hs3 : s3.size ≤ s2.size := by have := rNum_size s2 e2; rw [hN] at this; exact this
  obtain ⟨R, hR⟩ : ∃ R, readK s = R := ⟨_, rfl⟩
  have HR := Lib.hid (show R = finK l af lim m t e from hR ▸ readK_eq hA hB hN (by rw [hn, Int.toNat_natCast]; exact hC))
  rw [hR]
  obtain ⟨L, hL⟩ : ∃ L, (if e = 0 then l else []) = L := ⟨_, rfl⟩
  obtain ⟨W1, hW1⟩ : ∃ W1, w.alloc (.cells #[.slice none 0 0, .int .i64 0, .int .i64 0] 69) = W1 := ⟨_, rfl⟩
  obtain ⟨W2, hW2⟩ : ∃ W2, W1.alloc (.cells #[.string s, .int .i64 0] 177) = W2 := ⟨_, rfl⟩
  obtain ⟨g, hg⟩ : ∃ g, W1.heap.size = g := ⟨_, rfl⟩
  have C0 : Hid (Calls Try.prog 73 #[.string s] W1 fun e w' => e = .returned (.pointer (some ⟨g, 0, none⟩)) ∧ W2 = w') := Lib.hid (by rw [← hW2, ← hg]; exact from_any s W1)
  have R0 : Rd W2 g s 0 := by rw [← hW2, ← hg]; exact Rd.new W1 s 0
  have b2 : Below w.heap.size w W2 := by rw [← hW2, ← hW1]; exact ((Below.refl _ _).alloc (Nat.le_refl _) _).alloc (by simp) _
  have k2 : W2.heap[w.heap.size]? = some (.cells #[.slice none 0 0, .int .i64 0, .int .i64 0] 69) := by
    rw [← hW2]
    exact ((World.grownBy_alloc W1 _ none).block _ (by rw [← hW1]; simp) (by simp)).trans (by rw [← hW1]; exact heap_alloc_new w _)
  have hgw : w.heap.size < g := by rw [← hg, ← hW1]; simp
  have hg2 : g < W2.heap.size := R0.lt
  have CN : Hid (∀ W, Rd W g s 0 → Calls Try.prog 105 #[.pointer (some ⟨g, 0, none⟩)] W (RdPost W g (.int .i64 af) (s1, e1))) :=
    Lib.hid fun W hR => (rwhole_any hR (by omega)).mono fun e w' h => by rw [hA] at h; exact h
  have CM : Hid (∀ W, Rd W g s1 e1 → Calls Try.prog 74 #[.pointer (some ⟨g, 0, none⟩)] W (RdPost W g (.int .i64 lim) (s2, e2))) :=
    Lib.hid fun W hR => (rnum_any hR (by omega)).mono fun e w' h => by rw [hB] at h; exact h
  have CO : Hid (∀ W, Rd W g s2 e2 → Calls Try.prog 74 #[.pointer (some ⟨g, 0, none⟩)] W (RdPost W g (.int .i64 m) (s3, e3))) :=
    Lib.hid fun W hR => (rnum_any hR (by omega)).mono fun e w' h => by rw [hN] at h; exact h
  have CS : Hid (∀ W, Rd W g s3 e3 → Calls Try.prog 106 #[.pointer (some ⟨g, 0, none⟩), .int .i64 (n : Int)] W (SpnPost W g L (t, e))) :=
    Lib.hid fun W hR => hL ▸ rspans_any hR (by omega) n hn64 hC
  have CE := Lib.hid (fun W (h : Rd W g t e) => end_any h)
  have CF := Lib.hid (fun W (h : Rd W g t e) => err_any h)
  obtain ⟨xe, hxe⟩ : ∃ xe, rEnd t e = xe := ⟨_, rfl⟩
  unfold finK at HR
  rw [hxe] at HR CE
  have hre : e ≠ 0 → xe = e := by intro he; rw [← hxe]; unfold rEnd; rw [if_neg he]
  replace hn := Lib.hid hn
  replace hW2 := Lib.hid hW2
  replace hg := Lib.hid hg
  replace k2 := Lib.hid k2
  replace hxe := Lib.hid hxe
  clear hA hB hC hR hN
  by_cases h64 : 64 < m
  · by_cases he : e = 0
    · have d1 : (e == 0) = true := by simpa using he
      have d2 : (e != 0) = false := by simpa using he
      have HR2 := Lib.hid (show R = ([], 0, 0, 3) by rw [HR.out, if_pos ⟨h64, he⟩])
      replace he := Lib.hid he
      clear HR hre hL
      go_enter Try.func50, Try.ntmps50
      go_wp2_with (first
        | (go_at_call 73; (with_reducible refine C0.out.mono ?_); rintro en w0 ⟨rfl, rfl⟩)
        | (go_at_call 105; (with_reducible refine (CN.out _ R0).mono ?_); rintro en w3 ⟨rfl, R3, G3⟩)
        | (go_at_call 74; (with_reducible refine (CM.out _ R3).mono ?_); rintro en w4 ⟨rfl, R4, G4⟩; have R5 := rd_grown R4 (World.grownBy_alloc w4 (.cells #[.slice none 0 0, .int .i64 af, .int .i64 lim] 69) none) (by simp))
        | (go_at_call 74; (with_reducible refine (CO.out _ R5).mono ?_); rintro en w5 ⟨rfl, R55, G55⟩)
        | (go_at_call 106; rw [hn.out]; (with_reducible refine (CS.out _ R55).mono ?_); rintro en w6 ⟨v, rfl, hO, R6, G56⟩;
              obtain ⟨va, vc, rfl, hA6⟩ := OwnsP.arg hO;
              have G6 := grown_trans G55 G56;
              have z23 : W2.heap.size ≤ w3.heap.size := G3.size; have z24 : W2.heap.size ≤ w4.heap.size := (by have := G4.size; omega);
              have z45 : w4.heap.size < w5.heap.size := (by have := G55.size; simp at this; omega);
              have zx : w4.heap.size < w6.heap.size := (by have := G56.size; omega);
              have hgx : g ≠ w4.heap.size := (by omega);
              have x6 : w6.heap[w4.heap.size]? = some (.cells #[.slice none 0 0, .int .i64 af, .int .i64 lim] 69) := (G6.block w4.heap.size (by simp) (by simp; omega)).trans (heap_alloc_new w4 _);
              have k6 : w6.heap[w.heap.size]? = some (.cells #[.slice none 0 0, .int .i64 0, .int .i64 0] 69) := (G6.block w.heap.size (by simp; omega) (by simp; omega)).trans (((World.grownBy_alloc w4 _ none).block w.heap.size (by omega) (by simp)).trans ((G4.block w.heap.size (by have := G3.size; omega) (by simp; omega)).trans ((G3.block w.heap.size (by omega) (by simp; omega)).trans k2.out)));
              have x62 : w6.cell? ⟨w4.heap.size, 0, none⟩ = some (.slice none 0 0) := cell_of_row _ _ 0 _ _ _ x6;
              have f62 : w6.frozen? ⟨w4.heap.size, 0, none⟩ = false := frozen_of_row _ _ 0 _ _ x6;
              obtain ⟨W7, hW7⟩ : ∃ W7, w6.setCell ⟨w4.heap.size, 0, none⟩ (.slice va L.length vc) = W7 := ⟨_, rfl⟩;
              have x7 : W7.heap[w4.heap.size]? = some (.cells #[.slice va L.length vc, .int .i64 af, .int .i64 lim] 69) := (by rw [← hW7]; exact heap_setCell_same _ _ 0 _ _ _ x6);
              have k7 : W7.heap[w.heap.size]? = some (.cells #[.slice none 0 0, .int .i64 0, .int .i64 0] 69) := (by rw [← hW7, heap_setCell_other _ _ _ _ (by show w.heap.size ≠ w4.heap.size; omega)]; exact k6);
              have R7 : Rd W7 g t e := (by rw [← hW7]; exact rd_grown R6 (grown_setCell w6 ⟨w4.heap.size, 0, none⟩ _) (by simp; omega));
              have hO7 : OwnsP 33 W7 w5.heap.size (.slice va L.length vc) L := (by rw [← hW7]; exact World.ownsRow.kept hO (grown_setCell w6 ⟨w4.heap.size, 0, none⟩ _) (.inr (fun he => by have := (World.ownsRow.lt hO _ he).1; dsimp only at this; omega)));
              have hne : L ≠ [] → ∃ b o, va = some ⟨b, o, none⟩ ∧ b ≠ w.heap.size := (fun hl => by obtain ⟨b, e, hb, _⟩ := hA6.2.2.2 hl; exact ⟨b, _, e, by omega⟩);
              have b7 : Below w.heap.size w W7 := (by rw [← hW7]; exact ((((b2.grown G3 b2.size (fun k hk => by cases hk; omega)).grown G4 (by omega) (fun k hk => by cases hk; omega)).alloc (by omega) _).grown G6 (by simp; omega) (fun k hk => by cases hk; omega)).setCell (p := ⟨w4.heap.size, 0, none⟩) (by show w.heap.size ≤ w4.heap.size; omega) _);
              obtain ⟨z0, z1, z2⟩ := c3S k7; obtain ⟨f0, f1, f2⟩ := f3S k7; obtain ⟨x0, x1, x2⟩ := c3S x7; have HA7 := Lib.hid (OwnsP.arg' hO7); replace k7 := Lib.hid k7; replace x7 := Lib.hid x7; clear x6 k6)
        | (go_at_call 107; (with_reducible refine (CF.out _ R7).mono ?_); rintro en w' ⟨rfl, rfl⟩))
      exact bodyPost_ret (v := .tuple #[.agg #[.slice none 0 0, .int .i64 0, .int .i64 0], .int .i64 3]) (by simp [results, Try.results50, go_sem, z0, z1, z2]) rfl ⟨none, 0, 0, by rw [HR2.out], by rw [HR2.out]; exact ⟨rfl, by simp, Nat.le_refl _, Nat.zero_le _, PIn.nil _ _ _⟩, (by repeat (first | with_reducible exact b7 | with_reducible refine toDU ?_ | with_reducible refine Below.setCell ?_ (by first | with_reducible exact Nat.le_refl _ | (dsimp only; omega)) _))⟩
    · have hx := hre he
      have d1 : (e == 0) = false := by simpa using he
      have d2 : (e != 0) = true := by simpa using he
      have hx0 : xe ≠ 0 := by omega
      have d3 : (xe == 0) = false := by simpa using hx0
      have d4 : (xe != 0) = true := by simpa using hx0
      have HR2 := Lib.hid (show R = ([], 0, 0, xe) by rw [HR.out, if_neg (fun q => he q.2), if_neg hx0])
      replace hx := Lib.hid hx
      replace hx0 := Lib.hid hx0
      replace he := Lib.hid he
      clear HR hre hL
      go_enter Try.func50, Try.ntmps50
      go_wp2_with (first
        | (go_at_call 73; (with_reducible refine C0.out.mono ?_); rintro en w0 ⟨rfl, rfl⟩)
        | (go_at_call 105; (with_reducible refine (CN.out _ R0).mono ?_); rintro en w3 ⟨rfl, R3, G3⟩)
        | (go_at_call 74; (with_reducible refine (CM.out _ R3).mono ?_); rintro en w4 ⟨rfl, R4, G4⟩; have R5 := rd_grown R4 (World.grownBy_alloc w4 (.cells #[.slice none 0 0, .int .i64 af, .int .i64 lim] 69) none) (by simp))
        | (go_at_call 74; (with_reducible refine (CO.out _ R5).mono ?_); rintro en w5 ⟨rfl, R55, G55⟩)
        | (go_at_call 106; rw [hn.out]; (with_reducible refine (CS.out _ R55).mono ?_); rintro en w6 ⟨v, rfl, hO, R6, G56⟩;
              obtain ⟨va, vc, rfl, hA6⟩ := OwnsP.arg hO;
              have G6 := grown_trans G55 G56;
              have z23 : W2.heap.size ≤ w3.heap.size := G3.size; have z24 : W2.heap.size ≤ w4.heap.size := (by have := G4.size; omega);
              have z45 : w4.heap.size < w5.heap.size := (by have := G55.size; simp at this; omega);
              have zx : w4.heap.size < w6.heap.size := (by have := G56.size; omega);
              have hgx : g ≠ w4.heap.size := (by omega);
              have x6 : w6.heap[w4.heap.size]? = some (.cells #[.slice none 0 0, .int .i64 af, .int .i64 lim] 69) := (G6.block w4.heap.size (by simp) (by simp; omega)).trans (heap_alloc_new w4 _);
              have k6 : w6.heap[w.heap.size]? = some (.cells #[.slice none 0 0, .int .i64 0, .int .i64 0] 69) := (G6.block w.heap.size (by simp; omega) (by simp; omega)).trans (((World.grownBy_alloc w4 _ none).block w.heap.size (by omega) (by simp)).trans ((G4.block w.heap.size (by have := G3.size; omega) (by simp; omega)).trans ((G3.block w.heap.size (by omega) (by simp; omega)).trans k2.out)));
              have x62 : w6.cell? ⟨w4.heap.size, 0, none⟩ = some (.slice none 0 0) := cell_of_row _ _ 0 _ _ _ x6;
              have f62 : w6.frozen? ⟨w4.heap.size, 0, none⟩ = false := frozen_of_row _ _ 0 _ _ x6;
              obtain ⟨W7, hW7⟩ : ∃ W7, w6.setCell ⟨w4.heap.size, 0, none⟩ (.slice va L.length vc) = W7 := ⟨_, rfl⟩;
              have x7 : W7.heap[w4.heap.size]? = some (.cells #[.slice va L.length vc, .int .i64 af, .int .i64 lim] 69) := (by rw [← hW7]; exact heap_setCell_same _ _ 0 _ _ _ x6);
              have k7 : W7.heap[w.heap.size]? = some (.cells #[.slice none 0 0, .int .i64 0, .int .i64 0] 69) := (by rw [← hW7, heap_setCell_other _ _ _ _ (by show w.heap.size ≠ w4.heap.size; omega)]; exact k6);
              have R7 : Rd W7 g t e := (by rw [← hW7]; exact rd_grown R6 (grown_setCell w6 ⟨w4.heap.size, 0, none⟩ _) (by simp; omega));
              have hO7 : OwnsP 33 W7 w5.heap.size (.slice va L.length vc) L := (by rw [← hW7]; exact World.ownsRow.kept hO (grown_setCell w6 ⟨w4.heap.size, 0, none⟩ _) (.inr (fun he => by have := (World.ownsRow.lt hO _ he).1; dsimp only at this; omega)));
              have hne : L ≠ [] → ∃ b o, va = some ⟨b, o, none⟩ ∧ b ≠ w.heap.size := (fun hl => by obtain ⟨b, e, hb, _⟩ := hA6.2.2.2 hl; exact ⟨b, _, e, by omega⟩);
              have b7 : Below w.heap.size w W7 := (by rw [← hW7]; exact ((((b2.grown G3 b2.size (fun k hk => by cases hk; omega)).grown G4 (by omega) (fun k hk => by cases hk; omega)).alloc (by omega) _).grown G6 (by simp; omega) (fun k hk => by cases hk; omega)).setCell (p := ⟨w4.heap.size, 0, none⟩) (by show w.heap.size ≤ w4.heap.size; omega) _);
              obtain ⟨z0, z1, z2⟩ := c3S k7; obtain ⟨f0, f1, f2⟩ := f3S k7; obtain ⟨x0, x1, x2⟩ := c3S x7; have HA7 := Lib.hid (OwnsP.arg' hO7); replace k7 := Lib.hid k7; replace x7 := Lib.hid x7; clear x6 k6)
        | (go_at_call 107; (with_reducible refine (CF.out _ R7).mono ?_); rintro en w' ⟨rfl, rfl⟩)
        | (go_at_call 76; (with_reducible refine (CE.out _ R7).mono ?_); rintro en w' ⟨rfl, rfl⟩))
      exact bodyPost_ret (v := .tuple #[.agg #[.slice none 0 0, .int .i64 0, .int .i64 0], .int .i64 xe]) (by simp [results, Try.results50, go_sem, z0, z1, z2]) rfl ⟨none, 0, 0, by rw [HR2.out], by rw [HR2.out]; exact ⟨rfl, by simp, Nat.le_refl _, Nat.zero_le _, PIn.nil _ _ _⟩, (by repeat (first | with_reducible exact b7 | with_reducible refine toDU ?_ | with_reducible refine Below.setCell ?_ (by first | with_reducible exact Nat.le_refl _ | (dsimp only; omega)) _))⟩
  · by_cases h0 : xe = 0
    · subst h0
      have he : e = 0 := Classical.byContradiction fun q => q (hre q).symm
      rw [if_pos he] at hL
      subst hL
      cases ht : curB l af lim with
      | false =>
        have HR2 := Lib.hid (show R = ([], 0, 0, 3) by rw [HR.out, if_neg (fun q => h64 q.1), if_pos rfl, if_neg (by rw [ht]; simp)])
        have CK := Lib.hid (fun a n c W (h : Arg W a n c l) => ht ▸ isCursor_any a n c l af lim W h)
        replace ht := Lib.hid ht
        clear HR hre he
        go_enter Try.func50, Try.ntmps50
        go_wp2_with (first
          | (go_at_call 73; (with_reducible refine C0.out.mono ?_); rintro en w0 ⟨rfl, rfl⟩)
          | (go_at_call 105; (with_reducible refine (CN.out _ R0).mono ?_); rintro en w3 ⟨rfl, R3, G3⟩)
          | (go_at_call 74; (with_reducible refine (CM.out _ R3).mono ?_); rintro en w4 ⟨rfl, R4, G4⟩; have R5 := rd_grown R4 (World.grownBy_alloc w4 (.cells #[.slice none 0 0, .int .i64 af, .int .i64 lim] 69) none) (by simp))
          | (go_at_call 74; (with_reducible refine (CO.out _ R5).mono ?_); rintro en w5 ⟨rfl, R55, G55⟩)
          | (go_at_call 106; rw [hn.out]; (with_reducible refine (CS.out _ R55).mono ?_); rintro en w6 ⟨v, rfl, hO, R6, G56⟩;
                obtain ⟨va, vc, rfl, hA6⟩ := OwnsP.arg hO;
                have G6 := grown_trans G55 G56;
                have z23 : W2.heap.size ≤ w3.heap.size := G3.size; have z24 : W2.heap.size ≤ w4.heap.size := (by have := G4.size; omega);
                have z45 : w4.heap.size < w5.heap.size := (by have := G55.size; simp at this; omega);
                have zx : w4.heap.size < w6.heap.size := (by have := G56.size; omega);
                have hgx : g ≠ w4.heap.size := (by omega);
                have x6 : w6.heap[w4.heap.size]? = some (.cells #[.slice none 0 0, .int .i64 af, .int .i64 lim] 69) := (G6.block w4.heap.size (by simp) (by simp; omega)).trans (heap_alloc_new w4 _);
                have k6 : w6.heap[w.heap.size]? = some (.cells #[.slice none 0 0, .int .i64 0, .int .i64 0] 69) := (G6.block w.heap.size (by simp; omega) (by simp; omega)).trans (((World.grownBy_alloc w4 _ none).block w.heap.size (by omega) (by simp)).trans ((G4.block w.heap.size (by have := G3.size; omega) (by simp; omega)).trans ((G3.block w.heap.size (by omega) (by simp; omega)).trans k2.out)));
                have x62 : w6.cell? ⟨w4.heap.size, 0, none⟩ = some (.slice none 0 0) := cell_of_row _ _ 0 _ _ _ x6;
                have f62 : w6.frozen? ⟨w4.heap.size, 0, none⟩ = false := frozen_of_row _ _ 0 _ _ x6;
                obtain ⟨W7, hW7⟩ : ∃ W7, w6.setCell ⟨w4.heap.size, 0, none⟩ (.slice va l.length vc) = W7 := ⟨_, rfl⟩;
                have x7 : W7.heap[w4.heap.size]? = some (.cells #[.slice va l.length vc, .int .i64 af, .int .i64 lim] 69) := (by rw [← hW7]; exact heap_setCell_same _ _ 0 _ _ _ x6);
                have k7 : W7.heap[w.heap.size]? = some (.cells #[.slice none 0 0, .int .i64 0, .int .i64 0] 69) := (by rw [← hW7, heap_setCell_other _ _ _ _ (by show w.heap.size ≠ w4.heap.size; omega)]; exact k6);
                have R7 : Rd W7 g t e := (by rw [← hW7]; exact rd_grown R6 (grown_setCell w6 ⟨w4.heap.size, 0, none⟩ _) (by simp; omega));
                have hO7 : OwnsP 33 W7 w5.heap.size (.slice va l.length vc) l := (by rw [← hW7]; exact World.ownsRow.kept hO (grown_setCell w6 ⟨w4.heap.size, 0, none⟩ _) (.inr (fun he => by have := (World.ownsRow.lt hO _ he).1; dsimp only at this; omega)));
                have hne : l ≠ [] → ∃ b o, va = some ⟨b, o, none⟩ ∧ b ≠ w.heap.size := (fun hl => by obtain ⟨b, e, hb, _⟩ := hA6.2.2.2 hl; exact ⟨b, _, e, by omega⟩);
                have b7 : Below w.heap.size w W7 := (by rw [← hW7]; exact ((((b2.grown G3 b2.size (fun k hk => by cases hk; omega)).grown G4 (by omega) (fun k hk => by cases hk; omega)).alloc (by omega) _).grown G6 (by simp; omega) (fun k hk => by cases hk; omega)).setCell (p := ⟨w4.heap.size, 0, none⟩) (by show w.heap.size ≤ w4.heap.size; omega) _);
                obtain ⟨z0, z1, z2⟩ := c3S k7; obtain ⟨f0, f1, f2⟩ := f3S k7; obtain ⟨x0, x1, x2⟩ := c3S x7; have HA7 := Lib.hid (OwnsP.arg' hO7); replace k7 := Lib.hid k7; replace x7 := Lib.hid x7; clear x6 k6)
          | (go_at_call 76; (with_reducible refine (CE.out _ R7).mono ?_); rintro en w' ⟨rfl, rfl⟩)
          | (go_at_call 85; (with_reducible refine (CK.out _ _ _ _ HA7.out).mono ?_); rintro en w8 ⟨rfl, b8⟩; have k8 := (b8.block w.heap.size (by have := b7.size; have := heap_ltS k7.out; omega)).trans k7.out; have x8 := (b8.block w4.heap.size (heap_ltS x7.out)).trans x7.out; obtain ⟨z0, z1, z2⟩ := c3S k8; obtain ⟨f0, f1, f2⟩ := f3S k8; obtain ⟨x0, x1, x2⟩ := c3S x8; have HA8 := Lib.hid (HA7.out.below b8); replace k8 := Lib.hid k8; replace x8 := Lib.hid x8))
        exact bodyPost_ret (v := .tuple #[.agg #[.slice none 0 0, .int .i64 0, .int .i64 0], .int .i64 3]) (by simp [results, Try.results50, go_sem, z0, z1, z2]) rfl ⟨none, 0, 0, by rw [HR2.out], by rw [HR2.out]; exact ⟨rfl, by simp, Nat.le_refl _, Nat.zero_le _, PIn.nil _ _ _⟩, (by repeat (first | with_reducible exact (below_next b7 b8) | with_reducible refine toDU ?_ | with_reducible refine Below.setCell ?_ (by first | with_reducible exact Nat.le_refl _ | (dsimp only; omega)) _))⟩
      | true =>
        have HR2 := Lib.hid (show R = (l, af, lim, 0) by rw [HR.out, if_neg (fun q => h64 q.1), if_pos rfl, if_pos ht])
        have CK := Lib.hid (fun a n c W (h : Arg W a n c l) => ht ▸ isCursor_any a n c l af lim W h)
        replace ht := Lib.hid ht
        clear HR hre he
        go_enter Try.func50, Try.ntmps50
        go_wp2_with (first
          | (go_at_call 73; (with_reducible refine C0.out.mono ?_); rintro en w0 ⟨rfl, rfl⟩)
          | (go_at_call 105; (with_reducible refine (CN.out _ R0).mono ?_); rintro en w3 ⟨rfl, R3, G3⟩)
          | (go_at_call 74; (with_reducible refine (CM.out _ R3).mono ?_); rintro en w4 ⟨rfl, R4, G4⟩; have R5 := rd_grown R4 (World.grownBy_alloc w4 (.cells #[.slice none 0 0, .int .i64 af, .int .i64 lim] 69) none) (by simp))
          | (go_at_call 74; (with_reducible refine (CO.out _ R5).mono ?_); rintro en w5 ⟨rfl, R55, G55⟩)
          | (go_at_call 106; rw [hn.out]; (with_reducible refine (CS.out _ R55).mono ?_); rintro en w6 ⟨v, rfl, hO, R6, G56⟩;
                obtain ⟨va, vc, rfl, hA6⟩ := OwnsP.arg hO;
                have G6 := grown_trans G55 G56;
                have z23 : W2.heap.size ≤ w3.heap.size := G3.size; have z24 : W2.heap.size ≤ w4.heap.size := (by have := G4.size; omega);
                have z45 : w4.heap.size < w5.heap.size := (by have := G55.size; simp at this; omega);
                have zx : w4.heap.size < w6.heap.size := (by have := G56.size; omega);
                have hgx : g ≠ w4.heap.size := (by omega);
                have x6 : w6.heap[w4.heap.size]? = some (.cells #[.slice none 0 0, .int .i64 af, .int .i64 lim] 69) := (G6.block w4.heap.size (by simp) (by simp; omega)).trans (heap_alloc_new w4 _);
                have k6 : w6.heap[w.heap.size]? = some (.cells #[.slice none 0 0, .int .i64 0, .int .i64 0] 69) := (G6.block w.heap.size (by simp; omega) (by simp; omega)).trans (((World.grownBy_alloc w4 _ none).block w.heap.size (by omega) (by simp)).trans ((G4.block w.heap.size (by have := G3.size; omega) (by simp; omega)).trans ((G3.block w.heap.size (by omega) (by simp; omega)).trans k2.out)));
                have x62 : w6.cell? ⟨w4.heap.size, 0, none⟩ = some (.slice none 0 0) := cell_of_row _ _ 0 _ _ _ x6;
                have f62 : w6.frozen? ⟨w4.heap.size, 0, none⟩ = false := frozen_of_row _ _ 0 _ _ x6;
                obtain ⟨W7, hW7⟩ : ∃ W7, w6.setCell ⟨w4.heap.size, 0, none⟩ (.slice va l.length vc) = W7 := ⟨_, rfl⟩;
                have x7 : W7.heap[w4.heap.size]? = some (.cells #[.slice va l.length vc, .int .i64 af, .int .i64 lim] 69) := (by rw [← hW7]; exact heap_setCell_same _ _ 0 _ _ _ x6);
                have k7 : W7.heap[w.heap.size]? = some (.cells #[.slice none 0 0, .int .i64 0, .int .i64 0] 69) := (by rw [← hW7, heap_setCell_other _ _ _ _ (by show w.heap.size ≠ w4.heap.size; omega)]; exact k6);
                have R7 : Rd W7 g t e := (by rw [← hW7]; exact rd_grown R6 (grown_setCell w6 ⟨w4.heap.size, 0, none⟩ _) (by simp; omega));
                have hO7 : OwnsP 33 W7 w5.heap.size (.slice va l.length vc) l := (by rw [← hW7]; exact World.ownsRow.kept hO (grown_setCell w6 ⟨w4.heap.size, 0, none⟩ _) (.inr (fun he => by have := (World.ownsRow.lt hO _ he).1; dsimp only at this; omega)));
                have hne : l ≠ [] → ∃ b o, va = some ⟨b, o, none⟩ ∧ b ≠ w.heap.size := (fun hl => by obtain ⟨b, e, hb, _⟩ := hA6.2.2.2 hl; exact ⟨b, _, e, by omega⟩);
                have b7 : Below w.heap.size w W7 := (by rw [← hW7]; exact ((((b2.grown G3 b2.size (fun k hk => by cases hk; omega)).grown G4 (by omega) (fun k hk => by cases hk; omega)).alloc (by omega) _).grown G6 (by simp; omega) (fun k hk => by cases hk; omega)).setCell (p := ⟨w4.heap.size, 0, none⟩) (by show w.heap.size ≤ w4.heap.size; omega) _);
                obtain ⟨z0, z1, z2⟩ := c3S k7; obtain ⟨f0, f1, f2⟩ := f3S k7; obtain ⟨x0, x1, x2⟩ := c3S x7; have HA7 := Lib.hid (OwnsP.arg' hO7); replace k7 := Lib.hid k7; replace x7 := Lib.hid x7; clear x6 k6)
          | (go_at_call 76; (with_reducible refine (CE.out _ R7).mono ?_); rintro en w' ⟨rfl, rfl⟩)
          | (go_at_call 85; (with_reducible refine (CK.out _ _ _ _ HA7.out).mono ?_); rintro en w8 ⟨rfl, b8⟩; have k8 := (b8.block w.heap.size (by have := b7.size; have := heap_ltS k7.out; omega)).trans k7.out; have x8 := (b8.block w4.heap.size (heap_ltS x7.out)).trans x7.out; obtain ⟨z0, z1, z2⟩ := c3S k8; obtain ⟨f0, f1, f2⟩ := f3S k8; obtain ⟨x0, x1, x2⟩ := c3S x8; have HA8 := Lib.hid (HA7.out.below b8); replace k8 := Lib.hid k8; replace x8 := Lib.hid x8))
        exact bodyPost_ret (v := .tuple #[.agg #[.slice va l.length vc, .int .i64 af, .int .i64 lim], .int .i64 0]) (by simp [results, Try.results50, go_sem, z0, z1, z2]) rfl ⟨va, l.length, vc, by rw [HR2.out], by rw [HR2.out]; exact HA8.out.only (g := w.heap.size) (by repeat (first | with_reducible exact OnlyS.refl _ _ | with_reducible refine OnlyS.drewR ?_ | with_reducible refine OnlyS.set ?_ _ _)) hne, (by repeat (first | with_reducible exact (below_next b7 b8) | with_reducible refine toDU ?_ | with_reducible refine Below.setCell ?_ (by first | with_reducible exact Nat.le_refl _ | (dsimp only; omega)) _))⟩
    · have d1 : (xe == 0) = false := by simpa using h0
      have d2 : (xe != 0) = true := by simpa using h0
      have HR2 := Lib.hid (show R = ([], 0, 0, xe) by rw [HR.out, if_neg (fun q => h64 q.1), if_neg h0])
      replace h0 := Lib.hid h0
      clear HR hre hL
      go_enter Try.func50, Try.ntmps50
      go_wp2_with (first
        | (go_at_call 73; (with_reducible refine C0.out.mono ?_); rintro en w0 ⟨rfl, rfl⟩)
        | (go_at_call 105; (with_reducible refine (CN.out _ R0).mono ?_); rintro en w3 ⟨rfl, R3, G3⟩)
        | (go_at_call 74; (with_reducible refine (CM.out _ R3).mono ?_); rintro en w4 ⟨rfl, R4, G4⟩; have R5 := rd_grown R4 (World.grownBy_alloc w4 (.cells #[.slice none 0 0, .int .i64 af, .int .i64 lim] 69) none) (by simp))
        | (go_at_call 74; (with_reducible refine (CO.out _ R5).mono ?_); rintro en w5 ⟨rfl, R55, G55⟩)
        | (go_at_call 106; rw [hn.out]; (with_reducible refine (CS.out _ R55).mono ?_); rintro en w6 ⟨v, rfl, hO, R6, G56⟩;
              obtain ⟨va, vc, rfl, hA6⟩ := OwnsP.arg hO;
              have G6 := grown_trans G55 G56;
              have z23 : W2.heap.size ≤ w3.heap.size := G3.size; have z24 : W2.heap.size ≤ w4.heap.size := (by have := G4.size; omega);
              have z45 : w4.heap.size < w5.heap.size := (by have := G55.size; simp at this; omega);
              have zx : w4.heap.size < w6.heap.size := (by have := G56.size; omega);
              have hgx : g ≠ w4.heap.size := (by omega);
              have x6 : w6.heap[w4.heap.size]? = some (.cells #[.slice none 0 0, .int .i64 af, .int .i64 lim] 69) := (G6.block w4.heap.size (by simp) (by simp; omega)).trans (heap_alloc_new w4 _);
              have k6 : w6.heap[w.heap.size]? = some (.cells #[.slice none 0 0, .int .i64 0, .int .i64 0] 69) := (G6.block w.heap.size (by simp; omega) (by simp; omega)).trans (((World.grownBy_alloc w4 _ none).block w.heap.size (by omega) (by simp)).trans ((G4.block w.heap.size (by have := G3.size; omega) (by simp; omega)).trans ((G3.block w.heap.size (by omega) (by simp; omega)).trans k2.out)));
              have x62 : w6.cell? ⟨w4.heap.size, 0, none⟩ = some (.slice none 0 0) := cell_of_row _ _ 0 _ _ _ x6;
              have f62 : w6.frozen? ⟨w4.heap.size, 0, none⟩ = false := frozen_of_row _ _ 0 _ _ x6;
              obtain ⟨W7, hW7⟩ : ∃ W7, w6.setCell ⟨w4.heap.size, 0, none⟩ (.slice va L.length vc) = W7 := ⟨_, rfl⟩;
              have x7 : W7.heap[w4.heap.size]? = some (.cells #[.slice va L.length vc, .int .i64 af, .int .i64 lim] 69) := (by rw [← hW7]; exact heap_setCell_same _ _ 0 _ _ _ x6);
              have k7 : W7.heap[w.heap.size]? = some (.cells #[.slice none 0 0, .int .i64 0, .int .i64 0] 69) := (by rw [← hW7, heap_setCell_other _ _ _ _ (by show w.heap.size ≠ w4.heap.size; omega)]; exact k6);
              have R7 : Rd W7 g t e := (by rw [← hW7]; exact rd_grown R6 (grown_setCell w6 ⟨w4.heap.size, 0, none⟩ _) (by simp; omega));
              have hO7 : OwnsP 33 W7 w5.heap.size (.slice va L.length vc) L := (by rw [← hW7]; exact World.ownsRow.kept hO (grown_setCell w6 ⟨w4.heap.size, 0, none⟩ _) (.inr (fun he => by have := (World.ownsRow.lt hO _ he).1; dsimp only at this; omega)));
              have hne : L ≠ [] → ∃ b o, va = some ⟨b, o, none⟩ ∧ b ≠ w.heap.size := (fun hl => by obtain ⟨b, e, hb, _⟩ := hA6.2.2.2 hl; exact ⟨b, _, e, by omega⟩);
              have b7 : Below w.heap.size w W7 := (by rw [← hW7]; exact ((((b2.grown G3 b2.size (fun k hk => by cases hk; omega)).grown G4 (by omega) (fun k hk => by cases hk; omega)).alloc (by omega) _).grown G6 (by simp; omega) (fun k hk => by cases hk; omega)).setCell (p := ⟨w4.heap.size, 0, none⟩) (by show w.heap.size ≤ w4.heap.size; omega) _);
              obtain ⟨z0, z1, z2⟩ := c3S k7; obtain ⟨f0, f1, f2⟩ := f3S k7; obtain ⟨x0, x1, x2⟩ := c3S x7; have HA7 := Lib.hid (OwnsP.arg' hO7); replace k7 := Lib.hid k7; replace x7 := Lib.hid x7; clear x6 k6)
        | (go_at_call 76; (with_reducible refine (CE.out _ R7).mono ?_); rintro en w' ⟨rfl, rfl⟩))
      exact bodyPost_ret (v := .tuple #[.agg #[.slice none 0 0, .int .i64 0, .int .i64 0], .int .i64 xe]) (by simp [results, Try.results50, go_sem, z0, z1, z2]) rfl ⟨none, 0, 0, by rw [HR2.out], by rw [HR2.out]; exact ⟨rfl, by simp, Nat.le_refl _, Nat.zero_le _, PIn.nil _ _ _⟩, (by repeat (first | with_reducible exact b7 | with_reducible refine toDU ?_ | with_reducible refine Below.setCell ?_ (by first | with_reducible exact Nat.le_refl _ | (dsimp only; omega)) _))⟩
end Go.Proofs.Ytcpcdinfagdlhaa
