/-
  CONTRACT: balance.Suggest; the page's example.
-/
import Derived.Test.YtihpojllalnmcaaBaK
import Derived.Test.YtihpojllalnmcaaChE
namespace Go.Proofs.Ytihpojllalnmcaa
open Go.RowKit Go.Shelf

/-- What is suggested: the change, whether there is one, the error. -/
def sugC (ep nx : Int) (sd : List Sd) (l : List Sp) (p : Po) (nodes : Int) : Gd × Bool × Int :=
  if (mayB ep nx sd l nodes && polB p) = false then ((0, 0, 0), false, 1)
  else match firstG l sd nodes.toNat p with
    | none => ((0, 0, 0), false, 0)
    | some x => if (appC ep nx sd x.1 x.2.1 x.2.2).e = 0 then (x, true, 0) else ((0, 0, 0), false, 2)
def SuggestPost (r : Gd × Bool × Int) (w : World) (e : Ending) (w' : World) : Prop := e = .returned (.tuple #[.agg #[.int .i64 r.1.1, .int .i64 r.1.2.1, .int .i64 r.1.2.2], .bool r.2.1, .int .i64 r.2.2]) ∧ Below w.heap.size w w'
theorem sug_ret {r : Gd × Bool × Int} {a b c : Int} {s : Bool} {e : Int} {w w' : World} (h : r = ((a, b, c), s, e)) (hb : Below w.heap.size w w') : SuggestPost r w (.returned (.tuple #[.agg #[.int .i64 a, .int .i64 b, .int .i64 c], .bool s, .int .i64 e])) w' := by
  subst h
  exact ⟨rfl, hb⟩
theorem nodesB_bd {l : List Sp} {sd : List Sd} (hl : loadB l = true) (hs : sd.length ≤ 24) (n : Nat) : ∀ z ∈ nodesB (itsB l sd) n, 0 ≤ z ∧ z ≤ 1000000000000000000 := fun z hz => by
  unfold nodesB at hz
  obtain ⟨k, _, rfl⟩ := List.mem_map.1 hz
  have := nodeS_bd (M := 4503599627370496) (k : Int) (itsB l sd) (its_bd hl) (by omega)
  rw [itsB_len] at this
  omega
theorem OwnsR.spotG {α : Type} {enc : α → List Value} {k : Nat} {t : TypeId} {W : World} {base : Nat} {v : Value} {l : List α} (h : OwnsR enc k t W base v l) (hl : l ≠ []) : ∃ g c, v = .slice (some ⟨g, 0, none⟩) l.length c := by
  rcases h.2 with ⟨_, hn⟩ | ⟨g, cap, cur, rfl, _⟩
  · exact absurd (List.eq_nil_of_length_eq_zero hn) hl
  · exact ⟨g, cap, rfl⟩
theorem OwnsR.spotN {α : Type} [Inhabited α] {enc : α → List Value} {k n : Nat} (hk : ∀ x, (enc x).length = k) {t : TypeId} {W : World} {base : Nat} {v : Value} {l : List α} (h : OwnsR enc k t W base v l) (hn : l.length = n) (h1 : 1 ≤ n) : ∃ g c, v = .slice (some ⟨g, 0, none⟩) n c ∧ RArg enc k W (some ⟨g, 0, none⟩) n c l := by
  subst hn
  obtain ⟨g, c, rfl⟩ := h.spotG (fun e => by rw [e] at h1; simp at h1)
  obtain ⟨a, c', e, hA⟩ := h.arg hk
  injection e with e1 _ e3
  subst e1 e3
  exact ⟨g, c, rfl, hA⟩
theorem OwnsI.rargN {w : World} {base m : Nat} {v : Value} {zs : List Int} (h : OwnsI w base v zs) (hl : zs.length = m) : ∃ a c, v = .slice a m c ∧ RArg encI 1 w a m c zs := by
  subst hl
  exact h.rarg
theorem set3B {W : World} {b : Nat} {x y z x' y' z' : Value} {t : TypeId} (h : W.heap[b]? = some (.cells #[x, y, z] t)) :
    (((W.setCell ⟨b, 0, none⟩ x').setCell ⟨b, 1, none⟩ y').setCell ⟨b, 2, none⟩ z').heap[b]? = some (.cells #[x', y', z'] t) := by
  have h0 := heap_setCell_same _ _ 0 _ _ x' h
  have h1 := heap_setCell_same _ _ 1 _ _ y' h0
  exact heap_setCell_same _ _ 2 _ _ z' h1
theorem grow3B (W : World) (b : Nat) (x y z : Value) : W.grownBy (((W.setCell ⟨b, 0, none⟩ x).setCell ⟨b, 1, none⟩ y).setCell ⟨b, 2, none⟩ z) (some b) :=
  grown_trans (grown_trans (grown_setCell _ ⟨b, 0, none⟩ _) (grown_setCell _ ⟨b, 1, none⟩ _)) (grown_setCell _ ⟨b, 2, none⟩ _)
theorem below_grown {w w' : World} {row : Option Nat} (h : Below w.heap.size w w') : w.grownBy w' row := ⟨h.os, h.tape, h.output, h.size, fun k hk _ => h.block k hk⟩
theorem RArg.spotW {α : Type} [Inhabited α] {enc : α → List Value} {k : Nat} {w : World} {a : Option Addr} {n c : Nat} {l : List α} (h : RArg enc k w a n c l) (hl : l ≠ []) : ∀ p, a = some p → p.block < w.heap.size := fun p hp => by
  obtain ⟨b, off, e, hb, _⟩ := h.2.2.2.2.spot hl
  rw [hp] at e
  cases e
  exact hb
/-- The same but for a block. -/
def SameP (g : Nat) (W W' : World) : Prop := ∀ p : Addr, p.block ≠ g → W'.cell? p = W.cell? p
theorem SameP.refl (g : Nat) (W : World) : SameP g W W := fun _ _ => rfl
theorem SameP.set {g : Nat} {W W' : World} (h : SameP g W W') (i : Nat) (v : Value) : SameP g W (W'.setCell ⟨g, i, none⟩ v) := fun p hp => (World.cell?_of_block (w := W') (Below.heap_setCell W' ⟨g, i, none⟩ v p.block hp)).trans (h p hp)
theorem samePP {g x y : Nat} {W W' : World} {v0 v1 v2 u0 u1 u2 : Value} (h : SameP g W W') (hc : (W.cell? ⟨x, 0, none⟩ = some v0 ∧ W.cell? ⟨x, 1, none⟩ = some v1 ∧ W.cell? ⟨x, 2, none⟩ = some v2) ∧ W.cell? ⟨y, 0, none⟩ = some u0 ∧ W.cell? ⟨y, 1, none⟩ = some u1 ∧ W.cell? ⟨y, 2, none⟩ = some u2) (h1 : x ≠ g) (h2 : y ≠ g) :
    (W'.cell? ⟨x, 0, none⟩ = some v0 ∧ W'.cell? ⟨x, 1, none⟩ = some v1 ∧ W'.cell? ⟨x, 2, none⟩ = some v2) ∧ W'.cell? ⟨y, 0, none⟩ = some u0 ∧ W'.cell? ⟨y, 1, none⟩ = some u1 ∧ W'.cell? ⟨y, 2, none⟩ = some u2 :=
  ⟨⟨(h ⟨x, 0, none⟩ h1).trans hc.1.1, (h ⟨x, 1, none⟩ h1).trans hc.1.2.1, (h ⟨x, 2, none⟩ h1).trans hc.1.2.2⟩, (h ⟨y, 0, none⟩ h2).trans hc.2.1, (h ⟨y, 1, none⟩ h2).trans hc.2.2.1, (h ⟨y, 2, none⟩ h2).trans hc.2.2.2⟩
set_option maxRecDepth 100000 in
set_option maxHeartbeats 4000000 in
theorem suggest_any (ep nx : Int) (a : Option Addr) (n c : Nat) (sd : List Sd) (a2 : Option Addr) (n2 cp2 : Nat) (l : List Sp) (ph pl psl nodes : Int) (w : World) (h : RArg encS 4 w a n c sd) (hL : Arg w a2 n2 cp2 l) :
    Calls Try.prog 8 #[.agg #[.int .i64 ep, .int .i64 nx, .slice a n c], .slice a2 n2 cp2, .agg #[.int .i64 ph, .int .i64 pl, .int .i64 psl], .int .i64 nodes] w (SuggestPost (sugC ep nx sd l (ph, pl, psl) nodes) w) := by
  obtain ⟨R, hR⟩ : ∃ R, sugC ep nx sd l (ph, pl, psl) nodes = R := ⟨_, rfl⟩
  rw [hR]
  obtain ⟨Wa, hWa⟩ : ∃ Wa, w.alloc (.cells #[.int .i64 ep, .int .i64 nx, .slice a n c] 24) = Wa := ⟨_, rfl⟩
  have ba : Below w.heap.size w Wa := by rw [← hWa]; exact (Below.refl _ _).alloc (Nat.le_refl _) _
  have ga : w.heap.size < Wa.heap.size := by rw [← hWa]; simp
  have ra : Wa.heap[w.heap.size]? = some (.cells #[.int .i64 ep, .int .i64 nx, .slice a n c] 24) := by rw [← hWa]; exact heap_alloc_new _ _
  obtain ⟨W0, hW0⟩ : ∃ W0, Wa.alloc (.cells #[.int .i64 ph, .int .i64 pl, .int .i64 psl] 27) = W0 := ⟨_, rfl⟩
  have b0 : Below Wa.heap.size Wa W0 := by rw [← hW0]; exact (Below.refl _ _).alloc (Nat.le_refl _) _
  have g0 : Wa.heap.size < W0.heap.size := by rw [← hW0]; simp
  have r0 : W0.heap[Wa.heap.size]? = some (.cells #[.int .i64 ph, .int .i64 pl, .int .i64 psl] 27) := by rw [← hW0]; exact heap_alloc_new _ _
  obtain ⟨W1, hW1⟩ : ∃ W1, W0.alloc (.cells #[.int .i64 0, .int .i64 0, .int .i64 0] 33) = W1 := ⟨_, rfl⟩
  have b01 : Below W0.heap.size W0 W1 := by rw [← hW1]; exact (Below.refl _ _).alloc (Nat.le_refl _) _
  have g1 : W0.heap.size < W1.heap.size := by rw [← hW1]; simp
  have r1 : W1.heap[W0.heap.size]? = some (.cells #[.int .i64 0, .int .i64 0, .int .i64 0] 33) := by rw [← hW1]; exact heap_alloc_new _ _
  have bw := below_next (below_next ba b0) b01
  have KZ := Lib.hid (fun W (hb : Below W1.heap.size W1 W) => (hb.block _ g1).trans r1)
  have KP := Lib.hid (fun W (hb : Below W1.heap.size W1 W) => (show (W.cell? ⟨w.heap.size, 0, none⟩ = some (.int .i64 ep) ∧ W.cell? ⟨w.heap.size, 1, none⟩ = some (.int .i64 nx) ∧ W.cell? ⟨w.heap.size, 2, none⟩ = some (.slice a n c)) ∧ W.cell? ⟨Wa.heap.size, 0, none⟩ = some (.int .i64 ph) ∧ W.cell? ⟨Wa.heap.size, 1, none⟩ = some (.int .i64 pl) ∧ W.cell? ⟨Wa.heap.size, 2, none⟩ = some (.int .i64 psl) from
    ⟨(cells3B ((hb.block _ (Nat.lt_trans ga (Nat.lt_trans g0 g1))).trans ((b01.block _ (Nat.lt_trans ga g0)).trans ((b0.block _ ga).trans ra)))).1,
     (cells3B ((hb.block _ (Nat.lt_trans g0 g1)).trans ((b01.block _ g0).trans r0))).1⟩))
  obtain ⟨⟨q0, q1, q2⟩, p0, p1, p2⟩ := KP.out _ (Below.refl _ _)
  have g0w : w.heap.size ≤ W0.heap.size := Nat.le_of_lt (Nat.lt_trans ga g0)
  have HP := Lib.hid (h.below bw)
  have HL := Lib.hid (hL.below bw)
  obtain ⟨x1, h1⟩ : ∃ x, mayB ep nx sd l nodes = x := ⟨_, rfl⟩
  obtain ⟨x2, h2⟩ : ∃ x, polB (ph, pl, psl) = x := ⟨_, rfl⟩
  have ND := Lib.hid (nodes_any ep nx a n c sd a2 n2 cp2 l nodes W1 HP.out HL.out)
  have PC := Lib.hid (fun W => h2 ▸ pcheck_any ph pl psl W)
  clear r0 r1 ra
  cases x1
  · have HR := Lib.hid (show R = ((0, 0, 0), false, 1) by rw [← hR]; unfold sugC; rw [h1]; rfl)
    have NB := Lib.hid (ND.out.mono fun e w' (hh : IntsErr (nodesC ep nx sd l nodes) W1 e w') => (show ∃ v, e = .returned (.tuple #[v, .int .i64 1]) ∧ Below W1.heap.size W1 w' by
      rw [nodes_bad h1] at hh
      obtain ⟨v, e1, _, e2⟩ := hh
      exact ⟨v, e1, e2⟩))
    clear hR h1 h2 h hL
    go_enter Try.func8, Try.ntmps8
    go_wp2_with (first | (go_at_call 18; (with_reducible refine NB.out.mono ?_); rintro e w2 ⟨v, rfl, hb2⟩; obtain ⟨⟨z0, z1, z2⟩, fz⟩ := cells3B (KZ.out _ hb2); have f0 := fz 0; have f1 := fz 1; have f2 := fz 2; clear fz) | fail)
    exact bodyPost_ret (v := .tuple #[.agg #[.int .i64 0, .int .i64 0, .int .i64 0], .bool false, .int .i64 1]) (by simp [results, Try.results8, go_sem, z0, z1, z2]) rfl (sug_ret HR.out (by repeat (first | with_reducible exact below_next bw hb2 | with_reducible refine Below.setCell ?_ (show w.heap.size ≤ W0.heap.size from g0w) _)))
  · have hmay := h1
    unfold mayB at hmay
    rw [Bool.and_eq_true, Bool.and_eq_true, Bool.and_eq_true, Bool.and_eq_true, decide_eq_true_iff, decide_eq_true_iff] at hmay
    obtain ⟨⟨⟨hc, hl⟩, hn1, hn5⟩, hall⟩ := hmay
    obtain ⟨m, hm⟩ : ∃ m : Nat, nodes = (m : Int) := ⟨nodes.toNat, by omega⟩
    have NG := Lib.hid (ND.out.mono fun e w' (hh : IntsErr (nodesC ep nx sd l nodes) W1 e w') => (show ∃ v, e = .returned (.tuple #[v, .int .i64 0]) ∧ OwnsI w' W1.heap.size v (nodesB (itsB l sd) nodes.toNat) ∧ Below W1.heap.size W1 w' by
      unfold nodesC at hh
      rw [h1] at hh
      exact hh))
    cases x2
    · have HR := Lib.hid (show R = ((0, 0, 0), false, 1) by rw [← hR]; unfold sugC; rw [h1, h2]; rfl)
      clear hR h1 h2 h hL hc hl hall hn1 hn5 hm
      go_enter Try.func8, Try.ntmps8
      go_wp2_with (first | (go_at_call 18; (with_reducible refine NG.out.mono ?_); rintro e w2 ⟨v, rfl, _, hb2⟩; obtain ⟨⟨q0, q1, q2⟩, p0, p1, p2⟩ := KP.out _ hb2) | (go_at_call 21; (with_reducible refine (PC.out _).mono ?_); rintro e w3 ⟨rfl, hb3⟩; have hb13 := below_next hb2 hb3; obtain ⟨⟨z0, z1, z2⟩, fz⟩ := cells3B (KZ.out _ hb13); have f0 := fz 0; have f1 := fz 1; have f2 := fz 2; clear fz) | fail)
      exact bodyPost_ret (v := .tuple #[.agg #[.int .i64 0, .int .i64 0, .int .i64 0], .bool false, .int .i64 1]) (by simp [results, Try.results8, go_sem, z0, z1, z2]) rfl (sug_ret HR.out (by repeat (first | with_reducible exact below_next bw hb13 | with_reducible refine Below.setCell ?_ (show w.heap.size ≤ W0.heap.size from g0w) _)))
    · have hsd := (chkC_parts hc).2.2.1
      have hmt : nodes.toNat = m := by rw [hm, Int.toNat_natCast]
      have hRe : R = match firstG l sd m (ph, pl, psl) with | none => ((0, 0, 0), false, 0) | some x => if (appC ep nx sd x.1 x.2.1 x.2.2).e = 0 then (x, true, 0) else ((0, 0, 0), false, 2) := by
        rw [← hR]; unfold sugC; rw [h1, h2, hmt]; rfl
      rw [hmt] at NG
      have hSl : (nodesB (itsB l sd) m).length = m := nodesB_len _ _
      have hSb := nodesB_bd hl hsd.2 m
      have hn := h.1
      have hm1 : 1 ≤ m ∧ m ≤ 5 := by omega
      have h24 : 1 ≤ n ∧ n ≤ 24 := by omega
      have DV := Lib.hid (fun W hh hh2 => divide_any ep nx a n c sd a2 n2 cp2 l W hh hh2 hc hl)
      have HLD := Lib.hid hl
      have HDL := Lib.hid (show ∀ ps : List Pt, DivOk l sd sd.length ps → ps.length = n from fun ps hd => by rw [div_len hd, hn])
      obtain ⟨G, hG⟩ : ∃ G, firstG l sd m (ph, pl, psl) = G := ⟨_, rfl⟩
      have FE := Lib.hid (fun ps (hd : DivOk l sd sd.length ps) b off c => (first_eq hd m (ph, pl, psl) b off c).trans hG)
      rw [hG] at hRe
      obtain ⟨S, hS⟩ : ∃ S, nodesB (itsB l sd) m = S := ⟨_, rfl⟩
      rw [hS] at NG hSl hSb FE
      have AP := Lib.hid (fun k id at_ W hh => capply_any ep nx a n c sd k id at_ W hh)
      obtain ⟨⟨k, id, at_⟩, hg⟩ : ∃ g, G.getD (0, 0, 0) = g := ⟨_, rfl⟩
      obtain ⟨sm, hs⟩ : ∃ s, G.isSome = s := ⟨_, rfl⟩
      have F1 := Lib.hid (fun W (b off cq : Nat) (ps : List Pt) (aS : Option Addr) (cS : Nat) (hd : DivOk l sd sd.length ps) (hA : RArg encPt 6 W (some ⟨b, off, none⟩) n cq ps) (hx : ∀ x ∈ ps, Arg W x.a x.n x.c x.ps) (hSA : RArg encI 1 W aS m cS S) => (show Calls Try.prog 22 #[.slice (some ⟨b, off, none⟩) n cq, .slice aS m cS, .agg #[.int .i64 ph, .int .i64 pl, .int .i64 psl]] W fun e w' => e = .returned (.tuple #[.agg #[.int .i64 k, .int .i64 id, .int .i64 at_], .bool sm]) ∧ Below W.heap.size W w' by
        have := first25_any b off n cq ps aS m cS S ph pl psl W hA (fun x hx' => ⟨hx x hx', hd.good HLD.out x hx'⟩) h24 hSA hm1 hSb
        rw [FE.out ps hd] at this
        unfold SugPost at this
        rw [hg, hs] at this
        exact this))
      have HSL := Lib.hid hSl
      have HNW := Lib.hid (h.spotW (fun e => by rw [e] at hsd; simp at hsd))
      have HPN := Lib.hid (show ∀ ps : List Pt, DivOk l sd sd.length ps → ps ≠ [] from fun ps hd e => by have := HDL.out ps hd; rw [e] at this; simp at this; omega)
      have HRE := Lib.hid hRe
      have HGG := Lib.hid hg
      have HGS := Lib.hid hs
      clear hR h1 h2 h hL hc hl hall hn1 hn5 hm hsd hmt hRe hSl hSb hn hG hS hg hs
      go_enter Try.func8, Try.ntmps8
      go_upto_region 4 with (first | (go_at_call 18; (with_reducible refine NG.out.mono ?_); rintro e w2 ⟨v, rfl, hv, hb2⟩; obtain ⟨aS, cS, rfl, hAS⟩ := hv.rargN HSL.out; replace hAS := Lib.hid hAS; obtain ⟨⟨q0, q1, q2⟩, p0, p1, p2⟩ := KP.out _ hb2) | (go_at_call 21; (with_reducible refine (PC.out _).mono ?_); rintro e w3 ⟨rfl, hb3⟩; have hb13 := below_next hb2 hb3; have hAS3 := Lib.hid (hAS.out.below hb3)) | fail)
      have H13 := Lib.hid hb13
      have g13 : W1.heap.size ≤ w3.heap.size := hb13.size
      have gz : W0.heap.size < w3.heap.size := by omega
      go_cut [9] from 31 to 39 (fun bb wx => bb = .bool sm ∧ wx.heap[W0.heap.size]? = some (.cells #[.int .i64 k, .int .i64 id, .int .i64 at_] 33) ∧ Hid (w3.grownBy wx (some W0.heap.size)))
      case first =>
        have HBD : Below w3.heap.size w3 w3 := Below.refl _ _
        obtain ⟨⟨q0, q1, q2⟩, p0, p1, p2⟩ := KP.out _ (below_next H13.out HBD)
        go_region_held3 (fun WW => (WW.cell? ⟨w.heap.size, 0, none⟩ = some (.int .i64 ep) ∧ WW.cell? ⟨w.heap.size, 1, none⟩ = some (.int .i64 nx) ∧ WW.cell? ⟨w.heap.size, 2, none⟩ = some (.slice a n c)) ∧ WW.cell? ⟨Wa.heap.size, 0, none⟩ = some (.int .i64 ph) ∧ WW.cell? ⟨Wa.heap.size, 1, none⟩ = some (.int .i64 pl) ∧ WW.cell? ⟨Wa.heap.size, 2, none⟩ = some (.int .i64 psl)) (first | exact KPS.out _ (by repeat (first | with_reducible exact SameP.refl _ _ | with_reducible refine SameP.set ?_ _ _)) | exact KP.out _ (below_next H13.out (by repeat (first | with_reducible exact HBD | with_reducible refine toDB ?_ | with_reducible refine Below.alloc ?_ (by first | exact Nat.le_refl _ | omega | (simp; done) | (simp; omega)) _ | with_reducible refine Below.setCell ?_ (by first | with_reducible exact Nat.le_refl _ | (dsimp only; omega)) _)))) ((first | (go_at_call 23; (with_reducible refine (DV.out _ (HP.out.below (below_next H13.out (by repeat (first | with_reducible exact HBD | with_reducible refine toDB ?_ | with_reducible refine Below.alloc ?_ (by first | exact Nat.le_refl _ | omega | (simp; done) | (simp; omega)) _ | with_reducible refine Below.setCell ?_ (by first | with_reducible exact Nat.le_refl _ | (dsimp only; omega)) _)))) (HL.out.below (below_next H13.out (by repeat (first | with_reducible exact HBD | with_reducible refine toDB ?_ | with_reducible refine Below.alloc ?_ (by first | exact Nat.le_refl _ | omega | (simp; done) | (simp; omega)) _ | with_reducible refine Below.setCell ?_ (by first | with_reducible exact Nat.le_refl _ | (dsimp only; omega)) _))))).mono ?_); rintro e wz ⟨v, ps, rfl, hv, hx, hd, hbz⟩; obtain ⟨gq, cq, rfl, hAq⟩ := hv.spotN encPt_len (HDL.out ps hd) h24.1; replace hAq := Lib.hid hAq; replace hx := Lib.hid hx; replace hd := Lib.hid hd; have HBD := below_next (w := w3) (by repeat (first | with_reducible exact HBD | with_reducible refine toDB ?_ | with_reducible refine Below.alloc ?_ (by first | exact Nat.le_refl _ | omega | (simp; done) | (simp; omega)) _ | with_reducible refine Below.setCell ?_ (by first | with_reducible exact Nat.le_refl _ | (dsimp only; omega)) _)) hbz; clear hv) | (go_at_call 22; (with_reducible refine (F1.out _ _ _ _ ps _ _ hd.out (hAq.out.below (by repeat (first | with_reducible exact Below.refl _ _ | with_reducible refine toDB ?_))) (fun x hx' => (hx.out x hx').below (by repeat (first | with_reducible exact Below.refl _ _ | with_reducible refine toDB ?_))) (hAS3.out.below (by repeat (first | with_reducible exact HBD | with_reducible refine toDB ?_ | with_reducible refine Below.alloc ?_ (by first | exact Nat.le_refl _ | omega | (simp; done) | (simp; omega)) _ | with_reducible refine Below.setCell ?_ (by first | with_reducible exact Nat.le_refl _ | (dsimp only; omega)) _)))).mono ?_); rintro e wy ⟨rfl, hby⟩; have HBD := below_next (w := w3) (by repeat (first | with_reducible exact HBD | with_reducible refine toDB ?_ | with_reducible refine Below.alloc ?_ (by first | exact Nat.le_refl _ | omega | (simp; done) | (simp; omega)) _ | with_reducible refine Below.setCell ?_ (by first | with_reducible exact Nat.le_refl _ | (dsimp only; omega)) _)) hby; have KPS := Lib.hid (fun W (hs : SameP W0.heap.size wy W) => samePP hs (KP.out _ (below_next H13.out HBD)) (by omega) (by omega)); obtain ⟨⟨z0, z1, z2⟩, fz⟩ := cells3B (KZ.out _ (below_next H13.out HBD)); have f0 := fz 0; have f1 := fz 1; have f2 := fz 2; clear fz) | fail))
        all_goals
          go_wp2_with fail
          go_meet
          exact ⟨rfl, set3B (KZ.out _ (below_next H13.out HBD)), Lib.hid (grown_trans (below_grown HBD) (grow3B _ _ _ _ _))⟩
      case rest =>
        obtain ⟨rfl, hgc, hgw⟩ := hcut
        have hsz : w3.heap.size ≤ wc.heap.size := hgw.out.size
        have gzc : W0.heap.size < wc.heap.size := by omega
        have hKc := samePP (W' := wc) (g := W0.heap.size) (fun p hp => rfl) (show (wc.cell? ⟨w.heap.size, 0, none⟩ = some (.int .i64 ep) ∧ wc.cell? ⟨w.heap.size, 1, none⟩ = some (.int .i64 nx) ∧ wc.cell? ⟨w.heap.size, 2, none⟩ = some (.slice a n c)) ∧ wc.cell? ⟨Wa.heap.size, 0, none⟩ = some (.int .i64 ph) ∧ wc.cell? ⟨Wa.heap.size, 1, none⟩ = some (.int .i64 pl) ∧ wc.cell? ⟨Wa.heap.size, 2, none⟩ = some (.int .i64 psl) by
          have hK := KP.out _ H13.out
          have n1 : (some w.heap.size : Option Nat) ≠ some W0.heap.size := fun e => by injection e; omega
          have n2 : (some Wa.heap.size : Option Nat) ≠ some W0.heap.size := fun e => by injection e; omega
          exact ⟨⟨World.grownBy.cell hgw.out (a := ⟨w.heap.size, 0, none⟩) hK.1.1 n1, World.grownBy.cell hgw.out (a := ⟨w.heap.size, 1, none⟩) hK.1.2.1 n1, World.grownBy.cell hgw.out (a := ⟨w.heap.size, 2, none⟩) hK.1.2.2 n1⟩, World.grownBy.cell hgw.out (a := ⟨Wa.heap.size, 0, none⟩) hK.2.1 n2, World.grownBy.cell hgw.out (a := ⟨Wa.heap.size, 1, none⟩) hK.2.2.1 n2, World.grownBy.cell hgw.out (a := ⟨Wa.heap.size, 2, none⟩) hK.2.2.2 n2⟩) (by omega) (by omega)
        obtain ⟨⟨q0, q1, q2⟩, _⟩ := hKc
        obtain ⟨⟨z0, z1, z2⟩, fz⟩ := cells3B hgc
        have f0 := fz 0
        have f1 := fz 1
        have f2 := fz 2
        have HPC := Lib.hid ((HP.out.below H13.out).grownG hgw.out (fun p hp e => by have h1 := HNW.out p hp; injection e; omega))
        have hbw3 := below_next bw H13.out
        have hbc : Below w.heap.size w wc := hbw3.grown hgw.out (hbw3.size) (fun q hq => by injection hq with hq; omega)
        have HGC := Lib.hid hgc
        clear fz hgc
        cases sm with
        | false =>
          have hGn : G = none := by
            cases G with
            | none => rfl
            | some x => have := HGS.out; cases this
          have HR := Lib.hid (show R = ((0, 0, 0), false, 0) by rw [HRE.out, hGn])
          clear hGn
          go_wp2_with fail
          exact bodyPost_ret (v := .tuple #[.agg #[.int .i64 0, .int .i64 0, .int .i64 0], .bool false, .int .i64 0]) (by simp [results, Try.results8, go_sem, z0, z1, z2]) rfl (sug_ret HR.out (by repeat (first | with_reducible exact hbc | with_reducible refine Below.setCell ?_ (show w.heap.size ≤ W0.heap.size from g0w) _)))
        | true =>
          have hGs : G = some (k, id, at_) := by
            cases G with
            | none => have := HGS.out; cases this
            | some x => have := HGG.out; exact congrArg some this
          have hRs := HRE.out
          rw [hGs] at hRs
          dsimp only at hRs
          obtain ⟨er, he⟩ : ∃ er, (appC ep nx sd k id at_).e = er := ⟨_, rfl⟩
          rw [he] at hRs
          have AP2 := Lib.hid ((AP.out k id at_ wc HPC.out).mono fun e w' (hh : MadePost (appC ep nx sd k id at_) wc e w') => (show ∃ (y0 y1 : Int) (u1 : Option Addr) (u2 u3 : Nat) (u4 : Option Addr) (u5 u6 : Nat) (u7 : Option Addr) (u8 u9 : Nat), e = .returned (.tuple #[.agg #[.int .i64 y0, .int .i64 y1, .slice u1 u2 u3], .slice u4 u5 u6, .slice u7 u8 u9, .int .i64 er]) ∧ Below wc.heap.size wc w' by
            obtain ⟨aa, na, ca, ab, nb, cb, ac, nc, cc, e1, _, _, _, hbb, _⟩ := hh
            rw [he] at e1
            exact ⟨_, _, _, _, _, _, _, _, _, _, _, e1, hbb⟩))
          have hb3 : ∀ (y0 y1 : Int) (v0 : Value) (wy : World), Below wc.heap.size wc wy → Below w.heap.size w (wy.alloc (.cells #[.int .i64 y0, .int .i64 y1, v0] 24)) := fun y0 y1 v0 wy hy => by
            have h1 := below_next hbc hy
            exact h1.alloc h1.size _
          have KC := Lib.hid (fun W (hb : Below wc.heap.size wc W) => cells3B ((hb.block _ gzc).trans HGC.out))
          by_cases he0 : er = 0
          · have e9 : (er != 0) = false := by simpa using he0
            have HR := Lib.hid (show R = ((k, id, at_), true, 0) by rw [hRs, if_pos he0])
            clear hRs hGs he he0
            go_wp2_with (first | (go_at_call 15; (with_reducible refine AP2.out.mono ?_); rintro e wy ⟨y0, y1, u1, u2, u3, u4, u5, u6, u7, u8, u9, rfl, hby⟩; have hb9 := hb3 y0 y1 (.slice u1 u2 u3) _ hby; obtain ⟨⟨z0, z1, z2⟩, fz⟩ := KC.out _ (hby.alloc hby.size (.cells #[.int .i64 y0, .int .i64 y1, .slice u1 u2 u3] 24)); have f0 := fz 0; have f1 := fz 1; have f2 := fz 2; clear fz) | fail)
            exact bodyPost_ret (v := .tuple #[.agg #[.int .i64 k, .int .i64 id, .int .i64 at_], .bool true, .int .i64 0]) (by simp [results, Try.results8, go_sem, z0, z1, z2]) rfl (sug_ret HR.out (by repeat (first | with_reducible exact hb9 | with_reducible refine Below.setCell ?_ (show w.heap.size ≤ W0.heap.size from g0w) _)))
          · have e9 : (er != 0) = true := by simpa using he0
            have HR := Lib.hid (show R = ((0, 0, 0), false, 2) by rw [hRs, if_neg he0])
            clear hRs hGs he he0
            go_wp2_with (first | (go_at_call 15; (with_reducible refine AP2.out.mono ?_); rintro e wy ⟨y0, y1, u1, u2, u3, u4, u5, u6, u7, u8, u9, rfl, hby⟩; have hb9 := hb3 y0 y1 (.slice u1 u2 u3) _ hby; obtain ⟨⟨z0, z1, z2⟩, fz⟩ := KC.out _ (hby.alloc hby.size (.cells #[.int .i64 y0, .int .i64 y1, .slice u1 u2 u3] 24)); have f0 := fz 0; have f1 := fz 1; have f2 := fz 2; clear fz) | fail)
            exact bodyPost_ret (v := .tuple #[.agg #[.int .i64 0, .int .i64 0, .int .i64 0], .bool false, .int .i64 2]) (by simp [results, Try.results8, go_sem, z0, z1, z2]) rfl (sug_ret HR.out (by repeat (first | with_reducible exact hb9 | with_reducible refine Below.setCell ?_ (show w.heap.size ≤ W0.heap.size from g0w) _)))
end Go.Proofs.Ytihpojllalnmcaa
