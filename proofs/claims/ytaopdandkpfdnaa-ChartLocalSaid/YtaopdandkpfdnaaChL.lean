/-
  THE STATEMENT 'splicelaw08.ChartLocal'.
-/
import Derived.Test.YtaopdandkpfdnaaChJ
import Derived.Test.YtaopdandkpfdnaaChW
import Derived.Deep.DeepCutAuto
import Derived.BigQuiet
namespace Go.Proofs.Ytaopdandkpfdnaa
open Go.RowKit Go.Shelf Go.ChangeShapes Go.WideShapes Go.Deep

theorem box4W {w W : World} {t : TypeId} {x y z u : Value} (hb : Below (w.alloc (.cells #[x, y, z, u] t)).heap.size (w.alloc (.cells #[x, y, z, u] t)) W) :
    W.cell? ⟨w.heap.size, 0, none⟩ = some x ∧ W.cell? ⟨w.heap.size, 1, none⟩ = some y ∧ W.cell? ⟨w.heap.size, 2, none⟩ = some z ∧ W.cell? ⟨w.heap.size, 3, none⟩ = some u := by
  have hs : w.heap.size < (w.alloc (.cells #[x, y, z, u] t)).heap.size := by simp
  have c := fun i => hb.cell (p := ⟨w.heap.size, i, none⟩) hs
  exact ⟨(c 0).trans (cell_of_row _ _ 0 _ _ _ (heap_alloc_new _ _)), (c 1).trans (cell_of_row _ _ 1 _ _ _ (heap_alloc_new _ _)), (c 2).trans (cell_of_row _ _ 2 _ _ _ (heap_alloc_new _ _)), (c 3).trans (cell_of_row _ _ 3 _ _ _ (heap_alloc_new _ _))⟩
theorem app_bad {ep nx k id at_ : Int} {l : List Sd} {M : Made} (hM : appC ep nx l k id at_ = M) (he : ¬ M.e = 0) : M.old = [] ∧ M.fresh = [] := by
  unfold appC at hM
  split at hM
  · subst hM; exact ⟨rfl, rfl⟩
  · split at hM
    · subst hM; exact ⟨rfl, rfl⟩
    · split at hM
      · subst hM; exact ⟨rfl, rfl⟩
      · unfold goodM at hM
        dsimp only at hM
        split at hM
        · subst hM; exact absurd rfl he
        · subst hM; exact ⟨rfl, rfl⟩
theorem wp_region_cls {ι : Type} (f : ι → World) {P : Program} {id : Nat} {Q : Exit → Act → World → Prop} {a : Act} {w : World} {l : List Oper} (hm : P.follows .mixedOrders = true) (hB : Region.lexB .any l.toArray = true) (n0 : ι) (h0 : f n0 = w.drew)
    (h : wpQuiet P l.toArray (fun w' => ∃ n, w' = f n) (fun a' => ∀ w', (∃ n, w' = f n) → Q .normal a' w') l a) : (Code.region id l.toArray true).wp P Q a w :=
  wp_region_quiet (C := fun w' => ∃ n, w' = f n) hm hB ⟨n0, h0.symm⟩ (by simpa using h)
set_option maxRecDepth 100000 in
set_option maxHeartbeats 16000000 in
theorem chartLocal_walk (nodes shards : Int) (a : Option Addr) (n c : Nat) (G : List Gd) (k0 : Int) (w : World) (_hnodes : (Lit.int .i64 nodes).wf = true) (_hshards : (Lit.int .i64 shards).wf = true) (h : RArg encG 3 w a n c G) :
    Calls Try.prog 10 #[.int .i64 nodes, .int .i64 shards, .agg #[.slice a n c, .int .i64 k0]] w (TruePost w) := by
  obtain ⟨W1, hW1⟩ : ∃ W1, w.alloc (.cells #[.slice a n c, .int .i64 k0] 72) = W1 := ⟨_, rfl⟩
  have bw : Below w.heap.size w W1 := by rw [← hW1]; exact (Below.refl _ _).alloc (Nat.le_refl _) _
  have g1 : w.heap.size < W1.heap.size := by rw [← hW1]; simp
  have K := Lib.hid (fun W (h : Below W1.heap.size W1 W) => box2W (w := w) (t := 72) (x := .slice a n c) (y := .int .i64 k0) (W := W) (by rw [hW1]; exact h))
  obtain ⟨q0, q1⟩ := K.out _ (Below.refl _ _)
  have WK := Lib.hid (show Calls Try.prog 37 #[.int .i64 nodes, .int .i64 shards, .slice a n c, .int .i64 30] W1 (WalkPost (walkL nodes shards (G.take 30)) W1) from walk_any nodes shards a n c G 30 (by decide) W1 (h.below bw))
  obtain ⟨P, hP⟩ : ∃ P, walkL nodes shards (G.take 30) = P := ⟨_, rfl⟩
  have PC := Lib.hid (fun d (hd : P.getLast? = some d) => walk_last (nodes := nodes) (shards := shards) (t := G.take 30) (d := d) (by rw [hP]; exact hd))
  rw [hP] at WK
  obtain ⟨t1, t2⟩ := tmod_bd 4096 k0 (by omega)
  have ky0 := Int.emod_nonneg (k0.tmod 4096 + 4096) (show (4096 : Int) ≠ 0 by omega)
  have ky1 := Int.emod_lt_of_pos (k0.tmod 4096 + 4096) (show (0 : Int) < 4096 by omega)
  have HG := Lib.hid (h.below bw)
  have hnn := h.1
  have hnz : (n : Int) ≤ 9223372036854775807 := by have := h.2.1; omega
  have hnc : n ≤ c := by have := h.2.2.1; omega
  clear hP h
  by_cases hn0 : n = 0
  · have hn1 : (n : Int) = 0 := by omega
    replace hnn := Lib.hid hnn
    replace hn0 := Lib.hid hn0
    go_enter Try.func10, Try.ntmps10
    go_wp2_with (first | (go_at_call 37; (with_reducible refine WK.out.mono ?_); rintro e w3 ⟨cs, z, av, nv, cv, rfl, _, _, _, _, _, b3⟩; obtain ⟨W4, hW4⟩ : ∃ W4, w3.alloc (.cells #[.int .i64 z.ep, .int .i64 z.nx, .slice z.a z.n z.c] 24) = W4 := ⟨_, rfl⟩; have b4 : Below w3.heap.size w3 W4 := (by rw [← hW4]; exact (Below.refl _ _).alloc (Nat.le_refl _) _); obtain ⟨y0, y1⟩ := K.out _ (below_next b3 b4)) | (go_at_call 14; (with_reducible refine (awake8_any _).mono ?_); rintro e w9 ⟨rfl, hb9⟩))
    go_ret
    exact ⟨rfl, below_next bw (below_next b3 (below_next b4 hb9))⟩
  · have hn1 : ¬ (n : Int) = 0 := by omega
    obtain ⟨m, hnm⟩ : ∃ m, n = m + 1 := ⟨n - 1, by omega⟩
    have hmz : (m : Int) < (n : Int) := by omega
    have hm0 : (0 : Int) ≤ (m : Int) := by omega
    have hwn : IntKind.i64.wrap ((n : Int) - 1) = (m : Int) := by rw [IntWalk.i64_in _ (by omega)]; omega
    obtain ⟨b, off, e, hb, h0, h1, h2⟩ := HG.out.2.2.2.2.chg m (by omega)
    subst e
    obtain ⟨⟨kk, id, at_⟩, hg⟩ : ∃ g, G[m]! = g := ⟨_, rfl⟩
    rw [hg] at h0 h1 h2
    dsimp only at h0 h1 h2
    have KG := Lib.hid (fun W (h : Below W1.heap.size W1 W) => (show W.cell? ⟨b, off + m * 3, none⟩ = some (.int .i64 kk) ∧ W.cell? ⟨b, off + m * 3 + 1, none⟩ = some (.int .i64 id) ∧ W.cell? ⟨b, off + m * 3 + 2, none⟩ = some (.int .i64 at_) from
        ⟨(h.cell (p := ⟨b, off + m * 3, none⟩) hb).trans h0, (h.cell (p := ⟨b, off + m * 3 + 1, none⟩) hb).trans h1, (h.cell (p := ⟨b, off + m * 3 + 2, none⟩) hb).trans h2⟩))
    replace hg := Lib.hid hg
    replace hnn := Lib.hid hnn
    replace hnm := Lib.hid hnm
    clear h0 h1 h2 HG
    go_enter Try.func10, Try.ntmps10
    go_upto_region 4 with (go_at_call 37; (with_reducible refine WK.out.mono ?_); rintro e w3 ⟨cs, z, av, nv, cv, rfl, _, hlast, _, _, hz, b3⟩; obtain ⟨W4, hW4⟩ : ∃ W4, w3.alloc (.cells #[.int .i64 z.ep, .int .i64 z.nx, .slice z.a z.n z.c] 24) = W4 := ⟨_, rfl⟩; have b4 : Below w3.heap.size w3 W4 := (by rw [← hW4]; exact (Below.refl _ _).alloc (Nat.le_refl _) _); have g4 : w3.heap.size < W4.heap.size := (by rw [← hW4]; simp); obtain ⟨y0, y1⟩ := K.out _ (below_next b3 b4))
    rw [show ((n : Int) == 0) = false from by simpa using hn1]
    replace hW1 := Lib.hid hW1
    replace hW4 := Lib.hid hW4
    have ck := PC.out _ hlast
    obtain ⟨ep, nx, za, zn, zc, l⟩ := z
    dsimp only [Cr.cd] at ck hz hlast hW4 ⊢
    obtain ⟨M, hM⟩ : ∃ M, appC ep nx l kk id at_ = M := ⟨_, rfl⟩
    have AP := Lib.hid (fun W hh => hM ▸ capply_any ep nx za zn zc l kk id at_ W hh)
    have HZ := Lib.hid (hz.below b4)
    obtain ⟨u0, u1, u2⟩ := box3D (w := w3) (t := 24) (x := .int .i64 ep) (y := .int .i64 nx) (z := .slice za zn zc) (w' := W4) (by rw [hW4.out]; exact Below.refl _ _)
    obtain ⟨v0, v1, v2⟩ := KG.out _ (below_next b3 b4)
    have gw : w.heap.size < W4.heap.size := Nat.lt_of_lt_of_le g1 (Nat.le_trans b3.size b4.size)
    have gb : b < W4.heap.size := Nat.lt_of_lt_of_le hb (Nat.le_trans b3.size b4.size)
    have KK := Lib.hid (fun W (h : Below W4.heap.size W4 W) => (show W.cell? ⟨w.heap.size, 0, none⟩ = some (.slice (some ⟨b, off, none⟩) n c) ∧ W.cell? ⟨w3.heap.size, 0, none⟩ = some (.int .i64 ep) ∧ W.cell? ⟨w3.heap.size, 1, none⟩ = some (.int .i64 nx) ∧ W.cell? ⟨w3.heap.size, 2, none⟩ = some (.slice za zn zc) ∧ W.cell? ⟨b, off + m * 3, none⟩ = some (.int .i64 kk) ∧ W.cell? ⟨b, off + m * 3 + 1, none⟩ = some (.int .i64 id) ∧ W.cell? ⟨b, off + m * 3 + 2, none⟩ = some (.int .i64 at_) from
      ⟨(h.cell (p := ⟨w.heap.size, 0, none⟩) gw).trans y0, (h.cell (p := ⟨w3.heap.size, 0, none⟩) g4).trans u0, (h.cell (p := ⟨w3.heap.size, 1, none⟩) g4).trans u1, (h.cell (p := ⟨w3.heap.size, 2, none⟩) g4).trans u2, (h.cell (p := ⟨b, off + m * 3, none⟩) gb).trans v0, (h.cell (p := ⟨b, off + m * 3 + 1, none⟩) gb).trans v1, (h.cell (p := ⟨b, off + m * 3 + 2, none⟩) gb).trans v2⟩))
    have KY := Lib.hid (fun W (h : Below W4.heap.size W4 W) => ((h.cell (p := ⟨w.heap.size, 1, none⟩) gw).trans y1))
    replace hM := Lib.hid hM
    replace ck := Lib.hid ck
    clear hlast hz q0 y0 y1 u0 u1 u2 v0 v1 v2
    go_cut [9, 10, 11, 12] from 35 to 49 (fun pd po pf pe wx => ∃ (g2 : Nat) (ad : Option Addr) (nd cd : Nat) (ao : Option Addr) (no co : Nat) (ax : Option Addr) (nax cax : Nat), pd = .pointer (some ⟨g2, 0, none⟩) ∧ po = .slice ao no co ∧ pf = .slice ax nax cax ∧ pe = .int .i64 M.e ∧ wx.cell? ⟨g2, 0, none⟩ = some (.int .i64 M.ep) ∧ wx.cell? ⟨g2, 1, none⟩ = some (.int .i64 M.nx) ∧ wx.cell? ⟨g2, 2, none⟩ = some (.slice ad nd cd) ∧ g2 < wx.heap.size ∧ RArg encS 4 wx ad nd cd M.l ∧ RArg encS 4 wx ao no co M.old ∧ RArg encS 4 wx ax nax cax M.fresh ∧ Below W4.heap.size W4 wx)
    case first =>
      have HBD : Below W4.heap.size W4 W4 := Below.refl _ _
      go_region_held3 (fun W => W.cell? ⟨w.heap.size, 0, none⟩ = some (.slice (some ⟨b, off, none⟩) n c) ∧ W.cell? ⟨w3.heap.size, 0, none⟩ = some (.int .i64 ep) ∧ W.cell? ⟨w3.heap.size, 1, none⟩ = some (.int .i64 nx) ∧ W.cell? ⟨w3.heap.size, 2, none⟩ = some (.slice za zn zc) ∧ W.cell? ⟨b, off + m * 3, none⟩ = some (.int .i64 kk) ∧ W.cell? ⟨b, off + m * 3 + 1, none⟩ = some (.int .i64 id) ∧ W.cell? ⟨b, off + m * 3 + 2, none⟩ = some (.int .i64 at_)) (exact KK.out _ (by repeat (first | exact HBD | refine Below.drew ?_ | refine Below.alloc ?_ (by first | omega | (simp; omega)) _ | refine Below.setCell ?_ (by first | exact Nat.le_refl _ | omega | (simp; omega)) _))) ((first | (go_at_call 29; (with_reducible refine (AP.out _ (HZ.out.below (by repeat (first | exact HBD | refine Below.drew ?_ | refine Below.alloc ?_ (by first | omega | (simp; omega)) _ | refine Below.setCell ?_ (by first | exact Nat.le_refl _ | omega | (simp; omega)) _)))).mono ?_); rintro e wz ⟨ad, nd, cd, ao, no, co, ax, nax, cax, rfl, hL', hO', hF', hbz, hN', hNo', hNf', _⟩; have HBD := below_next (w := W4) (by repeat (first | exact HBD | refine Below.drew ?_ | refine Below.alloc ?_ (by first | omega | (simp; omega)) _ | refine Below.setCell ?_ (by first | exact Nat.le_refl _ | omega | (simp; omega)) _)) hbz; have HBZ := HBD.size; have kzc := (fun (i : Nat) h => hbz.cell (p := ⟨W4.heap.size, i, none⟩) h); have kzf := (fun (i : Nat) h => hbz.frozen (p := ⟨W4.heap.size, i, none⟩) h)) | fail))
      all_goals
        go_wp2_with fail
        go_meet
        first
          | exact ⟨wz.heap.size, ad, nd, cd, ao, no, co, ax, nax, cax, rfl, rfl, rfl, rfl, (cellK rfl).trans rfl, (cellK rfl).trans rfl, (cellK rfl).trans rfl, (by simp), hL'.below ((Below.refl _ _).alloc (Nat.le_refl _) _), hO'.below ((Below.refl _ _).alloc (Nat.le_refl _) _), hF'.below ((Below.refl _ _).alloc (Nat.le_refl _) _), (by repeat (first | exact HBD | refine Below.drew ?_ | refine Below.alloc ?_ (by first | omega | (simp; omega)) _ | refine Below.setCell ?_ (by first | exact Nat.le_refl _ | omega | (simp; omega)) _))⟩
          | exact ⟨W4.heap.size, ad, nd, cd, ao, no, co, ax, nax, cax, rfl, rfl, rfl, rfl, (boxZ3 hbz).1, (boxZ3 hbz).2.1, (boxZ3 hbz).2.2, (by have := hbz.size; simp at this ⊢; omega), hL'.only (by repeat (first | exact Only.refl _ _ | refine Only.set ?_ _ _ | refine Only.drewR ?_)) (offN hN'), hO'.only (by repeat (first | exact Only.refl _ _ | refine Only.set ?_ _ _ | refine Only.drewR ?_)) (offN hNo'), hF'.only (by repeat (first | exact Only.refl _ _ | refine Only.set ?_ _ _ | refine Only.drewR ?_)) (offN hNf'), (by repeat (first | exact HBD | refine Below.drew ?_ | refine Below.alloc ?_ (by first | omega | (simp; omega)) _ | refine Below.setCell ?_ (by first | exact Nat.le_refl _ | omega | (simp; omega)) _))⟩
    case rest =>
      obtain ⟨g2, ad, nd, cd, ao, no, co, ax, nax, cax, rfl, rfl, rfl, rfl, d0, d1, d2, hg2, hL, hO, hF, bC⟩ := hcut
      obtain ⟨y0, u0, u1, u2, _, _, _⟩ := KK.out _ bC
      have y1 := KY.out _ bC
      have bTop := Lib.hid (below_next bw (below_next b3 (below_next b4 bC)))
      by_cases he : M.e = 0
      · obtain ⟨c1, c2, T, D, e1, e2, ⟨o1, o2⟩, ⟨f1, f2⟩, hlo, hhi⟩ := app_good hM.out he
        have he1 : (M.e != 0) = false := by simpa using he
        have hlz : l.length ≤ 24 := (chkC_parts c1).2.2.1.2
        have hlM : M.l.length + M.old.length = l.length + M.fresh.length := by
          have x1 := congrArg List.length e1
          have x2 := congrArg List.length e2
          simp only [List.length_append] at x1 x2
          omega
        obtain ⟨O, hOe⟩ : ∃ O, M.old = O := ⟨_, rfl⟩
        obtain ⟨F, hFe⟩ : ∃ F, M.fresh = F := ⟨_, rfl⟩
        rw [hOe] at hO o1 o2 hlo hhi hlM e1
        rw [hFe] at hF f1 f2 hlo hhi hlM e2
        go_upto_region 8 with fail
        generalize (k0.tmod 4096 + 4096) % 4096 = key at ky0 ky1 ⊢
        obtain ⟨s, t, fs, ft, hin, hor⟩ := local_owner (key := key) (T := T) (O := O) (F := F) (D := D) (by rw [← e1]; exact chkC_cnt c1 ky0 ky1) (by rw [← e2]; exact chkC_cnt c2 ky0 ky1)
        rw [← e1] at fs
        rw [← e2] at ft
        have OW1 := Lib.hid (fun W (hh : RArg encS 4 W za zn zc l) => (show Calls Try.prog 19 #[.agg #[.int .i64 ep, .int .i64 nx, .slice za zn zc], .int .i64 key] W (SdPost (s, true) W) from by
          have := owner_any ep nx key za zn zc l W hh
          rwa [show srchC (fun x => decide (x.2.1 ≤ key) && decide (key < x.2.2.1)) ep nx l = (s, true) from srchC_find c1 fs] at this))
        have OW2 := Lib.hid (fun W (hh : RArg encS 4 W ad nd cd M.l) => (show Calls Try.prog 19 #[.agg #[.int .i64 M.ep, .int .i64 M.nx, .slice ad nd cd], .int .i64 key] W (SdPost (t, true) W) from by
          have := owner_any M.ep M.nx key ad nd cd M.l W hh
          rwa [show srchC (fun x => decide (x.2.1 ≤ key) && decide (key < x.2.2.1)) M.ep M.nx M.l = (t, true) from srchC_find c2 ft] at this))
        obtain ⟨X, hX⟩ : ∃ X, (O.any fun x => eqSB x s) = X := ⟨_, rfl⟩
        have hY : (F.any fun x => eqSB x t) = X := by rw [← hin, hX]
        have HXs := Lib.hid (show X = false → eqSB s t = true from fun q => (eqSB_iff s t).2 (hor.resolve_left (by rw [hX, q]; simp)))
        obtain ⟨s0, s1, s2, s3⟩ := s
        obtain ⟨r0, r1, r2, r3⟩ := t
        have HX := Lib.hid hX
        have HY := Lib.hid hY
        have hzn := (HZ.out).1
        have hdn := hL.1
        have hon := hO.1
        have hfn := hF.1
        have hoc : no ≤ co := by have := hO.2.2.1; omega
        have hfc : nax ≤ cax := by have := hF.2.2.1; omega
        obtain ⟨mo, hmo⟩ : ∃ m, no = m + 1 := ⟨no - 1, by omega⟩
        obtain ⟨mf, hmf⟩ : ∃ m, nax = m + 1 := ⟨nax - 1, by omega⟩
        have no2 : (no : Int) ≤ 2 := by omega
        have nf2 : (nax : Int) ≤ 2 := by omega
        have hwo : IntKind.i64.wrap ((no : Int) - 1) = (mo : Int) := by rw [IntWalk.i64_in _ (by omega)]; omega
        have hwf : IntKind.i64.wrap ((nax : Int) - 1) = (mf : Int) := by rw [IntWalk.i64_in _ (by omega)]; omega
        have hw1 : IntKind.i64.wrap ((zn : Int) - (no : Int)) = (zn : Int) - (no : Int) := IntWalk.i64_in _ (by omega)
        have hw2 : IntKind.i64.wrap ((zn : Int) - (no : Int) + (nax : Int)) = (nd : Int) := by rw [IntWalk.i64_in _ (by omega)]; omega
        obtain ⟨bo, oo, eo, hbo, _, l1, _, _⟩ := hO.2.2.2.2.shard 0 (by omega)
        obtain ⟨bo', oo', eo', _, _, _, l2, _⟩ := hO.2.2.2.2.shard mo (by omega)
        obtain ⟨bf, of, ef, hbf, _, l3, _, _⟩ := hF.2.2.2.2.shard 0 (by omega)
        obtain ⟨bf', of', ef', _, _, _, l4, _⟩ := hF.2.2.2.2.shard mf (by omega)
        rw [eo] at eo'
        rw [ef] at ef'
        injection eo' with eo'
        injection eo' with eo1 eo2 _
        injection ef' with ef'
        injection ef' with ef1 ef2 _
        subst eo1 eo2 ef1 ef2 eo ef
        rw [show O.length - 1 = mo by omega, show F.length - 1 = mf by omega] at hhi
        generalize O[0]!.2.1 = lo0 at l1 hlo
        generalize F[0]!.2.1 = lo1 at l3 hlo
        generalize O[mo]!.2.2.1 = hi0 at l2 hhi
        generalize F[mf]!.2.2.1 = hi1 at l4 hhi
        subst hlo hhi
        have ho9 : 0 < no := by omega
        have hf9 : 0 < nax := by omega
        have ho0 : (0 : Int) < (no : Int) := by omega
        have hf0 : (0 : Int) < (nax : Int) := by omega
        have hmo1 : (mo : Int) < (no : Int) := by omega
        have hmf1 : (mf : Int) < (nax : Int) := by omega
        have hmo0 : (0 : Int) ≤ (mo : Int) := by omega
        have hmf0 : (0 : Int) ≤ (mf : Int) := by omega
        clear hX hY hin hor fs ft e1 e2 c1 c2 he hlM
        replace hOe := Lib.hid hOe
        replace hFe := Lib.hid hFe
        replace hzn := Lib.hid hzn
        replace hdn := Lib.hid hdn
        replace hon := Lib.hid hon
        replace hfn := Lib.hid hfn
        replace hmo := Lib.hid hmo
        replace hmf := Lib.hid hmf
        go_wp2_with (first | (go_at_call 19; (with_reducible refine (OW1.out _ (HZ.out.below bC)).mono ?_); rintro e w5 ⟨rfl, b5⟩; obtain ⟨W6, hW6⟩ : ∃ W6, w5.alloc (.cells #[.int .i64 s0, .int .i64 s1, .int .i64 s2, .int .i64 s3] 42) = W6 := ⟨_, rfl⟩; have b6 : Below w5.heap.size w5 W6 := (by rw [← hW6]; exact (Below.refl _ _).alloc (Nat.le_refl _) _); have g6 : w5.heap.size < W6.heap.size := (by rw [← hW6]; simp); have b56 := below_next b5 b6; have dx0 := (b56.cell (p := ⟨g2, 0, none⟩) hg2).trans d0; have dx1 := (b56.cell (p := ⟨g2, 1, none⟩) hg2).trans d1; have dx2 := (b56.cell (p := ⟨g2, 2, none⟩) hg2).trans d2) | (go_at_call 19; (with_reducible refine (OW2.out _ (hL.below b56)).mono ?_); rintro e w7 ⟨rfl, b7⟩; obtain ⟨W8, hW8⟩ : ∃ W8, w7.alloc (.cells #[.int .i64 r0, .int .i64 r1, .int .i64 r2, .int .i64 r3] 42) = W8 := ⟨_, rfl⟩; have b8 : Below w7.heap.size w7 W8 := (by rw [← hW8]; exact (Below.refl _ _).alloc (Nat.le_refl _) _); have g8 : w7.heap.size < W8.heap.size := (by rw [← hW8]; simp)))
        have b68 := below_next b7 b8
        have b58 := below_next b56 b68
        have SX := Lib.hid (fun W (h : Below W8.heap.size W8 W) => box4W (w := w5) (t := 42) (x := .int .i64 s0) (y := .int .i64 s1) (z := .int .i64 s2) (u := .int .i64 s3) (W := W) (by rw [hW6]; exact below_next b68 h))
        have TX := Lib.hid (fun W (h : Below W8.heap.size W8 W) => box4W (w := w7) (t := 42) (x := .int .i64 r0) (y := .int .i64 r1) (z := .int .i64 r2) (u := .int .i64 r3) (W := W) (by rw [hW8]; exact h))
        have HO := Lib.hid (hO.below b58)
        have HF := Lib.hid (hF.below b58)
        have DX := Lib.hid (fun W (h : Below W8.heap.size W8 W) => (show W.cell? ⟨g2, 2, none⟩ = some (.slice ad nd cd) ∧ W.cell? ⟨w3.heap.size, 2, none⟩ = some (.slice za zn zc) ∧ W.cell? ⟨bo, oo + 1, none⟩ = some (.int .i64 lo0) ∧ W.cell? ⟨bf, of + 1, none⟩ = some (.int .i64 lo0) ∧ W.cell? ⟨bo, oo + mo * 4 + 1 + 1, none⟩ = some (.int .i64 hi0) ∧ W.cell? ⟨bf, of + mf * 4 + 1 + 1, none⟩ = some (.int .i64 hi0) from
          have q := below_next b58 h
          have g3 := Nat.lt_of_lt_of_le g4 bC.size
          ⟨(q.cell (p := ⟨g2, 2, none⟩) hg2).trans d2, (q.cell (p := ⟨w3.heap.size, 2, none⟩) g3).trans u2, (q.cell (p := ⟨bo, oo + 1, none⟩) hbo).trans (by simpa using l1), (q.cell (p := ⟨bf, of + 1, none⟩) hbf).trans (by simpa using l3), (q.cell (p := ⟨bo, oo + mo * 4 + 1 + 1, none⟩) hbo).trans l2, (q.cell (p := ⟨bf, of + mf * 4 + 1 + 1, none⟩) hbf).trans l4⟩))
        have bT8 := Lib.hid (below_next bTop.out b58)
        replace hW6 := Lib.hid hW6
        replace hW8 := Lib.hid hW8
        clear y0 u0 u1 u2 y1 d0 d1 d2 dx0 dx1 dx2 l1 l2 l3 l4 hO hF hL
        go_loopw [18, 19] (fun v i wr => ∃ (j : Nat), v = .bool ((O.take j).any fun x => eqSB x (s0, s1, s2, s3)) ∧ i = .int .i64 (j : Int) ∧ j ≤ no ∧ Below W8.heap.size W8 wr) (fun _ i _ => no - (intOf i).toNat)
        case atStart => exact ⟨0, by simp, rfl, Nat.zero_le _, Below.refl _ _⟩
        case round =>
          obtain ⟨j, rfl, rfl, hj, hbl⟩ := hrel
          by_cases hlt : j < no
          · have hjz : (j : Int) < (no : Int) := by omega
            have hjO : j < O.length := by have := hon.out; omega
            obtain ⟨b9, o9, e9, hb9, x0, x1, x2, x3⟩ := (HO.out.below hbl).2.2.2.2.shard j hjO
            cases e9
            have hnx : ((O.take (j + 1)).any fun x => eqSB x (s0, s1, s2, s3)) = (((O.take j).any fun x => eqSB x (s0, s1, s2, s3)) || eqSB O[j]! (s0, s1, s2, s3)) := by rw [take_moreG hjO, List.any_append]; simp
            generalize O[j]! = x at x0 x1 x2 x3 hnx
            obtain ⟨a0, a1, a2, a3⟩ := x
            dsimp only at x0 x1 x2 x3
            obtain ⟨p0, p1, p2, p3⟩ := SX.out _ hbl
            have EQ := fun w => eqSd (a0, a1, a2, a3) (s0, s1, s2, s3) w
            dsimp only at EQ
            obtain ⟨v, hv⟩ : ∃ v, ((O.take j).any fun x => eqSB x (s0, s1, s2, s3)) = v := ⟨_, rfl⟩
            obtain ⟨u, hu⟩ : ∃ u, eqSB (a0, a1, a2, a3) (s0, s1, s2, s3) = u := ⟨_, rfl⟩
            rw [hu] at EQ hnx
            rw [hv] at hnx ⊢
            have HN := Lib.hid hnx
            clear hnx hv hu
            cases v <;> cases u
            all_goals
              go_wp2_with fail
              go_quiet (fail)
              go_wp2_with fail
              go_roundw
              case rel => exact ⟨j + 1, by rw [HN.out]; rfl, by go_num, by omega, below_drewN hbl _⟩
              case measure => simp [intOf]; omega
          · have hjz : ¬ (j : Int) < (no : Int) := by omega
            rw [show ((O.take j).any fun x => eqSB x (s0, s1, s2, s3)) = X from by rw [List.take_of_length_le (by have := hon.out; omega)]; exact HX.out]
            have HB9 := Lib.hid hbl
            clear hbl
            go_wp2_with fail
            go_loopw [20, 21] (fun v i wr => ∃ (j : Nat), v = .bool ((F.take j).any fun x => eqSB x (r0, r1, r2, r3)) ∧ i = .int .i64 (j : Int) ∧ j ≤ nax ∧ Below W8.heap.size W8 wr) (fun _ i _ => nax - (intOf i).toNat)
            case atStart => exact ⟨0, by simp, rfl, Nat.zero_le _, HB9.out⟩
            case round =>
              obtain ⟨j2, rfl, rfl, hj2, hbl⟩ := hrel
              by_cases hlt2 : j2 < nax
              · have hjz2 : (j2 : Int) < (nax : Int) := by omega
                have hjF : j2 < F.length := by have := hfn.out; omega
                obtain ⟨b9, o9, e9, hb9, x0, x1, x2, x3⟩ := (HF.out.below hbl).2.2.2.2.shard j2 hjF
                cases e9
                have hnx : ((F.take (j2 + 1)).any fun x => eqSB x (r0, r1, r2, r3)) = (((F.take j2).any fun x => eqSB x (r0, r1, r2, r3)) || eqSB F[j2]! (r0, r1, r2, r3)) := by rw [take_moreG hjF, List.any_append]; simp
                generalize F[j2]! = x at x0 x1 x2 x3 hnx
                obtain ⟨a0, a1, a2, a3⟩ := x
                dsimp only at x0 x1 x2 x3
                obtain ⟨p0, p1, p2, p3⟩ := TX.out _ hbl
                have EQ := fun w => eqSd (a0, a1, a2, a3) (r0, r1, r2, r3) w
                dsimp only at EQ
                obtain ⟨v, hv⟩ : ∃ v, ((F.take j2).any fun x => eqSB x (r0, r1, r2, r3)) = v := ⟨_, rfl⟩
                obtain ⟨u, hu⟩ : ∃ u, eqSB (a0, a1, a2, a3) (r0, r1, r2, r3) = u := ⟨_, rfl⟩
                rw [hu] at EQ hnx
                rw [hv] at hnx ⊢
                have HN := Lib.hid hnx
                clear hnx hv hu
                cases v <;> cases u
                all_goals
                  go_wp2_with fail
                  go_quiet (fail)
                  go_wp2_with fail
                  go_roundw
                  case rel => exact ⟨j2 + 1, by rw [HN.out]; rfl, by go_num, by omega, below_drewN hbl _⟩
                  case measure => simp [intOf]; omega
              · have hjz2 : ¬ (j2 : Int) < (nax : Int) := by omega
                rw [show ((F.take j2).any fun x => eqSB x (r0, r1, r2, r3)) = X from by rw [List.take_of_length_le (by have := hfn.out; omega)]; exact HY.out]
                have EQ := fun w => eqSd (s0, s1, s2, s3) (r0, r1, r2, r3) w
                dsimp only at EQ
                have HBL := Lib.hid hbl
                have KF := Lib.hid (fun W (h : Below W8.heap.size W8 W) => (show W.cell? ⟨w5.heap.size, 0, none⟩ = some (.int .i64 s0) ∧ W.cell? ⟨w5.heap.size, 1, none⟩ = some (.int .i64 s1) ∧ W.cell? ⟨w5.heap.size, 2, none⟩ = some (.int .i64 s2) ∧ W.cell? ⟨w5.heap.size, 3, none⟩ = some (.int .i64 s3) ∧ W.cell? ⟨w7.heap.size, 0, none⟩ = some (.int .i64 r0) ∧ W.cell? ⟨w7.heap.size, 1, none⟩ = some (.int .i64 r1) ∧ W.cell? ⟨w7.heap.size, 2, none⟩ = some (.int .i64 r2) ∧ W.cell? ⟨w7.heap.size, 3, none⟩ = some (.int .i64 r3) ∧ W.cell? ⟨g2, 2, none⟩ = some (.slice ad nd cd) ∧ W.cell? ⟨w3.heap.size, 2, none⟩ = some (.slice za zn zc) ∧ W.cell? ⟨bo, oo + 1, none⟩ = some (.int .i64 lo0) ∧ W.cell? ⟨bf, of + 1, none⟩ = some (.int .i64 lo0) ∧ W.cell? ⟨bo, oo + mo * 4 + 1 + 1, none⟩ = some (.int .i64 hi0) ∧ W.cell? ⟨bf, of + mf * 4 + 1 + 1, none⟩ = some (.int .i64 hi0) from ⟨(SX.out W h).1, (SX.out W h).2.1, (SX.out W h).2.2.1, (SX.out W h).2.2.2, (TX.out W h).1, (TX.out W h).2.1, (TX.out W h).2.2.1, (TX.out W h).2.2.2, (DX.out W h).1, (DX.out W h).2.1, (DX.out W h).2.2.1, (DX.out W h).2.2.2.1, (DX.out W h).2.2.2.2.1, (DX.out W h).2.2.2.2.2⟩))
                cases X
                · rw [HXs.out rfl] at EQ
                  clear hbl
                  have HBD := HBL.out
                  go_wp2_with fail
                  (first | go_region_held3 (fun W => W.cell? ⟨w5.heap.size, 0, none⟩ = some (.int .i64 s0) ∧ W.cell? ⟨w5.heap.size, 1, none⟩ = some (.int .i64 s1) ∧ W.cell? ⟨w5.heap.size, 2, none⟩ = some (.int .i64 s2) ∧ W.cell? ⟨w5.heap.size, 3, none⟩ = some (.int .i64 s3) ∧ W.cell? ⟨w7.heap.size, 0, none⟩ = some (.int .i64 r0) ∧ W.cell? ⟨w7.heap.size, 1, none⟩ = some (.int .i64 r1) ∧ W.cell? ⟨w7.heap.size, 2, none⟩ = some (.int .i64 r2) ∧ W.cell? ⟨w7.heap.size, 3, none⟩ = some (.int .i64 r3) ∧ W.cell? ⟨g2, 2, none⟩ = some (.slice ad nd cd) ∧ W.cell? ⟨w3.heap.size, 2, none⟩ = some (.slice za zn zc) ∧ W.cell? ⟨bo, oo + 1, none⟩ = some (.int .i64 lo0) ∧ W.cell? ⟨bf, of + 1, none⟩ = some (.int .i64 lo0) ∧ W.cell? ⟨bo, oo + mo * 4 + 1 + 1, none⟩ = some (.int .i64 hi0) ∧ W.cell? ⟨bf, of + mf * 4 + 1 + 1, none⟩ = some (.int .i64 hi0)) (exact KF.out _ (by repeat (first | exact HBD | refine Below.drew ?_ | refine below_drewN ?_ _))) ((first | (go_at_call 14; (with_reducible refine (awake8_any _).mono ?_); rintro e wz ⟨rfl, hbz⟩; have HBD := below_next (w := W8) (by repeat (first | exact HBD | refine Below.drew ?_ | refine below_drewN ?_ _)) hbz) | fail)) | fail)
                  all_goals
                    go_wp2
                    go_ret
                    exact ⟨rfl, below_next bT8.out (by repeat (first | exact HBD | refine Below.drew ?_ | refine below_drewN ?_ _))⟩
                · clear hbl EQ
                  have HBD := HBL.out
                  go_wp2_with fail
                  obtain ⟨ι, f, hf, hall⟩ : ∃ (ι : Type) (f : ι → World), (∀ n, Below W8.heap.size W8 (f n)) ∧ ∀ W, Below W8.heap.size W8 W → ∃ n, f n = W := ⟨{W // Below W8.heap.size W8 W}, Subtype.val, fun n => n.2, fun W h => ⟨⟨W, h⟩, rfl⟩⟩
                  obtain ⟨n0, h0⟩ := hall _ HBD.drew
                  haveI : Nonempty ι := ⟨n0⟩
                  have hself : ∀ n, ∃ m, f n = f m := fun n => ⟨n, rfl⟩
                  have c0 := fun n => (KF.out (f n) (hf n)).1
                  have c1 := fun n => (KF.out (f n) (hf n)).2.1
                  have c2 := fun n => (KF.out (f n) (hf n)).2.2.1
                  have c3 := fun n => (KF.out (f n) (hf n)).2.2.2.1
                  have c4 := fun n => (KF.out (f n) (hf n)).2.2.2.2.1
                  have c5 := fun n => (KF.out (f n) (hf n)).2.2.2.2.2.1
                  have c6 := fun n => (KF.out (f n) (hf n)).2.2.2.2.2.2.1
                  have c7 := fun n => (KF.out (f n) (hf n)).2.2.2.2.2.2.2.1
                  have c8 := fun n => (KF.out (f n) (hf n)).2.2.2.2.2.2.2.2.1
                  have c9 := fun n => (KF.out (f n) (hf n)).2.2.2.2.2.2.2.2.2.1
                  have c10 := fun n => (KF.out (f n) (hf n)).2.2.2.2.2.2.2.2.2.2.1
                  have c11 := fun n => (KF.out (f n) (hf n)).2.2.2.2.2.2.2.2.2.2.2.1
                  have c12 := fun n => (KF.out (f n) (hf n)).2.2.2.2.2.2.2.2.2.2.2.2.1
                  have c13 := fun n => (KF.out (f n) (hf n)).2.2.2.2.2.2.2.2.2.2.2.2.2
                  have hf' := Lib.hid hf
                  have hall' := Lib.hid hall
                  clear hf hall
                  refine wp_region_cls f (by kernel_rfl) (by kernel_rfl) n0 h0 ?_
                  clear h0
                  repeat (go_big_quiet_step ((go_at_call 14; refine (awake8_any _).mono ?_; rintro e wz ⟨rfl, hbz⟩; obtain ⟨nz, hz⟩ := hall'.out wz (below_next (hf'.out _) hbz); exact ⟨rfl, nz, hz.symm⟩)))
                  refine wpQuiet_nil ?_
                  intro _ hw'
                  obtain ⟨nq, hw''⟩ := hw'
                  subst hw''
                  go_wp2
                  go_ret
                  exact ⟨rfl, below_next bT8.out (hf'.out nq)⟩
      · have he1 : (M.e != 0) = true := by simpa using he
        obtain ⟨eo, ef⟩ := app_bad hM.out he
        have hon := hO.1
        have hfn := hF.1
        rw [eo] at hon
        rw [ef] at hfn
        obtain rfl : no = 0 := hon
        obtain rfl : nax = 0 := hfn
        clear hO hF hL
        go_wp2_with (go_at_call 14; (with_reducible refine (awake8_any _).mono ?_); rintro e w9 ⟨rfl, hb9⟩)
        go_ret
        exact ⟨rfl, below_next bTop.out hb9⟩
end Go.Proofs.Ytaopdandkpfdnaa
