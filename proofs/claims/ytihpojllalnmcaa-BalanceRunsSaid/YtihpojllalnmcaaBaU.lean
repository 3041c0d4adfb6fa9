/-
  CONTRACT: balance.Run.
-/
import Derived.Test.YtihpojllalnmcaaBaM
import Derived.Test.YtihpojllalnmcaaChH
namespace Go.Proofs.Ytihpojllalnmcaa
open Go.RowKit Go.Shelf

abbrev Ct := Int × Int × List Sd
def stepRun (l : List Sp) (p : Po) (z : Int) (C : Ct) : Gd × Bool × Int := sugC C.1 C.2.1 C.2.2 l p z
def nextC (C : Ct) (g : Gd) : Ct := ((appC C.1 C.2.1 C.2.2 g.1 g.2.1 g.2.2).ep, (appC C.1 C.2.1 C.2.2 g.1 g.2.1 g.2.2).nx, (appC C.1 C.2.1 C.2.2 g.1 g.2.1 g.2.2).l)
abbrev Rr := Option (Ct × List Gd) × Int
def preR (ds : List Gd) : Rr → Rr
  | (none, e) => (none, e)
  | (some (D, xs), e) => (some (D, ds ++ xs), e)
/-- What is suggested, made again and again, as many times as it may. -/
def runC (l : List Sp) (p : Po) (z : Int) : Nat → Ct → Rr
  | 0, C => if (stepRun l p z C).2.2 = 0 then (some (C, []), 0) else (none, (stepRun l p z C).2.2)
  | k + 1, C => if (stepRun l p z C).2.2 = 0 then (if (stepRun l p z C).2.1 = true then preR [(stepRun l p z C).1] (runC l p z k (nextC C (stepRun l p z C).1)) else (some (C, []), 0)) else (none, (stepRun l p z C).2.2)
theorem preR_nil (r : Rr) : preR [] r = r := by
  obtain ⟨o, e⟩ := r
  cases o with
  | none => rfl
  | some x => obtain ⟨D, xs⟩ := x; rfl
theorem preR_pre (a b : List Gd) (r : Rr) : preR a (preR b r) = preR (a ++ b) r := by
  obtain ⟨o, e⟩ := r
  cases o with
  | none => rfl
  | some x => obtain ⟨D, xs⟩ := x; simp [preR]
theorem run_err {l : List Sp} {p : Po} {z : Int} {C : Ct} (k : Nat) (h : (stepRun l p z C).2.2 ≠ 0) : runC l p z k C = (none, (stepRun l p z C).2.2) := by
  cases k with
  | zero => unfold runC; rw [if_neg h]
  | succ k => unfold runC; rw [if_neg h]
theorem run_rest {l : List Sp} {p : Po} {z : Int} {C : Ct} (k : Nat) (h : (stepRun l p z C).2.2 = 0) (h2 : (stepRun l p z C).2.1 = false ∨ k = 0) : runC l p z k C = (some (C, []), 0) := by
  cases k with
  | zero => unfold runC; rw [if_pos h]
  | succ k =>
    unfold runC
    rw [if_pos h, if_neg]
    rcases h2 with h2 | h2
    · rw [h2]; simp
    · omega
theorem run_more {l : List Sp} {p : Po} {z : Int} {C : Ct} {k : Nat} (h : (stepRun l p z C).2.2 = 0) (h2 : (stepRun l p z C).2.1 = true) : runC l p z (k + 1) C = preR [(stepRun l p z C).1] (runC l p z k (nextC C (stepRun l p z C).1)) := by
  show (if _ then _ else _) = _
  rw [if_pos h, if_pos h2]
def RunPost (r : Rr) (w : World) (e : Ending) (w' : World) : Prop := match r with
  | (none, er) => e = .returned (.tuple #[.agg #[.int .i64 0, .int .i64 0, .slice none 0 0], .slice none 0 0, .int .i64 er]) ∧ Below w.heap.size w w'
  | (some (D, xs), er) => ∃ a n c v, e = .returned (.tuple #[.agg #[.int .i64 D.1, .int .i64 D.2.1, .slice a n c], v, .int .i64 er]) ∧ RArg encS 4 w' a n c D.2.2 ∧ OwnsR encG 3 33 w' w.heap.size v xs ∧ Below w.heap.size w w'
theorem clone_noneS (x : Addr) (c : Nat) (w : World) : Calls Try.prog 31 #[.slice (some x) 0 c] w fun e w' => ∃ v, e = .returned v ∧ OwnsR encS 4 61 w' w.heap.size v [] ∧ Below w.heap.size w w' := by
  obtain ⟨i0, hi, hz0, hz1, hz2⟩ := info_parts Try.infoShard
  have q22 : ∀ (w : World) (a : Option Addr) (n c n' c' : Nat), (binOp .eql 22 (.slice a n c) (.slice none n' c')).run Try.prog w = .ok (.bool a.isNone) w := fun w a n c n' c' => Lib.run_eql_slice_nil w _ _ a n c n' c' Try.underlying22
  go_enter Try.func31, Try.ntmps31
  go_wp2_with (at_builtin; refine wpList_append_own _ rfl _ _ 22 rfl w.heap.size 61 i0 (.agg #[.int .i64 0, .int .i64 0, .int .i64 0, .int .i64 0]) 4 32 Try.underlying22 hi hz0 hz1 hz2 rfl (by decide) _ _ _ rfl (World.ownsRow_made w #[] 0 (Nat.le_refl _) (Nat.zero_le _) (by simp)) x 0 c [] rfl ?c1 ?c2 ?c3 ?c4 ?c5 ?c6 ?_)
  case c1 => rfl
  case c2 => intro j u hj; simp at hj
  case c3 => intro u hu; cases hu
  case c4 => unfold maxLen; omega
  case c5 => omega
  case c6 => simp
  · intro v' w1 hown hg _
    go_wp2
    go_ret
    refine ⟨_, rfl, by simpa [OwnsR, flatR] using hown, ((Below.refl _ w).alloc (Nat.le_refl _) _).grown hg (by simp) ?_⟩
    intro k hk
    simp [Value.ownBlock] at hk
    omega
set_option maxRecDepth 100000 in
theorem cloneShard_nil (c : Nat) (w : World) : Calls Try.prog 31 #[.slice none 0 c] w fun e w' => e = .returned (.slice none 0 0) ∧ w = w' := by
  have q22 : ∀ (w : World) (a : Option Addr) (n c n' c' : Nat), (binOp .eql 22 (.slice a n c) (.slice none n' c')).run Try.prog w = .ok (.bool a.isNone) w := fun w a n c n' c' => Lib.run_eql_slice_nil w _ _ a n c n' c' Try.underlying22
  go_enter Try.func31, Try.ntmps31
  go_wp2
  go_ret
  exact ⟨rfl, rfl⟩
/-- A row cloned: in new memory, if there is something in it. -/
theorem cloneS_any (a : Option Addr) (n c : Nat) (sd : List Sd) (w : World) (h : RArg encS 4 w a n c sd) (hz : sd.length ≤ 1000) :
    Calls Try.prog 31 #[.slice a n c] w fun e w' => ∃ a' n' c', e = .returned (.slice a' n' c') ∧ RArg encS 4 w' a' n' c' sd ∧ TRow w' a' ∧ Below w.heap.size w w' := by
  by_cases hn : sd = []
  · subst hn
    have hn0 : n = 0 := h.1
    subst hn0
    cases a with
    | none => exact (cloneShard_nil c w).mono fun e w' (q : e = .returned (.slice none 0 0) ∧ w = w') => (show _ from by
        obtain ⟨h1, rfl⟩ := q
        exact ⟨none, 0, 0, h1, RArg.nil _ _ _, TRow.none _, Below.refl _ _⟩)
    | some p => exact (clone_noneS p c w).mono fun e w' q => (show _ from by
        obtain ⟨v, h1, h2, h3⟩ := q
        obtain ⟨a', c', rfl, hA⟩ := h2.arg encS_len
        exact ⟨a', _, c', h1, hA, h2.trow, h3⟩)
  · obtain ⟨b, off, rfl, _⟩ := h.2.2.2.2.spot hn
    exact (cloneShard_any b off n c sd w h.1 hz h.2.2.2.2).mono fun e w' q => (show _ from by
      obtain ⟨v, h1, h2, h3⟩ := q
      obtain ⟨a', c', rfl, hA⟩ := h2.arg encS_len
      exact ⟨a', _, c', h1, hA, h2.trow, h3⟩)
theorem Try.infoChange : (Try.prog.info? 33).map (fun i => (i.zero, i.size, i.bytes)) = some (some (.agg #[.int .i64 0, .int .i64 0, .int .i64 0]), 3, 24) := by kernel_rfl
def lenV : Value → Nat
  | .slice _ n _ => n
  | _ => 0
theorem Arg.grownN {W W' : World} {row : Option Nat} {a : Option Addr} {n c : Nat} {l : List Sp} (h : Arg W a n c l) (hg : W.grownBy W' row) (ho : l ≠ [] → ∀ p, a = some p → some p.block ≠ row) : Arg W' a n c l := by
  by_cases hl : l = []
  · subst hl
    exact ⟨h.1, h.2.1, h.2.2.1, h.2.2.2.1, PIn.nil _ _ _⟩
  · exact h.grownA hg (ho hl)
theorem RArg.grownM {α : Type} [Inhabited α] {enc : α → List Value} {k : Nat} {W W' : World} {row : Option Nat} {a : Option Addr} {n c : Nat} {l : List α} (h : RArg enc k W a n c l) (hg : W.grownBy W' row) (ho : l ≠ [] → ∀ p, a = some p → some p.block ≠ row) : RArg enc k W' a n c l := by
  by_cases hl : l = []
  · subst hl
    exact ⟨h.1, h.2.1, h.2.2.1, h.2.2.2.1, RIn.nil _ _ _ _ _⟩
  · exact h.grownG hg (ho hl)
theorem OwnsR.offG {w : World} {base : Nat} {v : Value} {xs : List Gd} (h : OwnsR encG 3 33 w base v xs) {a : Option Addr} (ht : TRow w a) : ∀ p, a = some p → some p.block ≠ v.ownBlock := fun p hp e => by
  rcases h.2 with ⟨rfl, _⟩ | ⟨g, cap, cur, rfl, _, hg, _⟩
  · cases e
  · have e' : p.block = g := by simpa [Value.ownBlock] using e
    exact TRow.off ht hg (by decide) p hp e'
theorem OwnsR.onlyG {g : Nat} {t : TypeId} {W W' : World} {base : Nat} {v : Value} {xs : List Gd} (h : OwnsR encG 3 t W base v xs) (ho : Only g W W') (hg : g < base) : OwnsR encG 3 t W' base v xs := by
  refine ⟨h.1, ?_⟩
  rcases h.2 with hn | ⟨k, cap, cur, rfl, hb, hh, rest⟩
  · exact .inl hn
  · exact .inr ⟨k, cap, cur, rfl, hb, (ho.2 k (by omega)).trans hh, rest⟩
theorem OwnsR.lowA {α : Type} {enc : α → List Value} {k : Nat} {t : TypeId} {w : World} {b b' : Nat} {v : Value} {l : List α} (h : OwnsR enc k t w b v l) (hb : b' ≤ b) : OwnsR enc k t w b' v l := by
  refine ⟨h.1, ?_⟩
  rcases h.2 with hn | ⟨g, cap, cur, e, hg, rest⟩
  · exact .inl hn
  · exact .inr ⟨g, cap, cur, e, Nat.le_trans hb hg, rest⟩
set_option maxRecDepth 100000 in
set_option maxHeartbeats 8000000 in
theorem run25_any (ep nx : Int) (a : Option Addr) (n c : Nat) (sd : List Sd) (a2 : Option Addr) (n2 cp2 : Nat) (l : List Sp) (ph pl psl nodes most : Int) (w : World) (h : RArg encS 4 w a n c sd) (hL : Arg w a2 n2 cp2 l) (hm : most ≤ 30) (hs : sd.length ≤ 60) :
    Calls Try.prog 13 #[.agg #[.int .i64 ep, .int .i64 nx, .slice a n c], .slice a2 n2 cp2, .agg #[.int .i64 ph, .int .i64 pl, .int .i64 psl], .int .i64 nodes, .int .i64 most] w (RunPost (runC l (ph, pl, psl) nodes most.toNat (ep, nx, sd)) w) := by
  obtain ⟨i0, hi0, hz0, hz1, hz2⟩ := info_parts Try.infoChange
  obtain ⟨R, hR⟩ : ∃ R, runC l (ph, pl, psl) nodes most.toNat (ep, nx, sd) = R := ⟨_, rfl⟩
  rw [hR]
  obtain ⟨K, hK⟩ : ∃ K, most.toNat = K := ⟨_, rfl⟩
  rw [hK] at hR
  have hK30 : K ≤ 30 := by omega
  obtain ⟨Wa, hWa⟩ : ∃ Wa, w.alloc (.cells #[.int .i64 ep, .int .i64 nx, .slice a n c] 24) = Wa := ⟨_, rfl⟩
  have ba : Below w.heap.size w Wa := by rw [← hWa]; exact (Below.refl _ _).alloc (Nat.le_refl _) _
  have ga : w.heap.size < Wa.heap.size := by rw [← hWa]; simp
  have ra : Wa.heap[w.heap.size]? = some (.cells #[.int .i64 ep, .int .i64 nx, .slice a n c] 24) := by rw [← hWa]; exact heap_alloc_new _ _
  obtain ⟨W0, hW0⟩ : ∃ W0, Wa.alloc (.cells #[.int .i64 ph, .int .i64 pl, .int .i64 psl] 27) = W0 := ⟨_, rfl⟩
  have b0 : Below Wa.heap.size Wa W0 := by rw [← hW0]; exact (Below.refl _ _).alloc (Nat.le_refl _) _
  have g0 : Wa.heap.size < W0.heap.size := by rw [← hW0]; simp
  have r0 : W0.heap[Wa.heap.size]? = some (.cells #[.int .i64 ph, .int .i64 pl, .int .i64 psl] 27) := by rw [← hW0]; exact heap_alloc_new _ _
  obtain ⟨W1, hW1⟩ : ∃ W1, W0.alloc (.cells #[.int .i64 0, .int .i64 0, .slice none 0 0] 24) = W1 := ⟨_, rfl⟩
  have b01 : Below W0.heap.size W0 W1 := by rw [← hW1]; exact (Below.refl _ _).alloc (Nat.le_refl _) _
  have g1 : W0.heap.size < W1.heap.size := by rw [← hW1]; simp
  have r1 : W1.heap[W0.heap.size]? = some (.cells #[.int .i64 0, .int .i64 0, .slice none 0 0] 24) := by rw [← hW1]; exact heap_alloc_new _ _
  have bw := below_next (below_next ba b0) b01
  have ra1 := (b01.block _ (Nat.lt_trans ga g0)).trans ((b0.block _ ga).trans ra)
  have r01 := (b01.block _ g0).trans r0
  obtain ⟨q0, q1, q2⟩ := (cells3B ra1).1
  obtain ⟨⟨z0, z1, z2⟩, fz⟩ := cells3B r1
  have f0 := fz 0
  have f1 := fz 1
  have f2 := fz 2
  have hWX : w.heap.size < W0.heap.size := Nat.lt_trans ga g0
  have KP := Lib.hid (fun W (hg : W1.grownBy W (some W0.heap.size)) => (show W.cell? ⟨w.heap.size, 0, none⟩ = some (.int .i64 ep) ∧ W.cell? ⟨w.heap.size, 1, none⟩ = some (.int .i64 nx) ∧ W.cell? ⟨w.heap.size, 2, none⟩ = some (.slice a n c) from
    (cells3B ((hg.block _ (Nat.lt_trans hWX g1) (fun e => by injection e with e; omega)).trans ra1)).1))
  have KQ := Lib.hid (fun W (hg : W1.grownBy W (some W0.heap.size)) => (show W.cell? ⟨Wa.heap.size, 0, none⟩ = some (.int .i64 ph) ∧ W.cell? ⟨Wa.heap.size, 1, none⟩ = some (.int .i64 pl) ∧ W.cell? ⟨Wa.heap.size, 2, none⟩ = some (.int .i64 psl) from
    (cells3B ((hg.block _ (Nat.lt_trans g0 g1) (fun e => by injection e with e; omega)).trans r01)).1))
  have HP := Lib.hid (fun W (hg : W1.grownBy W (some W0.heap.size)) => (h.below bw).grownM hg (fun q p hp e => by have := h.spotW q p hp; injection e with e; omega))
  have HL := Lib.hid (fun W (hg : W1.grownBy W (some W0.heap.size)) => (hL.below bw).grownN hg (fun q p hp e => by have := hL.lt q p hp; injection e with e; omega))
  have HBW := Lib.hid (fun W (hg : W1.grownBy W (some W0.heap.size)) => (show Below w.heap.size w W from bw.grown hg bw.size (fun q hq => by injection hq with hq; omega)))
  have hs1 := set3B (x' := .int .i64 ep) (y' := .int .i64 nx) (z' := .slice a n c) r1
  have hg1 := grow3B W1 W0.heap.size (.int .i64 ep) (.int .i64 nx) (.slice a n c)
  obtain ⟨W2, hW2⟩ : ∃ W2, ((W1.setCell ⟨W0.heap.size, 0, none⟩ (.int .i64 ep)).setCell ⟨W0.heap.size, 1, none⟩ (.int .i64 nx)).setCell ⟨W0.heap.size, 2, none⟩ (.slice a n c) = W2 := ⟨_, rfl⟩
  rw [hW2] at hs1 hg1
  have g12 : W1.heap.size = W2.heap.size := by rw [← hW2]; simp
  have CL := Lib.hid (cloneS_any a n c sd W2 (HP.out W2 hg1) (by omega))
  obtain ⟨q0', q1', q2'⟩ := KP.out _ hg1
  have HS1 := Lib.hid hs1
  have HG1 := Lib.hid hg1
  have G12 := Lib.hid g12
  have HKM := Lib.hid hK
  have HR := Lib.hid hR
  clear h hL r0 r1 ra ra1 r01 fz hs1 hg1 g12 hs hK hR
  go_enter Try.func13, Try.ntmps13
  go_wp2_with (first | (go_at_call 31; (with_reducible refine CL.out.mono ?_); rintro e w3 ⟨a', n', c', rfl, hA', hT', hb3⟩; replace hA' := Lib.hid hA'; replace hT' := Lib.hid hT'; (have hx3 := (hb3.block W0.heap.size (by have := G12.out; omega)).trans HS1.out); obtain ⟨⟨z0, z1, z2⟩, fz⟩ := cells3B hx3; have f2 := fz 2; clear fz) | fail)
  have gX := G12.out
  have g3 : W2.heap.size ≤ w3.heap.size := hb3.size
  have HC3 := Lib.hid (set3B (x' := .int .i64 ep) (y' := .int .i64 nx) (z' := .slice a' n' c') hx3)
  go_loopw [11] (fun v wr => ∃ (C : Ct) (ds : List Gd) (k : Nat) (aC : Option Addr) (nC cC : Nat), Hid (preR ds (runC l (ph, pl, psl) nodes k C) = R) ∧ ds.length + k = K ∧ Hid (wr.heap[W0.heap.size]? = some (.cells #[.int .i64 C.1, .int .i64 C.2.1, .slice aC nC cC] 24 (0, 0))) ∧ Hid (RArg encS 4 wr aC nC cC C.2.2) ∧ Hid (TRow wr aC) ∧ Hid (OwnsR encG 3 33 wr W1.heap.size v ds) ∧ W1.grownBy wr (some W0.heap.size) ∧ W1.heap.size ≤ wr.heap.size)
    (fun v _ => K - lenV v)
  case atStart =>
    have hon : Only W0.heap.size w3 (w3.setCell ⟨W0.heap.size, 2, none⟩ (.slice a' n' c')) := Only.set (Only.refl _ _) _ _
    have hoff := TRow.off hT'.out hx3 (by decide)
    refine ⟨(ep, nx, sd), [], K, a', n', c', Lib.hid ((preR_nil _).trans (HKM.out ▸ HR.out)), by simp, Lib.hid (heap_setCell_same _ _ 2 _ _ _ hx3), Lib.hid (hA'.out.only hon hoff), Lib.hid (hT'.out.only hon hoff), Lib.hid (OwnsR.nil _ _ _ _ _), grown_trans (grown_trans HG1.out (below_grown hb3)) (grown_setCell _ ⟨W0.heap.size, 2, none⟩ _), by simp; omega⟩
  case round =>
    obtain ⟨C, ds, k, aC, nC, cC, HRR, hk, HX, HA, HT, HO, hg, hsz⟩ := hrel
    obtain ⟨S, hS⟩ : ∃ S, stepRun l (ph, pl, psl) nodes C = S := ⟨_, rfl⟩
    have hsu := suggest_any C.1 C.2.1 aC nC cC C.2.2 a2 n2 cp2 l ph pl psl nodes wr HA.out (HL.out wr hg)
    rw [show sugC C.1 C.2.1 C.2.2 l (ph, pl, psl) nodes = S from hS] at hsu
    have HSU := Lib.hid hsu
    clear hsu
    have HST := Lib.hid hS
    clear hS
    obtain ⟨⟨kk, id, at_⟩, sm, er⟩ := S
    obtain ⟨⟨x0, x1, x2⟩, fz⟩ := cells3B HX.out
    have y0 := fz 0
    have y1 := fz 1
    have y2 := fz 2
    obtain ⟨p0, p1, p2⟩ := KQ.out wr hg
    go_upto_region 4 with (first | (go_at_call 8; (with_reducible refine HSU.out.mono ?_); rintro e w4 ⟨rfl, hb4⟩) | fail)
    obtain ⟨W5, hW5⟩ : ∃ W5, w4.alloc (.cells #[.int .i64 kk, .int .i64 id, .int .i64 at_] 33) = W5 := ⟨_, rfl⟩
    have b5 : Below w4.heap.size w4 W5 := by rw [← hW5]; exact (Below.refl _ _).alloc (Nat.le_refl _) _
    have g5 : w4.heap.size < W5.heap.size := by rw [← hW5]; simp
    have r5 : W5.heap[w4.heap.size]? = some (.cells #[.int .i64 kk, .int .i64 id, .int .i64 at_] 33) := by rw [← hW5]; exact heap_alloc_new _ _
    have b05 := below_next hb4 b5
    have gXr : W0.heap.size < wr.heap.size := Nat.lt_of_lt_of_le g1 hsz
    have hx5 := (b05.block _ gXr).trans HX.out
    have HA5 := Lib.hid (HA.out.below b05)
    have HT5 := Lib.hid (HT.out.below b05)
    have HO5 := Lib.hid (HO.out.below b05)
    have HB5 := Lib.hid (below_next (HBW.out wr hg) b05)
    have HG5 := Lib.hid (grown_trans hg (below_grown b05))
    have hs5 : wr.heap.size ≤ W5.heap.size := b05.size
    have HX4 := Lib.hid (Nat.lt_of_lt_of_le gXr hb4.size)
    clear gX
    rw [hW5]
    clear x0 x1 x2 fz y0 y1 y2 p0 p1 p2 hW5 HA HT HO b5 b05 hg hb4
    obtain ⟨⟨x0, x1, x2⟩, fz⟩ := cells3B hx5
    have y0 := fz 0
    have y1 := fz 1
    have y2 := fz 2
    obtain ⟨c0, c1, c2⟩ := (cells3B r5).1
    obtain ⟨va, vc, rfl, _⟩ := OwnsR.arg encG_len HO5.out
    have HOV := Lib.hid (show OwnsR encG 3 33 W5 W1.heap.size (.slice va ds.length vc) ds from HO5.out)
    have HX5 := Lib.hid hx5
    have HR5 := Lib.hid r5
    have HSZ := Lib.hid hsz
    have HS5 := Lib.hid hs5
    have HG5s := Lib.hid g5
    have HGX := Lib.hid gXr
    clear fz HO5 hx5 r5 HX
    by_cases he : er = 0
    · have he1 : (er == 0) = true := by simpa using he
      have he2 : (er != 0) = false := by simpa using he
      have hst := HST.out
      have h20 : (stepRun l (ph, pl, psl) nodes C).2.2 = 0 := by rw [hst]; exact he
      by_cases hr : sm = false ∨ k = 0
      · have hRR : R = (some (C, ds), 0) := by
          rw [← HRR.out, run_rest k h20 (by rw [hst]; exact hr)]
          simp [preR]
        have HRE := Lib.hid hRR
        clear hRR
        have HON := Lib.hid (show Only W0.heap.size W5 _ from Only.set (Only.set (Only.set (Only.refl _ _) 0 (.int .i64 C.1)) 1 (.int .i64 C.2.1)) 2 (.slice aC nC cC))
        have HOF := Lib.hid (TRow.off HT5.out HX5.out (by decide))
        have hlt : k = 0 → most ≤ (ds.length : Int) := fun hk0 => by have hK := HKM.out; omega
        have HBD := HB5.out
        cases sm
        · go_wp2_with fail
          refine bodyPost_ret (v := .tuple #[.agg #[.int .i64 C.1, .int .i64 C.2.1, .slice aC nC cC], .slice va ds.length vc, .int .i64 0]) (by simp [results, Try.results13, go_sem, x0, x1, x2]) rfl ?_
          rw [HRE.out]
          refine ⟨aC, nC, cC, _, rfl, HA5.out.only HON.out HOF.out, (HOV.out.onlyG HON.out g1).lowA (Nat.le_of_lt (Nat.lt_trans hWX g1)), ?_⟩
          repeat (first | exact HBD | refine Below.setCell ?_ (by first | exact Nat.le_refl _ | omega | (simp; omega)) _)
        · have hge : most ≤ (ds.length : Int) := hlt (by simpa using hr)
          go_wp2_with fail
          refine bodyPost_ret (v := .tuple #[.agg #[.int .i64 C.1, .int .i64 C.2.1, .slice aC nC cC], .slice va ds.length vc, .int .i64 0]) (by simp [results, Try.results13, go_sem, x0, x1, x2]) rfl ?_
          rw [HRE.out]
          refine ⟨aC, nC, cC, _, rfl, HA5.out.only HON.out HOF.out, (HOV.out.onlyG HON.out g1).lowA (Nat.le_of_lt (Nat.lt_trans hWX g1)), ?_⟩
          repeat (first | exact HBD | refine Below.setCell ?_ (by first | exact Nat.le_refl _ | omega | (simp; omega)) _)
      · have hsm : sm = true := by cases sm <;> simp_all
        subst hsm
        have hk0 : k ≠ 0 := fun q => hr (.inr q)
        have hlt : ¬ most ≤ (ds.length : Int) := by have hK := HKM.out; omega
        obtain ⟨k', rfl⟩ : ∃ k', k = k' + 1 := ⟨k - 1, by omega⟩
        have hrr := HRR.out
        rw [run_more h20 (by rw [hst]), hst, preR_pre] at hrr
        obtain ⟨M, hM⟩ : ∃ M, appC C.1 C.2.1 C.2.2 kk id at_ = M := ⟨_, rfl⟩
        rw [show nextC C ((kk, id, at_), true, er).1 = (M.ep, M.nx, M.l) from by rw [← hM]; rfl] at hrr
        have ap := capply_any C.1 C.2.1 aC nC cC C.2.2 kk id at_ W5 HA5.out
        rw [hM] at ap
        have AP := Lib.hid ap
        have HRN := Lib.hid hrr
        clear ap hrr hM hst h20 hr hk0
        go_upto_region 9 with (first | (go_at_call 15; (with_reducible refine AP.out.mono ?_); rintro e w6 ⟨ad, nd, cd, ao, no, co, ax, nax, cax, rfl, hL', _, _, hb6, _, _, _, hT'⟩; (have hx6 := (hb6.block W0.heap.size (Nat.lt_of_lt_of_le HGX.out hs5)).trans HX5.out); obtain ⟨⟨z0, z1, z2⟩, fz⟩ := cells3B hx6; have y0 := fz 0; have y1 := fz 1; have y2 := fz 2; clear fz) | fail)
        have hs7 := set3B (x' := .int .i64 M.ep) (y' := .int .i64 M.nx) (z' := .slice ad nd cd) hx6
        have hg7 := grow3B w6 W0.heap.size (.int .i64 M.ep) (.int .i64 M.nx) (.slice ad nd cd)
        obtain ⟨W7, hW7⟩ : ∃ W7, ((w6.setCell ⟨W0.heap.size, 0, none⟩ (.int .i64 M.ep)).setCell ⟨W0.heap.size, 1, none⟩ (.int .i64 M.nx)).setCell ⟨W0.heap.size, 2, none⟩ (.slice ad nd cd) = W7 := ⟨_, rfl⟩
        have hon : Only W0.heap.size w6 W7 := by rw [← hW7]; exact (Only.set (Only.set (Only.set (Only.refl _ _) 0 _) 1 _) 2 _)
        rw [hW7] at hs7 hg7
        rw [hW7]
        have hof := TRow.off hT' hx6 (by decide)
        have HA7 := Lib.hid (hL'.only hon hof)
        have HT7 := Lib.hid (hT'.only hon hof)
        have HO7 := Lib.hid ((HOV.out.below hb6).onlyG hon g1)
        have HG7 := Lib.hid (grown_trans (grown_trans HG5.out (below_grown hb6)) hg7)
        have HS7 := Lib.hid hs7
        have g57 : W5.heap.size ≤ W7.heap.size := by rw [hon.1]; exact hb6.size
        have hr7 : W7.heap[w4.heap.size]? = some (.cells #[.int .i64 kk, .int .i64 id, .int .i64 at_] 33) := (hon.2 _ (by have := HX4.out; omega)).trans ((hb6.block _ HG5s.out).trans HR5.out)
        clear z0 z1 z2 y0 y1 y2 x0 x1 x2 c0 c1 c2 hL' hT' hb6 hx6 hs7 hg7 hW7 hon hof
        obtain ⟨c0, c1, c2⟩ := (cells3B hr7).1
        have hl30 : ds.length + 1 ≤ 31 := by omega
        go_wp2_with ((at_builtin; refine wpList_append_own _ rfl _ _ 48 rfl W1.heap.size 33 i0 (.agg #[.int .i64 0, .int .i64 0, .int .i64 0]) 3 24 Try.underlying48 hi0 hz0 hz1 hz2 rfl (by decide) _ _ _ rfl (World.ownsRow.alloc HO7.out _) ⟨W7.heap.size, 0, none⟩ 1 1 [.int .i64 kk, .int .i64 id, .int .i64 at_] rfl rfl ?ca ?cb ?cc ?cd ?ce ?_))
        case ca => exact fun jj u hj => by rw [addr_add]; exact (cellK rfl).trans (by simpa using hj)
        case cb => intro u hu; simp at hu; rcases hu with rfl | rfl | rfl <;> rfl
        case cc => unfold maxLen; omega
        case cd => omega
        case ce => simp; omega
        intro v9 w9 hown9 hg9 _
        have bAl : Below W7.heap.size W7 (W7.alloc (.cells #[.int .i64 kk, .int .i64 id, .int .i64 at_] 33)) := (Below.refl _ _).alloc (Nat.le_refl _) _
        have hX7 : W0.heap.size < W7.heap.size := Nat.lt_of_lt_of_le (Nat.lt_of_lt_of_le HGX.out hs5) g57
        have h17 : W1.heap.size ≤ W7.heap.size := Nat.le_trans (Nat.le_trans HSZ.out hs5) g57
        have hof9 := OwnsR.offG (HO7.out.below bAl) (HT7.out.below bAl)
        have HA9 := Lib.hid ((HA7.out.below bAl).grown hg9 hof9)
        have HT9 := Lib.hid ((HT7.out.below bAl).grown hg9 hof9)
        have hX9 := Lib.hid ((hg9.block W0.heap.size (by simp; omega) (fun e => by have := (HO7.out.lt _ e.symm).1; omega)).trans ((bAl.block _ hX7).trans HS7.out))
        have hG8 := grown_trans HG7.out (below_grown (row := some W0.heap.size) bAl)
        have HG9 := Lib.hid (show W1.grownBy w9 (some W0.heap.size) from ⟨hg9.os.trans hG8.os, hg9.tape.trans hG8.tape, hg9.output.trans hG8.output, Nat.le_trans hG8.size hg9.size, fun q hq hne => (hg9.block q (Nat.lt_of_lt_of_le hq hG8.size) (fun e => by have := (HO7.out.lt _ e.symm).1; omega)).trans (hG8.block q hq hne)⟩)
        have ho9 := Lib.hid (OwnsR.snoc (x := ((kk, id, at_) : Gd)) rfl hown9)
        obtain ⟨a9, c9, rfl, _⟩ := OwnsR.arg encG_len ho9.out
        have hs9 : W1.heap.size ≤ w9.heap.size := Nat.le_trans (by simp; omega) hg9.size
        clear hown9 hg9 bAl hof9 hG8
        go_wp2
        go_roundw
        case rel => exact ⟨(M.ep, M.nx, M.l), ds ++ [(kk, id, at_)], k', ad, nd, cd, HRN, by simp; omega, hX9, HA9, HT9, ho9, HG9.out, hs9⟩
        case measure => simp [lenV]; omega
    · have he1 : (er == 0) = false := by simpa using he
      have he2 : (er != 0) = true := by simpa using he
      have hRR : R = (none, er) := by
        rw [← HRR.out, run_err k (show (stepRun l (ph, pl, psl) nodes C).2.2 ≠ 0 by rw [HST.out]; exact he), HST.out]
        rfl
      have HBD := HB5.out
      go_wp2_with fail
      refine bodyPost_ret (v := .tuple #[.agg #[.int .i64 0, .int .i64 0, .slice none 0 0], .slice none 0 0, .int .i64 er]) (by simp [results, Try.results13, go_sem, x0, x1, x2]) rfl ?_
      rw [hRR]
      refine ⟨rfl, ?_⟩
      repeat (first | exact HBD | refine Below.setCell ?_ (by first | exact Nat.le_refl _ | omega | (simp; omega)) _)
end Go.Proofs.Ytihpojllalnmcaa
