/-
  CONTRACT: balance.shift.
-/
import Derived.Test.YtihpojllalnmcaaBaH
namespace Go.Proofs.Ytihpojllalnmcaa
open Go.RowKit Go.Shelf

theorem best_map {α β : Type} (f : α → β) (m : β → Int) (l : List α) : bestF m (l.map f) = (bestF (fun x => m (f x)) l).map f := by
  have key : ∀ (l : List α) (o : Option α), (l.map f).foldl (stepBa m) (o.map f) = (l.foldl (stepBa fun x => m (f x)) o).map f := by
    intro l
    induction l with
    | nil => intro o; rfl
    | cons x t ih =>
      intro o
      rw [List.map_cons, List.foldl_cons, List.foldl_cons, ← ih]
      congr 1
      cases o with
      | none => rfl
      | some y =>
        show (if m (f y) < m (f x) then some (f x) else some (f y)) = Option.map f (if m (f y) < m (f x) then some x else some y)
        split <;> rfl
  exact key l none
def natZ (k : Nat) : Int := (k : Int)
theorem top_is {S : List Int} (h : S ≠ []) : bestF (fun z : Int => S[z.toNat]!) ((List.range S.length).map natZ) = some (topI S : Int) := by
  rw [best_map]
  have hr : List.range S.length ≠ [] := by intro e; exact h (List.eq_nil_of_length_eq_zero (by have := congrArg List.length e; simpa using this))
  obtain ⟨x, hx⟩ := Option.isSome_iff_exists.1 (best_isSome (fun k : Nat => S[k]!) _ hr)
  have e : topI S = x := by unfold topI; rw [hx]; rfl
  rw [e]
  show Option.map natZ (bestF (fun k : Nat => S[(natZ k).toNat]!) _) = _
  rw [show (fun k : Nat => S[(natZ k).toNat]!) = fun k : Nat => S[k]! from by funext k; unfold natZ; rw [Int.toNat_natCast], hx]
  rfl
theorem low_is {S : List Int} (h : S ≠ []) : bestF (fun z : Int => -S[z.toNat]!) ((List.range S.length).map natZ) = some (lowI S : Int) := by
  rw [best_map]
  have hr : List.range S.length ≠ [] := by intro e; exact h (List.eq_nil_of_length_eq_zero (by have := congrArg List.length e; simpa using this))
  obtain ⟨x, hx⟩ := Option.isSome_iff_exists.1 (best_isSome (fun k : Nat => -S[k]!) _ hr)
  have e : lowI S = x := by unfold lowI; rw [hx]; rfl
  rw [e]
  show Option.map natZ (bestF (fun k : Nat => -S[(natZ k).toNat]!) _) = _
  rw [show (fun k : Nat => -S[(natZ k).toNat]!) = fun k : Nat => -S[k]! from by funext k; unfold natZ; rw [Int.toNat_natCast], hx]
  rfl
theorem shift1 (k : Nat) (a : Option Addr) (n c : Nat) (S : List Int) (g : Nat) (w : World) (_hg : g < w.heap.size) (hc : w.cell? ⟨g, 0, none⟩ = some (.slice a n c)) (hA : RArg encI 1 w a n c S) (hk : k < S.length) :
    Calls Try.prog 69 #[.int .i64 (k : Int), .pointer (some ⟨g, 0, none⟩)] w (Gives w (.int .i64 S[k]!)) := by
  obtain ⟨b, off, rfl, hb, h0⟩ := hA.2.2.2.2.int k hk
  have hn := hA.1
  have hkz : (k : Int) < (n : Int) := by omega
  have hk0 : (0 : Int) ≤ (k : Int) := by omega
  have hnz : (n : Int) ≤ 9223372036854775807 := by have := hA.2.1; omega
  obtain ⟨z, hz⟩ : ∃ z, S[k]! = z := ⟨_, rfl⟩
  rw [hz] at h0 ⊢
  clear hn hA hz
  go_enter Try.func69, Try.ntmps69
  go_wp2
  go_ret
  exact ⟨rfl, Below.refl _ _⟩
theorem shift2 (k : Nat) (a : Option Addr) (n c : Nat) (S : List Int) (g : Nat) (w : World) (_hg : g < w.heap.size) (hc : w.cell? ⟨g, 0, none⟩ = some (.slice a n c)) (hA : RArg encI 1 w a n c S) (hk : k < S.length) (hS : -1000000000000000000 ≤ S[k]! ∧ S[k]! ≤ 1000000000000000000) :
    Calls Try.prog 70 #[.int .i64 (k : Int), .pointer (some ⟨g, 0, none⟩)] w (Gives w (.int .i64 (-S[k]!))) := by
  obtain ⟨b, off, rfl, hb, h0⟩ := hA.2.2.2.2.int k hk
  have hn := hA.1
  have hkz : (k : Int) < (n : Int) := by omega
  have hk0 : (0 : Int) ≤ (k : Int) := by omega
  have hnz : (n : Int) ≤ 9223372036854775807 := by have := hA.2.1; omega
  obtain ⟨z, hz⟩ : ∃ z, S[k]! = z := ⟨_, rfl⟩
  rw [hz] at h0 hS ⊢
  have hw2 : IntKind.i64.wrap (-z) = -z := IntWalk.i64_in _ (by omega)
  clear hn hA hz
  go_enter Try.func70, Try.ntmps70
  go_wp2
  go_ret
  exact ⟨rfl, Below.refl _ _⟩
def fitP (f gap : Int) (x : Pt) : Bool := x.s.2.2.2 == f && (decide (0 < x.v) && decide (x.v < gap))
theorem shift3 (x : Pt) (f gap : Int) (g1 g2 : Nat) (w : World) (h1 : g1 < w.heap.size) (h2 : g2 < w.heap.size) (hc1 : w.cell? ⟨g1, 0, none⟩ = some (.int .i64 f)) (hc2 : w.cell? ⟨g2, 0, none⟩ = some (.int .i64 gap)) :
    Calls Try.prog 71 #[.agg #[.int .i64 x.s.1, .int .i64 x.s.2.1, .int .i64 x.s.2.2.1, .int .i64 x.s.2.2.2, .slice x.a x.n x.c, .int .i64 x.v], .pointer (some ⟨g1, 0, none⟩), .pointer (some ⟨g2, 0, none⟩)] w (Gives w (.bool (fitP f gap x))) := by
  obtain ⟨⟨i1, i2, i3, i4⟩, a, n, c, ps, v⟩ := x
  have H := Lib.hid (show fitP f gap ⟨(i1, i2, i3, i4), a, n, c, ps, v⟩ = (i4 == f && (decide (0 < v) && decide (v < gap))) from rfl)
  generalize fitP f gap ⟨(i1, i2, i3, i4), a, n, c, ps, v⟩ = r at H
  dsimp only
  obtain ⟨W1, hW1⟩ : ∃ W1, w.alloc (.cells #[.int .i64 i1, .int .i64 i2, .int .i64 i3, .int .i64 i4, .slice a n c, .int .i64 v] 101) = W1 := ⟨_, rfl⟩
  have bw : Below w.heap.size w W1 := by rw [← hW1]; exact (Below.refl _ _).alloc (Nat.le_refl _) _
  have hr1 : W1.heap[w.heap.size]? = some (.cells #[.int .i64 i1, .int .i64 i2, .int .i64 i3, .int .i64 i4, .slice a n c, .int .i64 v] 101) := by rw [← hW1]; exact heap_alloc_new _ _
  obtain ⟨⟨q0, q1, q2, q3, q4, q5⟩, _⟩ := cells6B hr1
  have k1 := (bw.cell (p := ⟨g1, 0, none⟩) h1).trans hc1
  have k2 := (bw.cell (p := ⟨g2, 0, none⟩) h2).trans hc2
  obtain ⟨x1, e1⟩ : ∃ b, (i4 == f) = b := ⟨_, rfl⟩
  obtain ⟨x2, e2⟩ : ∃ b, decide (0 < v) = b := ⟨_, rfl⟩
  obtain ⟨x3, e3⟩ : ∃ b, decide (v < gap) = b := ⟨_, rfl⟩
  rw [e1, e2, e3] at H
  clear hr1 hc1 hc2
  cases x1 <;> cases x2 <;> cases x3
  all_goals
    go_enter Try.func71, Try.ntmps71
    go_wp2
    go_ret
    exact ⟨ret_bool (by rw [H.out]; rfl), bw⟩
def gapS (S : List Int) : Int := S[topI S]! - S[lowI S]!
def shiftP (S : List Int) (slack : Int) (ps : List Pt) : Option Gd := if gapS S ≤ slack then none else match bestF (fun x => x.v) (ps.filter (fitP (topI S : Int) (gapS S))) with
  | none => none
  | some x => some (3, x.s.1, (lowI S : Int))
theorem range_more (k : Nat) : (List.range (k + 1)).map natZ = (List.range k).map natZ ++ [(k : Int)] := by rw [List.range_succ, List.map_append]; rfl
theorem setI1 {W : World} {b : Nat} {x y : Value} {t : TypeId} (h : W.heap[b]? = some (.cells #[x] t)) : (W.setCell ⟨b, 0, none⟩ y).heap[b]? = some (.cells #[y] t) := heap_setCell_same _ _ 0 _ _ y h
theorem rarg_own1 {W : World} {base g n : Nat} {l : List Int} (h : OwnsI W base (.slice (some ⟨g, 0, none⟩) n n) l) (hl : l.length = n) : RArg encI 1 W (some ⟨g, 0, none⟩) n n l := by
  obtain ⟨a, c, e, hA⟩ := h.rarg
  injection e with e1 e2 e3
  subst e1 e3
  rw [hl] at hA
  exact hA
set_option maxRecDepth 100000 in
set_option maxHeartbeats 4000000 in
theorem shift_any (a : Option Addr) (n c : Nat) (ps : List Pt) (a2 : Option Addr) (m cp2 : Nat) (S : List Int) (slack : Int) (w : World) (h : RArg encPt 6 w a n c ps) (hps : GoodPs w ps) (hn24 : n ≤ 24) (hS : RArg encI 1 w a2 m cp2 S) (hm : 1 ≤ m ∧ m ≤ 5) (hb : ∀ z ∈ S, 0 ≤ z ∧ z ≤ 1000000000000000000) :
    Calls Try.prog 46 #[.slice a n c, .slice a2 m cp2, .int .i64 slack] w (SugPost (shiftP S slack ps) w) := by
  obtain ⟨i0, hi0, hz0, hz1, hz2⟩ := info_parts Try.infoInt
  have hml := hS.1
  have hSne : S ≠ [] := fun e => by rw [e] at hml; simp at hml; omega
  have htop := topI_spec hSne
  have hlow := lowI_spec hSne
  have hT := top_is hSne
  have hLo := low_is hSne
  obtain ⟨R, hR⟩ : ∃ R, shiftP S slack ps = R := ⟨_, rfl⟩
  rw [hR]
  obtain ⟨W0, hW0⟩ : ∃ W0, w.alloc (.cells #[.slice a2 m cp2] 56) = W0 := ⟨_, rfl⟩
  have b0 : Below w.heap.size w W0 := by rw [← hW0]; exact (Below.refl _ _).alloc (Nat.le_refl _) _
  have g0 : w.heap.size < W0.heap.size := by rw [← hW0]; simp
  have k0 : W0.cell? ⟨w.heap.size, 0, none⟩ = some (.slice a2 m cp2) := by rw [← hW0]; exact cell_of_row _ _ 0 _ _ _ (heap_alloc_new _ _)
  obtain ⟨W1, hW1⟩ : ∃ W1, W0.alloc (.cells #[.int .i64 0, .int .i64 0, .int .i64 0] 33) = W1 := ⟨_, rfl⟩
  have b01 : Below W0.heap.size W0 W1 := by rw [← hW1]; exact (Below.refl _ _).alloc (Nat.le_refl _) _
  have g1 : W0.heap.size < W1.heap.size := by rw [← hW1]; simp
  have r1 : W1.heap[W0.heap.size]? = some (.cells #[.int .i64 0, .int .i64 0, .int .i64 0] 33) := by rw [← hW1]; exact heap_alloc_new _ _
  have bw := below_next b0 b01
  have KZ := Lib.hid (fun W (hb : Below W1.heap.size W1 W) => cells3B ((hb.block _ g1).trans r1))
  have KH := Lib.hid (fun W (hb : Below W1.heap.size W1 W) => (hb.cell (p := ⟨w.heap.size, 0, none⟩) (Nat.lt_trans g0 g1)).trans ((b01.cell (p := ⟨w.heap.size, 0, none⟩) g0).trans k0))
  have hp0 := KH.out _ (Below.refl _ _)
  have hmz : (m : Int) ≤ 9223372036854775807 := by omega
  have g0w : w.heap.size ≤ W0.heap.size := Nat.le_of_lt g0
  have HPS := Lib.hid (hps.below bw)
  have HA := Lib.hid (h.below bw)
  have HSA := Lib.hid (hS.below bw)
  have HSB := Lib.hid hb
  have gw1 : w.heap.size < W1.heap.size := Nat.lt_trans g0 g1
  clear r1 k0 h hps hS hb
  replace hml := Lib.hid hml
  replace hT := Lib.hid hT
  replace hLo := Lib.hid hLo
  replace htop := Lib.hid htop
  replace hlow := Lib.hid hlow
  replace hR := Lib.hid hR
  clear hSne
  go_enter Try.func46, Try.ntmps46
  go_wp2_with (at_make; refine wpList_make_full _ rfl (.tmp 19) (.tmp 19) 56 rfl W1.heap.size 3 i0 (.int .i64 0) 1 Try.underlying56 hi0 hz0 hz1 .i64 .i64 m m m rfl rfl rfl rfl (by rw [hz2]; omega) (by unfold maxLen; omega) (Nat.le_refl _) ?_)
  intro w3 hrow hg3
  have b13 : Below W1.heap.size W1 w3 := (Below.refl _ _).grown hg3 (Nat.le_refl _) (fun _ h => by cases h)
  have HR3 := Lib.hid (shards_own (xs := List.replicate m 0) (by rw [← made1]; exact hrow) (by simp))
  have G3 := hrow.lt W1.heap.size rfl
  clear hrow hg3
  replace hW1 := Lib.hid hW1
  replace hW0 := Lib.hid hW0
  go_wp2_with fail
  go_loopw [23] (fun i wr => ∃ (k : Nat), i = .int .i64 (k : Int) ∧ k ≤ m ∧ Hid (OwnsI wr W1.heap.size (.slice (some ⟨W1.heap.size, 0, none⟩) m m) ((List.range k).map natZ ++ List.replicate (m - k) 0)) ∧ Below W1.heap.size W1 wr)
    (fun i _ => m - (intOf i).toNat)
  case atStart => exact ⟨0, rfl, Nat.zero_le _, HR3, b13⟩
  case round =>
    obtain ⟨k, rfl, hk, HO, hbl⟩ := hrel
    have hpre : ((List.range k).map natZ).length = k := by simp
    by_cases hlt : k < m
    · have hkz : (k : Int) < (m : Int) := by omega
      have hset := set_pre (x := (k : Int)) hpre hlt
      rw [← range_more] at hset
      have hlen : ((List.range k).map natZ ++ List.replicate (m - k) (0 : Int)).length = m := by rw [List.length_append, hpre, List.length_replicate]; omega
      have hlen2 : ((List.range (k + 1)).map natZ ++ List.replicate (m - (k + 1)) (0 : Int)).length = m := by rw [← hset, List.length_set]; exact hlen
      have HRO := Lib.hid (show wr.ownsRow W1.heap.size 3 1 (.slice (some ⟨W1.heap.size, 0, none⟩) m m) m (((List.range k).map natZ ++ List.replicate (m - k) (0 : Int)).map (Value.int .i64)) by have := HO.out; unfold OwnsI at this; rwa [hlen] at this)
      have e0 := World.ownsRow.frozenAt HRO.out k
      obtain ⟨v0, r0⟩ : ∃ v, wr.cell? ⟨W1.heap.size, k, none⟩ = some v := ⟨_, (World.ownsRow.cellAt HRO.out k (by omega)).trans (List.getElem?_eq_getElem (by rw [List.length_map, hlen]; exact hlt))⟩
      have HSET := Lib.hid (show OwnsI (wr.setCell ⟨W1.heap.size, k, none⟩ (.int .i64 (k : Int))) W1.heap.size (.slice (some ⟨W1.heap.size, 0, none⟩) m m) ((List.range (k + 1)).map natZ ++ List.replicate (m - (k + 1)) 0) by
        refine shards_own ?_ hlen2
        rw [← hset, ← set_ints]
        exact (World.ownsRow.stored HRO.out k _).1)
      clear hset hlen hlen2 hpre
      go_wp2_with fail
      go_roundw
      case rel => exact ⟨k + 1, by go_num, by omega, HSET, hbl.setCell (Nat.le_refl _) _⟩
      case measure => simp [intOf]; omega
    · have hkz : ¬ (k : Int) < (m : Int) := by omega
      have hkm : k = m := by omega
      have hOm := HO.out
      rw [hkm, Nat.sub_self, List.replicate_zero, List.append_nil, show (List.range m).map natZ = (List.range S.length).map natZ by rw [hml.out]] at hOm
      have hAN := rarg_own1 hOm (by rw [List.length_map, List.length_range]; exact hml.out.symm)
      replace hAN := Lib.hid hAN
      have hblw := Lib.hid hbl
      obtain ⟨⟨z0, z1, z2⟩, fz⟩ := KZ.out _ hbl
      have hp3 := KH.out _ hbl
      obtain ⟨f, hf⟩ : ∃ f, topI S = f := ⟨_, rfl⟩
      obtain ⟨t, ht⟩ : ∃ t, lowI S = t := ⟨_, rfl⟩
      have hfl := htop.out.1
      have htl := hlow.out.1
      rw [hf] at hfl
      rw [ht] at htl
      rw [hf] at hT
      rw [ht] at hLo
      have hfm : f < m := by rw [hml.out]; exact hfl
      have htm : t < m := by rw [hml.out]; exact htl
      have B1 := Lib.hid (fun W (hb' : Below W1.heap.size W1 W) (hA' : RArg encI 1 W (some ⟨W1.heap.size, 0, none⟩) m m ((List.range S.length).map natZ)) => (show Calls Try.prog 68 #[.slice (some ⟨W1.heap.size, 0, none⟩) m m, .func (.func 69) #[] #[.pointer (some ⟨w.heap.size, 0, none⟩)]] W fun e w' => e = .returned (.tuple #[.int .i64 (f : Int), .bool true]) ∧ Below W.heap.size W w' by
        have := bestInt_any (fun z : Int => S[z.toNat]!) 69 #[.pointer (some ⟨w.heap.size, 0, none⟩)] (enters_of Try.func69 (by kernel_rfl) rfl) (some ⟨W1.heap.size, 0, none⟩) m m _ W hA' (fun W' z hbz hz => by
          obtain ⟨j, hj, rfl⟩ := List.mem_map.1 hz
          have hj' : j < S.length := List.mem_range.1 hj
          have := shift1 j a2 m cp2 S w.heap.size W' (Nat.lt_of_lt_of_le gw1 (below_next hb' hbz).size) (KH.out _ (below_next hb' hbz)) (HSA.out.below (below_next hb' hbz)) hj'
          show Calls Try.prog _ #[.int .i64 (j : Int), .pointer (some ⟨w.heap.size, 0, none⟩)] W' (Gives W' (.int .i64 S[(natZ j).toNat]!))
          rw [show (natZ j).toNat = j from Int.toNat_natCast j]
          exact this)
        rw [hT.out] at this
        exact this))
      have B2 := Lib.hid (fun W (hb' : Below W1.heap.size W1 W) (hA' : RArg encI 1 W (some ⟨W1.heap.size, 0, none⟩) m m ((List.range S.length).map natZ)) => (show Calls Try.prog 68 #[.slice (some ⟨W1.heap.size, 0, none⟩) m m, .func (.func 70) #[] #[.pointer (some ⟨w.heap.size, 0, none⟩)]] W fun e w' => e = .returned (.tuple #[.int .i64 (t : Int), .bool true]) ∧ Below W.heap.size W w' by
        have := bestInt_any (fun z : Int => -S[z.toNat]!) 70 #[.pointer (some ⟨w.heap.size, 0, none⟩)] (enters_of Try.func70 (by kernel_rfl) rfl) (some ⟨W1.heap.size, 0, none⟩) m m _ W hA' (fun W' z hbz hz => by
          obtain ⟨j, hj, rfl⟩ := List.mem_map.1 hz
          have hj' : j < S.length := List.mem_range.1 hj
          have hbj := HSB.out _ (mem_bang hj')
          have := shift2 j a2 m cp2 S w.heap.size W' (Nat.lt_of_lt_of_le gw1 (below_next hb' hbz).size) (KH.out _ (below_next hb' hbz)) (HSA.out.below (below_next hb' hbz)) hj' (by omega)
          show Calls Try.prog _ #[.int .i64 (j : Int), .pointer (some ⟨w.heap.size, 0, none⟩)] W' (Gives W' (.int .i64 (-S[(natZ j).toNat]!)))
          rw [show (natZ j).toNat = j from Int.toNat_natCast j]
          exact this)
        rw [hLo.out] at this
        exact this))
      have hbf := HSB.out _ (mem_bang hfl)
      have hbt := HSB.out _ (mem_bang htl)
      have HCELL := Lib.hid (fun (k : Nat) (hk : k < S.length) W (hb' : Below W1.heap.size W1 W) => (HSA.out.below hb').2.2.2.2.int k hk)
      obtain ⟨b2, off2, e2, hb2l, c2f⟩ := HCELL.out f hfl W1 (Below.refl _ _)
      subst e2
      have CF := Lib.hid (fun W (hb' : Below W1.heap.size W1 W) => (show W.cell? ⟨b2, off2 + f, none⟩ = some (.int .i64 S[f]!) ∧ W.cell? ⟨b2, off2 + t, none⟩ = some (.int .i64 S[t]!) by
        obtain ⟨_, _, e, _, c⟩ := HCELL.out f hfl W hb'
        cases e
        obtain ⟨_, _, e, _, d⟩ := HCELL.out t htl W hb'
        cases e
        exact ⟨c, d⟩))
      have HGAP := Lib.hid (show gapS S = S[f]! - S[t]! by unfold gapS; rw [hf, ht])
      obtain ⟨sf, hsf⟩ : ∃ z, S[f]! = z := ⟨_, rfl⟩
      obtain ⟨st, hst⟩ : ∃ z, S[t]! = z := ⟨_, rfl⟩
      rw [hsf, hst] at CF HGAP
      rw [hsf] at hbf
      rw [hst] at hbt
      have hw1 : IntKind.i64.wrap (sf - st) = sf - st := IntWalk.i64_in _ (by omega)
      have hf0 : (0 : Int) ≤ (f : Int) := by omega
      have hf1 : (f : Int) < (m : Int) := by omega
      have ht0 : (0 : Int) ≤ (t : Int) := by omega
      have ht1 : (t : Int) < (m : Int) := by omega
      replace hf := Lib.hid hf
      replace ht := Lib.hid ht
      clear fz hOm hpre hkm c2f hsf hst hfl htl
      go_upto_region 9 with (first | (go_at_call 68; (with_reducible refine (B1.out _ hblw.out hAN.out).mono ?_); rintro e w5 ⟨rfl, hb5⟩; (obtain ⟨W6, hW6⟩ : ∃ W6, w5.alloc (.cells #[.int .i64 (f : Int)] 3) = W6 := ⟨_, rfl⟩); (have b56 : Below w5.heap.size w5 W6 := by rw [← hW6]; exact (Below.refl _ _).alloc (Nat.le_refl _) _); (have k6 : W6.cell? ⟨w5.heap.size, 0, none⟩ = some (.int .i64 (f : Int)) := by rw [← hW6]; exact cell_int1); (have g56 : w5.heap.size < W6.heap.size := by rw [← hW6]; simp); have b36 := below_next hb5 b56; have hb06 := Lib.hid (below_next hblw.out b36); have hA6 := Lib.hid (hAN.out.below b36)) | (go_at_call 68; (with_reducible refine (B2.out _ hb06.out hA6.out).mono ?_); rintro e w7 ⟨rfl, hb7⟩; have hb07 := below_next hb06.out hb7; have k7 := (hb7.cell (p := ⟨w5.heap.size, 0, none⟩) g56).trans k6) | fail)
      have hb37 := Lib.hid hb07
      have hg5 : w5.heap.size < w7.heap.size := Nat.lt_of_lt_of_le g56 hb7.size
      have HG5 := Lib.hid hg5
      have K7 := Lib.hid (fun W (hb' : Below w7.heap.size w7 W) => (hb'.cell (p := ⟨w5.heap.size, 0, none⟩) hg5).trans k7)
      have S7 := Lib.hid (fun W (hb' : Below w7.heap.size w7 W) => (show W.cell? ⟨w.heap.size, 0, none⟩ = some (.slice (some ⟨b2, off2, none⟩) m cp2) ∧ W.cell? ⟨w5.heap.size, 0, none⟩ = some (.int .i64 (f : Int)) ∧ W.cell? ⟨b2, off2 + f, none⟩ = some (.int .i64 sf) ∧ W.cell? ⟨b2, off2 + t, none⟩ = some (.int .i64 st) from
        have hh := below_next hb37.out hb'
        ⟨KH.out _ hh, K7.out _ hb', (CF.out _ hh).1, (CF.out _ hh).2⟩))
      replace hW6 := Lib.hid hW6
      go_cut [14] from 43 to 51 (fun p wx => ∃ g : Nat, p = .pointer (some ⟨g, 0, none⟩) ∧ wx.heap[g]? = some (.cells #[.int .i64 (sf - st)] 3) ∧ w7.heap.size ≤ g ∧ Below w7.heap.size w7 wx)
      case first =>
        have HBD : Below w7.heap.size w7 w7 := Below.refl _ _
        obtain ⟨s1, s2, s3, s4⟩ := S7.out _ HBD
        go_region_held3 (fun WW => WW.cell? ⟨w.heap.size, 0, none⟩ = some (.slice (some ⟨b2, off2, none⟩) m cp2) ∧ WW.cell? ⟨w5.heap.size, 0, none⟩ = some (.int .i64 (f : Int)) ∧ WW.cell? ⟨b2, off2 + f, none⟩ = some (.int .i64 sf) ∧ WW.cell? ⟨b2, off2 + t, none⟩ = some (.int .i64 st)) (exact S7.out _ (by repeat (first | with_reducible exact HBD | with_reducible refine toDB ?_ | with_reducible refine Below.alloc ?_ (by first | exact Nat.le_refl _ | omega | (simp; done) | (simp; omega)) _ | with_reducible refine Below.setCell ?_ (by first | with_reducible exact Nat.le_refl _ | (dsimp only; omega)) _))) (fail)
        all_goals
          go_wp2_with fail
          go_meet
          first
            | exact ⟨_, rfl, setI1 (heap_alloc_new _ _), Nat.le_refl _, (by repeat (first | with_reducible exact HBD | with_reducible refine toDB ?_ | with_reducible refine Below.alloc ?_ (by first | exact Nat.le_refl _ | omega | (simp; done) | (simp; omega)) _ | with_reducible refine Below.setCell ?_ (by first | with_reducible exact Nat.le_refl _ | (dsimp only; omega)) _))⟩
            | exact ⟨_, rfl, heap_alloc_new _ _, Nat.le_refl _, (by repeat (first | with_reducible exact HBD | with_reducible refine toDB ?_ | with_reducible refine Below.alloc ?_ (by first | exact Nat.le_refl _ | omega | (simp; done) | (simp; omega)) _ | with_reducible refine Below.setCell ?_ (by first | with_reducible exact Nat.le_refl _ | (dsimp only; omega)) _))⟩
      case rest =>
        obtain ⟨g, rfl, hgc, hgw, hbc⟩ := hcut
        have hgl := heap_lt hgc
        have q8 : wc.cell? ⟨g, 0, none⟩ = some (.int .i64 (sf - st)) := cell_of_row _ _ 0 _ _ _ hgc
        have k8 := K7.out _ hbc
        have hb0c := below_next hb37.out hbc
        obtain ⟨⟨z0, z1, z2⟩, fz⟩ := KZ.out _ hb0c
        have f0 := fz 0
        have f1 := fz 1
        have f2 := fz 2
        clear fz
        have h5c : w5.heap.size < wc.heap.size := Nat.lt_of_lt_of_le HG5.out hbc.size
        obtain ⟨G, hG⟩ : ∃ G, sf - st = G := ⟨_, rfl⟩
        rw [hG] at q8 HGAP
        have HCAP := Lib.hid (fun W (hb' : Below wc.heap.size wc W) => (show W.cell? ⟨w5.heap.size, 0, none⟩ = some (.int .i64 (f : Int)) ∧ W.cell? ⟨g, 0, none⟩ = some (.int .i64 G) from ⟨(hb'.cell (p := ⟨w5.heap.size, 0, none⟩) h5c).trans k8, (hb'.cell (p := ⟨g, 0, none⟩) hgl).trans q8⟩))
        clear hG hgc
        by_cases hgs : G ≤ slack
        · have HR := Lib.hid (show R = none by rw [← hR.out]; unfold shiftP; rw [HGAP.out, if_pos hgs])
          go_wp2_with fail
          exact bodyPost_ret (v := .tuple #[.agg #[.int .i64 0, .int .i64 0, .int .i64 0], .bool false]) (by simp [results, Try.results46, go_sem, z0, z1, z2]) rfl ⟨by rw [HR.out]; rfl, (by repeat (first | with_reducible exact below_next bw hb0c | with_reducible refine Below.setCell ?_ (show w.heap.size ≤ W0.heap.size from g0w) _))⟩
        · obtain ⟨F, hF⟩ : ∃ F, ps.filter (fitP (f : Int) G) = F := ⟨_, rfl⟩
          have hR2 : R = match bestF (fun x : Pt => x.v) F with | none => none | some x => some (3, x.s.1, (t : Int)) := by rw [← hR.out, ← hF]; unfold shiftP; rw [HGAP.out, hf.out, ht.out, if_neg hgs]
          have ON := Lib.hid (fun W (hb' : Below wc.heap.size wc W) (hA' : RArg encPt 6 W a n c ps) => hF ▸ onlyPart_any (fitP (f : Int) G) 71 #[.pointer (some ⟨w5.heap.size, 0, none⟩), .pointer (some ⟨g, 0, none⟩)] (enters_of Try.func71 (by kernel_rfl) rfl) a n c ps W hA' (fun W' x hbz _ => shift3 x (f : Int) G w5.heap.size g W' (Nat.lt_of_lt_of_le h5c (below_next hb' hbz).size) (Nat.lt_of_lt_of_le hgl (below_next hb' hbz).size) (HCAP.out _ (below_next hb' hbz)).1 (HCAP.out _ (below_next hb' hbz)).2) (by omega))
          have BE := Lib.hid (fun W (a3 : Option Addr) (c3 : Nat) (hA : RArg encPt 6 W a3 F.length c3 F) => bestPart_any (fun x => x.v) 72 #[] (enters_of Try.func72 (by kernel_rfl) rfl) a3 F.length c3 F W hA (fun W' x _ _ => shift4 x W'))
          have HAC := Lib.hid (HA.out.below hb0c)
          clear hF
          cases hB : bestF (fun x : Pt => x.v) F with
          | none =>
            rw [hB] at hR2 BE
            have HR := Lib.hid (show R = none from hR2)
            have BN := Lib.hid (fun W a3 c3 hA => (show Calls Try.prog 63 #[.slice a3 F.length c3, .func (.func 72) #[] #[]] W fun e w' => e = .returned (.tuple #[.agg #[.int .i64 0, .int .i64 0, .int .i64 0, .int .i64 0, .slice none 0 0, .int .i64 0], .bool false]) ∧ Below W.heap.size W w' from BE.out W a3 c3 hA))
            clear hR2 hB BE
            go_wp2_with (first | (go_at_call 60; (with_reducible refine (ON.out _ (Below.refl _ _) HAC.out).mono ?_); rintro e x2 ⟨v, rfl, hv, hb2⟩; obtain ⟨a3, c3, rfl, hA3, _⟩ := hv.fresh encPt_len; replace hA3 := Lib.hid hA3; clear hv) | (go_at_call 63; (with_reducible refine (BN.out _ _ _ hA3.out).mono ?_); rintro e x3 ⟨rfl, hb3⟩; have hb13 := below_next hb0c (below_next hb2 hb3); have hb14 := hb13.alloc hb13.size (.cells #[.int .i64 0, .int .i64 0, .int .i64 0, .int .i64 0, .slice none 0 0, .int .i64 0] 101); obtain ⟨⟨z0, z1, z2⟩, fz⟩ := KZ.out _ hb14; have f0 := fz 0; have f1 := fz 1; have f2 := fz 2; clear fz) | fail)
            exact bodyPost_ret (v := .tuple #[.agg #[.int .i64 0, .int .i64 0, .int .i64 0], .bool false]) (by simp [results, Try.results46, go_sem, z0, z1, z2]) rfl ⟨by rw [HR.out]; rfl, (by repeat (first | with_reducible exact below_next bw hb14 | with_reducible refine Below.setCell ?_ (show w.heap.size ≤ W0.heap.size from g0w) _))⟩
          | some x =>
            rw [hB] at hR2 BE
            obtain ⟨⟨i1, i2, i3, i4⟩, a9, n9, c9, ps9, v9⟩ := x
            have HR := Lib.hid (show R = some (3, i1, (t : Int)) from hR2)
            have BN := Lib.hid (fun W a3 c3 hA => (show Calls Try.prog 63 #[.slice a3 F.length c3, .func (.func 72) #[] #[]] W fun e w' => e = .returned (.tuple #[.agg #[.int .i64 i1, .int .i64 i2, .int .i64 i3, .int .i64 i4, .slice a9 n9 c9, .int .i64 v9], .bool true]) ∧ Below W.heap.size W w' from BE.out W a3 c3 hA))
            clear hR2 hB BE
            go_wp2_with (first | (go_at_call 60; (with_reducible refine (ON.out _ (Below.refl _ _) HAC.out).mono ?_); rintro e x2 ⟨v, rfl, hv, hb2⟩; obtain ⟨a3, c3, rfl, hA3, _⟩ := hv.fresh encPt_len; replace hA3 := Lib.hid hA3; clear hv) | (go_at_call 63; (with_reducible refine (BN.out _ _ _ hA3.out).mono ?_); rintro e x3 ⟨rfl, hb3⟩; have hb13 := below_next hb0c (below_next hb2 hb3); (obtain ⟨W4, hW4⟩ : ∃ W4, x3.alloc (.cells #[.int .i64 i1, .int .i64 i2, .int .i64 i3, .int .i64 i4, .slice a9 n9 c9, .int .i64 v9] 101) = W4 := ⟨_, rfl⟩); (have b34 : Below x3.heap.size x3 W4 := by rw [← hW4]; exact (Below.refl _ _).alloc (Nat.le_refl _) _); (have r4 : W4.heap[x3.heap.size]? = some (.cells #[.int .i64 i1, .int .i64 i2, .int .i64 i3, .int .i64 i4, .slice a9 n9 c9, .int .i64 v9] 101) := by rw [← hW4]; exact heap_alloc_new _ _); obtain ⟨p0, p1, p2, p3, p4, p5⟩ := (cells6B r4).1; have hb14 := below_next hb13 b34; clear r4; obtain ⟨⟨z0, z1, z2⟩, fz⟩ := KZ.out _ hb14; have f0 := fz 0; have f1 := fz 1; have f2 := fz 2; clear fz) | fail)
            exact bodyPost_ret (v := .tuple #[.agg #[.int .i64 3, .int .i64 i1, .int .i64 (t : Int)], .bool true]) (by simp [results, Try.results46, go_sem, z0, z1, z2]) rfl ⟨by rw [HR.out]; rfl, (by repeat (first | with_reducible exact below_next bw hb14 | with_reducible refine Below.setCell ?_ (show w.heap.size ≤ W0.heap.size from g0w) _))⟩
end Go.Proofs.Ytihpojllalnmcaa
