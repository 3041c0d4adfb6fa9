/-
  BAGS: the numbers of the mails that can be taken, of three mails the last one.
-/
import Derived.Test.YtbimchdjlkihdaaBgK
import Derived.Lib.SliceRun
namespace Go.Proofs.Ytbimchdjlkihdaa
open Go.RowKit Go.Maps Go.ChangeMaps

theorem Mp.look1 {w : World} {mb n : Nat} {G : Int → Option Ml} (h : Mp w mb G n) {k : Int} (hk : (Lit.int .i64 k).wf = true) {m : Ml} (hg : G k = some m) :
    (Instr.lookup 58 (.map (some mb)) (.int .i64 k) false).run Try.prog w = .ok (.agg #[.int .i64 m.id, .int .i64 m.fr, .int .i64 m.to, .string m.tx]) w := by
  obtain ⟨D, h1, h2, h3⟩ := h
  obtain ⟨v, ps, hrun, hv⟩ := h1.lookup kInt Try.underlying58 (zeroM w) (rdM_mk 0 0 0 ⟨#[]⟩) (kOf hk)
  rw [(h3 k hk).2, hg] at hv
  obtain ⟨m', rfl, e⟩ := rdM_inv hv
  have e2 : m = m' := dat_inj (congrArg Prod.fst e)
  rw [hrun, e2]
set_option maxRecDepth 100000 in
set_option maxHeartbeats 2000000 in
theorem ready1_any {w : World} {p mb ab bx : Nat} {s : Bs} (h : Bg w p mb ab s) (hx : w.cell? ⟨bx, 0, none⟩ = some (.pointer (some ⟨p, 0, none⟩))) {k : Int} (hk : (Lit.int .i64 k).wf = true) {m : Ml} (hg : s.G k = some m) {v : Bool} (hv : cutB s m.fr m.to = v) :
    Calls Try.prog 37 #[.int .i64 k, .pointer (some ⟨bx, 0, none⟩)] w (RPost (.bool v) w) := by
  obtain ⟨hf, ht⟩ := (h.keys k m hg).2.2.2
  have wf1 := wf_i64 (k := m.fr) (by omega) (by omega)
  have wf2 := wf_i64 (k := m.to) (by omega) (by omega)
  obtain ⟨c0, c1, c2⟩ := h.cells
  have hbg := h
  have hl := h.hm.look1 hk hg
  have hl2 := h.drew.hm.look1 hk hg
  clear hf ht hg
  subst hv
  go_enter Try.func37, Try.ntmps37
  go_wp2
  go_region_with (go_at_call 32; (with_reducible refine (cut_any hbg.drew m wf1 wf2).mono ?_); rintro e w2 ⟨rfl, b2⟩)
  all_goals
    go_wp2
    go_ret
    exact ⟨rfl, (toDr (Below.refl _ _)).trans (b2.mono (Nat.le_refl _))⟩
set_option maxRecDepth 100000 in
theorem same3_any {w : World} {b1 b2 o1 o2 c1 c2 : Nat} (h1 : w.cell? ⟨b1, o1, none⟩ = some (.int .i64 3)) (h2 : w.cell? ⟨b2, o2, none⟩ = some (.int .i64 3)) :
    Calls Try.prog 19 #[.slice (some ⟨b1, o1, none⟩) 1 c1, .slice (some ⟨b2, o2, none⟩) 1 c2] w (RPost (.bool true) w) := by
  go_enter Try.func19, Try.ntmps19
  go_wp2
  refine wp_loop_rounds 2 ?_
  rw [rounds_succ]
  go_wp2
  go_region
  go_wp2
  rw [rounds_succ]
  go_wp2
  go_ret
  exact ⟨rfl, toDr (Below.refl _ _)⟩
set_option maxRecDepth 100000 in
theorem index3_any {w : World} {p mb ab bx g c : Nat} {s : Bs} (h : Bg w p mb ab s) (hx : w.cell? ⟨bx, 0, none⟩ = some (.pointer (some ⟨p, 0, none⟩))) {m : Ml} (hg : s.G 1 = some m) (hv : cutB s m.fr m.to = true) (r0 : w.cell? ⟨g, 0, none⟩ = some (.int .i64 1)) :
    Calls Try.prog 46 #[.slice (some ⟨g, 0, none⟩) 3 c, .func (.func 37) #[] #[.pointer (some ⟨bx, 0, none⟩)]] w (RPost (.int .i64 0) w) := by
  go_enter Try.func46, Try.ntmps46
  go_wp2
  refine wp_loop_rounds 1 ?_
  rw [rounds_succ]
  go_wp2_with (go_at_call 37; (with_reducible refine (ready1_any h hx (by decide) hg hv).mono ?_); rintro e w2 ⟨rfl, b2⟩)
  go_ret
  exact ⟨rfl, b2⟩
/-- Only the row's block has turned. -/
def DelPost (g c : Nat) (w : World) (e : Ending) (w' : World) : Prop := e = .returned (.slice (some ⟨g, 0, none⟩) 1 c) ∧ w'.cell? ⟨g, 0, none⟩ = some (.int .i64 3) ∧ But g g g w w'
set_option maxRecDepth 100000 in
set_option maxHeartbeats 2000000 in
theorem delete3_any {w : World} {p mb ab bx g c : Nat} {s : Bs} (h : Bg w p mb ab s) (hx : w.cell? ⟨bx, 0, none⟩ = some (.pointer (some ⟨p, 0, none⟩))) (hxb : bx < w.heap.size) {ma mc md : Ml} (ga : s.G 1 = some ma) (gc : s.G 2 = some mc) (gd : s.G 3 = some md)
    (va : cutB s ma.fr ma.to = true) (vc : cutB s mc.fr mc.to = true) (vd : cutB s md.fr md.to = false) {cur : Array Value} (hr : w.heap[g]? = some (.cells cur 3)) (hc : 3 ≤ c ∧ cur.size = c ∧ c ≤ maxLen) (hcur : cur.toList.take 3 = [.int .i64 1, .int .i64 2, .int .i64 3]) :
    Calls Try.prog 36 #[.slice (some ⟨g, 0, none⟩) 3 c, .func (.func 37) #[] #[.pointer (some ⟨bx, 0, none⟩)]] w (DelPost g c w) := by
  have hglt : g < w.heap.size := (Array.getElem?_eq_some_iff.1 hr).1
  have hcz : (3 : Int) ≤ (c : Int) := by omega
  have hcn : ∀ (i : Nat) (x : Value), ([Value.int .i64 1, Value.int .i64 2, Value.int .i64 3] : List Value)[i]? = some x → cur[i]? = some x := fun i x hi => by
    have e1 : (cur.toList.take 3)[i]? = some x := by rw [hcur]; exact hi
    rw [List.getElem?_take] at e1
    split at e1
    · simpa using e1
    · cases e1
  have q0 := hcn 0 (.int .i64 1) rfl
  have q1 := hcn 1 (.int .i64 2) rfl
  have q2 := hcn 2 (.int .i64 3) rfl
  have hrow : ∀ W : World, W.heap[g]? = some (.cells cur 3) → W.cell? ⟨g, 0, none⟩ = some (.int .i64 1) ∧ W.cell? ⟨g, 1, none⟩ = some (.int .i64 2) ∧ W.cell? ⟨g, 2, none⟩ = some (.int .i64 3) ∧ W.frozen? ⟨g, 0, none⟩ = false ∧ W.frozen? ⟨g, 1, none⟩ = false ∧ W.frozen? ⟨g, 2, none⟩ = false := fun W hW =>
    ⟨(cell_of_row _ _ 0 _ _ _ hW).trans q0, (cell_of_row _ _ 1 _ _ _ hW).trans q1, (cell_of_row _ _ 2 _ _ _ hW).trans q2, frozen_of_row _ _ 0 _ _ hW, frozen_of_row _ _ 1 _ _ hW, frozen_of_row _ _ 2 _ _ hW⟩
  replace hrow := Lib.hid hrow
  replace hc := Lib.hid hc
  clear hcn hcur
  obtain ⟨r0, r1, r2, _⟩ := hrow.out w hr
  go_enter Try.func36, Try.ntmps36
  go_wp2_with (go_at_call 46; (with_reducible refine (index3_any h hx ga va r0).mono ?_); rintro e w2 ⟨rfl, b2⟩; (have hr2 := (b2.block g hglt).trans hr); (have h2 := h.same b2); (have hx2 := (b2.cell (p := ⟨bx, 0, none⟩) hxb).trans hx); obtain ⟨u0, u1, u2, _⟩ := hrow.out w2 hr2)
  refine wp_loop_rounds 3 ?_
  rw [rounds_succ]
  go_wp2_with (go_at_call 37; (with_reducible refine (ready1_any h2 hx2 (by decide) gc vc).mono ?_); rintro e w3 ⟨rfl, b3⟩; (have B3 := b2.trans (b3.mono b2.size)); (have hr3 := (B3.block g hglt).trans hr); (have h3 := h.same B3); (have hx3 := (B3.cell (p := ⟨bx, 0, none⟩) hxb).trans hx); obtain ⟨v0, v1, v2, _⟩ := hrow.out w3 hr3)
  rw [rounds_succ]
  go_wp2_with (go_at_call 37; (with_reducible refine (ready1_any h3 hx3 (by decide) gd vd).mono ?_); rintro e w4 ⟨rfl, b4⟩; (have B4 := B3.trans (b4.mono B3.size)); (have hr4 := (B4.block g hglt).trans hr); obtain ⟨t0, t1, t2, f0, f1, f2⟩ := hrow.out w4 hr4)
  have hr5 := heap_setCell_same _ _ 0 _ _ (.int .i64 3) hr4
  have hr6 := heap_setCell_same _ _ 1 _ _ (.int .i64 0) hr5
  have hr7 := heap_setCell_same _ _ 2 _ _ (.int .i64 0) hr6
  have hsz := hc.out
  have hcl : (Builtin.clear_ #[37] 0 #[.slice (some ⟨g, 1, none⟩) 2 (c - 1)]).run Try.prog (w4.setCell ⟨g, 0, none⟩ (.int .i64 3)) = .ok (.tuple #[]) (((w4.setCell ⟨g, 0, none⟩ (.int .i64 3)).setCell ⟨g, 1, none⟩ (.int .i64 0)).setCell ⟨g, 2, none⟩ (.int .i64 0)) :=
    Lib.run_clear_slice (P := Try.prog) (w4.setCell ⟨g, 0, none⟩ (.int .i64 3)) 37 3 0 (.int .i64 0) Try.underlying37 (fun w => by kernel_rfl) rfl rfl g 1 2 (c - 1) (by decide)
      (fun j hj => by rw [cell_of_row _ _ (1 + j) _ _ _ hr5, Array.getElem?_eq_getElem (by simp; omega)]; rfl) (fun j _ => frozen_of_row _ _ (1 + j) _ _ hr5)
  have hfin := cell_of_row _ _ 0 _ _ _ hr7
  have hfin2 : ((((cur.setIfInBounds 0 (.int .i64 3)).setIfInBounds 1 (.int .i64 0)).setIfInBounds 2 (.int .i64 0))[0]? : Option Value) = some (.int .i64 3) := by
    rw [Array.getElem?_setIfInBounds_ne (by decide), Array.getElem?_setIfInBounds_ne (by decide), Array.getElem?_setIfInBounds_self_of_lt (by omega)]
  replace hfin := Lib.hid (hfin.trans hfin2)
  clear hfin2 hr5 hr6 hr7 hsz
  rw [rounds_succ]
  go_wp2
  go_ret
  exact ⟨rfl, hfin.out, (((But.of_below B4).set (.inl rfl) _).set (.inl rfl) _).set (.inl rfl) _⟩
end Go.Proofs.Ytbimchdjlkihdaa
