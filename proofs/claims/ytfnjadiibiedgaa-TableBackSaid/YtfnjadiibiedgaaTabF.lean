/-
  CONTRACT of slices.DeleteFunc on pairs, in a row of the call's own; of without.
-/
import Derived.Test.YtfnjadiibiedgaaTabE
namespace Go.Proofs.Ytfnjadiibiedgaa
open Go.RowKit Go.Shelf Go.Lib

/-- A row of the call's own, cut behind i of its pairs, behind cells that were set from there on. -/
theorem own_cut {w : World} {base g n cap i : Nat} {cur : List Sp} (X : List Value) (hn : cur.length = n) (hi : i ≤ n) (h : w.ownsRow base 90 2 (.slice (some ⟨g, 0, none⟩) n cap) n (flatP cur)) :
    (w.setCells g (i * 2) X).ownsRow base 90 2 (.slice (some ⟨g, 0, none⟩) i cap) i (flatP (cur.take i)) := by
  rcases h.2 with ⟨e, _⟩ | ⟨g', cap', c, e, h1, h2, h3, h4, h5, h6⟩
  · cases e
  · cases e
    have ht : cur.take i = cur.take i := rfl
    refine ⟨by rw [flatP_length, List.length_take, hn, Nat.min_eq_left hi], .inr ⟨g, cap, _, rfl, h1, heap_setL g _ X (i * 2) w c h2, by omega, h4, ?_, ?_⟩⟩
    · rw [List.size_toArray, setL_len, Array.length_toList, h5]
    · rw [List.toList_toArray, setL_take _ _ _ _ (Nat.le_refl _), ← flatP_take cur i (by omega), ← h6, List.take_take, Nat.min_eq_left (by omega)]
/-- A pair is stored into a row of the call's own. -/
theorem own_put {w : World} {base g n cap i : Nat} {cur : List Sp} {x y : Int} (hn : cur.length = n) (hi : i < n) (h : w.ownsRow base 90 2 (.slice (some ⟨g, 0, none⟩) n cap) n (flatP cur)) :
    ((w.setCell ⟨g, i * 2, none⟩ (.int .i64 x)).setCell ⟨g, i * 2 + 1, none⟩ (.int .i64 y)).ownsRow base 90 2 (.slice (some ⟨g, 0, none⟩) n cap) n (flatP (cur.set i (x, y))) := by
  have h1 := (World.ownsRow.stored h (i * 2) (.int .i64 x)).1
  have h2 := (World.ownsRow.stored h1 (i * 2 + 1) (.int .i64 y)).1
  rwa [flatP_set2 cur i x y (by omega)] at h2

set_option maxRecDepth 100000 in
set_option maxHeartbeats 4000000 in
theorem delF_any (g0 : Nat) (lb : Array Value) (p : Sp → Bool) (base : Nat) (v : Value) (l : List Sp) (w0 w : World) (eg : ∀ args w, (callFunc g0 args).run Try.prog w = .ok (.enter g0 args) w) (hlen : l.length ≤ 100000)
    (ho : OwnsP 90 w base v l) (hbase : base ≤ w.heap.size) (hb0 : Below base w0 w) (hp : PredG g0 lb p base w0) :
    Calls Try.prog 120 #[v, .func (.func g0) #[] lb] w (InsPost base (l.filter fun x => !p x) w) := by
  have hp' : PredG g0 lb p base w := fun W x hb => hp W x (hb0.trans hb)
  obtain ⟨a, cap, rfl, hc, hm, hpin, hs⟩ := ho.arg
  have hA : Arg w a l.length cap l := ⟨rfl, by omega, hc, hm, hpin⟩
  have CI := idxF_any g0 lb p base a l.length cap l w eg hA hbase hp'
  have hc63 : cap ≤ 9223372036854775807 := by unfold maxLen at hm; omega
  unfold idxV at CI
  by_cases hhit : fstP p l < l.length
  · rw [if_pos hhit] at CI
    obtain ⟨g, rfl, hbg, hgw⟩ := hs (by intro e; rw [e] at hhit; exact absurd hhit (Nat.not_lt_zero _))
    have htake := fstP_take p l
    have hpk := fstP_hit p l hhit
    obtain ⟨n, hn⟩ : ∃ n, l.length = n := ⟨_, rfl⟩
    unfold OwnsP at ho
    rw [hn] at ho CI hhit hlen hc ⊢
    obtain ⟨k0, hk0⟩ : ∃ k, fstP p l = k := ⟨_, rfl⟩
    rw [hk0] at CI hhit htake hpk
    have hfil0 : (l.take (k0 + 1)).filter (fun x => !p x) = l.take k0 := by
      rw [take_more (by omega), List.filter_append, htake]
      simp only [List.getD_eq_getElem?_getD] at hpk ⊢
      simp [hpk]
    have hneq : ((k0 : Int) == -1) = false := beq_eq_false_iff_ne.2 (by omega)
    have HO := Lib.hid ho
    have HF0 := Lib.hid hfil0
    have hd0 := Lib.hid (show l.length = n from hn)
    replace CI := Lib.hid CI
    replace hp' := Lib.hid hp'
    have v23 := Try.zeroValue90
    replace hn := Lib.hid hn
    clear ho hA hpin hs hfil0 htake hpk hk0 hp hb0
    go_enter Try.func120, Try.ntmps120
    go_wp2_with (go_at_call 137; (with_reducible refine CI.out.mono ?_); rintro e w1 ⟨rfl, b1⟩)
    have HO1 := Lib.hid (OwnsP.below (t := 90) (base := base) (v := .slice (some ⟨g, 0, none⟩) n cap) (l := l) (by unfold OwnsP; rw [hn.out]; exact HO.out) b1)
    go_loopw [5, 6, 7] (fun i j _ wr => ∃ (x y : Nat) (cur : List Sp), i = .int .i64 (x : Int) ∧ j = .int .i64 (y : Int) ∧ x < y ∧ y ≤ n ∧ Hid (cur.length = n ∧ cur.drop y = l.drop y ∧ cur.take x = (l.take y).filter (fun x => !p x)) ∧ Hid (wr.ownsRow base 90 2 (.slice (some ⟨g, 0, none⟩) n cap) n (flatP cur)) ∧ Below base w wr)
      (fun _ j _ _ => n - (intOf j).toNat)
    case atStart =>
      refine ⟨k0, k0 + 1, l, rfl, by go_num, by omega, by omega, Lib.hid ⟨hn.out, rfl, HF0.out.symm⟩, Lib.hid ?_, b1.mono hbase⟩
      have := HO1.out
      unfold OwnsP at this
      rwa [hn.out] at this
    case round =>
      obtain ⟨x, y, cur, rfl, rfl, hxy, hyn, HI, HW, hbl⟩ := hrel
      have hsz := hbl.size
      by_cases hlt : y < n
      · have hyz : (y : Int) < (n : Int) := by omega
        have hxz : (x : Int) < (n : Int) := by omega
        have hcy : cur.getD y (0, 0) = l.getD y (0, 0) := by
          have h1 := drop_more (l := cur) (k := y) (by rw [HI.out.1]; exact hlt)
          have h2 := drop_more (l := l) (k := y) (by rw [hn.out]; exact hlt)
          have h3 := HI.out.2.1
          rw [h1, h2] at h3
          exact (List.cons.inj h3).1
        have hdn : cur.drop (y + 1) = l.drop (y + 1) := by rw [← List.drop_drop, ← List.drop_drop, HI.out.2.1]
        have g1 := World.ownsRow.cellAt HW.out (y * 2) (by omega)
        have g2 := World.ownsRow.cellAt HW.out (y * 2 + 1) (by omega)
        obtain ⟨q1, q2⟩ := flatP_get cur y (by rw [HI.out.1]; exact hlt)
        rw [q1, hcy] at g1
        rw [q2, hcy] at g2
        have gx := World.ownsRow.cellAt HW.out (x * 2) (by omega)
        have gx2 := World.ownsRow.cellAt HW.out (x * 2 + 1) (by omega)
        obtain ⟨r1, r2⟩ := flatP_get cur x (by rw [HI.out.1]; omega)
        rw [r1] at gx
        rw [r2] at gx2
        have fx := World.ownsRow.frozenAt HW.out (x * 2)
        have fx2 := World.ownsRow.frozenAt HW.out (x * 2 + 1)
        have hgr : g < wr.heap.size := World.block_lt_of_cell? _ _ gx
        have htn := take_more (l := l) (k := y) (by rw [hn.out]; exact hlt)
        obtain ⟨s, hs⟩ : ∃ s, l.getD y (0, 0) = s := ⟨_, rfl⟩
        rw [hs] at g1 g2 htn
        generalize (cur.getD x (0, 0)).1 = o1 at gx
        generalize (cur.getD x (0, 0)).2 = o2 at gx2
        replace hs := Lib.hid hs
        replace hcy := Lib.hid hcy
        obtain ⟨u, z⟩ := s
        dsimp only at g1 g2
        obtain ⟨Wv, hWv⟩ : ∃ Wv, wr.alloc (.cells #[.int .i64 u, .int .i64 z] 90) = Wv := ⟨_, rfl⟩
        have bv : Below wr.heap.size wr Wv := by rw [← hWv]; exact (Below.refl _ _).alloc (Nat.le_refl _) _
        have C := hp'.out Wv (u, z) (hbl.trans (bv.mono (by omega)))
        dsimp only at C
        have d0 : Wv.cell? ⟨wr.heap.size, 0, none⟩ = some (.int .i64 u) := by rw [← hWv]; simp
        have d1 : Wv.cell? ⟨wr.heap.size, 1, none⟩ = some (.int .i64 z) := by rw [← hWv]; simp
        have hsv : wr.heap.size < Wv.heap.size := by rw [← hWv]; simp
        cases hq : p (u, z)
        · rw [hq] at C
          replace C := Lib.hid C
          have HN := Lib.hid (show ∀ e : Unit, (cur.set x (u, z)).length = n ∧ (cur.set x (u, z)).drop (y + 1) = l.drop (y + 1) ∧ (cur.set x (u, z)).take (x + 1) = (l.take (y + 1)).filter (fun x => !p x) from fun _ => by
            refine ⟨by rw [List.length_set]; exact HI.out.1, ?_, ?_⟩
            · rw [List.drop_set, if_pos (by omega)]; exact hdn
            · rw [htn, List.filter_append, ← HI.out.2.2, take_more (l := cur.set x (u, z)) (k := x) (by rw [List.length_set, HI.out.1]; omega), List.take_set, List.set_eq_of_length_le (by rw [List.length_take]; omega)]
              congr 1
              rw [List.filter_cons_of_pos (by simp [hq])]
              have : x < cur.length := by rw [HI.out.1]; omega
              simp [List.getD, this])
          clear hq htn hdn
          go_wp2_with (go_at_fn g0; (with_reducible refine C.out.mono ?_); rintro e w2 ⟨rfl, b2⟩; have e0 := (b2.cell (p := ⟨wr.heap.size, 0, none⟩) hsv).trans d0; have e1 := (b2.cell (p := ⟨wr.heap.size, 1, none⟩) hsv).trans d1; have bq := bv.trans (b2.mono bv.size); have k0' := (bq.cell (p := ⟨g, x * 2, none⟩) hgr).trans gx; have k1' := (bq.cell (p := ⟨g, x * 2 + 1, none⟩) hgr).trans gx2; have f0' := (bq.frozen (p := ⟨g, x * 2, none⟩) hgr).trans fx; have f1' := (bq.frozen (p := ⟨g, x * 2 + 1, none⟩) hgr).trans fx2)
          go_roundw
          case rel =>
            refine ⟨x + 1, y + 1, cur.set x (u, z), by go_num, by go_num, by omega, by omega, Lib.hid (HN.out ()), Lib.hid ?_, ?_⟩
            · exact own_put HI.out.1 (by omega) (World.ownsRow.kept HW.out (row := none) ⟨bq.os, bq.tape, bq.output, bq.size, fun k hk _ => bq.block k hk⟩ (.inr (fun e => by cases e)))
            · exact ((hbl.trans (bq.mono (by omega))).setCell (p := ⟨g, x * 2, none⟩) hbg _).setCell (p := ⟨g, x * 2 + 1, none⟩) hbg _
          case measure => simp [intOf]; omega
        · rw [hq] at C
          replace C := Lib.hid C
          have HN := Lib.hid (show cur.length = n ∧ cur.drop (y + 1) = l.drop (y + 1) ∧ cur.take x = (l.take (y + 1)).filter (fun x => !p x) from
            ⟨HI.out.1, hdn, by rw [htn, List.filter_append, ← HI.out.2.2]; simp [hq]⟩)
          clear hq htn hdn
          go_wp2_with (go_at_fn g0; (with_reducible refine C.out.mono ?_); rintro e w2 ⟨rfl, b2⟩; have bq := bv.trans (b2.mono bv.size))
          go_roundw
          case rel =>
            refine ⟨x, y + 1, cur, rfl, by go_num, by omega, by omega, HN, Lib.hid ?_, hbl.trans (bq.mono (by omega))⟩
            exact World.ownsRow.kept HW.out (row := none) ⟨bq.os, bq.tape, bq.output, bq.size, fun k hk _ => bq.block k hk⟩ (.inr (fun e => by cases e))
          case measure => simp [intOf]; omega
      · have hyn' : y = n := by omega
        have hyz : ¬ (y : Int) < (n : Int) := by omega
        have hxn : x ≤ n := by omega
        have hxc : x ≤ cap := by omega
        have hfin : cur.take x = l.filter (fun x => !p x) := by rw [HI.out.2.2, hyn', ← hn.out, List.take_length]
        have hcl : ∀ ty dc, (Builtin.clear_ #[22] ty #[.slice (some ⟨g, x * 2, none⟩) (n - x) dc]).run Try.prog wr = .ok (.tuple #[]) (wr.setCells g (x * 2) (List.replicate ((n - x) * 2) (.int .i64 0))) := fun ty dc =>
          run_clear2 wr 22 90 ty Try.underlying22 v23 g (x * 2) (n - x) dc (by omega)
            (fun j hj => by rw [World.ownsRow.cellAt HW.out _ (by omega), List.getElem?_eq_getElem (by rw [flatP_length, HI.out.1]; omega)]; rfl) (fun j hj => World.ownsRow.frozenAt HW.out _)
        have HFin := Lib.hid (show InsPost base (l.filter fun x => !p x) w (.returned (.slice (some ⟨g, 0, none⟩) x cap)) (wr.setCells g (x * 2) (List.replicate ((n - x) * 2) (.int .i64 0))) by
          refine ⟨_, rfl, ?_, below_setL hbg _ _ _ hbl⟩
          have := own_cut (List.replicate ((n - x) * 2) (.int .i64 0)) HI.out.1 hxn HW.out
          rw [hfin] at this
          refine ownsP_of_row this ?_
          rw [← hfin, List.length_take, HI.out.1, Nat.min_eq_left hxn])
        clear hfin
        go_wp2_with (simp only [hcl])
        go_ret
        exact HFin.out
  · rw [if_neg hhit] at CI
    have hall : l.filter (fun x => !p x) = l := by
      have h1 := fstP_take p l
      rwa [List.take_of_length_le (by omega)] at h1
    rw [hall]
    have HO := Lib.hid ho
    obtain ⟨n, hn⟩ : ∃ n, l.length = n := ⟨_, rfl⟩
    rw [hn] at CI ⊢
    replace CI := Lib.hid CI
    clear ho hall hhit
    go_enter Try.func120, Try.ntmps120
    go_wp2_with (go_at_call 137; (with_reducible refine CI.out.mono ?_); rintro e w1 ⟨rfl, b1⟩)
    go_ret
    exact ⟨_, rfl, by rw [← hn]; exact OwnsP.below HO.out b1, b1.mono hbase⟩
end Go.Proofs.Ytfnjadiibiedgaa
