/-
  JudgeGoesOn walked.
-/
import Derived.Test.YthofoidafdbgcaaJgE
import Derived.Lib.MinMax
import Derived.BigQuiet
import Derived.Deep.QuietTactic
import Derived.Deep.RegionHeld3
namespace Go.Proofs.Ythofoidafdbgcaa
open Go.RowKit Go.Shelf Go.ChangeShapes Go.WideShapes Go.Deep

set_option maxRecDepth 100000 in
theorem twoArr_of {H : Type} {enc : TypeId × Value → H} {w : World} {r : Reach} {b0 base : Nat} {spare : Nat → Bool} {held : Bool} {v : Value} {d : DataW H} {p : List MemPlace}
    (hv : Value.okWide Try.prog w r b0 51 v) (h : DataW.Trod enc Try.prog w base spare held 51 v d p) :
    ∃ (x y : Int), v = .agg #[.int .i64 x, .int .i64 y] := by
  have kI : Try.prog.cellsOf 3 = 1 := by kernel_rfl
  have kA : Try.prog.cellsOf 51 = 2 := by kernel_rfl
  simp only [Value.okWide, Try.underlying51] at hv
  obtain ⟨cs, rfl, hsz, _⟩ := hv
  rw [kA] at hsz
  obtain ⟨fuel, hf⟩ := h
  obtain ⟨xs, m, _, _, _, hl, hel⟩ := DataW.trod_array Try.underlying51 hf
  rw [kI] at hel
  obtain ⟨v0, v1, rfl⟩ : ∃ v0 v1, cs = #[v0, v1] := by
    refine ⟨cs[0], cs[1], ?_⟩
    apply Array.ext
    · simp [hsz]
    · intro i h1 h2
      have : i = 0 ∨ i = 1 := by omega
      rcases this with rfl | rfl <;> rfl
  have e0 := hel 0 (by omega)
  have e1 := hel 1 (by omega)
  rw [List.getElem?_eq_getElem (by omega)] at e0 e1
  obtain ⟨x, h0, _, _⟩ := DataW.trod_int Try.underlying3 e0
  obtain ⟨y, h1, _, _⟩ := DataW.trod_int Try.underlying3 e1
  simp [Value.cells] at h0 h1
  rw [h0, h1]
  exact ⟨x, y, rfl⟩
theorem restE_snoc (l : List Ev) (e : Ev) (a b : Int) : restE (l ++ [e]) a b = restE l a b ++ (if (e.d && decide (a < e.t) && decide (e.t ≤ b)) = true then [e.m] else []) := by
  unfold restE
  rw [List.filter_append, List.map_append]
  congr 1
  rw [List.filter_cons]
  split <;> rfl
theorem restE_len (l : List Ev) (a b : Int) : (restE l a b).length ≤ l.length := by
  unfold restE
  rw [List.length_map]
  exact List.length_filter_le _ _
theorem restE_ok {W : World} {l : List Ev} {a b : Int} (h : ∀ e ∈ l, OkE W e) : ∀ m ∈ restE l a b, OkM W m := fun m hm => by
  unfold restE at hm
  obtain ⟨e, he, rfl⟩ := List.mem_map.1 hm
  exact (h e (List.mem_filter.1 he).1).m
/-- Sorted by their times, neighbour by neighbour. -/
theorem sort_snoc {l : List Ev} {e : Ev} (h : l.Pairwise fun x y => x.t ≤ y.t) (hl : l ≠ [] → l[l.length - 1]!.t ≤ e.t) : (l ++ [e]).Pairwise fun x y => x.t ≤ y.t := by
  rw [List.pairwise_append]
  refine ⟨h, List.pairwise_singleton _ _, fun x hx y hy => ?_⟩
  obtain rfl : y = e := by simpa using hy
  obtain ⟨i, hi, rfl⟩ := List.mem_iff_getElem.1 hx
  have hne : l ≠ [] := fun q => by rw [q] at hi; exact absurd hi (Nat.not_lt_zero _)
  have hlast := hl hne
  rw [getElem!_pos l (l.length - 1) (by omega)] at hlast
  by_cases q : i = l.length - 1
  · subst q; exact hlast
  · exact Int.le_trans (List.pairwise_iff_getElem.1 h i (l.length - 1) hi (by omega) (by omega)) hlast
theorem sort_next {l : List Ev} {m : Nat} (hm : m + 1 < l.length) (h : (l.take (m + 1)).Pairwise fun x y => x.t ≤ y.t) (ht : l[m]!.t ≤ l[m + 1]!.t) : (l.take (m + 1 + 1)).Pairwise fun x y => x.t ≤ y.t := by
  rw [take_moreG hm]
  refine sort_snoc h (fun _ => ?_)
  have hl : (l.take (m + 1)).length = m + 1 := by rw [List.length_take]; omega
  rw [getElem!_pos _ _ (by rw [hl]; omega), List.getElem_take]
  rw [getElem!_pos l m (by omega)] at ht
  simpa [hl] using ht
theorem toDI {B : Nat} {a X : World} (h : Below B a X) : Below B a X.drew := ⟨h.os, h.tape, h.output, h.size, h.block⟩
theorem below_drewNI {B : Nat} {a X : World} (h : Below B a X) (n : Nat) : Below B a (X.drewN n) := ⟨h.os, h.tape, h.output, h.size, h.block⟩
set_option maxRecDepth 100000 in
set_option maxHeartbeats 8000000 in
theorem judgeGoesOn_walk (a : Option Addr) (n cp : Nat) (l : List Ev) (a3 : Option Addr) (n3 c3 : Nat) (on : List Sp) (k0 k1 : Int) (w : World) (hL : EArg w a n cp l) (hO : Arg w a3 n3 c3 on) :
    Calls Try.prog 6 #[.slice a n cp, .slice a3 n3 c3, .agg #[.int .i64 k0, .int .i64 k1]] w (TruePost w) := by
  obtain ⟨i0, hi, hz0, hz1, hz2⟩ := info_parts Try.infoMut
  have z3 : (n3 : Int) ≤ 9223372036854775807 := by have := hO.1; have := hO.2.1; omega
  have hz : (n : Int) ≤ 9223372036854775807 := by have := hL.row.1; have := hL.row.2.1; omega
  have ba := (Below.refl w.heap.size w).alloc (Nat.le_refl _) (.cells #[.int .i64 k0, .int .i64 k1] 51)
  have hx := heap_alloc_new w (.cells #[.int .i64 k0, .int .i64 k1] 51)
  have HS := Lib.hid ((((EnvS.start w).step ba).add (Stable.arg a3 n3 c3 on) (hO.below ba)).add (Stable.eargs a n cp l) (hL.below ba))
  have HL := Lib.hid hL
  have HO3 := Lib.hid hO
  obtain rfl : n = l.length := hL.row.1
  have FW := Lib.hid (fun W h => few15_any a l.length cp l W h)
  have zo : n3 ≤ 100 → on.length ≤ 100000 := by have := hO.1; omega
  have hfl : fewE l = true → l.length ≤ 61 := fun h => by unfold fewE at h; simp at h; exact h.1
  have hfp : ∀ j, j < l.length → fewE l = true → l[j]!.m.n ≤ 20 := fun j hj h => by unfold fewE at h; rw [Bool.and_eq_true, List.all_eq_true] at h; exact of_decide_eq_true (h.2 _ (mem_get! hj))
  clear hL hO ba
  obtain ⟨r, hr⟩ : ∃ r, fewE l = r := ⟨_, rfl⟩
  rw [hr] at FW hfl hfp
  cases r
  · clear hfl hfp hx
    replace hr := Lib.hid hr
    go_enter Try.func6, Try.ntmps6
    go_wp2_with (first | (go_at_call 8; (with_reducible refine (FW.out _ (HS.out.get (fun W => EArg W a l.length cp l) (by repeat (first | exact List.mem_cons_self | apply List.mem_cons_of_mem)))).mono ?_); rintro e w5 ⟨rfl, b5⟩; replace HS := Lib.hid (HS.out.step b5); clear b5) | (go_at_call 9; (with_reducible refine (awake15_any _).mono ?_); rintro e wba ⟨rfl, ba⟩; replace HS := Lib.hid (HS.out.step ba); clear ba))
    go_ret
    exact ⟨rfl, HS.out.low⟩
  · have zl61 := hfl rfl
    have HP := Lib.hid (fun j hj => hfp j hj rfl)
    replace hr := Lib.hid hr
    clear hfl hfp
    by_cases q3 : n3 ≤ 100
    · have q3z : ¬ (100 : Int) < (n3 : Int) := by omega
      replace zo := zo q3
      have zl : l.length ≤ 100000 := by omega
      go_enter Try.func6, Try.ntmps6
      go_wp2_with (first | (go_at_call 8; (with_reducible refine (FW.out _ (HS.out.get (fun W => EArg W a l.length cp l) (by repeat (first | exact List.mem_cons_self | apply List.mem_cons_of_mem)))).mono ?_); rintro e w5 ⟨rfl, b5⟩; have z0 : w5.cell? ⟨w.heap.size, 0, none⟩ = some (.int .i64 k0) := boxC b5 0; have z1 : w5.cell? ⟨w.heap.size, 1, none⟩ = some (.int .i64 k1) := boxC b5 1; replace HS := Lib.hid (HS.out.step b5); clear b5))
      go_quiet (fail)
      generalize HW1 : w5.drewN _ = W1
      have bw : Below w5.heap.size w5 W1 := by rw [← HW1]; exact below_drewNI (Below.refl _ _) _
      replace HW1 := Lib.hid HW1
      replace HS := Lib.hid (HS.out.step bw)
      clear hx z0 z1
      have hab : min k0 k1 ≤ max k0 k1 := by omega
      generalize min k0 k1 = ka at *
      generalize max k0 k1 = kb at *
      have ENV := Lib.hid (fun W (h : Below w.heap.size w W) => (show EnvS w W [fun W => EArg W a l.length cp l, fun W => Arg W a3 n3 c3 on] from (((EnvS.start w).step h).add (Stable.arg a3 n3 c3 on) (HO3.out.below h)).add (Stable.eargs a l.length cp l) (HL.out.below h)))
      go_wp2_with fail
      go_loopw [6, 9, 10] (fun v6 v i wr => ∃ (j : Nat), v6 = .bool false ∧ i = .int .i64 (j : Int) ∧ j ≤ l.length ∧ Hid (((l.take j).all fun e => chkV e.m) = true) ∧ Hid ((l.take j).Pairwise fun x y => x.t ≤ y.t) ∧ Hid (OwnsR encM 7 42 wr w.heap.size v (restE (l.take j) ka kb)) ∧ Hid (EnvS w wr [fun W => EArg W a l.length cp l, fun W => Arg W a3 n3 c3 on])) (fun _ _ i _ => l.length - (intOf i).toNat)
      case atStart => exact ⟨0, rfl, rfl, Nat.zero_le _, Lib.hid rfl, Lib.hid List.Pairwise.nil, Lib.hid (OwnsR.nil _ _ _ _ _), Lib.hid (ENV.out _ HS.out.low)⟩
      case round =>
        obtain ⟨j, rfl, rfl, hj, HC, HSo, HU, HS⟩ := hrel
        by_cases hlt : j < l.length
        · have hjz : (j : Int) < (l.length : Int) := by omega
          have hbl := HS.out.low
          have HT := Lib.hid (show restE (l.take (j + 1)) ka kb = _ by rw [take_moreG hlt, restE_snoc])
          have HA := Lib.hid (show ((l.take (j + 1)).all fun e => chkV e.m) = chkV l[j]!.m by rw [take_moreG hlt, List.all_append, HC.out]; simp)
          have ZU := Lib.hid (Nat.le_trans (restE_len (l.take j) ka kb) (Nat.le_trans (List.length_take_le' _ _) zl))
          have hp20 := HP.out j hlt
          have HN := Lib.hid (fun (m : Nat) (h : j = m + 1) (ht : l[m]!.t ≤ l[j]!.t) => (show (l.take (j + 1)).Pairwise (fun x y => x.t ≤ y.t) from by subst h; exact sort_next hlt HSo.out ht))
          have HN0 := Lib.hid (fun (h : j = 0) => (show (l.take (j + 1)).Pairwise (fun x y => x.t ≤ y.t) from by subst h; rw [take_moreG hlt]; simp))
          have KP := Lib.hid (fun (m : Nat) (hm : m < l.length) W (h : Below wr.heap.size wr W) => HL.out.cells (below_next hbl h) hm)
          have KJ := Lib.hid (fun W (h : Below wr.heap.size wr W) => HL.out.cells (below_next hbl h) hlt)
          have ok := (HL.out.ok _ (mem_get! hlt)).m
          generalize restE (l.take j) ka kb = U at HU HT ZU
          generalize l[j]! = ev at KJ ok HT HA hp20 HN
          obtain ⟨⟨c, s, k, am, nm, cm, ps, lo, hi2, old⟩, t, d⟩ := ev
          dsimp only at ok hp20
          obtain ⟨b, off, e, hb, _⟩ := KJ.out _ (Below.refl _ _)
          subst e
          have KR := Lib.hid (fun W (h : Below wr.heap.size wr W) => (by
            obtain ⟨b', off', e', _, hh⟩ := KJ.out W h
            cases e'
            exact hh : W.cell? ⟨b, off + j * 9, none⟩ = some (.int .i64 c) ∧ W.cell? ⟨b, off + j * 9 + 1, none⟩ = some (.int .i64 s) ∧ W.cell? ⟨b, off + j * 9 + 2, none⟩ = some (.int .i64 k) ∧ W.cell? ⟨b, off + j * 9 + 3, none⟩ = some (.slice am nm cm) ∧ W.cell? ⟨b, off + j * 9 + 4, none⟩ = some (.int .i64 lo) ∧ W.cell? ⟨b, off + j * 9 + 5, none⟩ = some (.int .i64 hi2) ∧ W.cell? ⟨b, off + j * 9 + 6, none⟩ = some (.int .i64 old) ∧ W.cell? ⟨b, off + j * 9 + 7, none⟩ = some (.int .i64 t) ∧ W.cell? ⟨b, off + j * 9 + 8, none⟩ = some (.bool d)))
          have CR := Lib.hid (fun W (h : Below wr.heap.size wr W) => ref4_any c s k am nm cm ps lo hi2 old W (by have h1 := ok.ps.1; dsimp only at h1; omega) (ok.ps.below (below_next hbl h)))
          have CC := Lib.hid (fun a n cp W h => rcheck4_any c s k a n cp ps lo hi2 old W h)
          have HV := Lib.hid (show chkV ⟨c, s, k, am, nm, cm, ps, lo, hi2, old⟩ = chkM c s k ps lo hi2 old from rfl)
          clear ok HC
          generalize chkM c s k ps lo hi2 old = r at CC HV
          cases r
          · clear HA HV
            have KC := Lib.hid (fun W (h : Below wr.heap.size wr W) => (by obtain ⟨y0, y1, y2, y3, y4, y5, y6, _⟩ := KR.out W h; exact ⟨y0, y1, y2, y3, y4, y5, y6⟩ : W.cell? ⟨b, off + j * 9, none⟩ = some (.int .i64 c) ∧ W.cell? ⟨b, off + j * 9 + 1, none⟩ = some (.int .i64 s) ∧ W.cell? ⟨b, off + j * 9 + 2, none⟩ = some (.int .i64 k) ∧ W.cell? ⟨b, off + j * 9 + 3, none⟩ = some (.slice am nm cm) ∧ W.cell? ⟨b, off + j * 9 + 4, none⟩ = some (.int .i64 lo) ∧ W.cell? ⟨b, off + j * 9 + 5, none⟩ = some (.int .i64 hi2) ∧ W.cell? ⟨b, off + j * 9 + 6, none⟩ = some (.int .i64 old)))
            go_upto_region 8 with fail
            go_cut [62] from 37 to 62 (fun bb wx => bb = .bool true ∧ Below wr.heap.size wr wx)
            case first =>
              have KS := Lib.hid (fun W (h : Below wr.heap.size wr W) => (show (fun W : World => W.cell? ⟨b, off + j * 9, none⟩ = some (.int .i64 c) ∧ W.cell? ⟨b, off + j * 9 + 1, none⟩ = some (.int .i64 s) ∧ W.cell? ⟨b, off + j * 9 + 2, none⟩ = some (.int .i64 k) ∧ W.cell? ⟨b, off + j * 9 + 3, none⟩ = some (.slice am nm cm) ∧ W.cell? ⟨b, off + j * 9 + 4, none⟩ = some (.int .i64 lo) ∧ W.cell? ⟨b, off + j * 9 + 5, none⟩ = some (.int .i64 hi2) ∧ W.cell? ⟨b, off + j * 9 + 6, none⟩ = some (.int .i64 old)) W from by
                obtain ⟨q0, q1, q2, q3', q4, q5, q6⟩ := KC.out W h
                exact ⟨q0, q1, q2, q3', q4, q5, q6⟩))
              have hS0 := KS.out _ (Below.refl wr.heap.size wr).drew
              have hbd : Below wr.heap.size wr wr.drew := (Below.refl _ _).drew
              refine wp_region_held_drew (S := fun W => W.cell? ⟨b, off + j * 9, none⟩ = some (.int .i64 c) ∧ W.cell? ⟨b, off + j * 9 + 1, none⟩ = some (.int .i64 s) ∧ W.cell? ⟨b, off + j * 9 + 2, none⟩ = some (.int .i64 k) ∧ W.cell? ⟨b, off + j * 9 + 3, none⟩ = some (.slice am nm cm) ∧ W.cell? ⟨b, off + j * 9 + 4, none⟩ = some (.int .i64 lo) ∧ W.cell? ⟨b, off + j * 9 + 5, none⟩ = some (.int .i64 hi2) ∧ W.cell? ⟨b, off + j * 9 + 6, none⟩ = some (.int .i64 old)) (by kernel_rfl) hS0 (fun hS => ?_)
              refine wpAnyH_take (i := 0) (v := ?_) rfl (by kernel_rfl) (by kernel_rfl) (by kernel_rfl) (fun _ _ _ h => h) (Or.inl ⟨by kernel_rfl, ?_⟩) hS ?_
              rotate_left
              · intro w hSw
                (try dsimp only at hSw)
                go_simp
                try with_reducible rfl
              dsimp only [Act.put, List.getElem?_toArray, List.getElem?_cons_succ, List.getElem?_cons_zero, List.getElem_toArray, List.getElem_cons_succ, List.getElem_cons_zero]
              try simp only [List.setIfInBounds_toArray, List.set_cons_zero, List.set_cons_succ]
              refine wpAnyH_take (i := 1) (v := ?_) rfl (by kernel_rfl) (by kernel_rfl) (by kernel_rfl) (fun _ _ _ h => h) (Or.inl ⟨by kernel_rfl, ?_⟩) hS ?_
              rotate_left
              · intro w hSw
                (try dsimp only at hSw)
                go_simp
                try with_reducible rfl
              dsimp only [Act.put, List.getElem?_toArray, List.getElem?_cons_succ, List.getElem?_cons_zero, List.getElem_toArray, List.getElem_cons_succ, List.getElem_cons_zero]
              try simp only [List.setIfInBounds_toArray, List.set_cons_zero, List.set_cons_succ]
              refine wpAnyH_take (i := 2) (v := ?_) rfl (by kernel_rfl) (by kernel_rfl) (by kernel_rfl) (fun _ _ _ h => h) (Or.inl ⟨by kernel_rfl, ?_⟩) hS ?_
              rotate_left
              · intro w hSw
                (try dsimp only at hSw)
                go_simp
                try with_reducible rfl
              dsimp only [Act.put, List.getElem?_toArray, List.getElem?_cons_succ, List.getElem?_cons_zero, List.getElem_toArray, List.getElem_cons_succ, List.getElem_cons_zero]
              try simp only [List.setIfInBounds_toArray, List.set_cons_zero, List.set_cons_succ]
              refine wpAnyH_take (i := 3) (v := ?_) rfl (by kernel_rfl) (by kernel_rfl) (by kernel_rfl) (fun _ _ _ h => h) (Or.inl ⟨by kernel_rfl, ?_⟩) hS ?_
              rotate_left
              · intro w hSw
                (try dsimp only at hSw)
                go_simp
                try with_reducible rfl
              dsimp only [Act.put, List.getElem?_toArray, List.getElem?_cons_succ, List.getElem?_cons_zero, List.getElem_toArray, List.getElem_cons_succ, List.getElem_cons_zero]
              try simp only [List.setIfInBounds_toArray, List.set_cons_zero, List.set_cons_succ]
              refine wpAnyH_take (i := 4) (v := ?_) rfl (by kernel_rfl) (by kernel_rfl) (by kernel_rfl) (fun _ _ _ h => h) (Or.inl ⟨by kernel_rfl, ?_⟩) hS ?_
              rotate_left
              · intro w hSw
                (try dsimp only at hSw)
                go_simp
                try with_reducible rfl
              dsimp only [Act.put, List.getElem?_toArray, List.getElem?_cons_succ, List.getElem?_cons_zero, List.getElem_toArray, List.getElem_cons_succ, List.getElem_cons_zero]
              try simp only [List.setIfInBounds_toArray, List.set_cons_zero, List.set_cons_succ]
              refine wpAnyH_ready (rs := [5]) (by kernel_rfl) (by simp) (AllReadyH.cons rfl (fun K hK => ?_) AllReadyH.nil)
              go_simp
              go_wp2_with (go_at_call 16; (with_reducible refine (CR.out _ hbd).mono ?_); rintro e w6 ⟨a6, n6, c6, rfl, h6, b6⟩; have H6 := Lib.hid h6; have b06 := below_next hbd b6; clear h6; have hS1 := KS.out _ b06)
              refine hK.out _ _ hS1 (fun _ => ?_)
              clear hK K
              try simp only [List.setIfInBounds_toArray, List.set_cons_zero, List.set_cons_succ]
              refine wpAnyH_ready (rs := [6]) (by kernel_rfl) (by simp) (AllReadyH.cons rfl (fun K hK => ?_) AllReadyH.nil)
              go_simp
              go_wp2_with (go_at_call 21; (with_reducible refine (CC.out a6 n6 c6 _ H6.out).mono ?_); rintro e w7 ⟨rfl, b7⟩; have b07 := below_next b06 b7; have hS2 := KS.out _ b07)
              refine hK.out _ _ hS2 (fun _ => ?_)
              clear hK K
              try simp only [List.setIfInBounds_toArray, List.set_cons_zero, List.set_cons_succ]
              refine wpAnyH_take (i := 7) (v := ?_) rfl (by kernel_rfl) (by kernel_rfl) (by kernel_rfl) (fun _ _ _ h => h) (Or.inl ⟨by kernel_rfl, ?_⟩) hS2 ?_
              rotate_left
              · intro w hSw
                (try dsimp only at hSw)
                go_simp
                try with_reducible rfl
              dsimp only [Act.put, List.getElem?_toArray, List.getElem?_cons_succ, List.getElem?_cons_zero, List.getElem_toArray, List.getElem_cons_succ, List.getElem_cons_zero]
              try simp only [List.setIfInBounds_toArray, List.set_cons_zero, List.set_cons_succ]
              refine wpAnyH_take (i := 8) (v := ?_) rfl (by kernel_rfl) (by kernel_rfl) (by kernel_rfl) (fun _ _ _ h => h) (Or.inl ⟨by kernel_rfl, ?_⟩) hS2 ?_
              rotate_left
              · intro w hSw
                (try dsimp only at hSw)
                go_simp
                try with_reducible rfl
              dsimp only [Act.put, List.getElem?_toArray, List.getElem?_cons_succ, List.getElem?_cons_zero, List.getElem_toArray, List.getElem_cons_succ, List.getElem_cons_zero]
              try simp only [List.setIfInBounds_toArray, List.set_cons_zero, List.set_cons_succ]
              refine wpAnyH_take (i := 9) (v := undef) rfl (by kernel_rfl) (by kernel_rfl) (by kernel_rfl) (fun _ _ _ h => h) (Or.inr ⟨by kernel_rfl, rfl⟩) hS2 ?_
              dsimp only [Act.put, List.getElem?_toArray, List.getElem?_cons_succ, List.getElem?_cons_zero, List.getElem_toArray, List.getElem_cons_succ, List.getElem_cons_zero]
              try simp only [List.setIfInBounds_toArray, List.set_cons_zero, List.set_cons_succ]
              refine wpAnyH_take (i := 10) (v := undef) rfl (by kernel_rfl) (by kernel_rfl) (by kernel_rfl) (fun _ _ _ h => h) (Or.inr ⟨by kernel_rfl, rfl⟩) hS2 ?_
              dsimp only [Act.put, List.getElem?_toArray, List.getElem?_cons_succ, List.getElem?_cons_zero, List.getElem_toArray, List.getElem_cons_succ, List.getElem_cons_zero]
              try simp only [List.setIfInBounds_toArray, List.set_cons_zero, List.set_cons_succ]
              refine wpAnyH_take (i := 11) (v := undef) rfl (by kernel_rfl) (by kernel_rfl) (by kernel_rfl) (fun _ _ _ h => h) (Or.inr ⟨by kernel_rfl, rfl⟩) hS2 ?_
              dsimp only [Act.put, List.getElem?_toArray, List.getElem?_cons_succ, List.getElem?_cons_zero, List.getElem_toArray, List.getElem_cons_succ, List.getElem_cons_zero]
              try simp only [List.setIfInBounds_toArray, List.set_cons_zero, List.set_cons_succ]
              refine wpAnyH_take (i := 12) (v := undef) rfl (by kernel_rfl) (by kernel_rfl) (by kernel_rfl) (fun _ _ _ h => h) (Or.inr ⟨by kernel_rfl, rfl⟩) hS2 ?_
              dsimp only [Act.put, List.getElem?_toArray, List.getElem?_cons_succ, List.getElem?_cons_zero, List.getElem_toArray, List.getElem_cons_succ, List.getElem_cons_zero]
              try simp only [List.setIfInBounds_toArray, List.set_cons_zero, List.set_cons_succ]
              refine wpAnyH_take (i := 13) (v := undef) rfl (by kernel_rfl) (by kernel_rfl) (by kernel_rfl) (fun _ _ _ h => h) (Or.inr ⟨by kernel_rfl, rfl⟩) hS2 ?_
              dsimp only [Act.put, List.getElem?_toArray, List.getElem?_cons_succ, List.getElem?_cons_zero, List.getElem_toArray, List.getElem_cons_succ, List.getElem_cons_zero]
              try simp only [List.setIfInBounds_toArray, List.set_cons_zero, List.set_cons_succ]
              refine wpAnyH_take (i := 14) (v := undef) rfl (by kernel_rfl) (by kernel_rfl) (by kernel_rfl) (fun _ _ _ h => h) (Or.inr ⟨by kernel_rfl, rfl⟩) hS2 ?_
              dsimp only [Act.put, List.getElem?_toArray, List.getElem?_cons_succ, List.getElem?_cons_zero, List.getElem_toArray, List.getElem_cons_succ, List.getElem_cons_zero]
              try simp only [List.setIfInBounds_toArray, List.set_cons_zero, List.set_cons_succ]
              refine wpAnyH_take (i := 15) (v := undef) rfl (by kernel_rfl) (by kernel_rfl) (by kernel_rfl) (fun _ _ _ h => h) (Or.inr ⟨by kernel_rfl, rfl⟩) hS2 ?_
              dsimp only [Act.put, List.getElem?_toArray, List.getElem?_cons_succ, List.getElem?_cons_zero, List.getElem_toArray, List.getElem_cons_succ, List.getElem_cons_zero]
              try simp only [List.setIfInBounds_toArray, List.set_cons_zero, List.set_cons_succ]
              refine wpAnyH_take (i := 16) (v := undef) rfl (by kernel_rfl) (by kernel_rfl) (by kernel_rfl) (fun _ _ _ h => h) (Or.inr ⟨by kernel_rfl, rfl⟩) hS2 ?_
              dsimp only [Act.put, List.getElem?_toArray, List.getElem?_cons_succ, List.getElem?_cons_zero, List.getElem_toArray, List.getElem_cons_succ, List.getElem_cons_zero]
              try simp only [List.setIfInBounds_toArray, List.set_cons_zero, List.set_cons_succ]
              refine wpAnyH_take (i := 17) (v := undef) rfl (by kernel_rfl) (by kernel_rfl) (by kernel_rfl) (fun _ _ _ h => h) (Or.inr ⟨by kernel_rfl, rfl⟩) hS2 ?_
              dsimp only [Act.put, List.getElem?_toArray, List.getElem?_cons_succ, List.getElem?_cons_zero, List.getElem_toArray, List.getElem_cons_succ, List.getElem_cons_zero]
              try simp only [List.setIfInBounds_toArray, List.set_cons_zero, List.set_cons_succ]
              refine wpAnyH_take (i := 18) (v := undef) rfl (by kernel_rfl) (by kernel_rfl) (by kernel_rfl) (fun _ _ _ h => h) (Or.inr ⟨by kernel_rfl, rfl⟩) hS2 ?_
              dsimp only [Act.put, List.getElem?_toArray, List.getElem?_cons_succ, List.getElem?_cons_zero, List.getElem_toArray, List.getElem_cons_succ, List.getElem_cons_zero]
              try simp only [List.setIfInBounds_toArray, List.set_cons_zero, List.set_cons_succ]
              refine wpAnyH_take (i := 19) (v := undef) rfl (by kernel_rfl) (by kernel_rfl) (by kernel_rfl) (fun _ _ _ h => h) (Or.inr ⟨by kernel_rfl, rfl⟩) hS2 ?_
              dsimp only [Act.put, List.getElem?_toArray, List.getElem?_cons_succ, List.getElem?_cons_zero, List.getElem_toArray, List.getElem_cons_succ, List.getElem_cons_zero]
              try simp only [List.setIfInBounds_toArray, List.set_cons_zero, List.set_cons_succ]
              refine wpAnyH_take (i := 20) (v := undef) rfl (by kernel_rfl) (by kernel_rfl) (by kernel_rfl) (fun _ _ _ h => h) (Or.inr ⟨by kernel_rfl, rfl⟩) hS2 ?_
              dsimp only [Act.put, List.getElem?_toArray, List.getElem?_cons_succ, List.getElem?_cons_zero, List.getElem_toArray, List.getElem_cons_succ, List.getElem_cons_zero]
              try simp only [List.setIfInBounds_toArray, List.set_cons_zero, List.set_cons_succ]
              refine wpAnyH_take (i := 21) (v := undef) rfl (by kernel_rfl) (by kernel_rfl) (by kernel_rfl) (fun _ _ _ h => h) (Or.inr ⟨by kernel_rfl, rfl⟩) hS2 ?_
              dsimp only [Act.put, List.getElem?_toArray, List.getElem?_cons_succ, List.getElem?_cons_zero, List.getElem_toArray, List.getElem_cons_succ, List.getElem_cons_zero]
              try simp only [List.setIfInBounds_toArray, List.set_cons_zero, List.set_cons_succ]
              refine wpAnyH_take (i := 22) (v := undef) rfl (by kernel_rfl) (by kernel_rfl) (by kernel_rfl) (fun _ _ _ h => h) (Or.inr ⟨by kernel_rfl, rfl⟩) hS2 ?_
              dsimp only [Act.put, List.getElem?_toArray, List.getElem?_cons_succ, List.getElem?_cons_zero, List.getElem_toArray, List.getElem_cons_succ, List.getElem_cons_zero]
              try simp only [List.setIfInBounds_toArray, List.set_cons_zero, List.set_cons_succ]
              refine wpAnyH_take (i := 23) (v := undef) rfl (by kernel_rfl) (by kernel_rfl) (by kernel_rfl) (fun _ _ _ h => h) (Or.inr ⟨by kernel_rfl, rfl⟩) hS2 ?_
              dsimp only [Act.put, List.getElem?_toArray, List.getElem?_cons_succ, List.getElem?_cons_zero, List.getElem_toArray, List.getElem_cons_succ, List.getElem_cons_zero]
              try simp only [List.setIfInBounds_toArray, List.set_cons_zero, List.set_cons_succ]
              refine wpAnyH_take (i := 24) (v := undef) rfl (by kernel_rfl) (by kernel_rfl) (by kernel_rfl) (fun _ _ _ h => h) (Or.inr ⟨by kernel_rfl, rfl⟩) hS2 ?_
              dsimp only [Act.put, List.getElem?_toArray, List.getElem?_cons_succ, List.getElem?_cons_zero, List.getElem_toArray, List.getElem_cons_succ, List.getElem_cons_zero]
              try simp only [List.setIfInBounds_toArray, List.set_cons_zero, List.set_cons_succ]
              refine wpAnyH_take (i := 25) (v := ?_) rfl (by kernel_rfl) (by kernel_rfl) (by kernel_rfl) (fun _ _ _ h => h) (Or.inl ⟨by kernel_rfl, ?_⟩) hS2 ?_
              rotate_left
              · intro w hSw
                (try dsimp only at hSw)
                go_simp
                try with_reducible rfl
              dsimp only [Act.put, List.getElem?_toArray, List.getElem?_cons_succ, List.getElem?_cons_zero, List.getElem_toArray, List.getElem_cons_succ, List.getElem_cons_zero]
              try simp only [List.setIfInBounds_toArray, List.set_cons_zero, List.set_cons_succ]
              refine wpAnyH_done (by kernel_rfl) ?_ _
              go_wp2_with fail
              go_meet
              exact ⟨rfl, b07⟩
            case rest =>
              obtain ⟨rfl, hbc⟩ := hcut
              have HS := Lib.hid (HS.out.step hbc)
              clear HT HU
              go_wp2_with (first | (go_at_call 9; (with_reducible refine (awake15_any _).mono ?_); rintro e wba ⟨rfl, ba⟩; replace HS := Lib.hid (HS.out.step ba); clear ba))
              go_ret
              exact ⟨rfl, HS.out.low⟩
          · have HC2 := Lib.hid (show ((l.take (j + 1)).all fun e => chkV e.m) = true by rw [HA.out]; exact HV.out)
            clear HA HV
            by_cases h0 : j = 0
            · have h0z : ¬ 0 < j := by omega
              have h0y : ¬ (0 : Int) < (j : Int) := by omega
              have h0w : decide (0 < j) = false := decide_eq_false h0z
              have HSj := Lib.hid (HN0.out h0)
              replace h0 := Lib.hid h0
              have KC := Lib.hid (fun W (h : Below wr.heap.size wr W) => (by obtain ⟨y0, y1, y2, y3, y4, y5, y6, _⟩ := KR.out W h; exact ⟨y0, y1, y2, y3, y4, y5, y6⟩ : W.cell? ⟨b, off + j * 9, none⟩ = some (.int .i64 c) ∧ W.cell? ⟨b, off + j * 9 + 1, none⟩ = some (.int .i64 s) ∧ W.cell? ⟨b, off + j * 9 + 2, none⟩ = some (.int .i64 k) ∧ W.cell? ⟨b, off + j * 9 + 3, none⟩ = some (.slice am nm cm) ∧ W.cell? ⟨b, off + j * 9 + 4, none⟩ = some (.int .i64 lo) ∧ W.cell? ⟨b, off + j * 9 + 5, none⟩ = some (.int .i64 hi2) ∧ W.cell? ⟨b, off + j * 9 + 6, none⟩ = some (.int .i64 old)))
              go_upto_region 8 with fail
              go_cut [62] from 37 to 62 (fun bb wx => bb = .bool false ∧ Below wr.heap.size wr wx)
              case first =>
                have KS := Lib.hid (fun W (h : Below wr.heap.size wr W) => (show (fun W : World => W.cell? ⟨b, off + j * 9, none⟩ = some (.int .i64 c) ∧ W.cell? ⟨b, off + j * 9 + 1, none⟩ = some (.int .i64 s) ∧ W.cell? ⟨b, off + j * 9 + 2, none⟩ = some (.int .i64 k) ∧ W.cell? ⟨b, off + j * 9 + 3, none⟩ = some (.slice am nm cm) ∧ W.cell? ⟨b, off + j * 9 + 4, none⟩ = some (.int .i64 lo) ∧ W.cell? ⟨b, off + j * 9 + 5, none⟩ = some (.int .i64 hi2) ∧ W.cell? ⟨b, off + j * 9 + 6, none⟩ = some (.int .i64 old)) W from by
                  obtain ⟨q0, q1, q2, q3', q4, q5, q6⟩ := KC.out W h
                  exact ⟨q0, q1, q2, q3', q4, q5, q6⟩))
                have hS0 := KS.out _ (Below.refl wr.heap.size wr).drew
                have hbd : Below wr.heap.size wr wr.drew := (Below.refl _ _).drew
                refine wp_region_held_drew (S := fun W => W.cell? ⟨b, off + j * 9, none⟩ = some (.int .i64 c) ∧ W.cell? ⟨b, off + j * 9 + 1, none⟩ = some (.int .i64 s) ∧ W.cell? ⟨b, off + j * 9 + 2, none⟩ = some (.int .i64 k) ∧ W.cell? ⟨b, off + j * 9 + 3, none⟩ = some (.slice am nm cm) ∧ W.cell? ⟨b, off + j * 9 + 4, none⟩ = some (.int .i64 lo) ∧ W.cell? ⟨b, off + j * 9 + 5, none⟩ = some (.int .i64 hi2) ∧ W.cell? ⟨b, off + j * 9 + 6, none⟩ = some (.int .i64 old)) (by kernel_rfl) hS0 (fun hS => ?_)
                refine wpAnyH_take (i := 0) (v := ?_) rfl (by kernel_rfl) (by kernel_rfl) (by kernel_rfl) (fun _ _ _ h => h) (Or.inl ⟨by kernel_rfl, ?_⟩) hS ?_
                rotate_left
                · intro w hSw
                  (try dsimp only at hSw)
                  go_simp
                  try with_reducible rfl
                dsimp only [Act.put, List.getElem?_toArray, List.getElem?_cons_succ, List.getElem?_cons_zero, List.getElem_toArray, List.getElem_cons_succ, List.getElem_cons_zero]
                try simp only [List.setIfInBounds_toArray, List.set_cons_zero, List.set_cons_succ]
                refine wpAnyH_take (i := 1) (v := ?_) rfl (by kernel_rfl) (by kernel_rfl) (by kernel_rfl) (fun _ _ _ h => h) (Or.inl ⟨by kernel_rfl, ?_⟩) hS ?_
                rotate_left
                · intro w hSw
                  (try dsimp only at hSw)
                  go_simp
                  try with_reducible rfl
                dsimp only [Act.put, List.getElem?_toArray, List.getElem?_cons_succ, List.getElem?_cons_zero, List.getElem_toArray, List.getElem_cons_succ, List.getElem_cons_zero]
                try simp only [List.setIfInBounds_toArray, List.set_cons_zero, List.set_cons_succ]
                refine wpAnyH_take (i := 2) (v := ?_) rfl (by kernel_rfl) (by kernel_rfl) (by kernel_rfl) (fun _ _ _ h => h) (Or.inl ⟨by kernel_rfl, ?_⟩) hS ?_
                rotate_left
                · intro w hSw
                  (try dsimp only at hSw)
                  go_simp
                  try with_reducible rfl
                dsimp only [Act.put, List.getElem?_toArray, List.getElem?_cons_succ, List.getElem?_cons_zero, List.getElem_toArray, List.getElem_cons_succ, List.getElem_cons_zero]
                try simp only [List.setIfInBounds_toArray, List.set_cons_zero, List.set_cons_succ]
                refine wpAnyH_take (i := 3) (v := ?_) rfl (by kernel_rfl) (by kernel_rfl) (by kernel_rfl) (fun _ _ _ h => h) (Or.inl ⟨by kernel_rfl, ?_⟩) hS ?_
                rotate_left
                · intro w hSw
                  (try dsimp only at hSw)
                  go_simp
                  try with_reducible rfl
                dsimp only [Act.put, List.getElem?_toArray, List.getElem?_cons_succ, List.getElem?_cons_zero, List.getElem_toArray, List.getElem_cons_succ, List.getElem_cons_zero]
                try simp only [List.setIfInBounds_toArray, List.set_cons_zero, List.set_cons_succ]
                refine wpAnyH_take (i := 4) (v := ?_) rfl (by kernel_rfl) (by kernel_rfl) (by kernel_rfl) (fun _ _ _ h => h) (Or.inl ⟨by kernel_rfl, ?_⟩) hS ?_
                rotate_left
                · intro w hSw
                  (try dsimp only at hSw)
                  go_simp
                  try with_reducible rfl
                dsimp only [Act.put, List.getElem?_toArray, List.getElem?_cons_succ, List.getElem?_cons_zero, List.getElem_toArray, List.getElem_cons_succ, List.getElem_cons_zero]
                try simp only [List.setIfInBounds_toArray, List.set_cons_zero, List.set_cons_succ]
                refine wpAnyH_ready (rs := [5]) (by kernel_rfl) (by simp) (AllReadyH.cons rfl (fun K hK => ?_) AllReadyH.nil)
                go_simp
                go_wp2_with (go_at_call 16; (with_reducible refine (CR.out _ hbd).mono ?_); rintro e w6 ⟨a6, n6, c6, rfl, h6, b6⟩; have H6 := Lib.hid h6; have b06 := below_next hbd b6; clear h6; have hS1 := KS.out _ b06)
                refine hK.out _ _ hS1 (fun _ => ?_)
                clear hK K
                try simp only [List.setIfInBounds_toArray, List.set_cons_zero, List.set_cons_succ]
                refine wpAnyH_ready (rs := [6]) (by kernel_rfl) (by simp) (AllReadyH.cons rfl (fun K hK => ?_) AllReadyH.nil)
                go_simp
                go_wp2_with (go_at_call 21; (with_reducible refine (CC.out a6 n6 c6 _ H6.out).mono ?_); rintro e w7 ⟨rfl, b7⟩; have b07 := below_next b06 b7; have hS2 := KS.out _ b07)
                refine hK.out _ _ hS2 (fun _ => ?_)
                clear hK K
                try simp only [List.setIfInBounds_toArray, List.set_cons_zero, List.set_cons_succ]
                refine wpAnyH_take (i := 7) (v := ?_) rfl (by kernel_rfl) (by kernel_rfl) (by kernel_rfl) (fun _ _ _ h => h) (Or.inl ⟨by kernel_rfl, ?_⟩) hS2 ?_
                rotate_left
                · intro w hSw
                  (try dsimp only at hSw)
                  go_simp
                  try with_reducible rfl
                dsimp only [Act.put, List.getElem?_toArray, List.getElem?_cons_succ, List.getElem?_cons_zero, List.getElem_toArray, List.getElem_cons_succ, List.getElem_cons_zero]
                try simp only [List.setIfInBounds_toArray, List.set_cons_zero, List.set_cons_succ]
                refine wpAnyH_take (i := 8) (v := ?_) rfl (by kernel_rfl) (by kernel_rfl) (by kernel_rfl) (fun _ _ _ h => h) (Or.inl ⟨by kernel_rfl, ?_⟩) hS2 ?_
                rotate_left
                · intro w hSw
                  (try dsimp only at hSw)
                  go_simp
                  try with_reducible rfl
                dsimp only [Act.put, List.getElem?_toArray, List.getElem?_cons_succ, List.getElem?_cons_zero, List.getElem_toArray, List.getElem_cons_succ, List.getElem_cons_zero]
                try simp only [List.setIfInBounds_toArray, List.set_cons_zero, List.set_cons_succ]
                refine wpAnyH_take (i := 9) (v := ?_) rfl (by kernel_rfl) (by kernel_rfl) (by kernel_rfl) (fun _ _ _ h => h) (Or.inl ⟨by kernel_rfl, ?_⟩) hS2 ?_
                rotate_left
                · intro w hSw
                  (try dsimp only at hSw)
                  go_simp
                  try with_reducible rfl
                dsimp only [Act.put, List.getElem?_toArray, List.getElem?_cons_succ, List.getElem?_cons_zero, List.getElem_toArray, List.getElem_cons_succ, List.getElem_cons_zero]
                try simp only [List.setIfInBounds_toArray, List.set_cons_zero, List.set_cons_succ]
                refine wpAnyH_take (i := 10) (v := ?_) rfl (by kernel_rfl) (by kernel_rfl) (by kernel_rfl) (fun _ _ _ h => h) (Or.inl ⟨by kernel_rfl, ?_⟩) hS2 ?_
                rotate_left
                · intro w hSw
                  (try dsimp only at hSw)
                  go_simp
                  try with_reducible rfl
                dsimp only [Act.put, List.getElem?_toArray, List.getElem?_cons_succ, List.getElem?_cons_zero, List.getElem_toArray, List.getElem_cons_succ, List.getElem_cons_zero]
                try simp only [List.setIfInBounds_toArray, List.set_cons_zero, List.set_cons_succ]
                refine wpAnyH_take (i := 11) (v := ?_) rfl (by kernel_rfl) (by kernel_rfl) (by kernel_rfl) (fun _ _ _ h => h) (Or.inl ⟨by kernel_rfl, ?_⟩) hS2 ?_
                rotate_left
                · intro w hSw
                  (try dsimp only at hSw)
                  go_simp
                  try with_reducible rfl
                dsimp only [Act.put, List.getElem?_toArray, List.getElem?_cons_succ, List.getElem?_cons_zero, List.getElem_toArray, List.getElem_cons_succ, List.getElem_cons_zero]
                try simp only [List.setIfInBounds_toArray, List.set_cons_zero, List.set_cons_succ]
                refine wpAnyH_take (i := 12) (v := undef) rfl (by kernel_rfl) (by kernel_rfl) (by kernel_rfl) (fun _ _ _ h => h) (Or.inr ⟨by kernel_rfl, rfl⟩) hS2 ?_
                dsimp only [Act.put, List.getElem?_toArray, List.getElem?_cons_succ, List.getElem?_cons_zero, List.getElem_toArray, List.getElem_cons_succ, List.getElem_cons_zero]
                try simp only [List.setIfInBounds_toArray, List.set_cons_zero, List.set_cons_succ]
                refine wpAnyH_take (i := 13) (v := undef) rfl (by kernel_rfl) (by kernel_rfl) (by kernel_rfl) (fun _ _ _ h => h) (Or.inr ⟨by kernel_rfl, rfl⟩) hS2 ?_
                dsimp only [Act.put, List.getElem?_toArray, List.getElem?_cons_succ, List.getElem?_cons_zero, List.getElem_toArray, List.getElem_cons_succ, List.getElem_cons_zero]
                try simp only [List.setIfInBounds_toArray, List.set_cons_zero, List.set_cons_succ]
                refine wpAnyH_take (i := 14) (v := undef) rfl (by kernel_rfl) (by kernel_rfl) (by kernel_rfl) (fun _ _ _ h => h) (Or.inr ⟨by kernel_rfl, rfl⟩) hS2 ?_
                dsimp only [Act.put, List.getElem?_toArray, List.getElem?_cons_succ, List.getElem?_cons_zero, List.getElem_toArray, List.getElem_cons_succ, List.getElem_cons_zero]
                try simp only [List.setIfInBounds_toArray, List.set_cons_zero, List.set_cons_succ]
                refine wpAnyH_take (i := 15) (v := undef) rfl (by kernel_rfl) (by kernel_rfl) (by kernel_rfl) (fun _ _ _ h => h) (Or.inr ⟨by kernel_rfl, rfl⟩) hS2 ?_
                dsimp only [Act.put, List.getElem?_toArray, List.getElem?_cons_succ, List.getElem?_cons_zero, List.getElem_toArray, List.getElem_cons_succ, List.getElem_cons_zero]
                try simp only [List.setIfInBounds_toArray, List.set_cons_zero, List.set_cons_succ]
                refine wpAnyH_take (i := 16) (v := undef) rfl (by kernel_rfl) (by kernel_rfl) (by kernel_rfl) (fun _ _ _ h => h) (Or.inr ⟨by kernel_rfl, rfl⟩) hS2 ?_
                dsimp only [Act.put, List.getElem?_toArray, List.getElem?_cons_succ, List.getElem?_cons_zero, List.getElem_toArray, List.getElem_cons_succ, List.getElem_cons_zero]
                try simp only [List.setIfInBounds_toArray, List.set_cons_zero, List.set_cons_succ]
                refine wpAnyH_take (i := 17) (v := undef) rfl (by kernel_rfl) (by kernel_rfl) (by kernel_rfl) (fun _ _ _ h => h) (Or.inr ⟨by kernel_rfl, rfl⟩) hS2 ?_
                dsimp only [Act.put, List.getElem?_toArray, List.getElem?_cons_succ, List.getElem?_cons_zero, List.getElem_toArray, List.getElem_cons_succ, List.getElem_cons_zero]
                try simp only [List.setIfInBounds_toArray, List.set_cons_zero, List.set_cons_succ]
                refine wpAnyH_take (i := 18) (v := undef) rfl (by kernel_rfl) (by kernel_rfl) (by kernel_rfl) (fun _ _ _ h => h) (Or.inr ⟨by kernel_rfl, rfl⟩) hS2 ?_
                dsimp only [Act.put, List.getElem?_toArray, List.getElem?_cons_succ, List.getElem?_cons_zero, List.getElem_toArray, List.getElem_cons_succ, List.getElem_cons_zero]
                try simp only [List.setIfInBounds_toArray, List.set_cons_zero, List.set_cons_succ]
                refine wpAnyH_take (i := 19) (v := undef) rfl (by kernel_rfl) (by kernel_rfl) (by kernel_rfl) (fun _ _ _ h => h) (Or.inr ⟨by kernel_rfl, rfl⟩) hS2 ?_
                dsimp only [Act.put, List.getElem?_toArray, List.getElem?_cons_succ, List.getElem?_cons_zero, List.getElem_toArray, List.getElem_cons_succ, List.getElem_cons_zero]
                try simp only [List.setIfInBounds_toArray, List.set_cons_zero, List.set_cons_succ]
                refine wpAnyH_take (i := 20) (v := undef) rfl (by kernel_rfl) (by kernel_rfl) (by kernel_rfl) (fun _ _ _ h => h) (Or.inr ⟨by kernel_rfl, rfl⟩) hS2 ?_
                dsimp only [Act.put, List.getElem?_toArray, List.getElem?_cons_succ, List.getElem?_cons_zero, List.getElem_toArray, List.getElem_cons_succ, List.getElem_cons_zero]
                try simp only [List.setIfInBounds_toArray, List.set_cons_zero, List.set_cons_succ]
                refine wpAnyH_take (i := 21) (v := undef) rfl (by kernel_rfl) (by kernel_rfl) (by kernel_rfl) (fun _ _ _ h => h) (Or.inr ⟨by kernel_rfl, rfl⟩) hS2 ?_
                dsimp only [Act.put, List.getElem?_toArray, List.getElem?_cons_succ, List.getElem?_cons_zero, List.getElem_toArray, List.getElem_cons_succ, List.getElem_cons_zero]
                try simp only [List.setIfInBounds_toArray, List.set_cons_zero, List.set_cons_succ]
                refine wpAnyH_take (i := 22) (v := undef) rfl (by kernel_rfl) (by kernel_rfl) (by kernel_rfl) (fun _ _ _ h => h) (Or.inr ⟨by kernel_rfl, rfl⟩) hS2 ?_
                dsimp only [Act.put, List.getElem?_toArray, List.getElem?_cons_succ, List.getElem?_cons_zero, List.getElem_toArray, List.getElem_cons_succ, List.getElem_cons_zero]
                try simp only [List.setIfInBounds_toArray, List.set_cons_zero, List.set_cons_succ]
                refine wpAnyH_take (i := 23) (v := undef) rfl (by kernel_rfl) (by kernel_rfl) (by kernel_rfl) (fun _ _ _ h => h) (Or.inr ⟨by kernel_rfl, rfl⟩) hS2 ?_
                dsimp only [Act.put, List.getElem?_toArray, List.getElem?_cons_succ, List.getElem?_cons_zero, List.getElem_toArray, List.getElem_cons_succ, List.getElem_cons_zero]
                try simp only [List.setIfInBounds_toArray, List.set_cons_zero, List.set_cons_succ]
                refine wpAnyH_take (i := 24) (v := ?_) rfl (by kernel_rfl) (by kernel_rfl) (by kernel_rfl) (fun _ _ _ h => h) (Or.inl ⟨by kernel_rfl, ?_⟩) hS2 ?_
                rotate_left
                · intro w hSw
                  (try dsimp only at hSw)
                  go_simp
                  try with_reducible rfl
                dsimp only [Act.put, List.getElem?_toArray, List.getElem?_cons_succ, List.getElem?_cons_zero, List.getElem_toArray, List.getElem_cons_succ, List.getElem_cons_zero]
                try simp only [List.setIfInBounds_toArray, List.set_cons_zero, List.set_cons_succ]
                refine wpAnyH_take (i := 25) (v := ?_) rfl (by kernel_rfl) (by kernel_rfl) (by kernel_rfl) (fun _ _ _ h => h) (Or.inl ⟨by kernel_rfl, ?_⟩) hS2 ?_
                rotate_left
                · intro w hSw
                  (try dsimp only at hSw)
                  go_simp
                  try with_reducible rfl
                dsimp only [Act.put, List.getElem?_toArray, List.getElem?_cons_succ, List.getElem?_cons_zero, List.getElem_toArray, List.getElem_cons_succ, List.getElem_cons_zero]
                try simp only [List.setIfInBounds_toArray, List.set_cons_zero, List.set_cons_succ]
                refine wpAnyH_done (by kernel_rfl) ?_ _
                go_wp2_with fail
                go_meet
                exact ⟨rfl, b07⟩
              case rest =>
                obtain ⟨rfl, hbc⟩ := hcut
                have HS := Lib.hid (HS.out.step hbc)
                obtain ⟨y0, y1, y2, y3, y4, y5, y6, y7, y8⟩ := KR.out _ hbc
                have HUc := Lib.hid (OwnsR.below HU.out hbc)
                have hbl2 := HS.out.low
                have HSO := Lib.hid (HSj.out)
                cases d
                · have HT2 := Lib.hid (show restE (l.take (j + 1)) ka kb = U by rw [HT.out]; simp)
                  clear HT
                  go_wp2_with fail
                  go_roundw
                  case rel => exact ⟨j + 1, rfl, by go_num, by omega, HC2, HSO, Lib.hid (by rw [HT2.out]; exact HUc.out), HS⟩
                  case measure => simp [intOf]; omega
                · by_cases h1 : ka < t
                  · by_cases h2 : t ≤ kb
                    · have HT2 := Lib.hid (show restE (l.take (j + 1)) ka kb = U ++ [⟨c, s, k, am, nm, cm, ps, lo, hi2, old⟩] by rw [HT.out]; rw [if_pos (by rw [decide_eq_true h1, decide_eq_true h2]; rfl)])
                      clear HT
                      go_wp2_with (first | (at_builtin; refine wpList_append_own _ rfl _ _ 37 rfl w.heap.size 42 i0 (.agg #[.int .i64 0, .int .i64 0, .int .i64 0, .slice none 0 0, .int .i64 0, .int .i64 0, .int .i64 0]) 7 72 Try.underlying37 hi hz0 hz1 hz2 rfl (by decide) _ _ _ rfl (World.ownsRow.alloc HUc.out _) ⟨wc.heap.size, 0, none⟩ 1 1 [.int .i64 c, .int .i64 s, .int .i64 k, .slice am nm cm, .int .i64 lo, .int .i64 hi2, .int .i64 old] rfl rfl ?caa ?cab ?cac ?cad ?cae ?_) | fail)
                      try case caa => exact fun jj u hj => by rw [addr_add]; exact (cellG rfl).trans (by simpa using hj)
                      case cab => first | exact ⟨rfl, rfl, rfl, rfl, rfl, rfl, rfl⟩ | (intro u hu; simp at hu; rcases hu with rfl | rfl | rfl | rfl | rfl | rfl | rfl <;> rfl)
                      case cac => have := ZU.out; unfold maxLen; omega
                      case cad => have := ZU.out; omega
                      case cae => have := hbl2.size; simp; omega
                      intro v9 w9 hown9 hg9 _
                      have ba := (Below.refl wc.heap.size wc).alloc (Nat.le_refl _) (.cells #[.int .i64 c, .int .i64 s, .int .i64 k, .slice am nm cm, .int .i64 lo, .int .i64 hi2, .int .i64 old] 42)
                      have hb9 := (below_next hbl2 ba).grown hg9 (below_next hbl2 ba).size (fun k hk => (World.ownsRow.lt HUc.out k hk).1)
                      have ho9 := Lib.hid (OwnsR.snoc (x := (⟨c, s, k, am, nm, cm, ps, lo, hi2, old⟩ : Mv)) rfl hown9)
                      clear hown9 hg9
                      go_wp2_with fail
                      go_roundw
                      case rel => exact ⟨j + 1, rfl, by go_num, by omega, HC2, HSO, Lib.hid (by rw [HT2.out]; exact ho9.out), Lib.hid (ENV.out _ hb9)⟩
                      case measure => simp [intOf]; omega
                    · have HT2 := Lib.hid (show restE (l.take (j + 1)) ka kb = U by rw [HT.out]; rw [if_neg (by rw [decide_eq_false h2]; simp)]; simp)
                      clear HT
                      go_wp2_with fail
                      go_roundw
                      case rel => exact ⟨j + 1, rfl, by go_num, by omega, HC2, HSO, Lib.hid (by rw [HT2.out]; exact HUc.out), HS⟩
                      case measure => simp [intOf]; omega
                  · have HT2 := Lib.hid (show restE (l.take (j + 1)) ka kb = U by rw [HT.out]; rw [if_neg (by rw [decide_eq_false h1]; simp)]; simp)
                    clear HT
                    go_wp2_with fail
                    go_roundw
                    case rel => exact ⟨j + 1, rfl, by go_num, by omega, HC2, HSO, Lib.hid (by rw [HT2.out]; exact HUc.out), HS⟩
                    case measure => simp [intOf]; omega
            · obtain ⟨m, hm⟩ : ∃ m, j = m + 1 := ⟨j - 1, by omega⟩
              have h0z : 0 < j := by omega
              have h0y : (0 : Int) < (j : Int) := by omega
              have h0w : decide (0 < j) = true := decide_eq_true h0z
              have m1 : IntKind.i64.wrap ((j : Int) - 1) = (m : Int) := by rw [show ((j : Int) - 1) = (m : Int) by omega]; exact IntWalk.i64_in _ (by omega)
              have m2 : (0 : Int) ≤ (m : Int) := by omega
              have m3 : (m : Int) < (l.length : Int) := by omega
              have m4 : m < l.length := by omega
              have KM := Lib.hid (fun W (h : Below wr.heap.size wr W) => (by
                obtain ⟨b', off', e', _, _, _, _, _, _, _, _, h7, _⟩ := KP.out m m4 W h
                cases e'
                exact h7 : W.cell? ⟨b, off + m * 9 + 7, none⟩ = some (.int .i64 l[m]!.t)))
              have HNm := Lib.hid (fun ht => HN.out m hm ht)
              replace hm := Lib.hid hm
              clear h0
              generalize l[m]!.t = tp at KM HNm
              have KC := Lib.hid (fun W (h : Below wr.heap.size wr W) => (by obtain ⟨y0, y1, y2, y3, y4, y5, y6, y7, _⟩ := KR.out W h; exact ⟨y0, y1, y2, y3, y4, y5, y6, y7, KM.out W h⟩ : W.cell? ⟨b, off + j * 9, none⟩ = some (.int .i64 c) ∧ W.cell? ⟨b, off + j * 9 + 1, none⟩ = some (.int .i64 s) ∧ W.cell? ⟨b, off + j * 9 + 2, none⟩ = some (.int .i64 k) ∧ W.cell? ⟨b, off + j * 9 + 3, none⟩ = some (.slice am nm cm) ∧ W.cell? ⟨b, off + j * 9 + 4, none⟩ = some (.int .i64 lo) ∧ W.cell? ⟨b, off + j * 9 + 5, none⟩ = some (.int .i64 hi2) ∧ W.cell? ⟨b, off + j * 9 + 6, none⟩ = some (.int .i64 old) ∧ W.cell? ⟨b, off + j * 9 + 7, none⟩ = some (.int .i64 t) ∧ W.cell? ⟨b, off + m * 9 + 7, none⟩ = some (.int .i64 tp)))
              by_cases ht : t < tp
              · have htd : decide (t < tp) = true := decide_eq_true ht
                go_upto_region 8 with fail
                go_cut [62] from 37 to 62 (fun bb wx => bb = .bool true ∧ Below wr.heap.size wr wx)
                case first =>
                  have HBD : Below wr.heap.size wr wr := Below.refl _ _
                  have KS := Lib.hid (fun W (h : Below wr.heap.size wr W) => (show W.cell? ⟨b, off + j * 9, none⟩ = some (.int .i64 c) ∧ W.cell? ⟨b, off + j * 9 + 1, none⟩ = some (.int .i64 s) ∧ W.cell? ⟨b, off + j * 9 + 2, none⟩ = some (.int .i64 k) ∧ W.cell? ⟨b, off + j * 9 + 3, none⟩ = some (.slice am nm cm) ∧ W.cell? ⟨b, off + j * 9 + 4, none⟩ = some (.int .i64 lo) ∧ W.cell? ⟨b, off + j * 9 + 5, none⟩ = some (.int .i64 hi2) ∧ W.cell? ⟨b, off + j * 9 + 6, none⟩ = some (.int .i64 old) ∧ W.cell? ⟨b, off + j * 9 + 7, none⟩ = some (.int .i64 t) ∧ W.cell? ⟨b, off + m * 9 + 7, none⟩ = some (.int .i64 tp) from by
                    obtain ⟨q0, q1, q2, q3', q4, q5, q6, q7, p7⟩ := KC.out W h
                    exact ⟨q0, q1, q2, q3', q4, q5, q6, q7, p7⟩))
                  (first | go_region_held3 (fun W => W.cell? ⟨b, off + j * 9, none⟩ = some (.int .i64 c) ∧ W.cell? ⟨b, off + j * 9 + 1, none⟩ = some (.int .i64 s) ∧ W.cell? ⟨b, off + j * 9 + 2, none⟩ = some (.int .i64 k) ∧ W.cell? ⟨b, off + j * 9 + 3, none⟩ = some (.slice am nm cm) ∧ W.cell? ⟨b, off + j * 9 + 4, none⟩ = some (.int .i64 lo) ∧ W.cell? ⟨b, off + j * 9 + 5, none⟩ = some (.int .i64 hi2) ∧ W.cell? ⟨b, off + j * 9 + 6, none⟩ = some (.int .i64 old) ∧ W.cell? ⟨b, off + j * 9 + 7, none⟩ = some (.int .i64 t) ∧ W.cell? ⟨b, off + m * 9 + 7, none⟩ = some (.int .i64 tp)) (exact KS.out _ (by repeat (first | with_reducible exact HBD | with_reducible refine toDI ?_))) ((first
                    | (go_at_call 16; (with_reducible refine (CR.out _ (by repeat (first | with_reducible exact HBD | with_reducible refine toDI ?_))).mono ?_); rintro e w6 ⟨a6, n6, c6, rfl, h6, b6⟩; have H6 := Lib.hid h6; have HBD := below_next (w := wr) (by repeat (first | with_reducible exact HBD | with_reducible refine toDI ?_)) b6; clear h6)
                    | (go_at_call 21; (with_reducible refine (CC.out a6 n6 c6 _ (H6.out.below (by repeat (first | with_reducible exact Below.refl _ _ | with_reducible refine toDI ?_)))).mono ?_); rintro e w7 ⟨rfl, b7⟩; have HBD := below_next (w := wr) (by repeat (first | with_reducible exact HBD | with_reducible refine toDI ?_)) (below_next (by repeat (first | with_reducible exact Below.refl _ _ | with_reducible refine toDI ?_)) b7))
                    | fail)) | fail)
                  all_goals
                    go_wp2_with fail
                    go_meet
                    exact ⟨rfl, (by repeat (first | with_reducible exact HBD | with_reducible refine toDI ?_))⟩
                case rest =>
                  obtain ⟨rfl, hbc⟩ := hcut
                  have HS := Lib.hid (HS.out.step hbc)
                  clear HT HU
                  go_wp2_with (first | (go_at_call 9; (with_reducible refine (awake15_any _).mono ?_); rintro e wba ⟨rfl, ba⟩; replace HS := Lib.hid (HS.out.step ba); clear ba))
                  go_ret
                  exact ⟨rfl, HS.out.low⟩
              · have htd : decide (t < tp) = false := decide_eq_false ht
                have HSj := Lib.hid (HNm.out (by dsimp only; omega))
                go_upto_region 8 with fail
                go_cut [62] from 37 to 62 (fun bb wx => bb = .bool false ∧ Below wr.heap.size wr wx)
                case first =>
                  have HBD : Below wr.heap.size wr wr := Below.refl _ _
                  have KS := Lib.hid (fun W (h : Below wr.heap.size wr W) => (show W.cell? ⟨b, off + j * 9, none⟩ = some (.int .i64 c) ∧ W.cell? ⟨b, off + j * 9 + 1, none⟩ = some (.int .i64 s) ∧ W.cell? ⟨b, off + j * 9 + 2, none⟩ = some (.int .i64 k) ∧ W.cell? ⟨b, off + j * 9 + 3, none⟩ = some (.slice am nm cm) ∧ W.cell? ⟨b, off + j * 9 + 4, none⟩ = some (.int .i64 lo) ∧ W.cell? ⟨b, off + j * 9 + 5, none⟩ = some (.int .i64 hi2) ∧ W.cell? ⟨b, off + j * 9 + 6, none⟩ = some (.int .i64 old) ∧ W.cell? ⟨b, off + j * 9 + 7, none⟩ = some (.int .i64 t) ∧ W.cell? ⟨b, off + m * 9 + 7, none⟩ = some (.int .i64 tp) from by
                    obtain ⟨q0, q1, q2, q3', q4, q5, q6, q7, p7⟩ := KC.out W h
                    exact ⟨q0, q1, q2, q3', q4, q5, q6, q7, p7⟩))
                  (first | go_region_held3 (fun W => W.cell? ⟨b, off + j * 9, none⟩ = some (.int .i64 c) ∧ W.cell? ⟨b, off + j * 9 + 1, none⟩ = some (.int .i64 s) ∧ W.cell? ⟨b, off + j * 9 + 2, none⟩ = some (.int .i64 k) ∧ W.cell? ⟨b, off + j * 9 + 3, none⟩ = some (.slice am nm cm) ∧ W.cell? ⟨b, off + j * 9 + 4, none⟩ = some (.int .i64 lo) ∧ W.cell? ⟨b, off + j * 9 + 5, none⟩ = some (.int .i64 hi2) ∧ W.cell? ⟨b, off + j * 9 + 6, none⟩ = some (.int .i64 old) ∧ W.cell? ⟨b, off + j * 9 + 7, none⟩ = some (.int .i64 t) ∧ W.cell? ⟨b, off + m * 9 + 7, none⟩ = some (.int .i64 tp)) (exact KS.out _ (by repeat (first | with_reducible exact HBD | with_reducible refine toDI ?_))) ((first
                    | (go_at_call 16; (with_reducible refine (CR.out _ (by repeat (first | with_reducible exact HBD | with_reducible refine toDI ?_))).mono ?_); rintro e w6 ⟨a6, n6, c6, rfl, h6, b6⟩; have H6 := Lib.hid h6; have HBD := below_next (w := wr) (by repeat (first | with_reducible exact HBD | with_reducible refine toDI ?_)) b6; clear h6)
                    | (go_at_call 21; (with_reducible refine (CC.out a6 n6 c6 _ (H6.out.below (by repeat (first | with_reducible exact Below.refl _ _ | with_reducible refine toDI ?_)))).mono ?_); rintro e w7 ⟨rfl, b7⟩; have HBD := below_next (w := wr) (by repeat (first | with_reducible exact HBD | with_reducible refine toDI ?_)) (below_next (by repeat (first | with_reducible exact Below.refl _ _ | with_reducible refine toDI ?_)) b7))
                    | fail)) | fail)
                  all_goals
                    go_wp2_with fail
                    go_meet
                    exact ⟨rfl, (by repeat (first | with_reducible exact HBD | with_reducible refine toDI ?_))⟩
                case rest =>
                  obtain ⟨rfl, hbc⟩ := hcut
                  have HS := Lib.hid (HS.out.step hbc)
                  obtain ⟨y0, y1, y2, y3, y4, y5, y6, y7, y8⟩ := KR.out _ hbc
                  have HUc := Lib.hid (OwnsR.below HU.out hbc)
                  have hbl2 := HS.out.low
                  have HSO := Lib.hid (HSj.out)
                  cases d
                  · have HT2 := Lib.hid (show restE (l.take (j + 1)) ka kb = U by rw [HT.out]; simp)
                    clear HT
                    go_wp2_with fail
                    go_roundw
                    case rel => exact ⟨j + 1, rfl, by go_num, by omega, HC2, HSO, Lib.hid (by rw [HT2.out]; exact HUc.out), HS⟩
                    case measure => simp [intOf]; omega
                  · by_cases h1 : ka < t
                    · by_cases h2 : t ≤ kb
                      · have HT2 := Lib.hid (show restE (l.take (j + 1)) ka kb = U ++ [⟨c, s, k, am, nm, cm, ps, lo, hi2, old⟩] by rw [HT.out]; rw [if_pos (by rw [decide_eq_true h1, decide_eq_true h2]; rfl)])
                        clear HT
                        go_wp2_with (first | (at_builtin; refine wpList_append_own _ rfl _ _ 37 rfl w.heap.size 42 i0 (.agg #[.int .i64 0, .int .i64 0, .int .i64 0, .slice none 0 0, .int .i64 0, .int .i64 0, .int .i64 0]) 7 72 Try.underlying37 hi hz0 hz1 hz2 rfl (by decide) _ _ _ rfl (World.ownsRow.alloc HUc.out _) ⟨wc.heap.size, 0, none⟩ 1 1 [.int .i64 c, .int .i64 s, .int .i64 k, .slice am nm cm, .int .i64 lo, .int .i64 hi2, .int .i64 old] rfl rfl ?cba ?cbb ?cbc ?cbd ?cbe ?_) | fail)
                        try case cba => exact fun jj u hj => by rw [addr_add]; exact (cellG rfl).trans (by simpa using hj)
                        case cbb => first | exact ⟨rfl, rfl, rfl, rfl, rfl, rfl, rfl⟩ | (intro u hu; simp at hu; rcases hu with rfl | rfl | rfl | rfl | rfl | rfl | rfl <;> rfl)
                        case cbc => have := ZU.out; unfold maxLen; omega
                        case cbd => have := ZU.out; omega
                        case cbe => have := hbl2.size; simp; omega
                        intro v9 w9 hown9 hg9 _
                        have ba := (Below.refl wc.heap.size wc).alloc (Nat.le_refl _) (.cells #[.int .i64 c, .int .i64 s, .int .i64 k, .slice am nm cm, .int .i64 lo, .int .i64 hi2, .int .i64 old] 42)
                        have hb9 := (below_next hbl2 ba).grown hg9 (below_next hbl2 ba).size (fun k hk => (World.ownsRow.lt HUc.out k hk).1)
                        have ho9 := Lib.hid (OwnsR.snoc (x := (⟨c, s, k, am, nm, cm, ps, lo, hi2, old⟩ : Mv)) rfl hown9)
                        clear hown9 hg9
                        go_wp2_with fail
                        go_roundw
                        case rel => exact ⟨j + 1, rfl, by go_num, by omega, HC2, HSO, Lib.hid (by rw [HT2.out]; exact ho9.out), Lib.hid (ENV.out _ hb9)⟩
                        case measure => simp [intOf]; omega
                      · have HT2 := Lib.hid (show restE (l.take (j + 1)) ka kb = U by rw [HT.out]; rw [if_neg (by rw [decide_eq_false h2]; simp)]; simp)
                        clear HT
                        go_wp2_with fail
                        go_roundw
                        case rel => exact ⟨j + 1, rfl, by go_num, by omega, HC2, HSO, Lib.hid (by rw [HT2.out]; exact HUc.out), HS⟩
                        case measure => simp [intOf]; omega
                    · have HT2 := Lib.hid (show restE (l.take (j + 1)) ka kb = U by rw [HT.out]; rw [if_neg (by rw [decide_eq_false h1]; simp)]; simp)
                      clear HT
                      go_wp2_with fail
                      go_roundw
                      case rel => exact ⟨j + 1, rfl, by go_num, by omega, HC2, HSO, Lib.hid (by rw [HT2.out]; exact HUc.out), HS⟩
                      case measure => simp [intOf]; omega
        · have hjz : ¬ (j : Int) < (l.length : Int) := by omega
          have hall := HC.out
          have hso := HSo.out
          rw [List.take_of_length_le (by omega)] at hall hso HU
          have hgo := goesOn_math (on := on) hab hso hall
          have hok := restE_ok (a := ka) (b := kb) (fun e he => (HL.out.ok e he).below HS.out.low)
          obtain ⟨a8, c8, rfl, h8⟩ := OwnsR.arg encM_len HU.out
          have hM8 : MArg wr a8 (restE l ka kb).length c8 (restE l ka kb) := ⟨h8, hok⟩
          generalize restE l ka kb = R at *
          have PA := Lib.hid (fun W h1 h2 => jfold_any a l.length cp l a3 n3 c3 on ka W h1 h2 zl)
          have PB := Lib.hid (fun W h1 h2 => jfold_any a l.length cp l a3 n3 c3 on kb W h1 h2 zl)
          have zB : (foldE l on kb).length ≤ 100000 := Nat.le_trans (tbl_le (foldE_tbl _ _ _)) (by omega)
          generalize foldE l on ka = A at hgo PA
          generalize foldE l on kb = B at hgo PB zB
          have PO := Lib.hid (fun x xn xc W h1 h2 h3 => hgo ▸ jonto_any x xn xc A a8 R.length c8 R a3 n3 c3 on W h1 h2 h3)
          replace HS := Lib.hid (HS.out.add (Stable.margs a8 R.length c8 R) hM8)
          generalize R.length = nr at *
          have SB := Lib.hid (fun x xn xc y yn yc W h1 h2 => (show Calls Try.prog 10 #[.slice x xn xc, .slice y yn yc] W (Gives W (.bool true)) from (show decide (B = B) = true from decide_eq_true rfl) ▸ same5_any x y xn yn xc yc B B W h1 h2))
          clear hgo hok h8 hM8 HU hall hso HC HSo
          go_wp2_with (first | (go_at_call 12; (with_reducible refine (PA.out _ (HS.out.get (fun W => EArg W a l.length cp l) (by repeat (first | exact List.mem_cons_self | apply List.mem_cons_of_mem))) (HS.out.get (fun W => Arg W a3 n3 c3 on) (by repeat (first | exact List.mem_cons_self | apply List.mem_cons_of_mem)))).mono ?_); rintro e w11 ⟨a11, n11, c11, rfl, h11, b11⟩; replace HS := Lib.hid ((HS.out.step b11).add (Stable.arg a11 n11 c11 A) h11); clear b11 h11) | (go_at_call 17; (with_reducible refine (PO.out a11 n11 c11 _ (HS.out.get (fun W => Arg W a11 n11 c11 A) (by repeat (first | exact List.mem_cons_self | apply List.mem_cons_of_mem))) (HS.out.get (fun W => MArg W a8 nr c8 R) (by repeat (first | exact List.mem_cons_self | apply List.mem_cons_of_mem))) (HS.out.get (fun W => Arg W a3 n3 c3 on) (by repeat (first | exact List.mem_cons_self | apply List.mem_cons_of_mem)))).mono ?_); rintro e w12 ⟨a12, n12, c12, rfl, h12, b12⟩; replace HS := Lib.hid ((HS.out.step b12).add (Stable.arg a12 n12 c12 B) h12); clear b12 h12) | (go_at_call 9; (with_reducible refine (awake15_any _).mono ?_); rintro e wba ⟨rfl, ba⟩; replace HS := Lib.hid (HS.out.step ba); clear ba) | (go_at_call 11; (with_reducible refine (refs5_any a12 n12 c12 B _ zB (HS.out.get (fun W => Arg W a12 n12 c12 B) (by repeat (first | exact List.mem_cons_self | apply List.mem_cons_of_mem)))).mono ?_); rintro e w13 ⟨a13, n13, c13, rfl, h13, b13⟩; replace HS := Lib.hid ((HS.out.step b13).add (Stable.arg a13 n13 c13 B) h13); clear b13 h13) | (go_at_call 12; (with_reducible refine (PB.out _ (HS.out.get (fun W => EArg W a l.length cp l) (by repeat (first | exact List.mem_cons_self | apply List.mem_cons_of_mem))) (HS.out.get (fun W => Arg W a3 n3 c3 on) (by repeat (first | exact List.mem_cons_self | apply List.mem_cons_of_mem)))).mono ?_); rintro e w14 ⟨a14, n14, c14, rfl, h14, b14⟩; replace HS := Lib.hid ((HS.out.step b14).add (Stable.arg a14 n14 c14 B) h14); clear b14 h14) | (go_at_call 11; (with_reducible refine (refs5_any a14 n14 c14 B _ zB (HS.out.get (fun W => Arg W a14 n14 c14 B) (by repeat (first | exact List.mem_cons_self | apply List.mem_cons_of_mem)))).mono ?_); rintro e w15 ⟨a15, n15, c15, rfl, h15, b15⟩; replace HS := Lib.hid ((HS.out.step b15).add (Stable.arg a15 n15 c15 B) h15); clear b15 h15) | (go_at_call 10; (with_reducible refine (SB.out a13 n13 c13 a15 n15 c15 _ (HS.out.get (fun W => Arg W a13 n13 c13 B) (by repeat (first | exact List.mem_cons_self | apply List.mem_cons_of_mem))) (HS.out.get (fun W => Arg W a15 n15 c15 B) (by repeat (first | exact List.mem_cons_self | apply List.mem_cons_of_mem)))).mono ?_); rintro e wb16 ⟨rfl, b16⟩; replace HS := Lib.hid (HS.out.step b16); clear b16))
          go_ret
          exact ⟨rfl, HS.out.low⟩
    · have q3z : (100 : Int) < (n3 : Int) := by omega
      clear zo hx
      go_enter Try.func6, Try.ntmps6
      go_wp2_with (first | (go_at_call 8; (with_reducible refine (FW.out _ (HS.out.get (fun W => EArg W a l.length cp l) (by repeat (first | exact List.mem_cons_self | apply List.mem_cons_of_mem)))).mono ?_); rintro e w5 ⟨rfl, b5⟩; replace HS := Lib.hid (HS.out.step b5); clear b5) | (go_at_call 9; (with_reducible refine (awake15_any _).mono ?_); rintro e wba ⟨rfl, ba⟩; replace HS := Lib.hid (HS.out.step ba); clear ba))
      go_ret
      exact ⟨rfl, HS.out.low⟩
end Go.Proofs.Ythofoidafdbgcaa
