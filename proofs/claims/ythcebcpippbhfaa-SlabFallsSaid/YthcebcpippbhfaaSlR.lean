/-
  SLABS: the contracts once more, with the loss's list where it was.
-/
import Derived.Test.YthcebcpippbhfaaSlO
namespace Go.Proofs.Ythcebcpippbhfaa
open Go.RowKit Go.Maps Go.ChangeMaps Go.ChangeShapes Go.WideShapes Go.Deep

/-- What a call on a slab leaves, its loss's list where it was. -/
def SPostK (p db mb : Nat) (ka : Option Addr) (kn kc : Nat) (v : Value) (s : St) (w : World) (e : Ending) (w' : World) : Prop := e = .returned v ∧ SlK w' p db mb ka kn kc s ∧ But p db mb w w'
set_option maxRecDepth 100000 in
theorem settleK {w : World} {p db mb : Nat} {ka : Option Addr} {kn kc : Nat} {s : St} (h : SlK w p db mb ka kn kc s) (k most : Int) (hk : (Lit.int .i64 k).wf = true) (hu : s.down = false) :
    Calls Try.prog 37 #[.pointer (some ⟨p, 0, none⟩), .int .i64 k, .int .i64 most] w (SPostK p db mb ka kn kc (.tuple #[]) { s with bs := settleP s.bs k most } w) := by
  have hl := h.hm.look hk
  obtain ⟨c0, c1, _⟩ := h.cells
  obtain ⟨l1, l2, l3⟩ := h.lt
  cases e : looseAt s.bs k with
  | none =>
    rw [e] at hl
    simp only [Option.getD_none, Option.isSome_none] at hl
    go_enter Try.func37, Try.ntmps37
    go_wp2
    go_end0
    rw [settleP_none e]
    have B : Below w.heap.size w (w.alloc (.cells #[.string ⟨#[]⟩] 75)) := (Below.refl _ _).alloc (Nat.le_refl _) _
    exact ⟨rfl, h.same B, But.of_below B⟩
  | some t =>
    rw [e] at hl
    simp only [Option.getD_some, Option.isSome_some] at hl
    obtain ⟨i, rfl, hi, e2⟩ := looseAt_some e
    obtain ⟨r1, r2⟩ := h.row hi
    have b1 : 0 ≤ min (max most 0) (t.size : Int) := by omega
    have b2 : min (max most 0) (t.size : Int) ≤ (t.size : Int) := by omega
    obtain ⟨W1, hW1⟩ : ∃ W1, w.alloc (.cells #[.string t] 75) = W1 := ⟨_, rfl⟩
    have B : Below w.heap.size w W1 := by rw [← hW1]; exact (Below.refl _ _).alloc (Nat.le_refl _) _
    have z1 : W1.heap.size = w.heap.size + 1 := by rw [← hW1]; simp
    have hb := boxW w t
    rw [hW1] at hb
    have h1 := h.same B
    obtain ⟨d0, d1, _⟩ := h1.cells
    obtain ⟨q1, q2⟩ := h1.row hi
    obtain ⟨v, hv⟩ : ∃ v, t.extract 0 (min (max most 0) (t.size : Int)).toNat = v := ⟨_, rfl⟩
    have hvs : v.size ≤ 256 := by rw [← hv]; exact Nat.le_trans (size_cut _ _) (h.fit.loose e)
    have h2 := (h1.setD hi hvs).drew
    have hi2 : i < (s.bs.set i (v, s.bs[i].2)).length := by simpa using hi
    have hle2 : (s.bs.set i (v, s.bs[i].2)).length ≤ 4096 := by simpa using h.len.2
    obtain ⟨W3, hrun, hm3, ht3⟩ := h2.hm.drop hi2 hle2 0
    obtain ⟨x0, x1, _⟩ := h2.cells
    have h3 := h2.turn ht3 (bs' := s.bs.set i (v, none)) (by have := hm3 v; rwa [List.set_set] at this) (by simp [List.map_set]) (h.fit.set i hvs (fun t ht => by cases ht)) (fun q => by rw [hu] at q; cases q)
    have hB3 : But p db mb w W3 := (((But.of_below B).set (.inr (.inl rfl)) _).drew).grown ht3.grown (.inr (.inr (.inl rfl)))
    have hS := settleP_some e (most := most)
    have hcut : cutN most t.size = (min (max most 0) (t.size : Int)).toNat := by unfold cutN; omega
    rw [hcut, hv] at hS
    have hS' : settleP s.bs (i : Int) most = s.bs.set i (v, none) := hS
    rw [hS']
    clear hS hS' hcut
    replace z1 := Lib.hid z1
    replace e := Lib.hid e
    replace e2 := Lib.hid e2
    replace h := Lib.hid h
    go_enter Try.func37, Try.ntmps37
    go_wp2
    replace hW1 := Lib.hid hW1
    go_region
    go_wp2
    go_end0
    exact ⟨rfl, h3, hB3⟩
set_option maxRecDepth 100000 in
set_option maxHeartbeats 1000000 in
theorem failK {w : World} {p db mb : Nat} {ka : Option Addr} {kn kc : Nat} {s : St} (h : SlK w p db mb ka kn kc s) {a : Option Addr} {n c : Nat} {zs : List Int} (hz : KRow w p db mb a n c zs) (torn at_ : Int)
    (ht : (Lit.int .i64 torn).wf = true) :
    Calls Try.prog 20 #[.pointer (some ⟨p, 0, none⟩), .agg #[.slice a n c, .int .i64 torn, .int .i64 at_]] w (SPostK p db mb ka kn kc (.tuple #[]) (failS s zs torn at_) w) := by
  obtain ⟨W1, hW1⟩ : ∃ W1, w.alloc (.cells #[.slice a n c, .int .i64 torn, .int .i64 at_] 35) = W1 := ⟨_, rfl⟩
  have B : Below w.heap.size w W1 := by rw [← hW1]; exact (Below.refl _ _).alloc (Nat.le_refl _) _
  have hbx : W1.heap[w.heap.size]? = some (.cells #[.slice a n c, .int .i64 torn, .int .i64 at_] 35) := by rw [← hW1]; exact heap_alloc_new _ _
  have z1 : w.heap.size < W1.heap.size := by rw [← hW1]; simp
  obtain ⟨l1, l2, l3⟩ := h.lt
  have h1 := h.same B
  have hz1 := hz.but (But.of_below (p := p) (db := db) (mb := mb) B)
  have hn := Lib.hid hz.len
  have hcap := hz.cap
  have bt : But p db mb w W1 := But.of_below B
  have bx : ∀ W, But p db mb W1 W → W.heap[w.heap.size]? = some (.cells #[.slice a n c, .int .i64 torn, .int .i64 at_] 35) := fun W hB => (hB.block _ z1 (by omega) (by omega) (by omega)).trans hbx
  replace bx := Lib.hid bx
  obtain ⟨y0, y1, y2⟩ := three_of hbx
  cases hd : s.down with
  | true =>
    unfold failS
    rw [if_pos hd]
    go_enter Try.func20, Try.ntmps20
    go_wp2_with (go_at_call 23; refine (down_any h1).mono ?_; rintro e w2 ⟨rfl, hw2⟩; subst w2)
    go_end0
    exact ⟨rfl, h1, But.of_below B⟩
  | false =>
    unfold failS
    rw [if_neg (by rw [hd]; decide)]
    go_enter Try.func20, Try.ntmps20
    go_wp2_with (go_at_call 23; refine (down_any h1).mono ?_; rintro e w2 ⟨rfl, hw2⟩; subst w2)
    replace hW1 := Lib.hid hW1
    go_loopw [5, 11] (fun _ i wr => ∃ (j : Nat), i = .int .i64 (j : Int) ∧ j ≤ n ∧ SlK wr p db mb ka kn kc { s with bs := keepP s.bs (zs.take j) } ∧ But p db mb W1 wr)
      (fun _ i _ => n - (intOf i).toNat)
    case atStart => exact ⟨0, rfl, by omega, h1, But.refl _ _ _ _⟩
    case round =>
      obtain ⟨j, rfl, hj, hs, hb⟩ := hrel
      have bxw := bx.out _ hb
      obtain ⟨x0, x1, x2⟩ := three_of bxw
      by_cases hlt : j < n
      · obtain ⟨b, off, e, hblt, n1, n2, n3, hc⟩ := (hz1.but hb).row j (by rw [← hn.out]; exact hlt)
        subst e
        generalize hzj : zs.getD j 0 = zj at hc
        have hzw : (Lit.int .i64 zj).wf = true := by
          rw [← hzj]
          have hjl : j < zs.length := by rw [← hn.out]; exact hlt
          have : zs.getD j 0 = zs[j] := by simp [List.getD, hjl]
          rw [this]
          exact hz.val _ (List.getElem_mem hjl)
        have hltz : (j : Int) < (n : Int) := by omega
        replace hzj := Lib.hid hzj
        go_wp2_with (go_at_call 37; refine (settleK hs zj 256 hzw hd).mono ?_; rintro e w2 ⟨rfl, hs2, hb2⟩)
        go_roundw
        case rel =>
          refine ⟨j + 1, by go_num, by omega, ?_, hb.trans hb2⟩
          have hjl : j < zs.length := by rw [← hn.out]; exact hlt
          have e3 : zs.take (j + 1) = zs.take j ++ [zj] := by
            rw [List.take_succ_eq_append_getElem hjl, ← hzj.out]
            simp [List.getD, hjl]
          rw [e3, keepP_snoc]
          exact hs2
        case measure => simp [intOf]; omega
      · have hje : j = n := by omega
        have hall : zs.take j = zs := by rw [hje, hn.out]; exact List.take_length
        rw [hall] at hs
        have hltz : ¬ ((j : Int) < (n : Int)) := by omega
        replace hn := hn
        have hTP := fun (w2 : World) (h2 : SlK w2 p db mb ka kn kc { s with bs := settleP (keepP s.bs zs) torn at_ }) => (show ∃ W3, (Builtin.clear_ #[60] 0 #[.map (some mb)]).run Try.prog w2 = .ok (.tuple #[]) W3 ∧ SlK W3 p db mb ka kn kc { s with bs := failP s.bs zs torn at_ } ∧ w2.mapTurned W3 mb by
          obtain ⟨W3, hrun, hm3, ht3⟩ := h2.hm.clear (Calm.drop (settleP (keepP s.bs zs) torn at_)) 0
          exact ⟨W3, hrun, h2.turn ht3 hm3 (map_fst_drop _) h2.fit.drop (fun _ => Calm.drop _), ht3⟩)
        replace hTP := Lib.hid hTP
        go_wp2_with (go_at_call 37; refine (settleK hs torn at_ ht hd).mono ?_; rintro e w2 ⟨rfl, hs2, hb2⟩; obtain ⟨W3, hrun, hs3, ht3⟩ := hTP.out w2 hs2; obtain ⟨g0, g1, _⟩ := hs2.cells; obtain ⟨_, _, g2, _⟩ := hs3.cells; have g3 := hs3.free 2)
        go_end0
        refine ⟨rfl, hs3.putP 2 (.bool true) _ rfl rfl hs3.keep hs3.left hs3.torn hs3.at_ (fun _ => Calm.drop _), ?_⟩
        exact ((bt.trans (hb.trans hb2)).grown ht3.grown (.inr (.inr (.inl rfl)))).set (.inl rfl) _
set_option maxRecDepth 100000 in
set_option maxHeartbeats 1000000 in
theorem tripsK {w : World} {p db mb : Nat} {ka : Option Addr} {kn kc : Nat} {s : St} (h : SlK w p db mb ka kn kc s) :
    Calls Try.prog 34 #[.pointer (some ⟨p, 0, none⟩)] w (SPostK p db mb ka kn kc (.bool (tripsS s).2) (tripsS s).1 w) := by
  obtain ⟨_, _, _, c3, _⟩ := h.cells
  have f3 := h.free 3
  obtain ⟨hl0, hl1⟩ := h.left
  unfold tripsS
  by_cases h0 : s.left = 0
  · rw [if_pos h0]
    rw [h0] at c3
    replace h0 := Lib.hid h0
    go_enter Try.func34, Try.ntmps34
    go_wp2
    go_ret
    exact ⟨rfl, h, But.refl _ _ _ _⟩
  · rw [if_neg h0]
    by_cases h1 : s.left = 1
    · rw [if_pos h1]
      have hs1 := h.putP 3 (.int .i64 0) { s with left := 0 } rfl rfl h.keep ⟨Int.le_refl 0, by show (0 : Int) ≤ _; omega⟩ h.torn h.at_ h.calm
      obtain ⟨W1, hW1⟩ : ∃ W1, w.setCell ⟨p, 3, none⟩ (.int .i64 0) = W1 := ⟨_, rfl⟩
      rw [hW1] at hs1
      have hb1 : But p db mb w W1 := by rw [← hW1]; exact (But.refl _ _ _ _).set (.inl rfl) _
      obtain ⟨_, _, _, d3, d4, d5, d6⟩ := hs1.cells
      rw [h1] at c3
      replace h1 := Lib.hid h1
      go_enter Try.func34, Try.ntmps34
      go_wp2_with (go_at_call 20; refine (failK hs1 hs1.keep s.torn s.at_ h.torn).mono ?_; rintro e w2 ⟨rfl, hs2, hb2⟩)
      go_ret
      exact ⟨rfl, hs2, hb1.trans hb2⟩
    · rw [if_neg h1]
      have hs1 := h.putP 3 (.int .i64 (s.left - 1)) { s with left := s.left - 1 } rfl rfl h.keep ⟨by dsimp only; omega, by dsimp only; omega⟩ h.torn h.at_ h.calm
      obtain ⟨W1, hW1⟩ : ∃ W1, w.setCell ⟨p, 3, none⟩ (.int .i64 (s.left - 1)) = W1 := ⟨_, rfl⟩
      rw [hW1] at hs1
      have hb1 : But p db mb w W1 := by rw [← hW1]; exact (But.refl _ _ _ _).set (.inl rfl) _
      obtain ⟨_, _, _, d3, d4, d5, d6⟩ := hs1.cells
      have hgt : 0 < s.left - 1 := by omega
      go_enter Try.func34, Try.ntmps34
      go_wp2
      go_ret
      exact ⟨rfl, hs1, hb1⟩
set_option maxRecDepth 100000 in
set_option maxHeartbeats 1000000 in
theorem writeK {w : World} {p db mb : Nat} {ka : Option Addr} {kn kc : Nat} {s : St} (h : SlK w p db mb ka kn kc s) (k : Int) (t : ByteArray) (hts : t.size ≤ maxLen) :
    Calls Try.prog 16 #[.pointer (some ⟨p, 0, none⟩), .int .i64 k, .string t] w (SPostK p db mb ka kn kc (.int .i64 (writeS s k t).2) (writeS s k t).1 w) := by
  obtain ⟨_, c1, c2, _⟩ := h.cells
  unfold writeS
  rcases Bool.eq_false_or_eq_true s.down with hd | hd
  · rw [if_pos hd]
    rw [hd] at c2
    go_enter Try.func16, Try.ntmps16
    go_wp2
    go_ret
    exact ⟨rfl, h, But.refl _ _ _ _⟩
  · rw [if_neg (by rw [hd]; decide)]
    rw [hd] at c2
    unfold maxLen at hts
    cases hi : insideB s.bs k with
    | false =>
      rw [if_pos (.inl rfl)]
      go_enter Try.func16, Try.ntmps16
      go_wp2_with (go_at_call 33; refine (has_any h k).mono ?_; rintro e w2 ⟨rfl, hw2⟩; subst w2)
      go_ret
      exact ⟨rfl, h, But.refl _ _ _ _⟩
    | true =>
      by_cases ht : 256 < t.size
      · rw [if_pos (.inr ht)]
        have htz : (256 : Int) < (t.size : Int) := by omega
        go_enter Try.func16, Try.ntmps16
        go_wp2_with (go_at_call 33; refine (has_any h k).mono ?_; rintro e w2 ⟨rfl, hw2⟩; subst w2)
        go_ret
        exact ⟨rfl, h, But.refl _ _ _ _⟩
      · rw [if_neg (by intro q; rcases q with q | q; · cases q
                       · exact ht q)]
        obtain ⟨i, rfl, hil⟩ := insideB_iff.1 hi
        have htz : ¬ ((256 : Int) < (t.size : Int)) := by omega
        obtain ⟨W1, hrun, hm1, ht1⟩ := h.hm.store h.len.2 hil t
        have h1 : SlK W1 p db mb ka kn kc { s with bs := giveP s.bs i t } := h.turn ht1 (hm1 (s.bs.getD i bk0).1) (map_fst_give t) (h.fit.give i (by omega)) (fun q => by rw [hd] at q; cases q)
        have hb1 : But p db mb w W1 := (But.refl _ _ _ _).grown ht1.grown (.inr (.inr (.inl rfl)))
        have htn : (((i : Nat) : Int)).toNat = i := by omega
        rw [htn]
        generalize ({ s with bs := giveP s.bs i t } : St) = s1 at h1 ⊢
        replace hd := Lib.hid hd
        cases hq : (tripsS s1).2 with
        | true =>
          go_enter Try.func16, Try.ntmps16
          go_wp2_with (first
            | (go_at_call 33; refine (has_any h _).mono ?_; rintro e w2 ⟨rfl, hw2⟩; subst w2)
            | (go_at_call 34; refine (tripsK h1).mono ?_; rintro e w2 ⟨rfl, hs2, hb2⟩))
          go_ret
          exact ⟨rfl, hs2, hb1.trans hb2⟩
        | false =>
          go_enter Try.func16, Try.ntmps16
          go_wp2_with (first
            | (go_at_call 33; refine (has_any h _).mono ?_; rintro e w2 ⟨rfl, hw2⟩; subst w2)
            | (go_at_call 34; refine (tripsK h1).mono ?_; rintro e w2 ⟨rfl, hs2, hb2⟩))
          go_ret
          exact ⟨rfl, hs2, hb1.trans hb2⟩
set_option maxRecDepth 100000 in
set_option maxHeartbeats 2000000 in
theorem flushK {w : World} {p db mb : Nat} {ka : Option Addr} {kn kc : Nat} {s : St} (h : SlK w p db mb ka kn kc s) :
    Calls Try.prog 17 #[.pointer (some ⟨p, 0, none⟩)] w (SPostK p db mb ka kn kc (.int .i64 (flushS s).2) (flushS s).1 w) := by
  obtain ⟨c0, c1, c2, _⟩ := h.cells
  unfold flushS
  rcases Bool.eq_false_or_eq_true s.down with hd | hd
  · rw [if_pos hd]
    rw [hd] at c2
    go_enter Try.func17, Try.ntmps17
    go_wp2
    go_ret
    exact ⟨rfl, h, But.refl _ _ _ _⟩
  · rw [if_neg (by rw [hd]; decide)]
    rw [hd] at c2
    cases hq : (tripsS s).2 with
    | true =>
      rw [if_pos rfl]
      go_enter Try.func17, Try.ntmps17
      go_wp2_with (go_at_call 34; refine (tripsK h).mono ?_; rintro e w2 ⟨rfl, hs2, hb2⟩)
      go_ret
      exact ⟨rfl, hs2, hb2⟩
    | false =>
      rw [if_neg (by decide)]
      have hd2 := trips_down hq hd
      replace hd := Lib.hid hd
      have HT := tripsK h
      rw [hq] at HT
      generalize (tripsS s).1 = s2 at hd2 HT ⊢
      go_enter Try.func17, Try.ntmps17
      go_wp2_with (first
        | (go_at_call 34; refine HT.mono ?_; rintro e w2 ⟨rfl, hs2, hb2⟩; obtain ⟨g0, g1, _⟩ := hs2.cells; obtain ⟨D, hown, hsz, hsay⟩ := hs2.hm; replace hsz := Lib.hid hsz)
        | (at_range; refine wpList_range_own _ rfl _ 60 rfl 3 75 kInt Try.underlying60 rdW mb (Maps.size D) D rfl hown ?_; intro w0 hrg0 hg0 hs0))
      go_frame
      have bl0 : Below w2.heap.size w2 w0 := (Below.refl w2.heap.size w2).grown hg0 (Nat.le_refl _) (fun k hk => by cases hk)
      have hs3 := hs2.same bl0
      have hb3 : But p db mb w2 w0 := But.of_below bl0
      have g0r : w0.heap.size = w2.heap.size + 1 := hs0
      replace g0r := Lib.hid g0r
      replace hd2 := Lib.hid hd2
      have hlt2 := hs2.lt
      have hst : MixOf s2.bs s2.bs (Maps.has D) := MixOf.start fun i hi hs => by
        have hw : (Lit.int .i64 (i : Int)).wf = true := wf_i64 (by omega) (by have := hs2.len.2; omega)
        rw [(hsay _ hw).1, looseAt_get hi, hs]
      replace hst := Lib.hid hst
      replace hsay := Lib.hid hsay
      replace hlt2 := Lib.hid hlt2
      replace hs0 := Lib.hid hs0
      go_loopw [3, 4] (fun _ _ wr => ∃ (left : Lit → Bool) (cnt : Nat) (bs' : List Bk), wr.ranges Try.prog 3 rdW mb w2.heap.size (Maps.size D) D left cnt ∧ SlK wr p db mb ka kn kc { s2 with bs := bs' } ∧ MixOf s2.bs bs' left ∧ But p db mb w2 wr)
        (fun _ _ wr => wr.rangeLeft mb w2.heap.size)
      case atStart => exact ⟨_, _, s2.bs, hrg0, hs3, hst.out, hb3⟩
      case round =>
        obtain ⟨left, cnt, bs', hrg, hs, hmix, hb⟩ := hrel
        go_wp2_with (first
          | (at_next; refine wpList_next_ranges _ rfl _ rfl 3 kInt rdW (Value.int .i64) (fun t : ByteArray => Value.agg #[.string t]) (fun key kl hkey => by obtain ⟨x, rfl, _⟩ := Maps.keyOf_int_inv Try.underlying3 hkey; exact ⟨x, rfl⟩) (fun v y hv => by obtain ⟨c, rfl, _⟩ := rdW_inv hv; exact ⟨c, rfl⟩) mb w2.heap.size (Maps.size D) D left cnt rfl hrg ?_ ?_)
          | go_in)
        · intro hc0 hl0
          obtain ⟨W3, hrun, hm3, ht3⟩ := hs.hm.clear (Calm.flush s2.bs) 0
          obtain ⟨x0, x1, _⟩ := hs.cells
          have h4 := hs.turn ht3 hm3 (hmix.done hl0) hs2.fit.flush (fun _ => Calm.flush _)
          have hb4 := (hb2.trans hb).grown ht3.grown (.inr (.inr (.inl rfl)))
          clear hc0 hl0
          go_wp2
          go_ret
          exact ⟨rfl, h4, hb4⟩
        · intro x c kl y ps w1 cnt1 hkey hlk hv hat hrg1 hlt hg1 hs1 hen
          obtain ⟨x', e1, rfl, hwx⟩ := Maps.keyOf_int_inv Try.underlying3 hkey
          cases e1
          obtain ⟨c', e2, e3⟩ := rdW_inv hv
          have e4 : c = c' := by cases e2; rfl
          subst e4
          cases e3
          obtain ⟨i, rfl, hi, ht⟩ := says_at hsay.out hwx hat
          have hi' : i < bs'.length := by rw [hmix.1]; exact hi
          have hr := hrg.lt
          obtain ⟨l1, l2, l3⟩ := hlt2.out
          have o1 : ∀ k, k < wr.heap.size → k ≠ w2.heap.size → w1.heap[k]? = wr.heap[k]? := fun k hk hne => hg1.block k hk (fun q => hne (Option.some.inj q))
          obtain ⟨m1, m2, m3⟩ := hs.lt
          have hb5 : But p db mb w2 w1 := hb.grown hg1 (.inr (.inr (.inr (Nat.le_refl _))))
          have hs5 : SlK w1 p db mb ka kn kc { s2 with bs := bs' } := hs.move (o1 p m1 (by omega)) (o1 db m2 (by omega)) (o1 mb m3 (by omega)) (hs2.keep.but hb5)
          have hcz : c.size ≤ 256 := (hs2.fit _ (List.getElem_mem hi)).2 c ht
          obtain ⟨W6, hW6⟩ : ∃ W6, w1.alloc (.cells #[.string c] 75) = W6 := ⟨_, rfl⟩
          have bl6 : Below w1.heap.size w1 W6 := by rw [← hW6]; exact (Below.refl _ _).alloc (Nat.le_refl _) _
          have hs6 := hs5.same bl6
          have hbx := boxW w1 c
          rw [hW6, hs1] at hbx
          obtain ⟨x0, x1, _⟩ := hs6.cells
          obtain ⟨q1, q2⟩ := hs6.row hi'
          have h7 := (hs6.setD hi' hcz).drew
          have hm7 := hmix.step hi ht hi'
          have hrg7 : ((W6.setCell ⟨db, i, none⟩ (.string c)).drew).ranges Try.prog 3 rdW mb w2.heap.size (Maps.size D) D (fun z => left z && !z.sameKey (.int .i64 (i : Int))) cnt1 := by
            have hr1 := hrg1.lt
            refine hrg1.kept (w' := (W6.setCell ⟨db, i, none⟩ (.string c)).drew) (row := some db) ⟨bl6.os, bl6.tape, bl6.output, by simp [World.setCell]; exact bl6.size, fun k hk hne => (Below.heap_setCell _ _ _ _ (fun q => hne (by rw [q]))).trans (bl6.block k hk)⟩ (fun q => ?_) (fun q => ?_)
            · have := Option.some.inj q; have := hs2.ne3; omega
            · have := Option.some.inj q; omega
          have hb7 : But p db mb w2 (W6.setCell ⟨db, i, none⟩ (.string c)).drew := (((hb5.trans (But.of_below bl6)).set (.inr (.inl rfl)) _)).drew
          have hbd : i < s2.bs.length := hi
          have hml := hmix.1
          replace hml := Lib.hid hml
          go_wp2
          replace hW6 := Lib.hid hW6
          replace hs1 := Lib.hid hs1
          replace hs := Lib.hid hs
          replace hs5 := Lib.hid hs5
          replace hrg1 := Lib.hid hrg1
          go_region
          all_goals
            go_roundw
            case rel =>
              exact ⟨_, _, _, _, _, _, _, _, _, _, _, _, _, _, _, ⟨_, cnt1, _, hrg7, h7, hm7, hb7⟩, rfl⟩
            case measure => rw [hrg7.left_eq, hrg.left_eq]; exact hlt
/-- Nothing is written to the loss's list, where it lies below. -/
theorem SlK.setOther {w : World} {p db mb : Nat} {ka : Option Addr} {kn kc : Nat} {s : St} (h : SlK w p db mb ka kn kc s) {B g : Nat} (hk : s.zs ≠ [] → ∃ b off, ka = some ⟨b, off, none⟩ ∧ b < B) (hg : B ≤ g) (h1 : p ≠ g) (h2 : db ≠ g) (h3 : mb ≠ g) (i : Nat) (v : Value) : SlK (w.setCell ⟨g, i, none⟩ v) p db mb ka kn kc s := by
  have o : ∀ k, k ≠ g → (w.setCell ⟨g, i, none⟩ v).heap[k]? = w.heap[k]? := fun k hk => Below.heap_setCell _ _ _ _ hk
  refine h.move (o p h1) (o db h2) (o mb h3) ⟨h.keep.len, h.keep.cap, h.keep.val, fun j hj => ?_⟩
  obtain ⟨b, off, e, hlt, q1, q2, q3, hc⟩ := h.keep.row j hj
  obtain ⟨b', off', e', hb'⟩ := hk (fun q => by rw [q] at hj; exact absurd hj (Nat.not_lt_zero _))
  cases e.symm.trans e'
  exact ⟨b, off, e, by simp [World.setCell]; exact hlt, q1, q2, q3, (World.cell?_of_block (w := w) (o b (by omega))).trans hc⟩
theorem SlK.keepLow {w : World} {p db mb : Nat} {ka : Option Addr} {kn kc : Nat} {s : St} (h : SlK w p db mb ka kn kc s) : s.zs ≠ [] → ∃ b off, ka = some ⟨b, off, none⟩ ∧ b < w.heap.size := fun hz => by
  obtain ⟨b, off, e, hlt, _⟩ := h.keep.row 0 (List.length_pos_iff.2 hz)
  exact ⟨b, off, e, hlt⟩
end Go.Proofs.Ythcebcpippbhfaa
