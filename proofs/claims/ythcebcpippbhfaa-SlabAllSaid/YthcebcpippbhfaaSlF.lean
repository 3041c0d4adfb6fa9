/-
  SLABS: flushing: a range over the map; THE PAGE's EXAMPLE.
-/
import Derived.Test.YthcebcpippbhfaaSlE
namespace Go.Proofs.Ythcebcpippbhfaa
open Go.RowKit Go.Maps Go.ChangeMaps

/-- Blocks some of whose loose texts are sure by now: those that are no longer to come. -/
def MixOf (bs bs' : List Bk) (left : Lit → Bool) : Prop :=
  bs'.length = bs.length ∧ ∀ i (h : i < bs.length) (h' : i < bs'.length), bs'[i].2 = bs[i].2 ∧ bs'[i].1 = (match bs[i].2 with | some t => if left (.int .i64 (i : Int)) then bs[i].1 else t | none => bs[i].1)
theorem MixOf.start {bs : List Bk} {left : Lit → Bool} (hl : ∀ i (h : i < bs.length), bs[i].2.isSome = true → left (.int .i64 (i : Int)) = true) : MixOf bs bs left := by
  refine ⟨rfl, fun i h _ => ⟨rfl, ?_⟩⟩
  cases e : bs[i].2 with
  | none => rfl
  | some t => rw [hl i h (by rw [e]; rfl)]; rfl
theorem MixOf.step {bs bs' : List Bk} {left : Lit → Bool} (hm : MixOf bs bs' left) {i : Nat} (hi : i < bs.length) {t : ByteArray} (ht : bs[i].2 = some t) (hi' : i < bs'.length) :
    MixOf bs (bs'.set i (t, bs'[i].2)) (fun z => left z && !z.sameKey (.int .i64 (i : Int))) := by
  refine ⟨by simpa using hm.1, fun j h h' => ?_⟩
  have hj' : j < bs'.length := by rw [hm.1]; exact h
  rw [List.getElem_set]
  by_cases e : i = j
  · subst e
    rw [if_pos rfl]
    refine ⟨(hm.2 i hi hi').1, ?_⟩
    rw [ht]
    have : (Lit.int .i64 (i : Int)).sameKey (.int .i64 (i : Int)) = true := by simp [Lit.sameKey]
    simp [this]
  · rw [if_neg e]
    refine ⟨(hm.2 j h hj').1, ?_⟩
    rw [(hm.2 j h hj').2]
    cases bs[j].2 with
    | none => rfl
    | some u =>
      have : (Lit.int .i64 (j : Int)).sameKey (.int .i64 (i : Int)) = false := sameKey_ne (litW_ne (by omega))
      simp [this]
theorem MixOf.done {bs bs' : List Bk} {left : Lit → Bool} (hm : MixOf bs bs' left) (hl : ∀ z, left z = false) : (flushP bs).map (·.1) = bs'.map (·.1) := by
  apply List.ext_getElem
  · simp [flushP, hm.1]
  · intro i h1 h2
    have hi : i < bs.length := by simpa [flushP] using h1
    have hi' : i < bs'.length := by simpa using h2
    simp only [List.getElem_map, flushP]
    rw [(hm.2 i hi hi').2]
    cases bs[i].2 with
    | none => rfl
    | some t => simp [hl]
theorem says_at {D : DataW Unit} {bs : List Bk} (h : Says D bs) {x : Int} (hx : (Lit.int .i64 x).wf = true) {c : ByteArray} (hat : ∀ zd, D.atKey (.int .i64 x) zd = .lit (.string c.data.toList)) : ∃ i : Nat, x = (i : Int) ∧ ∃ hi : i < bs.length, bs[i].2 = some c := by
  have h1 := (h x hx).2
  cases e : looseAt bs x with
  | none =>
    rw [e] at h1
    have e1 : litS (.lit (.string [])) = litS (.lit (.string c.data.toList)) := congrArg litS ((h1 _).symm.trans (hat _))
    have e2 : litS (.lit (.string [0])) = litS (.lit (.string c.data.toList)) := congrArg litS ((h1 _).symm.trans (hat _))
    have e3 := e1.trans e2.symm
    cases e3
  | some t =>
    rw [e] at h1
    have e1 : litS (.lit (.string t.data.toList)) = litS (.lit (.string c.data.toList)) := congrArg litS ((h1 .nil).symm.trans (hat .nil))
    have e2 : t = c := ba_eq e1
    subst e2
    exact looseAt_some e
theorem SlK.move {w w' : World} {p db mb : Nat} {ka : Option Addr} {kn kc : Nat} {s : St} (h : SlK w p db mb ka kn kc s) (e1 : w'.heap[p]? = w.heap[p]?) (e2 : w'.heap[db]? = w.heap[db]?) (e3 : w'.heap[mb]? = w.heap[mb]?) (hk : KRow w' p db mb ka kn kc s.zs) : SlK w' p db mb ka kn kc s :=
  { h with hp := e1.trans h.hp, hd := e2.trans h.hd, hm := h.hm.same e3, keep := hk }
def flushS (s : St) : St × Int := if s.down then (s, 9) else if (tripsS s).2 then ((tripsS s).1, 9) else ({ (tripsS s).1 with bs := flushP (tripsS s).1.bs }, 0)
theorem trips_down {s : St} (h : (tripsS s).2 = false) (hd : s.down = false) : (tripsS s).1.down = false := by
  unfold tripsS at h ⊢
  by_cases h0 : s.left = 0
  · rw [if_pos h0]; exact hd
  · rw [if_neg h0] at h ⊢
    by_cases h1 : s.left = 1
    · rw [if_pos h1] at h; cases h
    · rw [if_neg h1]; exact hd
set_option maxRecDepth 100000 in
set_option maxHeartbeats 2000000 in
theorem flush_any {w : World} {p db mb : Nat} {ka : Option Addr} {kn kc : Nat} {s : St} (h : SlK w p db mb ka kn kc s) :
    Calls Try.prog 17 #[.pointer (some ⟨p, 0, none⟩)] w (SPost p db mb (.int .i64 (flushS s).2) (flushS s).1 w) := by
  obtain ⟨c0, c1, c2, _⟩ := h.cells
  unfold flushS
  rcases Bool.eq_false_or_eq_true s.down with hd | hd
  · rw [if_pos hd]
    rw [hd] at c2
    go_enter Try.func17, Try.ntmps17
    go_wp2
    go_ret
    exact ⟨rfl, ⟨ka, kn, kc, h⟩, But.refl _ _ _ _⟩
  · rw [if_neg (by rw [hd]; decide)]
    rw [hd] at c2
    cases hq : (tripsS s).2 with
    | true =>
      rw [if_pos rfl]
      go_enter Try.func17, Try.ntmps17
      go_wp2_with (go_at_call 34; refine (trips_any h).mono ?_; rintro e w2 ⟨rfl, hs2, hb2⟩)
      go_ret
      exact ⟨rfl, hs2, hb2⟩
    | false =>
      rw [if_neg (by decide)]
      have hd2 := trips_down hq hd
      replace hd := Lib.hid hd
      have HT := trips_any h
      rw [hq] at HT
      generalize (tripsS s).1 = s2 at hd2 HT ⊢
      go_enter Try.func17, Try.ntmps17
      go_wp2_with (first
        | (go_at_call 34; refine HT.mono ?_; rintro e w2 ⟨rfl, ⟨ka2, kn2, kc2, hs2⟩, hb2⟩; obtain ⟨g0, g1, _⟩ := hs2.cells; obtain ⟨D, hown, hsz, hsay⟩ := hs2.hm; replace hsz := Lib.hid hsz)
        | (at_range; refine wpList_range_own _ rfl _ 60 rfl 3 75 kInt Try.underlying60 rdW mb (Maps.size D) D rfl hown ?_; intro w0 hrg0 hg0 hs0))
      go_frame
      have bl0 : Below w2.heap.size w2 w0 := (Below.refl w2.heap.size w2).grown hg0 (Nat.le_refl _) (fun k hk => by cases hk)
      have hs3 := hs2.same bl0
      have hb3 : But p db mb w2 w0 := But.of_below bl0
      have g0r : w0.heap.size = w2.heap.size + 1 := hs0
      replace g0r := Lib.hid g0r
      replace hd2 := Lib.hid hd2
      have hlt2 := hs2.lt
      have hst : MixOf s2.bs s2.bs (Maps.has D) := MixOf.start fun i hi hs => by
        have hw : (Lit.int .i64 (i : Int)).wf = true := wf_i64 (by omega) (by have := hs2.len.2; omega)
        rw [(hsay _ hw).1, looseAt_get hi, hs]
      replace hst := Lib.hid hst
      replace hsay := Lib.hid hsay
      replace hlt2 := Lib.hid hlt2
      replace hs0 := Lib.hid hs0
      go_loopw [3, 4] (fun _ _ wr => ∃ (left : Lit → Bool) (cnt : Nat) (bs' : List Bk), wr.ranges Try.prog 3 rdW mb w2.heap.size (Maps.size D) D left cnt ∧ SlK wr p db mb ka2 kn2 kc2 { s2 with bs := bs' } ∧ MixOf s2.bs bs' left ∧ But p db mb w2 wr)
        (fun _ _ wr => wr.rangeLeft mb w2.heap.size)
      case atStart => exact ⟨_, _, s2.bs, hrg0, hs3, hst.out, hb3⟩
      case round =>
        obtain ⟨left, cnt, bs', hrg, hs, hmix, hb⟩ := hrel
        go_wp2_with (first
          | (at_next; refine wpList_next_ranges _ rfl _ rfl 3 kInt rdW (Value.int .i64) (fun t : ByteArray => Value.agg #[.string t]) (fun key kl hkey => by obtain ⟨x, rfl, _⟩ := Maps.keyOf_int_inv Try.underlying3 hkey; exact ⟨x, rfl⟩) (fun v y hv => by obtain ⟨c, rfl, _⟩ := rdW_inv hv; exact ⟨c, rfl⟩) mb w2.heap.size (Maps.size D) D left cnt rfl hrg ?_ ?_)
          | go_in)
        · intro hc0 hl0
          obtain ⟨W3, hrun, hm3, ht3⟩ := hs.hm.clear (Calm.flush s2.bs) 0
          obtain ⟨x0, x1, _⟩ := hs.cells
          have h4 := hs.turn ht3 hm3 (hmix.done hl0) hs2.fit.flush (fun _ => Calm.flush _)
          have hb4 := (hb2.trans hb).grown ht3.grown (.inr (.inr (.inl rfl)))
          clear hc0 hl0
          go_wp2
          go_ret
          exact ⟨rfl, ⟨ka2, kn2, kc2, h4⟩, hb4⟩
        · intro x c kl y ps w1 cnt1 hkey hlk hv hat hrg1 hlt hg1 hs1 hen
          obtain ⟨x', e1, rfl, hwx⟩ := Maps.keyOf_int_inv Try.underlying3 hkey
          cases e1
          obtain ⟨c', e2, e3⟩ := rdW_inv hv
          have e4 : c = c' := by cases e2; rfl
          subst e4
          cases e3
          obtain ⟨i, rfl, hi, ht⟩ := says_at hsay.out hwx hat
          have hi' : i < bs'.length := by rw [hmix.1]; exact hi
          have hr := hrg.lt
          obtain ⟨l1, l2, l3⟩ := hlt2.out
          have o1 : ∀ k, k < wr.heap.size → k ≠ w2.heap.size → w1.heap[k]? = wr.heap[k]? := fun k hk hne => hg1.block k hk (fun q => hne (Option.some.inj q))
          obtain ⟨m1, m2, m3⟩ := hs.lt
          have hb5 : But p db mb w2 w1 := hb.grown hg1 (.inr (.inr (.inr (Nat.le_refl _))))
          have hs5 : SlK w1 p db mb ka2 kn2 kc2 { s2 with bs := bs' } := hs.move (o1 p m1 (by omega)) (o1 db m2 (by omega)) (o1 mb m3 (by omega)) (hs2.keep.but hb5)
          have hcz : c.size ≤ 256 := (hs2.fit _ (List.getElem_mem hi)).2 c ht
          obtain ⟨W6, hW6⟩ : ∃ W6, w1.alloc (.cells #[.string c] 75) = W6 := ⟨_, rfl⟩
          have bl6 : Below w1.heap.size w1 W6 := by rw [← hW6]; exact (Below.refl _ _).alloc (Nat.le_refl _) _
          have hs6 := hs5.same bl6
          have hbx := boxW w1 c
          rw [hW6, hs1] at hbx
          obtain ⟨x0, x1, _⟩ := hs6.cells
          obtain ⟨q1, q2⟩ := hs6.row hi'
          have h7 := (hs6.setD hi' hcz).drew
          have hm7 := hmix.step hi ht hi'
          have hrg7 : ((W6.setCell ⟨db, i, none⟩ (.string c)).drew).ranges Try.prog 3 rdW mb w2.heap.size (Maps.size D) D (fun z => left z && !z.sameKey (.int .i64 (i : Int))) cnt1 := by
            have hr1 := hrg1.lt
            refine hrg1.kept (w' := (W6.setCell ⟨db, i, none⟩ (.string c)).drew) (row := some db) ⟨bl6.os, bl6.tape, bl6.output, by simp [World.setCell]; exact bl6.size, fun k hk hne => (Below.heap_setCell _ _ _ _ (fun q => hne (by rw [q]))).trans (bl6.block k hk)⟩ (fun q => ?_) (fun q => ?_)
            · have := Option.some.inj q; have := hs2.ne3; omega
            · have := Option.some.inj q; omega
          have hb7 : But p db mb w2 (W6.setCell ⟨db, i, none⟩ (.string c)).drew := (((hb5.trans (But.of_below bl6)).set (.inr (.inl rfl)) _)).drew
          have hbd : i < s2.bs.length := hi
          have hml := hmix.1
          replace hml := Lib.hid hml
          go_wp2
          replace hW6 := Lib.hid hW6
          replace hs1 := Lib.hid hs1
          replace hs := Lib.hid hs
          replace hs5 := Lib.hid hs5
          replace hrg1 := Lib.hid hrg1
          go_region
          all_goals
            go_roundw
            case rel =>
              exact ⟨_, _, _, _, _, _, _, _, _, _, _, _, _, _, _, ⟨_, cnt1, _, hrg7, h7, hm7, hb7⟩, rfl⟩
            case measure => rw [hrg7.left_eq, hrg.left_eq]; exact hlt
end Go.Proofs.Ythcebcpippbhfaa
