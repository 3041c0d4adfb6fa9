/-
  SLABS: a trip that is set; rows of acts that came in.
-/
import Derived.Test.YthcebcpippbhfaaSlK
import Derived.Test.YthcebcpippbhfaaShelf
import Derived.Deep.Slices
namespace Go.Proofs.Ythcebcpippbhfaa
open Go.RowKit Go.Maps Go.ChangeMaps Go.ChangeShapes Go.WideShapes Go.Deep

def NewK (zs : List Int) (w : World) (e : Ending) (w' : World) : Prop :=
  ∃ a n c, e = .returned (.slice a n c) ∧ (∀ p db mb, p < w.heap.size → db < w.heap.size → mb < w.heap.size → KRow w' p db mb a n c zs) ∧ Below w.heap.size w w'
theorem KRow.arg {w : World} {p db mb : Nat} {a : Option Addr} {n c : Nat} {zs : List Int} (h : KRow w p db mb a n c zs) : KArg w a n c zs :=
  ⟨h.len, h.cap, h.val, fun j hj => by obtain ⟨b, off, e, hlt, _, _, _, hc⟩ := h.row j hj; exact ⟨b, off, e, hlt, hc⟩⟩
theorem KArg.none {w : World} {n c : Nat} {zs : List Int} (h : KArg w none n c zs) : zs = [] := by
  cases zs with
  | nil => rfl
  | cons z r => obtain ⟨b, off, e, _⟩ := h.row 0 (by simp); cases e
theorem krow_nil (w : World) (p db mb : Nat) (a : Option Addr) (c : Nat) (hc : (c : Int) ≤ 9223372036854775807) : KRow w p db mb a 0 c [] := ⟨rfl, ⟨Nat.zero_le _, hc⟩, by simp, fun j h => absurd h (Nat.not_lt_zero _)⟩
theorem cloneI_any {a : Option Addr} {n c : Nat} {zs : List Int} (w : World) (h : KArg w a n c zs) (hn : n ≤ 100000) : Calls Try.prog 38 #[.slice a n c] w (NewK zs w) := by
  cases a with
  | none =>
    have hz := h.none
    subst hz
    refine (Try.slices_Clone_int_nil n c w).mono ?_
    rintro e w' ⟨rfl, rfl⟩
    exact ⟨none, 0, 0, rfl, fun p db mb _ _ _ => KRow.nil _ _ _ _, Below.refl _ _⟩
  | some x =>
    by_cases h0 : n = 0
    · subst h0
      have hz : zs = [] := List.eq_nil_of_length_eq_zero h.len.symm
      subst hz
      refine (Try.slices_Clone_int_zero x c w).mono ?_
      rintro e w' ⟨v', rfl, hown, hne, hb⟩
      rcases hown.2 with ⟨rfl, _⟩ | ⟨g, cap, cur, rfl, _, _, _, hm, _⟩
      · exact absurd rfl hne
      · exact ⟨_, 0, cap, rfl, fun p db mb _ _ _ => krow_nil _ _ _ _ _ _ (by unfold maxLen at hm; omega), hb⟩
    · have hl := h.len
      obtain ⟨b, off, e, hlt, _⟩ := h.row 0 (by omega)
      cases e
      refine (Try.slices_Clone_int b off n c zs w (by omega) (by omega) (fun j hj => ?_)).mono ?_
      · obtain ⟨b', off', e', _, hc⟩ := h.row j hj
        cases e'
        exact hc
      · rintro e w' ⟨v', rfl, hown, hne, hb⟩
        have ho : OwnsI w' w.heap.size v' zs := by
          unfold OwnsI
          rw [show zs.take n = zs by rw [hl]; exact List.take_length] at hown
          rwa [← hl]
        rcases ho.2 with ⟨rfl, _⟩ | ⟨g, cap, cur, rfl, hg, hh, hnc, hm, _⟩
        · exact absurd rfl hne
        · refine ⟨_, _, _, rfl, fun p db mb q1 q2 q3 => ?_, hb⟩
          obtain ⟨g', c', e', _, _, hK⟩ := OwnsI.row ho h.val (fun q => h0 (by rw [hl, q]; rfl)) q1 q2 q3
          cases e'
          exact hK w' rfl (Nat.le_refl _)
set_option maxRecDepth 100000 in
set_option maxHeartbeats 2000000 in
theorem tripN_any {w : World} {p db mb : Nat} {s : St} (h : Sl w p db mb s) {n : Int} (hn : 0 < n) (hn2 : (Lit.int .i64 n).wf = true) {a : Option Addr} {m c : Nat} {zs : List Int} (hz : KRow w p db mb a m c zs) (hm : m ≤ 100000) {torn at_ : Int} (ht : (Lit.int .i64 torn).wf = true) (ha : (Lit.int .i64 at_).wf = true) :
    Calls Try.prog 22 #[.pointer (some ⟨p, 0, none⟩), .int .i64 n, .agg #[.slice a m c, .int .i64 torn, .int .i64 at_]] w (SPost p db mb (.tuple #[]) { s with left := n, zs := zs, torn := torn, at_ := at_ } w) := by
  obtain ⟨ka, kn, kc, h⟩ := h
  obtain ⟨l1, l2, l3⟩ := h.lt
  obtain ⟨W1, hW1⟩ : ∃ W1, w.alloc (.cells #[.slice a m c, .int .i64 torn, .int .i64 at_] 35) = W1 := ⟨_, rfl⟩
  have B : Below w.heap.size w W1 := by rw [← hW1]; exact (Below.refl _ _).alloc (Nat.le_refl _) _
  have hbx : W1.heap[w.heap.size]? = some (.cells #[.slice a m c, .int .i64 torn, .int .i64 at_] 35) := by rw [← hW1]; exact heap_alloc_new _ _
  have z1 : w.heap.size < W1.heap.size := by rw [← hW1]; simp
  have h1 := h.same B
  obtain ⟨f3, f4, f5, f6⟩ : _ ∧ _ ∧ _ ∧ _ := ⟨h1.free 3, h1.free 4, h1.free 5, h1.free 6⟩
  obtain ⟨c0, c1, c2, c3, c4, c5, c6⟩ := h1.cells
  have h2 := h1.loss (KRow.nil W1 p db mb) (left := 0) (torn := 0) (at_ := 0) ⟨by decide, by decide⟩ (by decide) (by decide)
  obtain ⟨W2, hW2⟩ : ∃ W2, ((((W1.setCell ⟨p, 3, none⟩ (.int .i64 0)).setCell ⟨p, 4, none⟩ (.slice none 0 0)).setCell ⟨p, 5, none⟩ (.int .i64 0)).setCell ⟨p, 6, none⟩ (.int .i64 0)) = W2 := ⟨_, rfl⟩
  rw [hW2] at h2
  have b2 : But p db mb w W2 := by rw [← hW2]; exact ((((But.of_below B).set (.inl rfl) _).set (.inl rfl) _).set (.inl rfl) _).set (.inl rfl) _
  have hbx2 : W2.heap[w.heap.size]? = some (.cells #[.slice a m c, .int .i64 torn, .int .i64 at_] 35) := by
    have o : ∀ (X : World) (i : Nat) (v : Value), (X.setCell ⟨p, i, none⟩ v).heap[w.heap.size]? = X.heap[w.heap.size]? := fun X i v => Below.heap_setCell _ _ _ _ (by show w.heap.size ≠ p; omega)
    rw [← hW2, o, o, o, o]; exact hbx
  have z2 : w.heap.size < W2.heap.size := by rw [← hW2]; simp [World.setCell]; exact z1
  obtain ⟨y0, y1, y2⟩ := three_of hbx2
  have HC := cloneI_any W2 (hz.but b2).arg hm
  obtain ⟨m1, m2, m3⟩ := h2.lt
  go_enter Try.func22, Try.ntmps22
  go_wp2_with (go_at_call 38; refine HC.mono ?_; rintro e w3 ⟨a3, n3, c3', rfl, hk3, b3⟩; have hbx3 := (b3.block _ z2).trans hbx2; obtain ⟨x0, x1, x2⟩ := three_of hbx3; have g0 := frozen_of_row _ _ 0 _ _ hbx3)
  have hs3 := h2.same b3
  obtain ⟨W4, hW4⟩ : ∃ W4, w3.setCell ⟨w.heap.size, 0, none⟩ (.slice a3 n3 c3') = W4 := ⟨_, rfl⟩
  have o4 : ∀ k, k ≠ w.heap.size → W4.heap[k]? = w3.heap[k]? := fun k hk => by rw [← hW4]; exact Below.heap_setCell _ _ _ _ hk
  have hbx4 : W4.heap[w.heap.size]? = some (.cells #[.slice a3 n3 c3', .int .i64 torn, .int .i64 at_] 35) := by rw [← hW4]; exact heap_setCell_same _ _ 0 _ _ _ hbx3
  have bb4 : But p db mb w W4 := by rw [← hW4]; exact (b2.trans (But.of_below b3)).set (.inr (.inr (.inr (Nat.le_refl _)))) _
  have hs4 : SlK W4 p db mb none 0 0 (restS s) := hs3.move (o4 p (by omega)) (o4 db (by omega)) (o4 mb (by omega)) (KRow.nil _ _ _ _)
  have k4 : KRow W4 p db mb a3 n3 c3' zs := by
    have k3 := hk3 p db mb m1 m2 m3
    have kb := hk3 p db w.heap.size m1 m2 z2
    have sz : w3.heap.size ≤ W4.heap.size := by rw [← hW4]; simp [World.setCell]
    refine ⟨k3.len, k3.cap, k3.val, fun j hj => ?_⟩
    obtain ⟨b, off, e, hlt, q1, q2, q3, hc⟩ := k3.row j hj
    obtain ⟨b', off', e', _, _, _, nb, _⟩ := kb.row j hj
    cases e.symm.trans e'
    exact ⟨b, off, e, Nat.lt_of_lt_of_le hlt sz, q1, q2, q3, (World.cell?_of_block (w := w3) (o4 b nb)).trans hc⟩
  rw [hW4]
  obtain ⟨x0', x1', x2'⟩ := three_of hbx4
  obtain ⟨_, _, _, q3, q4, q5, q6⟩ := hs4.cells
  obtain ⟨e3, e4, e5, e6⟩ : _ ∧ _ ∧ _ ∧ _ := ⟨hs4.free 3, hs4.free 4, hs4.free 5, hs4.free 6⟩
  have hfin := hs4.loss k4 (left := n) (torn := torn) (at_ := at_) ⟨by omega, (isB_i64 hn2).2⟩ ht ha
  replace hW4 := Lib.hid hW4
  go_region
  go_end0
  exact ⟨rfl, ⟨_, _, _, hfin.drew⟩, ((((bb4.set (.inl rfl) _).set (.inl rfl) _).set (.inl rfl) _).set (.inl rfl) _).drew⟩
/-- An act that came in. -/
structure ActV where
  kind : Int
  n : Int
  s : ByteArray
  ka : Option Addr
  kn : Nat
  kc : Nat
  zs : List Int
  torn : Int
  at_ : Int
instance : Inhabited ActV := ⟨⟨0, 0, ⟨#[]⟩, none, 0, 0, [], 0, 0⟩⟩
def encX (x : ActV) : List Value := [.int .i64 x.kind, .int .i64 x.n, .string x.s, .slice x.ka x.kn x.kc, .int .i64 x.torn, .int .i64 x.at_]
theorem encX_len (x : ActV) : (encX x).length = 6 := rfl
structure OkX (w : World) (x : ActV) : Prop where
  kind : (Lit.int .i64 x.kind).wf = true
  n : (Lit.int .i64 x.n).wf = true
  s : x.s.size ≤ maxLen
  keep : KArg w x.ka x.kn x.kc x.zs
  torn : (Lit.int .i64 x.torn).wf = true
  at_ : (Lit.int .i64 x.at_).wf = true
/-- A slice of acts that came in. -/
structure XArg (w : World) (a : Option Addr) (n c : Nat) (l : List ActV) : Prop where
  len : n = l.length
  cap : (n : Int) ≤ 9223372036854775807 ∧ n ≤ c
  row : ∀ j (h : j < l.length), ∃ b off, a = some ⟨b, off, none⟩ ∧ b < w.heap.size ∧ ∀ i v, (encX l[j])[i]? = some v → w.cell? ⟨b, off + j * 6 + i, none⟩ = some v
  ok : ∀ x ∈ l, OkX w x
theorem OkX.below {w w' : World} {x : ActV} (h : OkX w x) (hb : Below w.heap.size w w') : OkX w' x := { h with keep := h.keep.below hb }
theorem XArg.cells {w W : World} {a : Option Addr} {n c : Nat} {l : List ActV} (h : XArg w a n c l) (hb : Below w.heap.size w W) {j : Nat} (hj : j < l.length) :
    ∃ b off, a = some ⟨b, off, none⟩ ∧ b < w.heap.size ∧ W.cell? ⟨b, off + j * 6, none⟩ = some (.int .i64 l[j].kind) ∧ W.cell? ⟨b, off + j * 6 + 1, none⟩ = some (.int .i64 l[j].n) ∧ W.cell? ⟨b, off + j * 6 + 2, none⟩ = some (.string l[j].s) ∧
      W.cell? ⟨b, off + j * 6 + 3, none⟩ = some (.slice l[j].ka l[j].kn l[j].kc) ∧ W.cell? ⟨b, off + j * 6 + 4, none⟩ = some (.int .i64 l[j].torn) ∧ W.cell? ⟨b, off + j * 6 + 5, none⟩ = some (.int .i64 l[j].at_) := by
  obtain ⟨b, off, e, hlt, hc⟩ := h.row j hj
  have o : ∀ i, W.cell? ⟨b, off + j * 6 + i, none⟩ = w.cell? ⟨b, off + j * 6 + i, none⟩ := fun i => hb.cell (p := ⟨b, off + j * 6 + i, none⟩) hlt
  exact ⟨b, off, e, hlt, (o 0).trans (hc 0 _ rfl), (o 1).trans (hc 1 _ rfl), (o 2).trans (hc 2 _ rfl), (o 3).trans (hc 3 _ rfl), (o 4).trans (hc 4 _ rfl), (o 5).trans (hc 5 _ rfl)⟩
set_option maxRecDepth 100000 in
theorem actCells {H : Type} {enc : TypeId × Value → H} {w : World} {base : Nat} {spare : Nat → Bool} {held : Bool} (n : Nat) (cs : List Value) (y : DataW H × List MemPlace)
    (h : DataW.trod enc Try.prog w base spare held n 37 cs = some y) : ∃ q : ActV, cs = encX q ∧ OkX w q := by
  have kI : Try.prog.cellsOf 3 = 1 := by kernel_rfl
  have kS : Try.prog.cellsOf 9 = 1 := by kernel_rfl
  have kL : Try.prog.cellsOf 35 = 3 := by kernel_rfl
  have kK : Try.prog.cellsOf 26 = 1 := by kernel_rfl
  have kA : Try.prog.cellsOf 37 = 6 := by kernel_rfl
  obtain ⟨xs, m, _, _, hsz, hlen, hg⟩ := DataW.trod_struct Try.underlying37 h
  rw [kA] at hsz
  match cs, hsz with
  | [v0, v1, v2, v3, v4, v5], _ =>
    match xs, hlen with
    | [y0, y1, y2, y3], _ =>
      have g0 : DataW.trod enc Try.prog w base spare held m 3 [v0] = some y0 := by simpa [kI] using hg 0 _ rfl
      have g1 : DataW.trod enc Try.prog w base spare held m 3 [v1] = some y1 := by simpa [kI] using hg 1 _ rfl
      have g2 : DataW.trod enc Try.prog w base spare held m 9 [v2] = some y2 := by simpa [kS] using hg 2 _ rfl
      have g3 : DataW.trod enc Try.prog w base spare held m 35 [v3, v4, v5] = some y3 := by simpa [kL] using hg 3 _ rfl
      obtain ⟨kd, e0, _, w0⟩ := DataW.trod_int Try.underlying3 g0
      obtain ⟨nn, e1, _, w1⟩ := DataW.trod_int Try.underlying3 g1
      obtain ⟨t, e2, _, w2⟩ := DataW.trod_string Try.underlying9 g2
      obtain ⟨xs2, m2, _, _, _, hlen2, hg2⟩ := DataW.trod_struct Try.underlying35 g3
      match xs2, hlen2 with
      | [z0, z1, z2], _ =>
        have r0 : DataW.trod enc Try.prog w base spare held m2 26 [v3] = some z0 := by simpa [kK] using hg2 0 _ rfl
        have r1 : DataW.trod enc Try.prog w base spare held m2 3 [v4] = some z1 := by simpa [kI] using hg2 1 _ rfl
        have r2 : DataW.trod enc Try.prog w base spare held m2 3 [v5] = some z2 := by simpa [kI] using hg2 2 _ rfl
        obtain ⟨a, kn, kc, zs, hK, e3⟩ := kArg_of r0
        obtain ⟨torn, e4, _, w4⟩ := DataW.trod_int Try.underlying3 r1
        obtain ⟨at_, e5, _, w5⟩ := DataW.trod_int Try.underlying3 r2
        simp at e0 e1 e2 e4 e5
        refine ⟨⟨kd, nn, t, a, kn, kc, zs, torn, at_⟩, ?_, ⟨w0, w1, w2, hK, w4, w5⟩⟩
        rw [e0, e1, e2, e3, e4, e5]
        rfl
theorem addX (b off i j : Nat) : (Addr.add (Addr.add ⟨b, off, none⟩ i) j) = ⟨b, off + i + j, none⟩ := by
  by_cases h1 : i = 0
  · subst h1
    by_cases h2 : j = 0
    · subst h2; simp [Addr.add]
    · simp [Addr.add, h2]
  · by_cases h2 : j = 0
    · subst h2; simp [Addr.add, h1]
    · simp [Addr.add, h1, h2]
set_option maxRecDepth 100000 in
theorem xArg_of {H : Type} {enc : TypeId × Value → H} {w : World} {base : Nat} {spare : Nat → Bool} {held : Bool} {a : Option Addr} {len cap : Nat} {d : DataW H} {p : List MemPlace}
    (h : DataW.Trod enc Try.prog w base spare held 22 (.slice a len cap) d p) : ∃ l, XArg w a len cap l := by
  obtain ⟨fuel, hf⟩ := h
  have ce : Try.prog.cellsOf 37 = 6 := by kernel_rfl

  rcases open_slice Try.underlying22 hf with ⟨hcs, _⟩ | ⟨x, n, c, m, k, D, Pl, hcs, _, hl, hm, hmm, _, hx⟩
  · simp [Value.cells] at hcs
    obtain ⟨rfl, rfl, rfl⟩ := hcs
    exact ⟨[], rfl, ⟨by decide, Nat.le_refl _⟩, fun j h => absurd h (Nat.not_lt_zero _), by simp⟩
  · simp [Value.cells] at hcs
    obtain ⟨rfl, rfl, rfl⟩ := hcs
    have hlm : len ≤ m := by rw [hmm]; split <;> omega
    have each : ∀ i, i < len → ∃ q : ActV, w.cells? base (x.add (i * 6)) 6 = some (encX q) ∧ OkX w q := by
      intro i hi
      obtain ⟨cs', h1, h2⟩ := hx i (by omega)
      obtain ⟨q, rfl, ok⟩ := actCells _ _ _ h2
      rw [ce] at h1
      exact ⟨q, h1, ok⟩
    obtain ⟨q, hq⟩ := choose_lt each
    refine ⟨(List.range len).map q, by simp, ⟨by unfold maxLen at hm; omega, hl⟩, fun j hj => ?_, fun y hy => ?_⟩
    · have hj' : j < len := by simpa using hj
      obtain ⟨b, off, spot⟩ := x
      obtain ⟨_, _, hc0⟩ := World.cells?_some (hq 0 (by omega)).1
      have e0 := (hc0 0 (by omega)).trans (List.getElem?_eq_getElem (by rw [encX_len]; omega))
      have hspot : spot = none := by simpa [Addr.add] using World.cell?_spot e0
      subst hspot
      obtain ⟨_, _, hc⟩ := World.cells?_some (hq j hj').1
      have ej : ∀ i v, (encX (q j))[i]? = some v → w.cell? ⟨b, off + j * 6 + i, none⟩ = some v := fun i v hi => by
        have hik : i < 6 := by
          rcases Nat.lt_or_ge i (encX (q j)).length with h | h
          · rwa [encX_len] at h
          · rw [List.getElem?_eq_none h] at hi; cases hi
        have := (hc i hik).trans hi
        rwa [addX] at this
      refine ⟨b, off, rfl, World.block_lt_of_cell? w _ (ej 0 _ rfl), ?_⟩
      simpa using ej
    · obtain ⟨j, hj, rfl⟩ := List.mem_map.1 hy
      exact (hq j (by simpa using hj)).2
def lightX (x : ActV) : Bool := decide (x.s.size ≤ 2000) && decide (x.kn ≤ 50)
theorem light_any (x : ActV) (w : World) (hx : OkX w x) :
    Calls Try.prog 13 #[.agg #[.int .i64 x.kind, .int .i64 x.n, .string x.s, .slice x.ka x.kn x.kc, .int .i64 x.torn, .int .i64 x.at_]] w (RPost (.bool (lightX x)) w) := by
  have hs := hx.s
  unfold maxLen at hs
  have hk := hx.keep.cap
  have B : Below w.heap.size w (w.alloc (.cells #[.int .i64 x.kind, .int .i64 x.n, .string x.s, .slice x.ka x.kn x.kc, .int .i64 x.torn, .int .i64 x.at_] 37)) := (Below.refl _ _).alloc (Nat.le_refl _) _
  unfold lightX
  by_cases h1 : x.s.size ≤ 2000
  · have h1z : (x.s.size : Int) ≤ 2000 := by omega
    by_cases h2 : x.kn ≤ 50
    · have h2z : (x.kn : Int) ≤ 50 := by omega
      go_enter Try.func13, Try.ntmps13
      go_wp2
      go_ret
      exact ⟨by simp <;> omega, B⟩
    · have h2z : ¬ ((x.kn : Int) ≤ 50) := by omega
      go_enter Try.func13, Try.ntmps13
      go_wp2
      go_ret
      exact ⟨by simp <;> omega, B⟩
  · have h1z : ¬ ((x.s.size : Int) ≤ 2000) := by omega
    go_enter Try.func13, Try.ntmps13
    go_wp2
    go_ret
    exact ⟨by simp <;> omega, B⟩
end Go.Proofs.Ythcebcpippbhfaa
