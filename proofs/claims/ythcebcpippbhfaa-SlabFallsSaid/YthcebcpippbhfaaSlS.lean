/-
  SLABS: SlabFalls.
-/
import Derived.Test.YthcebcpippbhfaaSlR
namespace Go.Proofs.Ythcebcpippbhfaa
open Go.RowKit Go.Maps Go.ChangeMaps Go.ChangeShapes Go.WideShapes Go.Deep

/-- What is sure of each block, and what was written last. -/
def RelB (bs : List Bk) (sure last : Nat → ByteArray) : Prop := ∀ k, k < 8 → (atB bs k).1 = sure k ∧ seeB (atB bs k) = last k
structure Trip8 (s : St) (zs : List Int) (torn at_ : Int) : Prop where
  zs : s.zs = zs
  torn : s.torn = torn
  at_ : s.at_ = at_
  len : s.bs.length = 8
  fit : Fits s.bs
/-- On the way to the trip: up, or down by the trip's loss. -/
def Way (s : St) (zs : List Int) (torn at_ : Int) (sure last : Nat → ByteArray) : Prop :=
  Trip8 s zs torn at_ ∧ ((s.down = false ∧ 1 ≤ s.left ∧ RelB s.bs sure last) ∨ (s.down = true ∧ ∃ bs, Fits bs ∧ bs.length = 8 ∧ RelB bs sure last ∧ s.bs = failP bs zs torn at_))
theorem RelB.give {bs : List Bk} {sure last : Nat → ByteArray} (h : RelB bs sure last) {i : Nat} (hi : i < bs.length) (t : ByteArray) : RelB (giveP bs i t) sure (fun k => if k = i then t else last k) := fun k hk => by
  rw [give_at hi]
  dsimp only
  by_cases e : k = i
  · subst e
    rw [if_pos rfl, if_pos rfl]
    exact ⟨(h k hk).1, rfl⟩
  · rw [if_neg e, if_neg e]
    exact h k hk
theorem RelB.flush {bs : List Bk} {sure last : Nat → ByteArray} (h : RelB bs sure last) : RelB (flushP bs) last last := fun k hk => by
  rw [flush_at]
  exact ⟨(h k hk).2, (h k hk).2⟩
theorem Trip8.step {s : St} {zs : List Int} {torn at_ : Int} (h : Trip8 s zs torn at_) {bs : List Bk} (hl : bs.length = 8) (hf : Fits bs) : Trip8 (tripsS { s with bs := bs }).1 zs torn at_ := by
  unfold tripsS failS
  split
  · exact ⟨h.zs, h.torn, h.at_, hl, hf⟩
  · split
    · split
      · exact ⟨h.zs, h.torn, h.at_, hl, hf⟩
      · exact ⟨h.zs, h.torn, h.at_, by show (failP _ _ _ _).length = 8; rw [failP_length]; exact hl, hf.fail _ _ _⟩
    · exact ⟨h.zs, h.torn, h.at_, hl, hf⟩
/-- One operation on a slab that is up: the trip comes, or not yet. -/
theorem way_trips {s : St} {zs : List Int} {torn at_ : Int} (h : Trip8 s zs torn at_) (hd : s.down = false) (hl : 1 ≤ s.left) {bs : List Bk} :
    ((tripsS { s with bs := bs }).2 = true ∧ (tripsS { s with bs := bs }).1.down = true ∧ (tripsS { s with bs := bs }).1.bs = failP bs zs torn at_) ∨
    ((tripsS { s with bs := bs }).2 = false ∧ (tripsS { s with bs := bs }).1.down = false ∧ 1 ≤ (tripsS { s with bs := bs }).1.left ∧ (tripsS { s with bs := bs }).1.bs = bs) := by
  unfold tripsS failS
  dsimp only
  rw [if_neg (by omega)]
  by_cases h1 : s.left = 1
  · rw [if_pos h1, if_neg (by rw [hd]; decide), h.zs, h.torn, h.at_]
    exact .inl ⟨rfl, rfl, rfl⟩
  · rw [if_neg h1]
    exact .inr ⟨rfl, hd, by show 1 ≤ s.left - 1; omega, rfl⟩
theorem Way.write {s : St} {zs : List Int} {torn at_ : Int} {sure last : Nat → ByteArray} (h : Way s zs torn at_ sure last) (hd : s.down = false) {i : Nat} (hi : i < 8) {t : ByteArray} (ht : t.size ≤ 256) :
    Way (writeS s (i : Int) t).1 zs torn at_ sure (fun k => if k = i then t else last k) := by
  obtain ⟨h8, hw⟩ := h
  rcases hw with ⟨_, hl, hR⟩ | ⟨q, _⟩
  · have hil : i < s.bs.length := by rw [h8.len]; exact hi
    have e : (writeS s (i : Int) t).1 = (tripsS { s with bs := giveP s.bs i t }).1 := by
      unfold writeS
      rw [if_neg (by rw [hd]; decide), if_neg (by rw [insideB_iff.2 ⟨i, rfl, hil⟩]; intro q; rcases q with q | q; · cases q
                                                  · omega)]
      have : ((i : Int)).toNat = i := by omega
      rw [this]
    have hgl : (giveP s.bs i t).length = 8 := by rw [giveP_length]; exact h8.len
    rw [e]
    refine ⟨h8.step hgl (h8.fit.give i ht), ?_⟩
    rcases way_trips h8 hd hl (bs := giveP s.bs i t) with ⟨_, q2, q3⟩ | ⟨_, q2, q3, q4⟩
    · exact .inr ⟨q2, _, h8.fit.give i ht, hgl, hR.give hil t, q3⟩
    · exact .inl ⟨q2, q3, by rw [q4]; exact hR.give hil t⟩
  · rw [hd] at q; cases q
theorem Way.flush {s : St} {zs : List Int} {torn at_ : Int} {sure last : Nat → ByteArray} (h : Way s zs torn at_ sure last) (hd : s.down = false) :
    ((flushS s).2 = 9 ∧ Way (flushS s).1 zs torn at_ sure last) ∨ ((flushS s).2 = 0 ∧ Way (flushS s).1 zs torn at_ last last) := by
  obtain ⟨h8, hw⟩ := h
  rcases hw with ⟨_, hl, hR⟩ | ⟨q, _⟩
  · have hs : ({ s with bs := s.bs } : St) = s := rfl
    have ht := way_trips h8 hd hl (bs := s.bs)
    have h8' := h8.step h8.len h8.fit
    rw [hs] at ht h8'
    unfold flushS
    rw [if_neg (by rw [hd]; decide)]
    rcases ht with ⟨q1, q2, q3⟩ | ⟨q1, q2, q3, q4⟩
    · rw [if_pos q1]
      exact .inl ⟨rfl, h8', .inr ⟨q2, _, h8.fit, h8.len, hR, q3⟩⟩
    · rw [if_neg (by rw [q1]; decide)]
      refine .inr ⟨rfl, ⟨h8'.zs, h8'.torn, h8'.at_, by show (flushP _).length = 8; rw [flushP_length]; exact h8'.len, h8'.fit.flush⟩, .inl ⟨q2, q3, ?_⟩⟩
      show RelB (flushP _) last last
      rw [q4]
      exact hR.flush
  · rw [hd] at q; cases q
/-- What each block is in the end. -/
theorem way_end {s : St} {bs : List Bk} {zs : List Int} {torn at_ : Int} {sure last : Nat → ByteArray} (hf : Fits bs) (hR : RelB bs sure last) (hd : s.down = false) (hl : 8 ≤ s.bs.length) (e : s.bs = failP bs zs torn at_) {k : Nat} (hk : k < 8) :
    all8 s k = sure k ∨ all8 s k = last k ∨ ((k : Int) = torn ∧ ∃ c, c ≤ (last k).size ∧ all8 s k = (last k).extract 0 c) := by
  rw [all8_at hd hl hk, e, fail_at hf]
  obtain ⟨h1, h2⟩ := hR k hk
  revert h1 h2
  generalize atB bs k = x
  obtain ⟨a, o⟩ := x
  intro h1 h2
  cases o with
  | none => exact .inl h1
  | some t =>
    have h2' : t = last k := h2
    subst h2'
    show leftB (a, some (last k)) _ _ _ = _ ∨ _
    unfold leftB
    dsimp only
    by_cases hz : zs.contains (k : Int) = true
    · rw [if_pos hz]; exact .inr (.inl rfl)
    · rw [if_neg hz]
      by_cases ht : (k : Int) = torn
      · rw [if_pos (by simpa using ht)]
        exact .inr (.inr ⟨ht, _, cutN_le _ _, rfl⟩)
      · rw [if_neg (by simpa using ht)]
        exact .inl h1
theorem way_calm {bs : List Bk} {zs : List Int} {torn at_ : Int} : Calm (failP bs zs torn at_) := Calm.drop _
/-- The blocks that SlabFalls' loop may turn: the slab's and its two arrays. -/
def Own5 (p db mb g : Nat) (i : Nat) : Prop := i = p ∨ i = db ∨ i = mb ∨ i = g ∨ i = g + 1
theorem Off.step5 {p db mb g : Nat} {a w w' : World} (h : Off (Own5 p db mb g) a w) (hb : But p db mb w w') : Off (Own5 p db mb g) a w' := h.trans (Off.but hb (.inl rfl) (.inr (.inl rfl)) (.inr (.inr (.inl rfl))))
theorem six_of {W : World} {b : Nat} {x y z u v s : Value} {t : TypeId} (h : W.heap[b]? = some (.cells #[x, y, z, u, v, s] t)) : W.cell? ⟨b, 0, none⟩ = some x ∧ W.cell? ⟨b, 1, none⟩ = some y ∧ W.cell? ⟨b, 2, none⟩ = some z :=
  ⟨cell_of_row _ _ 0 _ _ _ h, cell_of_row _ _ 1 _ _ _ h, cell_of_row _ _ 2 _ _ _ h⟩
set_option maxRecDepth 100000 in
set_option maxHeartbeats 8000000 in
theorem slabFalls_walk (a : Option Addr) (len cap : Nat) (l : List ActV) (n : Int) (la : Option Addr) (ln lc : Nat) (zs : List Int) (torn at_ : Int) (w : World) (hX : XArg w a len cap l) (_hn : (Lit.int .i64 n).wf = true)
    (hl : KArg w la ln lc zs ∧ (Lit.int .i64 torn).wf = true ∧ (Lit.int .i64 at_).wf = true) :
    Calls Try.prog 5 #[.slice a len cap, .int .i64 n, .agg #[.slice la ln lc, .int .i64 torn, .int .i64 at_]] w (TruePost w) := by
  obtain ⟨hK, hto, hat⟩ := hl
  have hcap := hX.cap
  have hcapk := hK.cap
  obtain ⟨W1, hW1⟩ : ∃ W1, w.alloc (.cells #[.slice la ln lc, .int .i64 torn, .int .i64 at_] 35) = W1 := ⟨_, rfl⟩
  have B1 : Below w.heap.size w W1 := by rw [← hW1]; exact (Below.refl _ _).alloc (Nat.le_refl _) _
  have hbx : W1.heap[w.heap.size]? = some (.cells #[.slice la ln lc, .int .i64 torn, .int .i64 at_] 35) := by rw [← hW1]; exact heap_alloc_new _ _
  have z1 : w.heap.size < W1.heap.size := by rw [← hW1]; simp
  have HN := new_any 8 (by decide) (by decide) W1
  go_enter Try.func5, Try.ntmps5
  by_cases hbig : 50 < ln
  · have hbz : (50 : Int) < (ln : Int) := by omega
    go_wp2_with (first
      | (go_at_call 10; (try rw [hW1]); refine HN.mono ?_; rintro e w1 ⟨p, db, mb, rfl, hs1, p1, p2, p3, b1⟩; have hbx1 := (b1.block _ z1).trans hbx)
      | (go_at_call 12; have _t := hbx1; (with_reducible refine (awake7_any w1).mono ?_); rintro e w2 ⟨rfl, b2⟩; have hbx2 := (b2.block _ (Nat.lt_of_lt_of_le z1 b1.size)).trans hbx1; obtain ⟨y0, y1, y2⟩ := three_of hbx2; have b12 := (B1.trans ((b1.mono B1.size).trans (b2.mono (Nat.le_trans B1.size b1.size)))); clear hbx1)
      | (go_at_call 12; (with_reducible refine (awake7_any w2).mono ?_); rintro e w3 ⟨rfl, b3⟩))
    go_ret
    exact ⟨rfl, b12.trans (b3.mono b12.size)⟩
  · have hbz : ¬ ((50 : Int) < (ln : Int)) := by omega
    obtain ⟨f, hf40, ef0⟩ := tmod_first n 40 (by decide) (by decide)
    have ef1 : (wrap64 (n.tmod 40 + 40)).tmod 40 = (f : Int) := ef0
    have hw40 : (Lit.int .i64 (1 + (f : Int))).wf = true := wf_i64 (by omega) (by omega)
    clear ef0
    go_wp2_with (first
      | (go_at_call 10; (try rw [hW1]); refine HN.mono ?_; rintro e w1 ⟨p, db, mb, rfl, hs1, p1, p2, p3, b1⟩; have hbx1 := (b1.block _ z1).trans hbx)
      | (go_at_call 12; have _t := hbx1; (with_reducible refine (awake7_any w1).mono ?_); rintro e w2 ⟨rfl, b2⟩; have hbx2 := (b2.block _ (Nat.lt_of_lt_of_le z1 b1.size)).trans hbx1; obtain ⟨y0, y1, y2⟩ := three_of hbx2; have b12 := (B1.trans ((b1.mono B1.size).trans (b2.mono (Nat.le_trans B1.size b1.size)))); have hs2 := hs1.same b2; clear hbx1)
      | (go_at_call 22; refine (trip_any hs2 hw40 (hK.krow b12 (by have := B1.size; omega) (by have := B1.size; omega) (by have := B1.size; omega)) (by omega) hto hat).mono ?_; rintro e w3 ⟨rfl, hs3, b3⟩))
    obtain ⟨W4, hW4⟩ : ∃ W4, w3.alloc (.cells #[.string ⟨#[]⟩, .string ⟨#[]⟩, .string ⟨#[]⟩, .string ⟨#[]⟩, .string ⟨#[]⟩, .string ⟨#[]⟩, .string ⟨#[]⟩, .string ⟨#[]⟩] 45) = W4 := ⟨_, rfl⟩
    obtain ⟨W5, hW5⟩ : ∃ W5, W4.alloc (.cells #[.string ⟨#[]⟩, .string ⟨#[]⟩, .string ⟨#[]⟩, .string ⟨#[]⟩, .string ⟨#[]⟩, .string ⟨#[]⟩, .string ⟨#[]⟩, .string ⟨#[]⟩] 45) = W5 := ⟨_, rfl⟩
    have c4 : Below w3.heap.size w3 W4 := by rw [← hW4]; exact (Below.refl _ _).alloc (Nat.le_refl _) _
    have c5 : Below W4.heap.size W4 W5 := by rw [← hW5]; exact (Below.refl _ _).alloc (Nat.le_refl _) _
    have g4 : W4.heap.size = w3.heap.size + 1 := by rw [← hW4]; simp
    have g5 : W5.heap.size = w3.heap.size + 2 := by rw [← hW5]; simp [g4]
    have k4 : W5.heap[w3.heap.size]? = some (.cells (r8 e8) 45) := by rw [c5.block _ (by omega), ← hW4]; exact heap_alloc_new _ _
    have k5 : W5.heap[w3.heap.size + 1]? = some (.cells (r8 e8) 45) := by rw [← g4, ← hW5]; exact heap_alloc_new _ _
    obtain ⟨ka, kn, kc, hk3⟩ := hs3
    have htr : tripS (newS 8) (1 + (f : Int)) zs torn at_ = { newS 8 with left := 1 + (f : Int), zs := zs, torn := torn, at_ := at_ } := by unfold tripS; rw [if_pos (by omega)]
    rw [htr] at hk3
    have hlow := hk3.keepLow
    have hs5 := (hk3.same c4).same c5
    have hW0 : Way ({ newS 8 with left := 1 + (f : Int), zs := zs, torn := torn, at_ := at_ } : St) zs torn at_ e8 e8 := by
      refine ⟨⟨rfl, rfl, rfl, by simp [newS], Fits.new 8⟩, .inl ⟨rfl, by show (1 : Int) ≤ 1 + (f : Int); omega, fun k hk => ?_⟩⟩
      show (atB (List.replicate 8 bk0) k).1 = _ ∧ seeB (atB (List.replicate 8 bk0) k) = _
      rw [new_at]
      exact ⟨rfl, rfl⟩
    have hlow' : zs ≠ [] → ∃ b off, ka = some ⟨b, off, none⟩ ∧ b < w3.heap.size := hlow
    obtain ⟨n1, n2, n3⟩ := hk3.lt
    generalize ({ newS 8 with left := 1 + (f : Int), zs := zs, torn := torn, at_ := at_ } : St) = s0 at hs5 hW0
    have hb3 : Below w.heap.size w w3 := b12.trans (b3.below b12.size (by have := B1.size; omega) (by have := B1.size; omega) (by have := B1.size; omega))
    have hl3 : w3.heap[w.heap.size]? = some (.cells #[.slice la ln lc, .int .i64 torn, .int .i64 at_] 35) := (b3.block _ (by have := b12.size; have := b1.size; have := b2.size; omega) (by omega) (by omega) (by omega)).trans hbx2
    have hlo : w.heap.size < w3.heap.size := (Array.getElem?_eq_some_iff.1 hl3).1
    have hb5 : Below w.heap.size w W5 := (hb3.trans (c4.mono (Nat.le_of_lt hlo))).trans (c5.mono (by omega))
    have hl5 : W5.heap[w.heap.size]? = some (.cells #[.slice la ln lc, .int .i64 torn, .int .i64 at_] 35) := (c5.block _ (by omega)).trans ((c4.block _ hlo).trans hl3)
    have P1 := B1.size
    have OX := Lib.hid (fun W (hO : Off (Own5 p db mb w3.heap.size) W5 W) => (show Below w.heap.size w W ∧ W.heap[w.heap.size]? = some (.cells #[.slice la ln lc, .int .i64 torn, .int .i64 at_] 35) from
      ⟨hb5.trans (hO.below hb5.size (fun i hi => by rcases hi with rfl | rfl | rfl | rfl | rfl <;> omega)), (hO.block _ (by omega) (by rintro (q | q | q | q | q) <;> omega)).trans hl5⟩))
    (try rw [hW4]); (try rw [hW5])
    replace hW4 := Lib.hid hW4
    replace hW5 := Lib.hid hW5
    replace g4 := Lib.hid g4
    replace g5 := Lib.hid g5
    clear hk3 hs2 hs1 b1 b2 b3 hlow htr HN c4 c5 hbx hbx2
    go_loopw [10, 11] (fun i _ wr => ∃ (j : Nat) (s : St) (sure last : Nat → ByteArray), i = .int .i64 (j : Int) ∧ j ≤ 40 ∧ Way s zs torn at_ sure last ∧ SlK wr p db mb ka kn kc s ∧ wr.heap[w3.heap.size]? = some (.cells (r8 sure) 45) ∧ wr.heap[w3.heap.size + 1]? = some (.cells (r8 last) 45) ∧ Off (Own5 p db mb w3.heap.size) W5 wr)
      (fun i _ _ => 40 - (intOf i).toNat)
    case atStart => exact ⟨0, s0, _, _, rfl, by decide, hW0, hs5, k4, k5, Off.refl _ _⟩
    case round =>
      obtain ⟨j, s, sure, last, rfl, hj, hW, hs, hsu, hla, hO⟩ := hrel
      obtain ⟨hb, hlb⟩ := OX.out _ hO
      have hzs : s.zs ≠ [] → ∃ b off, ka = some ⟨b, off, none⟩ ∧ b < w3.heap.size := by rw [hW.1.zs]; exact hlow'
      have u1 := (Array.getElem?_eq_some_iff.1 hsu).1
      have u2 := (Array.getElem?_eq_some_iff.1 hla).1
      by_cases hin : (j < len ∧ j < 40) ∧ s.down = false
      · obtain ⟨⟨hjl, hj40⟩, hd⟩ := hin
        have hjs : j < l.length := by rw [← hX.len]; exact hjl
        obtain ⟨xb, off, rfl, hxb, hc⟩ := hX.cells (Below.refl _ _) hjs
        have hok := hX.ok _ (List.getElem_mem hjs)
        generalize l[j] = x at hok hc
        have zl : (j : Int) < (len : Int) := by omega
        have z2 : (j : Int) < 40 := by omega
        have y0 := (hb.cell (p := ⟨xb, off + j * 6, none⟩) hxb).trans hc.1
        have y1 := (hb.cell (p := ⟨xb, off + j * 6 + 1, none⟩) hxb).trans hc.2.1
        have y2 := (hb.cell (p := ⟨xb, off + j * 6 + 2, none⟩) hxb).trans hc.2.2.1
        have y3 := (hb.cell (p := ⟨xb, off + j * 6 + 3, none⟩) hxb).trans hc.2.2.2.1
        have y4 := (hb.cell (p := ⟨xb, off + j * 6 + 4, none⟩) hxb).trans hc.2.2.2.2.1
        have y5 := (hb.cell (p := ⟨xb, off + j * 6 + 5, none⟩) hxb).trans hc.2.2.2.2.2
        clear hc
        obtain ⟨W6, hW6⟩ : ∃ W6, wr.alloc (.cells #[.int .i64 x.kind, .int .i64 x.n, .string x.s, .slice x.ka x.kn x.kc, .int .i64 x.torn, .int .i64 x.at_] 37) = W6 := ⟨_, rfl⟩
        have c6 : Below wr.heap.size wr W6 := by rw [← hW6]; exact (Below.refl _ _).alloc (Nat.le_refl _) _
        have k6 : W6.heap[wr.heap.size]? = some (.cells #[.int .i64 x.kind, .int .i64 x.n, .string x.s, .slice x.ka x.kn x.kc, .int .i64 x.torn, .int .i64 x.at_] 37) := by rw [← hW6]; exact heap_alloc_new _ _
        have z6 : wr.heap.size < W6.heap.size := by rw [← hW6]; simp
        obtain ⟨v0, v1, v2⟩ := six_of k6
        have hs6 := hs.same c6
        have hO6 : Off (Own5 p db mb w3.heap.size) W5 W6 := hO.trans (Off.low c6)
        have hsu6 := (c6.block _ u1).trans hsu
        have hla6 := (c6.block _ u2).trans hla
        have HD := down_any hs
        rw [hd] at HD
        have hss := hok.s
        unfold maxLen at hss
        by_cases hA : x.kind = 0 ∧ 0 ≤ x.n ∧ x.n < 8 ∧ x.s.size ≤ 256
        · obtain ⟨h0, hn0, hn8, hsz⟩ := hA
          have hszz : (x.s.size : Int) ≤ 256 := by omega
          obtain ⟨i, hi⟩ : ∃ i : Nat, x.n = (i : Int) := ⟨x.n.toNat, by omega⟩
          have hi8 : i < 8 := by omega
          have HWr := writeK hs6 x.n x.s hok.s
          have hWy := hW.write hd hi8 hsz
          rw [← hi] at hWy
          obtain ⟨s', v, hsv⟩ : ∃ s' v, writeS s x.n x.s = (s', v) := ⟨_, _, rfl⟩
          rw [hsv] at HWr hWy
          replace hsv := Lib.hid hsv
          rw [h0] at v0 y0 hW6
          rw [h0] at k6
          replace hd := Lib.hid hd
          replace hW6 := hW6
          rw [hi] at y1 v1 hW6 HWr k6
          replace hi := Lib.hid hi
          go_wp2_with (first
            | (go_at_call 23; refine HD.mono ?_; rintro e w6 ⟨rfl, hw6⟩; subst w6)
            | (go_at_call 16; (try rw [hW6]); refine HWr.mono ?_; rintro e w7 ⟨rfl, hs7, b7⟩; have k7 := (b7.block _ z6 (by omega) (by omega) (by omega)).trans k6; obtain ⟨t0, t1, t2⟩ := six_of k7; have hla7 := (b7.block _ (by omega) (by omega) (by omega) (by omega)).trans hla6; have q1 := (cell_of_row _ _ i _ _ _ hla7).trans (r8_get last hi8); have q2 := frozen_of_row _ _ i _ _ hla7; have hi8z : (i : Int) < 8 := (by omega)))
          have hi9 := hi.out
          have hk8 := heap_setCell_same _ _ i _ _ (.string x.s) hla7
          rw [r8_set last hi8] at hk8
          have hsu8 : (w7.setCell ⟨w3.heap.size + 1, i, none⟩ (.string x.s)).heap[w3.heap.size]? = some (.cells (r8 sure) 45) := (Below.heap_setCell _ _ _ _ (by show w3.heap.size ≠ w3.heap.size + 1; omega)).trans ((b7.block _ (by omega) (by omega) (by omega) (by omega)).trans hsu6)
          have hs8 := SlK.setOther hs7 (by rw [hWy.1.zs]; exact hlow') (g := w3.heap.size + 1) (by omega) (by omega) (by omega) (by omega) i (.string x.s)
          have hO8 : Off (Own5 p db mb w3.heap.size) W5 (w7.setCell ⟨w3.heap.size + 1, i, none⟩ (.string x.s)) := (hO6.step5 b7).set (.inl (.inr (.inr (.inr (.inr rfl))))) _
          go_roundw
          case rel => exact ⟨j + 1, s', sure, _, by go_num, by omega, hWy, hs8, hsu8, hk8, hO8⟩
          case measure => simp [intOf]; omega
        · by_cases h2 : x.kind = 2
          · have HFl := flushK hs6
            have hWf := hW.flush hd
            obtain ⟨s', v, hsv⟩ : ∃ s' v, flushS s = (s', v) := ⟨_, _, rfl⟩
            rw [hsv] at HFl hWf
            dsimp only at HFl hWf
            replace hsv := Lib.hid hsv
            replace hd := Lib.hid hd
            rw [h2] at v0 y0 hW6 k6
            replace h2 := Lib.hid h2
            replace hA := Lib.hid hA
            rcases hWf with ⟨rfl, hWy⟩ | ⟨rfl, hWy⟩
            · go_wp2_with (first
                | (go_at_call 23; refine HD.mono ?_; rintro e w6 ⟨rfl, hw6⟩; subst w6)
                | (go_at_call 17; (try rw [hW6]); refine HFl.mono ?_; rintro e w7 ⟨rfl, hs7, b7⟩))
              have hO7 := hO6.step5 b7
              have hsu7 := (b7.block _ (by omega) (by omega) (by omega) (by omega)).trans hsu6
              have hla7 := (b7.block _ (by omega) (by omega) (by omega) (by omega)).trans hla6
              go_roundw
              case rel => exact ⟨j + 1, s', sure, last, by go_num, by omega, hWy, hs7, hsu7, hla7, hO7⟩
              case measure => simp [intOf]; omega
            · go_wp2_with (first
                | (go_at_call 23; refine HD.mono ?_; rintro e w6 ⟨rfl, hw6⟩; subst w6)
                | (go_at_call 17; (try rw [hW6]); refine HFl.mono ?_; rintro e w7 ⟨rfl, hs7, b7⟩; have hO7 := hO6.step5 b7; have hsu7 := (b7.block _ (by omega) (by omega) (by omega) (by omega)).trans hsu6; have hla7 := (b7.block _ (by omega) (by omega) (by omega) (by omega)).trans hla6; obtain ⟨q0, q1, q2, q3, q4, q5, q6, q7⟩ := cells8 hla7; obtain ⟨r0, r1, r2, r3, r4, r5, r6, r7⟩ := cells8 hsu7; obtain ⟨t0, t1, t2, t3, t4, t5, t6, t7⟩ := free8 hsu7))
              have hzs7 : s'.zs ≠ [] → ∃ b off, ka = some ⟨b, off, none⟩ ∧ b < w3.heap.size := by rw [hWy.1.zs]; exact hlow'
              have hs8 := (SlK.setOther (SlK.setOther (SlK.setOther (SlK.setOther (SlK.setOther (SlK.setOther (SlK.setOther (SlK.setOther hs7 hzs7 (g := w3.heap.size) (Nat.le_refl _) (by omega) (by omega) (by omega) 0 (.string (last 0))) hzs7 (g := w3.heap.size) (Nat.le_refl _) (by omega) (by omega) (by omega) 1 (.string (last 1))) hzs7 (g := w3.heap.size) (Nat.le_refl _) (by omega) (by omega) (by omega) 2 (.string (last 2))) hzs7 (g := w3.heap.size) (Nat.le_refl _) (by omega) (by omega) (by omega) 3 (.string (last 3))) hzs7 (g := w3.heap.size) (Nat.le_refl _) (by omega) (by omega) (by omega) 4 (.string (last 4))) hzs7 (g := w3.heap.size) (Nat.le_refl _) (by omega) (by omega) (by omega) 5 (.string (last 5))) hzs7 (g := w3.heap.size) (Nat.le_refl _) (by omega) (by omega) (by omega) 6 (.string (last 6))) hzs7 (g := w3.heap.size) (Nat.le_refl _) (by omega) (by omega) (by omega) 7 (.string (last 7)))
              have hO8 := ((((((((hO7.set (g := w3.heap.size) (i := 0) (.inl (.inr (.inr (.inr (.inl rfl))))) (.string (last 0))).set (g := w3.heap.size) (i := 1) (.inl (.inr (.inr (.inr (.inl rfl))))) (.string (last 1))).set (g := w3.heap.size) (i := 2) (.inl (.inr (.inr (.inr (.inl rfl))))) (.string (last 2))).set (g := w3.heap.size) (i := 3) (.inl (.inr (.inr (.inr (.inl rfl))))) (.string (last 3))).set (g := w3.heap.size) (i := 4) (.inl (.inr (.inr (.inr (.inl rfl))))) (.string (last 4))).set (g := w3.heap.size) (i := 5) (.inl (.inr (.inr (.inr (.inl rfl))))) (.string (last 5))).set (g := w3.heap.size) (i := 6) (.inl (.inr (.inr (.inr (.inl rfl))))) (.string (last 6))).set (g := w3.heap.size) (i := 7) (.inl (.inr (.inr (.inr (.inl rfl))))) (.string (last 7)))
              have hsu8 := set8 hsu7 last
              have hla8 : ((((((((w7.setCell ⟨w3.heap.size, 0, none⟩ (.string (last 0))).setCell ⟨w3.heap.size, 1, none⟩ (.string (last 1))).setCell ⟨w3.heap.size, 2, none⟩ (.string (last 2))).setCell ⟨w3.heap.size, 3, none⟩ (.string (last 3))).setCell ⟨w3.heap.size, 4, none⟩ (.string (last 4))).setCell ⟨w3.heap.size, 5, none⟩ (.string (last 5))).setCell ⟨w3.heap.size, 6, none⟩ (.string (last 6))).setCell ⟨w3.heap.size, 7, none⟩ (.string (last 7))).heap[w3.heap.size + 1]? = some (.cells (r8 last) 45) := by
                have oo : ∀ (X : World) (i : Nat) (v : Value), (X.setCell ⟨w3.heap.size, i, none⟩ v).heap[w3.heap.size + 1]? = X.heap[w3.heap.size + 1]? := fun X i v => Below.heap_setCell _ _ _ _ (by show w3.heap.size + 1 ≠ w3.heap.size; omega)
                rw [oo, oo, oo, oo, oo, oo, oo, oo]; exact hla7
              go_roundw
              case rel => exact ⟨j + 1, s', last, last, by go_num, by omega, hWy, hs8, hsu8, hla8, hO8⟩
              case measure => simp [intOf]; omega
          · have h2z : (x.kind == 2) = false := by simpa using h2
            replace hd := Lib.hid hd
            by_cases h0 : x.kind = 0
            · rw [h0] at v0 y0 hW6 k6
              by_cases hn0 : 0 ≤ x.n
              · by_cases hn8 : x.n < 8
                · have hsz : ¬ ((x.s.size : Int) ≤ 256) := fun q => hA ⟨h0, hn0, hn8, by omega⟩
                  replace hA := Lib.hid hA
                  replace h0 := Lib.hid h0
                  go_wp2_with (go_at_call 23; refine HD.mono ?_; rintro e w6 ⟨rfl, hw6⟩; subst w6)
                  go_roundw
                  case rel => exact ⟨j + 1, s, sure, last, by go_num, by omega, hW, hs6, hsu6, hla6, hO6⟩
                  case measure => simp [intOf]; omega
                · replace hA := Lib.hid hA
                  replace h0 := Lib.hid h0
                  go_wp2_with (go_at_call 23; refine HD.mono ?_; rintro e w6 ⟨rfl, hw6⟩; subst w6)
                  go_roundw
                  case rel => exact ⟨j + 1, s, sure, last, by go_num, by omega, hW, hs6, hsu6, hla6, hO6⟩
                  case measure => simp [intOf]; omega
              · replace hA := Lib.hid hA
                replace h0 := Lib.hid h0
                go_wp2_with (go_at_call 23; refine HD.mono ?_; rintro e w6 ⟨rfl, hw6⟩; subst w6)
                go_roundw
                case rel => exact ⟨j + 1, s, sure, last, by go_num, by omega, hW, hs6, hsu6, hla6, hO6⟩
                case measure => simp [intOf]; omega
            · have h0z : (x.kind == 0) = false := by simpa using h0
              replace hA := Lib.hid hA
              go_wp2_with (go_at_call 23; refine HD.mono ?_; rintro e w6 ⟨rfl, hw6⟩; subst w6)
              go_roundw
              case rel => exact ⟨j + 1, s, sure, last, by go_num, by omega, hW, hs6, hsu6, hla6, hO6⟩
              case measure => simp [intOf]; omega
      · have krl := hK.krow hb (p := p) (db := db) (mb := mb) (by omega) (by omega) (by omega)
        obtain ⟨y0, y1, y2⟩ := three_of hlb
        obtain ⟨bs, hbf, hbl, hbR, hbd, sF, hFa, hsFb⟩ : ∃ bs, Fits bs ∧ bs.length = 8 ∧ RelB bs sure last ∧ (s.down = true ∨ s.down = false) ∧ ∃ sF, failS s zs torn at_ = sF ∧ sF.bs = failP bs zs torn at_ := by
          obtain ⟨h8, hw⟩ := hW
          rcases hw with ⟨q, _, hR⟩ | ⟨q, bs, q1, q2, q3, q4⟩
          · exact ⟨s.bs, h8.fit, h8.len, hR, .inr q, _, rfl, by unfold failS; rw [if_neg (by rw [q]; decide)]⟩
          · exact ⟨bs, q1, q2, q3, .inl q, _, rfl, by unfold failS; rw [if_pos q]; exact q4⟩
        have HD := down_any hs
        have HFl := failK hs krl torn at_ hto
        rw [hFa] at HFl
        obtain ⟨s7, hs7⟩ : ∃ s7, wakeS sF = s7 := ⟨_, rfl⟩
        have e7 : s7.bs = failP bs zs torn at_ := by rw [← hs7]; exact hsFb
        have d7 : s7.down = false := by rw [← hs7]; rfl
        have l7 : 8 ≤ s7.bs.length := by rw [e7, failP_length, hbl]; decide
        have hCalm : Calm s7.bs := by rw [e7]; exact way_calm
        obtain ⟨f1, hf1⟩ : ∃ f1, all8 s7 = f1 := ⟨_, rfl⟩
        have hEnd : ∀ k, k < 8 → f1 k = sure k ∨ f1 k = last k ∨ ((k : Int) = torn ∧ ∃ c, c ≤ (last k).size ∧ f1 k = (last k).extract 0 c) := fun k hk => by rw [← hf1]; exact way_end hbf hbR d7 l7 e7 hk
        replace hEnd := Lib.hid hEnd
        replace hf1 := Lib.hid hf1
        have hcond : (s.down = true ∧ ((j : Int) < (len : Int) ∧ (j : Int) < 40)) ∨ (s.down = true ∧ ((j : Int) < (len : Int) ∧ ¬ ((j : Int) < 40))) ∨ (s.down = true ∧ ¬ ((j : Int) < (len : Int))) ∨ (s.down = false ∧ ((j : Int) < (len : Int) ∧ ¬ ((j : Int) < 40))) ∨ (s.down = false ∧ ¬ ((j : Int) < (len : Int))) := by
          rcases hbd with q | q
          · by_cases q1 : (j : Int) < (len : Int)
            · by_cases q2 : (j : Int) < 40
              · exact .inl ⟨q, q1, q2⟩
              · exact .inr (.inl ⟨q, q1, q2⟩)
            · exact .inr (.inr (.inl ⟨q, q1⟩))
          · by_cases q1 : (j : Int) < (len : Int)
            · by_cases q2 : (j : Int) < 40
              · exact absurd ⟨⟨by omega, by omega⟩, q⟩ hin
              · exact .inr (.inr (.inr (.inl ⟨q, q1, q2⟩)))
            · exact .inr (.inr (.inr (.inr ⟨q, q1⟩)))
        have hdn : s.down = true → sF = s := fun q => by rw [← hFa]; exact fail_bs q _ _ _
        replace hFa := Lib.hid hFa
        replace hsFb := Lib.hid hsFb
        replace e7 := Lib.hid e7
        replace d7 := Lib.hid d7
        replace hin := Lib.hid hin
        clear hbd
        -- all ways lead to Wake: the slab is as its loss left it
        have HWk := Lib.hid (fun W (h : SlK W p db mb ka kn kc sF) => (show Calls Try.prog 21 #[.pointer (some ⟨p, 0, none⟩)] W (SPost p db mb (.tuple #[]) s7 W) by have := wake_any h; rwa [hs7] at this))
        replace hs7 := Lib.hid hs7
        rcases hcond with ⟨hd, zl, z2⟩ | ⟨hd, zl, z2⟩ | ⟨hd, zl⟩ | ⟨hd, zl, z2⟩ | ⟨hd, zl⟩
        all_goals
          have hsF : s.down = true → SlK wr p db mb ka kn kc sF := fun q => by rw [hdn q]; exact hs
          rw [hd] at HD
          replace hd := Lib.hid hd
          replace hdn := Lib.hid hdn
          go_wp2_with (first
            | (go_at_call 23; refine HD.mono ?_; rintro e w6 ⟨rfl, hw6⟩; subst w6)
            | (go_at_call 20; refine HFl.mono ?_; rintro e w11 ⟨rfl, hs11, b11⟩)
            | (go_at_call 21; refine (HWk.out _ hs11).mono ?_; rintro e w12 ⟨rfl, hs12, b12⟩; have hO12 := (hO.step5 b11).step5 b12; have hsu12 := ((b11.trans b12).block _ u1 (by omega) (by omega) (by omega)).trans hsu; have hla12 := ((b11.trans b12).block _ u2 (by omega) (by omega) (by omega)).trans hla)
            | (go_at_call 21; refine (HWk.out _ (hsF hd.out)).mono ?_; rintro e w12 ⟨rfl, hs12, b12⟩; have hO12 := hO.step5 b12; have hsu12 := (b12.block _ u1 (by omega) (by omega) (by omega)).trans hsu; have hla12 := (b12.block _ u2 (by omega) (by omega) (by omega)).trans hla)
            | (go_at_call 19; refine (show Calls Try.prog 19 #[.pointer (some ⟨p, 0, none⟩)] w12 (RPost (.agg #[.string (f1 0), .string (f1 1), .string (f1 2), .string (f1 3), .string (f1 4), .string (f1 5), .string (f1 6), .string (f1 7)]) w12) from (by have := read8_any hs12; rwa [hf1.out] at this)).mono ?_; rintro e w13 ⟨rfl, b13⟩))
          have hO13 := hO12.trans (Off.low b13)
          have hs13 := hs12.same b13
          have hsu13 := (b13.block _ (Array.getElem?_eq_some_iff.1 hsu12).1).trans hsu12
          have hla13 := (b13.block _ (Array.getElem?_eq_some_iff.1 hla12).1).trans hla12
          obtain ⟨W14, hW14⟩ : ∃ W14, w13.alloc (.cells #[.string (f1 0), .string (f1 1), .string (f1 2), .string (f1 3), .string (f1 4), .string (f1 5), .string (f1 6), .string (f1 7)] 45) = W14 := ⟨_, rfl⟩
          have c14 : Below w13.heap.size w13 W14 := by rw [← hW14]; exact (Below.refl _ _).alloc (Nat.le_refl _) _
          have hn14 : W14.heap[w13.heap.size]? = some (.cells (r8 f1) 45) := by rw [← hW14]; exact heap_alloc_new _ _
          have z14 : w13.heap.size < W14.heap.size := by rw [← hW14]; simp
          have hsu14 := (c14.block _ (Array.getElem?_eq_some_iff.1 hsu13).1).trans hsu13
          have hla14 := (c14.block _ (Array.getElem?_eq_some_iff.1 hla13).1).trans hla13
          have hs14 := hs13.same c14
          have hb14 : Below w.heap.size w W14 := (OX.out _ (hO13.trans (Off.low c14))).1
          have m1 := (Array.getElem?_eq_some_iff.1 hsu14).1
          have m2 := (Array.getElem?_eq_some_iff.1 hla14).1
          (try rw [hW14])
          replace hW14 := Lib.hid hW14
          clear HD HFl hs hsu hla hO hs12 hs13 hsu12 hsu13 hla12 hla13 hO12 hO13 b12 b13 c14 hsF
          go_loopw [13, 14] (fun od i wr => ∃ (j : Nat) (q : Int), i = .int .i64 (j : Int) ∧ od = .int .i64 q ∧ j ≤ 8 ∧ (q = 0 ∨ (q = 1 ∧ torn < (j : Int))) ∧ Below W14.heap.size W14 wr)
            (fun _ i _ => 8 - (intOf i).toNat)
          case atStart => exact ⟨0, 0, rfl, rfl, by decide, .inl rfl, Below.refl _ _⟩
          case round =>
            clear hb hj
            obtain ⟨j, q, rfl, rfl, hj, hq, hb⟩ := hrel
            by_cases hlt : j < 8
            · have hltz : (j : Int) < 8 := by omega
              have k1 := (cell_of_row _ _ j _ _ _ ((hb.block _ z14).trans hn14)).trans (r8_get f1 hlt)
              have k2 := (cell_of_row _ _ j _ _ _ ((hb.block _ m1).trans hsu14)).trans (r8_get sure hlt)
              have k3 := (cell_of_row _ _ j _ _ _ ((hb.block _ m2).trans hla14)).trans (r8_get last hlt)
              have hE := hEnd.out j hlt
              generalize f1 j = tn at k1 hE
              generalize sure j = ts at k2 hE
              generalize last j = tl at k3 hE
              by_cases e1 : tn = ts
              · subst e1
                clear hE
                go_wp2
                go_quiet (fail)
                go_wp2
                have hb' : Below W14.heap.size W14 (wr.drewN nq) := hb.trans ((below_refl_drewN wr nq).mono hb.size)
                go_roundw
                case rel => exact ⟨j + 1, q, by go_num, rfl, by omega, by omega, hb'⟩
                case measure => simp [intOf]; omega
              · have e1z : (tn.toList == ts.toList) = false := by
                  rw [beq_eq_false_iff_ne]
                  intro h
                  exact e1 (ba_eq (by rw [← ByteArray.toList_eq, ← ByteArray.toList_eq, h]))
                by_cases e2 : tn = tl
                · subst e2
                  clear hE
                  go_wp2
                  go_quiet (fail)
                  go_wp2
                  have hb' : Below W14.heap.size W14 (wr.drewN nq) := hb.trans ((below_refl_drewN wr nq).mono hb.size)
                  go_roundw
                  case rel => exact ⟨j + 1, q, by go_num, rfl, by omega, by omega, hb'⟩
                  case measure => simp [intOf]; omega
                · have e2z : (tn.toList == tl.toList) = false := by
                    rw [beq_eq_false_iff_ne]
                    intro h
                    exact e2 (ba_eq (by rw [← ByteArray.toList_eq, ← ByteArray.toList_eq, h]))
                  rcases hE with h | h | ⟨ht, c, hc, hx⟩
                  · exact absurd h e1
                  · exact absurd h e2
                  · have hq0 : q = 0 := by omega
                    subst hq0
                    have hsz : tn.size = c := by rw [hx, ByteArray.size_extract]; omega
                    have hle : (tn.size : Int) ≤ (tl.size : Int) := by omega
                    have hgt : decide ((tl.size : Int) < (tn.size : Int)) = false := decide_eq_false (by omega)
                    have hgt2 : decide (tl.size < tn.size) = false := decide_eq_false (by omega)
                    have hle2 : tn.size ≤ tl.size := by omega
                    have hex : tl.extract 0 tn.size = tn := by rw [hsz, ← hx]
                    clear hx
                    replace hsz := Lib.hid hsz
                    replace ht := Lib.hid ht
                    go_wp2
                    go_quiet (fail)
                    go_wp2
                    go_quiet (fail)
                    go_wp2
                    have hb' : ∀ k, Below W14.heap.size W14 (wr.drewN k) := fun k => hb.trans ((below_refl_drewN wr k).mono hb.size)
                    have ht' := ht.out
                    go_roundw
                    case rel => exact ⟨j + 1, 1, by go_num, rfl, by omega, .inr ⟨rfl, by omega⟩, hb' _⟩
                    case measure => simp [intOf]; omega
            · have hj8 : ¬ ((j : Int) < 8) := by omega
              have hq1 : q ≤ 1 := by omega
              replace hq := Lib.hid hq
              have HLo := loose_calm (hs14.same hb) hCalm
              go_wp2_with (go_at_call 18; refine HLo.mono ?_; rintro e w15 ⟨rfl, b15⟩)
              go_ret
              exact ⟨rfl, (hb14.trans (hb.mono hb14.size)).trans (b15.mono (Nat.le_trans hb14.size hb.size))⟩
end Go.Proofs.Ythcebcpippbhfaa
