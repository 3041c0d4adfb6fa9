/-
  BAGS, for BagOnce: what a bag is behind sending, taking, losing and doubling; acts that came in.
-/
import Derived.Test.YtbonokhldonciaaBgP
import Derived.ChangeArms
import Derived.Deep.Slices
namespace Go.Proofs.Ytbonokhldonciaa
open Go.RowKit Go.Maps Go.ChangeMaps Go.ChangeShapes Go.WideShapes Go.Deep

/-- A bag that the texts q came into, of which those of the numbers gone are out of it. -/
structure Onc (s : Bs) (q : List ByteArray) (gone : List Int) : Prop where
  last : s.last = (q.length : Int)
  free : s.L = noL
  left : s.n + gone.length = q.length
  mem : ∀ k m, s.G k = some m → 1 ≤ k ∧ k ≤ (q.length : Int) ∧ m.id = k ∧ m.tx = q.getD (k.toNat - 1) ⟨#[]⟩ ∧ k ∉ gone
  old : ∀ g ∈ gone, g ≤ (q.length : Int)
theorem onc_new : Onc newB [] [] := ⟨rfl, rfl, rfl, fun k m h => (by cases (show noG k = some m from h)), (fun _ h => by cases h)⟩
theorem onc_add {s : Bs} {q : List ByteArray} {gone : List Int} (h : Onc s q gone) (m : Ml) :
    (addS s m = s ∧ addV s = (0, 8)) ∨ (addV s = ((q.length : Int) + 1, 0) ∧ Onc (addS s m) (q ++ [m.tx]) gone) := by
  unfold addS addV
  by_cases hn : 400 ≤ s.n
  · rw [if_pos hn, if_pos hn]; exact .inl ⟨rfl, rfl⟩
  · rw [if_neg hn, if_neg hn, h.last]
    refine .inr ⟨rfl, ⟨by simp, h.free, ?_, fun k m' hk => ?_, fun g hg => ?_⟩⟩
    · have := h.left
      simp only [List.length_append, List.length_cons, List.length_nil]
      omega
    · dsimp only at hk
      unfold putG at hk
      simp only [List.length_append, List.length_cons, List.length_nil]
      by_cases e : k = (q.length : Int) + 1
      · rw [if_pos e] at hk
        obtain rfl := Option.some.inj hk
        refine ⟨by omega, by omega, by rw [e]; rfl, ?_, fun hg => by have := h.old k hg; omega⟩
        have e2 : k.toNat - 1 = q.length := by omega
        rw [e2, List.getD_eq_getElem?_getD, List.getElem?_append_right (Nat.le_refl _)]
        simp [setId]
      · rw [if_neg e] at hk
        obtain ⟨h1, h2, h3, h4, h5⟩ := h.mem k m' hk
        refine ⟨h1, by omega, h3, ?_, h5⟩
        rw [h4, List.getD_eq_getElem?_getD, List.getD_eq_getElem?_getD, List.getElem?_append_left (by omega)]
    · have := h.old g hg
      simp only [List.length_append, List.length_cons, List.length_nil]
      omega
theorem onc_send {s : Bs} {q : List ByteArray} {gone : List Int} (h : Onc s q gone) (f t : Int) (x : ByteArray) :
    (∃ v, sendS s f t x = s ∧ sendV s f t x = (0, v) ∧ v ≠ 0) ∨ (∃ s', sendS s f t x = s' ∧ sendV s f t x = ((q.length : Int) + 1, 0) ∧ Onc s' (q ++ [x]) gone ∧ x.size ≤ 65536) := by
  unfold sendS sendV
  by_cases h1 : addrB f = false ∨ addrB t = false
  · rw [if_pos (by rcases h1 with h | h <;> simp [h]), if_pos h1]; exact .inl ⟨1, rfl, rfl, by decide⟩
  · rw [if_neg h1]
    by_cases h2 : 65536 < x.size
    · rw [if_pos (.inr (.inr h2)), if_pos h2]; exact .inl ⟨2, rfl, rfl, by decide⟩
    · rw [if_neg (by rintro (q | q | q); · exact h1 (.inl q)
                     · exact h1 (.inr q)
                     · exact h2 q), if_neg h2]
      rcases onc_add h ⟨0, f, t, x⟩ with ⟨e1, e2⟩ | ⟨e1, e2⟩
      · exact .inl ⟨8, e1, e2, by decide⟩
      · exact .inr ⟨_, rfl, e1, e2, by omega⟩
theorem onc_drop {w : World} {p mb ab : Nat} {s : Bs} {q : List ByteArray} {gone : List Int} (hB : Bg w p mb ab s) (h : Onc s q gone) {k : Int} {m : Ml} (hk : s.G k = some m) : Onc (dropS s k) q (gone ++ [k]) := by
  have hp : 0 < s.n := by
    have h1 := (ids_any hB).2
    have h2 := (idsL_mem (G := s.G) (last := s.last) (x := k) (fun k m e => ⟨(hB.keys k m e).1, (hB.keys k m e).2.1⟩)).2 (by rw [hk]; rfl)
    rw [← h1]
    exact List.length_pos_of_mem h2
  obtain ⟨h1, h2, h3, h4, h5⟩ := h.mem k m hk
  refine ⟨h.last, h.free, ?_, fun j m' hj => ?_, fun g hg => ?_⟩
  · have := h.left
    show s.n - 1 + (gone ++ [k]).length = q.length
    simp only [List.length_append, List.length_cons, List.length_nil]
    omega
  · have hj' : putG s.G k none j = some m' := hj
    unfold putG at hj'
    by_cases e : j = k
    · rw [if_pos e] at hj'; cases hj'
    · rw [if_neg e] at hj'
      obtain ⟨g1, g2, g3, g4, g5⟩ := h.mem j m' hj'
      exact ⟨g1, g2, g3, g4, fun hm => by
        rcases List.mem_append.1 hm with h | h
        · exact g5 h
        · exact e (by simpa using h)⟩
  · rcases List.mem_append.1 hg with h' | h'
    · exact h.old g h'
    · have : g = k := by simpa using h'
      omega
theorem onc_take {w : World} {p mb ab : Nat} {s : Bs} {q : List ByteArray} {gone : List Int} (hB : Bg w p mb ab s) (h : Onc s q gone) (k : Int) :
    (∃ m v, takeS s k = s ∧ takeV s k = (m, v) ∧ v ≠ 0) ∨ (∃ s' m, takeS s k = s' ∧ takeV s k = (m, 0) ∧ Onc s' q (gone ++ [k]) ∧ m.id = k ∧ m.tx = q.getD (k.toNat - 1) ⟨#[]⟩ ∧ 1 ≤ k ∧ k ≤ (q.length : Int) ∧ k ∉ gone) := by
  unfold takeS takeV
  cases hk : s.G k with
  | none => exact .inl ⟨m0, 4, rfl, rfl, by decide⟩
  | some m =>
    have hc : cutB s m.fr m.to = false := by unfold cutB; rw [h.free]; rfl
    dsimp only
    rw [hc]
    obtain ⟨h1, h2, h3, h4, h5⟩ := h.mem k m hk
    exact .inr ⟨_, m, rfl, rfl, onc_drop hB h hk, h3, h4, h1, h2, h5⟩
theorem onc_lose {w : World} {p mb ab : Nat} {s : Bs} {q : List ByteArray} {gone : List Int} (hB : Bg w p mb ab s) (h : Onc s q gone) (k : Int) :
    (∃ v, loseS s k = s ∧ loseV s k = v ∧ v ≠ 0) ∨ (∃ s', loseS s k = s' ∧ loseV s k = 0 ∧ Onc s' q (gone ++ [k])) := by
  unfold loseS loseV
  cases hk : s.G k with
  | none => exact .inl ⟨4, rfl, rfl, by decide⟩
  | some m => exact .inr ⟨_, rfl, rfl, onc_drop hB h hk⟩
theorem onc_twice {s : Bs} {q : List ByteArray} {gone : List Int} (h : Onc s q gone) (k : Int) :
    (∃ v, twiceS s k = s ∧ twiceV s k = (0, v) ∧ v ≠ 0) ∨ (∃ s', twiceS s k = s' ∧ twiceV s k = ((q.length : Int) + 1, 0) ∧ Onc s' (q ++ [q.getD (k.toNat - 1) ⟨#[]⟩]) gone ∧ 1 ≤ k ∧ k ≤ (q.length : Int)) := by
  unfold twiceS twiceV
  cases hk : s.G k with
  | none => exact .inl ⟨4, rfl, rfl, by decide⟩
  | some m =>
    dsimp only
    obtain ⟨h1, h2, h3, h4, h5⟩ := h.mem k m hk
    rcases onc_add h m with ⟨e1, e2⟩ | ⟨e1, e2⟩
    · exact .inl ⟨8, e1, e2, by decide⟩
    · rw [h4] at e2
      exact .inr ⟨_, rfl, e1, e2, h1, h2⟩
theorem sendS_last {s : Bs} {q : List ByteArray} {gone : List Int} (h : Onc s q gone) (hq : q.length ≤ 200) : s.last < 100000 := by rw [h.last]; omega

/-- An act that came in. -/
structure AcB where
  kind : Int
  a : Int
  b : Int
  s : ByteArray
  on : Bool
instance : Inhabited AcB := ⟨⟨0, 0, 0, ⟨#[]⟩, false⟩⟩
def encA (x : AcB) : List Value := [.int .i64 x.kind, .int .i64 x.a, .int .i64 x.b, .string x.s, .bool x.on]
theorem encA_len (x : AcB) : (encA x).length = 5 := rfl
structure OkA (x : AcB) : Prop where
  kind : (Lit.int .i64 x.kind).wf = true
  a : (Lit.int .i64 x.a).wf = true
  b : (Lit.int .i64 x.b).wf = true
  s : x.s.size ≤ maxLen
structure AcArg (w : World) (a : Option Addr) (n c : Nat) (l : List AcB) : Prop where
  len : n = l.length
  cap : (n : Int) ≤ 9223372036854775807 ∧ n ≤ c
  row : ∀ j (h : j < l.length), ∃ b off, a = some ⟨b, off, none⟩ ∧ b < w.heap.size ∧ ∀ i v, (encA l[j])[i]? = some v → w.cell? ⟨b, off + j * 5 + i, none⟩ = some v
  ok : ∀ x ∈ l, OkA x
theorem AcArg.cells {w W : World} {a : Option Addr} {n c : Nat} {l : List AcB} (h : AcArg w a n c l) (hb : Below w.heap.size w W) {j : Nat} (hj : j < l.length) :
    ∃ b off, a = some ⟨b, off, none⟩ ∧ b < w.heap.size ∧ W.cell? ⟨b, off + j * 5, none⟩ = some (.int .i64 l[j].kind) ∧ W.cell? ⟨b, off + j * 5 + 1, none⟩ = some (.int .i64 l[j].a) ∧ W.cell? ⟨b, off + j * 5 + 2, none⟩ = some (.int .i64 l[j].b) ∧
      W.cell? ⟨b, off + j * 5 + 3, none⟩ = some (.string l[j].s) ∧ W.cell? ⟨b, off + j * 5 + 4, none⟩ = some (.bool l[j].on) := by
  obtain ⟨b, off, e, hlt, hc⟩ := h.row j hj
  have o : ∀ i, W.cell? ⟨b, off + j * 5 + i, none⟩ = w.cell? ⟨b, off + j * 5 + i, none⟩ := fun i => hb.cell (p := ⟨b, off + j * 5 + i, none⟩) hlt
  exact ⟨b, off, e, hlt, (o 0).trans (hc 0 _ rfl), (o 1).trans (hc 1 _ rfl), (o 2).trans (hc 2 _ rfl), (o 3).trans (hc 3 _ rfl), (o 4).trans (hc 4 _ rfl)⟩
set_option maxRecDepth 100000 in
theorem acCells {H : Type} {enc : TypeId × Value → H} {w : World} {base : Nat} {spare : Nat → Bool} {held : Bool} (n : Nat) (cs : List Value) (y : DataW H × List MemPlace)
    (h : DataW.trod enc Try.prog w base spare held n 31 cs = some y) : ∃ q : AcB, cs = encA q ∧ OkA q := by
  have kI : Try.prog.cellsOf 3 = 1 := by kernel_rfl
  have kS : Try.prog.cellsOf 9 = 1 := by kernel_rfl
  have kB : Try.prog.cellsOf 4 = 1 := by kernel_rfl
  have kA : Try.prog.cellsOf 31 = 5 := by kernel_rfl
  obtain ⟨xs, m, _, _, hsz, hlen, hg⟩ := DataW.trod_struct Try.underlying31 h
  rw [kA] at hsz
  match cs, hsz with
  | [v0, v1, v2, v3, v4], _ =>
    match xs, hlen with
    | [y0, y1, y2, y3, y4], _ =>
      have g0 : DataW.trod enc Try.prog w base spare held m 3 [v0] = some y0 := by simpa [kI] using hg 0 _ rfl
      have g1 : DataW.trod enc Try.prog w base spare held m 3 [v1] = some y1 := by simpa [kI] using hg 1 _ rfl
      have g2 : DataW.trod enc Try.prog w base spare held m 3 [v2] = some y2 := by simpa [kI] using hg 2 _ rfl
      have g3 : DataW.trod enc Try.prog w base spare held m 9 [v3] = some y3 := by simpa [kS] using hg 3 _ rfl
      have g4 : DataW.trod enc Try.prog w base spare held m 4 [v4] = some y4 := by simpa [kB] using hg 4 _ rfl
      obtain ⟨kd, e0, _, w0⟩ := DataW.trod_int Try.underlying3 g0
      obtain ⟨na, e1, _, w1⟩ := DataW.trod_int Try.underlying3 g1
      obtain ⟨nb, e2, _, w2⟩ := DataW.trod_int Try.underlying3 g2
      obtain ⟨t, e3, _, w3⟩ := DataW.trod_string Try.underlying9 g3
      obtain ⟨on, e4, _⟩ := DataW.trod_bool Try.underlying4 g4
      simp at e0 e1 e2 e3 e4
      refine ⟨⟨kd, na, nb, t, on⟩, ?_, ⟨w0, w1, w2, w3⟩⟩
      rw [e0, e1, e2, e3, e4]
      rfl
theorem addA (b off i j : Nat) : (Addr.add (Addr.add ⟨b, off, none⟩ i) j) = ⟨b, off + i + j, none⟩ := by
  by_cases h1 : i = 0
  · subst h1
    by_cases h2 : j = 0
    · subst h2; simp [Addr.add]
    · simp [Addr.add, h2]
  · by_cases h2 : j = 0
    · subst h2; simp [Addr.add, h1]
    · simp [Addr.add, h1, h2]
set_option maxRecDepth 100000 in
theorem acArg_of {H : Type} {enc : TypeId × Value → H} {w : World} {base : Nat} {spare : Nat → Bool} {held : Bool} {a : Option Addr} {len cap : Nat} {d : DataW H} {p : List MemPlace}
    (h : DataW.Trod enc Try.prog w base spare held 22 (.slice a len cap) d p) : ∃ l, AcArg w a len cap l := by
  obtain ⟨fuel, hf⟩ := h
  have ce : Try.prog.cellsOf 31 = 5 := by kernel_rfl
  rcases open_slice Try.underlying22 hf with ⟨hcs, _⟩ | ⟨x, n, c, m, k, D, Pl, hcs, _, hl, hm, hmm, _, hx⟩
  · simp [Value.cells] at hcs
    obtain ⟨rfl, rfl, rfl⟩ := hcs
    exact ⟨[], rfl, ⟨by decide, Nat.le_refl _⟩, fun j h => absurd h (Nat.not_lt_zero _), by simp⟩
  · simp [Value.cells] at hcs
    obtain ⟨rfl, rfl, rfl⟩ := hcs
    have hlm : len ≤ m := by rw [hmm]; split <;> omega
    have each : ∀ i, i < len → ∃ q : AcB, w.cells? base (x.add (i * 5)) 5 = some (encA q) ∧ OkA q := by
      intro i hi
      obtain ⟨cs', h1, h2⟩ := hx i (by omega)
      obtain ⟨q, rfl, ok⟩ := acCells _ _ _ h2
      rw [ce] at h1
      exact ⟨q, h1, ok⟩
    obtain ⟨q, hq⟩ := choose_lt each
    refine ⟨(List.range len).map q, by simp, ⟨by unfold maxLen at hm; omega, hl⟩, fun j hj => ?_, fun y hy => ?_⟩
    · have hj' : j < len := by simpa using hj
      obtain ⟨b, off, spot⟩ := x
      obtain ⟨_, _, hc0⟩ := World.cells?_some (hq 0 (by omega)).1
      have e0 := (hc0 0 (by omega)).trans (List.getElem?_eq_getElem (by rw [encA_len]; omega))
      have hspot : spot = none := by simpa [Addr.add] using World.cell?_spot e0
      subst hspot
      obtain ⟨_, _, hc⟩ := World.cells?_some (hq j hj').1
      have ej : ∀ i v, (encA (q j))[i]? = some v → w.cell? ⟨b, off + j * 5 + i, none⟩ = some v := fun i v hi => by
        have hik : i < 5 := by
          rcases Nat.lt_or_ge i (encA (q j)).length with h | h
          · rwa [encA_len] at h
          · rw [List.getElem?_eq_none h] at hi; cases hi
        have := (hc i hik).trans hi
        rwa [addA] at this
      refine ⟨b, off, rfl, World.block_lt_of_cell? w _ (ej 0 _ rfl), ?_⟩
      simpa using ej
    · obtain ⟨j, hj, rfl⟩ := List.mem_map.1 hy
      exact (hq j (by simpa using hj)).2
/-- A row of numbers of the call's own. -/
def OwnsI (w : World) (base : Nat) (v : Value) (l : List Int) : Prop := w.ownsRow base 3 1 v l.length (l.map (Value.int .i64))
theorem OwnsI.nil (w : World) (base : Nat) : OwnsI w base (.slice none 0 0) [] := World.ownsRow_nil w base _ 1
theorem OwnsI.push {w : World} {base : Nat} {v : Value} {l : List Int} {x : Int} (h : w.ownsRow base 3 1 v (l.length + 1) (l.map (Value.int .i64) ++ [.int .i64 x])) : OwnsI w base v (l ++ [x]) := by
  unfold OwnsI
  rw [List.length_append, List.map_append]
  exact h
theorem OwnsI.but {w w' : World} {base p mb ab : Nat} {v : Value} {l : List Int} (h : OwnsI w base v l) (hb : But p mb ab w w') (h1 : p < base) (h2 : mb < base) (h3 : ab < base) : OwnsI w' base v l := by
  refine ⟨h.1, ?_⟩
  rcases h.2 with hn | ⟨g, cap, cur, hv, hbg, hg, rest⟩
  · exact .inl hn
  · exact .inr ⟨g, cap, cur, hv, hbg, (hb.block g (Array.getElem?_eq_some_iff.1 hg).1 (by omega) (by omega) (by omega)).trans hg, rest⟩
theorem OwnsI.arg {w : World} {base : Nat} {v : Value} {l : List Int} (h : OwnsI w base v l) : ∃ a cap, v = .slice a l.length cap ∧ (l.length : Int) ≤ 9223372036854775807 ∧ ∀ k, k < l.length → ∃ g, a = some ⟨g, 0, none⟩ ∧ base ≤ g ∧ w.cell? ⟨g, k, none⟩ = some (.int .i64 (l.getD k 0)) := by
  rcases h.2 with ⟨rfl, hn⟩ | ⟨g, cap, cur, rfl, hbg, hg, hn, hcm, _, _⟩
  · have : l = [] := List.eq_nil_of_length_eq_zero hn
    subst this
    exact ⟨none, 0, rfl, by decide, fun k hk => absurd hk (Nat.not_lt_zero _)⟩
  · refine ⟨some ⟨g, 0, none⟩, cap, rfl, by unfold maxLen at hcm; omega, fun k hk => ⟨g, rfl, hbg, ?_⟩⟩
    have := World.ownsRow.cells (g := g) h rfl k (.int .i64 (l.getD k 0)) (by simp [List.getElem?_eq_getElem hk])
    rw [← this]
    by_cases hk0 : k = 0
    · subst hk0; simp [Addr.add]
    · simp [Addr.add, hk0]
theorem own_apart {w : World} {b : Nat} {v u : Value} {l : List Int} {m : List ByteArray} (h : OwnsI w b v l) (h2 : OwnsS w b u m) :
    (v.ownBlock = none ∨ v.ownBlock ≠ u.ownBlock) ∧ (u.ownBlock = none ∨ u.ownBlock ≠ v.ownBlock) := by
  rcases h.2 with ⟨rfl, _⟩ | ⟨g, cap, cur, rfl, _, hg, _⟩
  · exact ⟨.inl rfl, by cases hu : u.ownBlock with | none => exact .inl rfl | some x => exact .inr (by simp [Value.ownBlock])⟩
  · rcases h2.2 with ⟨rfl, _⟩ | ⟨g2, cap2, cur2, rfl, _, hg2, _⟩
    · exact ⟨.inr (by simp [Value.ownBlock]), .inl rfl⟩
    · have hne : g ≠ g2 := by
        intro e
        rw [e, hg2] at hg
        simp at hg
      exact ⟨.inr (by simpa [Value.ownBlock] using hne), .inr (by simpa [Value.ownBlock] using hne.symm)⟩
end Go.Proofs.Ytbonokhldonciaa
