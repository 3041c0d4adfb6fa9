/-
  ROWS OF MUTATIONS AND OF ENTRIES THAT CAME IN: what their cells hold, and that each one's pairs lie ready.
-/
import Derived.Test.YthofoidafdbgcaaGen
import Derived.Test.YthofoidafdbgcaaMA3
import Derived.Deep.Slices
import Derived.Deep.Strs
import Derived.Lib.SmallJoins
namespace Go.Proofs.Ythofoidafdbgcaa
open Go.RowKit Go.Shelf Go.ChangeShapes Go.WideShapes Go.Deep Go.ChangeAt

/-- A row whose elements are read, and fit. -/
theorem rargOk_of {α : Type} [Inhabited α] (encA : α → List Value) (Ok : World → α → Prop) (k : Nat) (hk : 0 < k) (hlen : ∀ x, (encA x).length = k) {H : Type} {enc : TypeId × Value → H} {w : World} {base : Nat} {spare : Nat → Bool} {held : Bool} {t e : TypeId} {fuel : Nat} {v : Value} {x : DataW H × List MemPlace}
    (ht : Try.prog.underlying t = some (.slice e)) (ce : Try.prog.cellsOf e = k)
    (hel : ∀ (n : Nat) (cs : List Value) (y : DataW H × List MemPlace), DataW.trod enc Try.prog w base spare held n e cs = some y → ∃ q : α, cs = encA q ∧ Ok w q)
    (hf : DataW.trod enc Try.prog w base spare held fuel t [v] = some x) : ∃ (a : Option Addr) (n c : Nat) (l : List α), v = .slice a n c ∧ RArg encA k w a n c l ∧ ∀ x ∈ l, Ok w x := by
  rcases open_slice ht hf with ⟨hcs, _⟩ | ⟨x, len, c, m, n, D, Pl, hcs, _, hl, hm, hmm, _, hx⟩
  · exact ⟨none, 0, 0, [], by simpa using hcs, RArg.nil _ _ _, by simp⟩
  · have hlm : len ≤ m := by rw [hmm]; split <;> omega
    have each : ∀ i, i < len → ∃ q : α, w.cells? base (x.add (i * k)) k = some (encA q) ∧ Ok w q := by
      intro i hi
      obtain ⟨cs', h1, h2⟩ := hx i (by omega)
      obtain ⟨q, rfl, ok⟩ := hel _ _ _ h2
      rw [ce] at h1
      exact ⟨q, h1, ok⟩
    obtain ⟨q, hq⟩ := choose_lt each
    have hlen' : ((List.range len).map q).length = len := by simp
    refine ⟨some x, len, c, (List.range len).map q, by simpa using hcs, ⟨hlen'.symm, by rw [hlen']; unfold maxLen at hm; omega, by rw [hlen']; exact hl, hm, fun j hj => ?_⟩, fun y hy => ?_⟩
    · rw [hlen'] at hj
      obtain ⟨b, off, spot⟩ := x
      obtain ⟨_, _, hc0⟩ := World.cells?_some (hq 0 (by omega)).1
      have e0 := (hc0 0 hk).trans (List.getElem?_eq_getElem (by rw [hlen]; exact hk))
      have hspot : spot = none := by simpa [Addr.add] using World.cell?_spot e0
      subst hspot
      obtain ⟨_, _, hc⟩ := World.cells?_some (hq j hj).1
      have eq : ((List.range len).map q)[j]! = q j := by
        rw [getElem!_pos _ j (by rw [hlen']; exact hj)]
        simp
      rw [eq]
      have ej : ∀ i v, (encA (q j))[i]? = some v → w.cell? ⟨b, off + j * k + i, none⟩ = some v := fun i v hi => by
        have hik : i < k := by
          rcases Nat.lt_or_ge i (encA (q j)).length with h | h
          · rwa [hlen] at h
          · rw [List.getElem?_eq_none h] at hi; cases hi
        have := (hc i hik).trans hi
        rwa [addr_add, addr_add] at this
      refine ⟨b, off, rfl, World.block_lt_of_cell? w _ (ej 0 _ (List.getElem?_eq_getElem (by rw [hlen]; exact hk))), ej⟩
    · obtain ⟨j, hj, rfl⟩ := List.mem_map.1 hy
      exact (hq j (by simpa using hj)).2
/-- A mutation, and where its pairs lie. -/
structure Mv where
  c : Int
  s : Int
  k : Int
  a : Option Addr
  n : Nat
  cp : Nat
  ps : List Sp
  lo : Int
  hi : Int
  old : Int
instance : Inhabited Mv := ⟨⟨0, 0, 0, none, 0, 0, [], 0, 0, 0⟩⟩
def encM (m : Mv) : List Value := [.int .i64 m.c, .int .i64 m.s, .int .i64 m.k, .slice m.a m.n m.cp, .int .i64 m.lo, .int .i64 m.hi, .int .i64 m.old]
theorem encM_len (m : Mv) : (encM m).length = 7 := rfl
structure OkM (w : World) (m : Mv) : Prop where
  ps : Arg w m.a m.n m.cp m.ps
  c : (Lit.int .i64 m.c).wf = true
  s : (Lit.int .i64 m.s).wf = true
theorem OkM.below {w w' : World} {m : Mv} (h : OkM w m) (hb : Below w.heap.size w w') : OkM w' m := { h with ps := h.ps.below hb }
/-- An entry. -/
structure Ev where
  m : Mv
  t : Int
  d : Bool
instance : Inhabited Ev := ⟨⟨default, 0, false⟩⟩
def encE (e : Ev) : List Value := [.int .i64 e.m.c, .int .i64 e.m.s, .int .i64 e.m.k, .slice e.m.a e.m.n e.m.cp, .int .i64 e.m.lo, .int .i64 e.m.hi, .int .i64 e.m.old, .int .i64 e.t, .bool e.d]
theorem encE_len (e : Ev) : (encE e).length = 9 := rfl
structure OkE (w : World) (e : Ev) : Prop where
  m : OkM w e.m
  t : (Lit.int .i64 e.t).wf = true
theorem OkE.below {w w' : World} {e : Ev} (h : OkE w e) (hb : Below w.heap.size w w') : OkE w' e := { h with m := h.m.below hb }
/-- A row of mutations. -/
structure MArg (w : World) (a : Option Addr) (n c : Nat) (l : List Mv) : Prop where
  row : RArg encM 7 w a n c l
  ok : ∀ m ∈ l, OkM w m
theorem MArg.below {w w' : World} {a : Option Addr} {n c : Nat} {l : List Mv} (h : MArg w a n c l) (hb : Below w.heap.size w w') : MArg w' a n c l := ⟨h.row.below hb, fun m hm => (h.ok m hm).below hb⟩
/-- A row of entries. -/
structure EArg (w : World) (a : Option Addr) (n c : Nat) (l : List Ev) : Prop where
  row : RArg encE 9 w a n c l
  ok : ∀ e ∈ l, OkE w e
theorem EArg.below {w w' : World} {a : Option Addr} {n c : Nat} {l : List Ev} (h : EArg w a n c l) (hb : Below w.heap.size w w') : EArg w' a n c l := ⟨h.row.below hb, fun m hm => (h.ok m hm).below hb⟩
theorem Stable.margs (a : Option Addr) (n c : Nat) (l : List Mv) : Stable (fun W => MArg W a n c l) := fun _ _ h hb => h.below hb
theorem Stable.eargs (a : Option Addr) (n c : Nat) (l : List Ev) : Stable (fun W => EArg W a n c l) := fun _ _ h hb => h.below hb
theorem mem_get! {α : Type} [Inhabited α] {l : List α} {j : Nat} (h : j < l.length) : l[j]! ∈ l := by rw [getElem!_pos l j h]; exact List.getElem_mem h
/-- The cells of one of a row. -/
theorem MArg.cells {w W : World} {a : Option Addr} {n c : Nat} {l : List Mv} (h : MArg w a n c l) (hb : Below w.heap.size w W) {j : Nat} (hj : j < l.length) :
    ∃ b off, a = some ⟨b, off, none⟩ ∧ b < w.heap.size ∧ W.cell? ⟨b, off + j * 7, none⟩ = some (.int .i64 l[j]!.c) ∧ W.cell? ⟨b, off + j * 7 + 1, none⟩ = some (.int .i64 l[j]!.s) ∧ W.cell? ⟨b, off + j * 7 + 2, none⟩ = some (.int .i64 l[j]!.k) ∧
      W.cell? ⟨b, off + j * 7 + 3, none⟩ = some (.slice l[j]!.a l[j]!.n l[j]!.cp) ∧ W.cell? ⟨b, off + j * 7 + 4, none⟩ = some (.int .i64 l[j]!.lo) ∧ W.cell? ⟨b, off + j * 7 + 5, none⟩ = some (.int .i64 l[j]!.hi) ∧ W.cell? ⟨b, off + j * 7 + 6, none⟩ = some (.int .i64 l[j]!.old) := by
  obtain ⟨b, off, e, hlt, hc⟩ := h.row.2.2.2.2 j hj
  have o : ∀ i, W.cell? ⟨b, off + j * 7 + i, none⟩ = w.cell? ⟨b, off + j * 7 + i, none⟩ := fun i => hb.cell (p := ⟨b, off + j * 7 + i, none⟩) hlt
  exact ⟨b, off, e, hlt, (o 0).trans (hc 0 _ rfl), (o 1).trans (hc 1 _ rfl), (o 2).trans (hc 2 _ rfl), (o 3).trans (hc 3 _ rfl), (o 4).trans (hc 4 _ rfl), (o 5).trans (hc 5 _ rfl), (o 6).trans (hc 6 _ rfl)⟩
theorem EArg.cells {w W : World} {a : Option Addr} {n c : Nat} {l : List Ev} (h : EArg w a n c l) (hb : Below w.heap.size w W) {j : Nat} (hj : j < l.length) :
    ∃ b off, a = some ⟨b, off, none⟩ ∧ b < w.heap.size ∧ W.cell? ⟨b, off + j * 9, none⟩ = some (.int .i64 l[j]!.m.c) ∧ W.cell? ⟨b, off + j * 9 + 1, none⟩ = some (.int .i64 l[j]!.m.s) ∧ W.cell? ⟨b, off + j * 9 + 2, none⟩ = some (.int .i64 l[j]!.m.k) ∧
      W.cell? ⟨b, off + j * 9 + 3, none⟩ = some (.slice l[j]!.m.a l[j]!.m.n l[j]!.m.cp) ∧ W.cell? ⟨b, off + j * 9 + 4, none⟩ = some (.int .i64 l[j]!.m.lo) ∧ W.cell? ⟨b, off + j * 9 + 5, none⟩ = some (.int .i64 l[j]!.m.hi) ∧ W.cell? ⟨b, off + j * 9 + 6, none⟩ = some (.int .i64 l[j]!.m.old) ∧
      W.cell? ⟨b, off + j * 9 + 7, none⟩ = some (.int .i64 l[j]!.t) ∧ W.cell? ⟨b, off + j * 9 + 8, none⟩ = some (.bool l[j]!.d) := by
  obtain ⟨b, off, e, hlt, hc⟩ := h.row.2.2.2.2 j hj
  have o : ∀ i, W.cell? ⟨b, off + j * 9 + i, none⟩ = w.cell? ⟨b, off + j * 9 + i, none⟩ := fun i => hb.cell (p := ⟨b, off + j * 9 + i, none⟩) hlt
  exact ⟨b, off, e, hlt, (o 0).trans (hc 0 _ rfl), (o 1).trans (hc 1 _ rfl), (o 2).trans (hc 2 _ rfl), (o 3).trans (hc 3 _ rfl), (o 4).trans (hc 4 _ rfl), (o 5).trans (hc 5 _ rfl), (o 6).trans (hc 6 _ rfl), (o 7).trans (hc 7 _ rfl), (o 8).trans (hc 8 _ rfl)⟩
set_option maxRecDepth 100000 in
theorem mutCells {H : Type} {enc : TypeId × Value → H} {w : World} {base : Nat} {spare : Nat → Bool} {held : Bool} (n : Nat) (cs : List Value) (y : DataW H × List MemPlace)
    (h : DataW.trod enc Try.prog w base spare held n 42 cs = some y) : ∃ q : Mv, cs = encM q ∧ OkM w q := by
  have kI : Try.prog.cellsOf 3 = 1 := by kernel_rfl
  have kS : Try.prog.cellsOf 29 = 1 := by kernel_rfl
  have kP : Try.prog.cellsOf 40 = 2 := by kernel_rfl
  have kM : Try.prog.cellsOf 42 = 7 := by kernel_rfl
  obtain ⟨xs, m, _, _, hsz, hlen, hg⟩ := DataW.trod_struct Try.underlying42 h
  rw [kM] at hsz
  match cs, hsz with
  | [v0, v1, v2, v3, v4, v5, v6], _ =>
    match xs, hlen with
    | [y0, y1, y2, y3, y4, y5], _ =>
      have g0 : DataW.trod enc Try.prog w base spare held m 3 [v0] = some y0 := by simpa [kI] using hg 0 _ rfl
      have g1 : DataW.trod enc Try.prog w base spare held m 3 [v1] = some y1 := by simpa [kI] using hg 1 _ rfl
      have g2 : DataW.trod enc Try.prog w base spare held m 3 [v2] = some y2 := by simpa [kI] using hg 2 _ rfl
      have g3 : DataW.trod enc Try.prog w base spare held m 29 [v3] = some y3 := by simpa [kS] using hg 3 _ rfl
      have g4 : DataW.trod enc Try.prog w base spare held m 40 [v4, v5] = some y4 := by simpa [kP] using hg 4 _ rfl
      have g5 : DataW.trod enc Try.prog w base spare held m 3 [v6] = some y5 := by simpa [kI] using hg 5 _ rfl
      obtain ⟨c, e0, _, w0⟩ := DataW.trod_int Try.underlying3 g0
      obtain ⟨s, e1, _, w1⟩ := DataW.trod_int Try.underlying3 g1
      obtain ⟨k, e2, _, _⟩ := DataW.trod_int Try.underlying3 g2
      obtain ⟨a, nn, cp, l, e3, hA⟩ := argP_of Try.underlying29 Try.underlying65 (by kernel_rfl) rfl rfl rfl rfl kI g3
      obtain ⟨xs4, n4, _, _, _, hlen4, hg4⟩ := DataW.trod_struct Try.underlying40 g4
      match xs4, hlen4 with
      | [z0, z1], _ =>
        have m0 : DataW.trod enc Try.prog w base spare held n4 3 [v4] = some z0 := by simpa [kI] using hg4 0 _ rfl
        have m1 : DataW.trod enc Try.prog w base spare held n4 3 [v5] = some z1 := by simpa [kI] using hg4 1 _ rfl
        obtain ⟨lo, e4, _, _⟩ := DataW.trod_int Try.underlying3 m0
        obtain ⟨hi, e5, _, _⟩ := DataW.trod_int Try.underlying3 m1
        obtain ⟨old, e6, _, _⟩ := DataW.trod_int Try.underlying3 g5
        simp at e0 e1 e2 e4 e5 e6
        refine ⟨⟨c, s, k, a, nn, cp, l, lo, hi, old⟩, ?_, ⟨hA, w0, w1⟩⟩
        rw [e0, e1, e2, e3, e4, e5, e6]
        rfl
set_option maxRecDepth 100000 in
theorem entCells {H : Type} {enc : TypeId × Value → H} {w : World} {base : Nat} {spare : Nat → Bool} {held : Bool} (n : Nat) (cs : List Value) (y : DataW H × List MemPlace)
    (h : DataW.trod enc Try.prog w base spare held n 54 cs = some y) : ∃ q : Ev, cs = encE q ∧ OkE w q := by
  have kI : Try.prog.cellsOf 3 = 1 := by kernel_rfl
  have kB : Try.prog.cellsOf 4 = 1 := by kernel_rfl
  have kM : Try.prog.cellsOf 42 = 7 := by kernel_rfl
  have kE : Try.prog.cellsOf 54 = 9 := by kernel_rfl
  obtain ⟨xs, m, _, _, hsz, hlen, hg⟩ := DataW.trod_struct Try.underlying54 h
  rw [kE] at hsz
  match cs, hsz with
  | [v0, v1, v2, v3, v4, v5, v6, v7, v8], _ =>
    match xs, hlen with
    | [y0, y1, y2], _ =>
      have g0 : DataW.trod enc Try.prog w base spare held m 42 [v0, v1, v2, v3, v4, v5, v6] = some y0 := by simpa [kM] using hg 0 _ rfl
      have g1 : DataW.trod enc Try.prog w base spare held m 3 [v7] = some y1 := by simpa [kI] using hg 1 _ rfl
      have g2 : DataW.trod enc Try.prog w base spare held m 4 [v8] = some y2 := by simpa [kB] using hg 2 _ rfl
      obtain ⟨q, eq, ok⟩ := mutCells _ _ _ g0
      obtain ⟨t, e1, _, w1⟩ := DataW.trod_int Try.underlying3 g1
      obtain ⟨d, e2, _⟩ := DataW.trod_bool Try.underlying4 g2
      simp at e1 e2
      unfold encM at eq
      injection eq with a0 eq
      injection eq with a1 eq
      injection eq with a2 eq
      injection eq with a3 eq
      injection eq with a4 eq
      injection eq with a5 eq
      injection eq with a6 eq
      refine ⟨⟨q, t, d⟩, ?_, ⟨ok, w1⟩⟩
      rw [a0, a1, a2, a3, a4, a5, a6, e1, e2]
      rfl
theorem mArg_of {H : Type} {enc : TypeId × Value → H} {w : World} {base : Nat} {spare : Nat → Bool} {held : Bool} {a : Option Addr} {len cap : Nat} {d : DataW H} {p : List MemPlace}
    (h : DataW.Trod enc Try.prog w base spare held 37 (.slice a len cap) d p) : ∃ l, MArg w a len cap l := by
  obtain ⟨fuel, hf⟩ := h
  have hf' : DataW.trod enc Try.prog w base spare held fuel 37 [.slice a len cap] = some (d, p) := by simpa [Value.cells] using hf
  obtain ⟨a', n', c', l, e, hA, ok⟩ := rargOk_of encM OkM 7 (by decide) encM_len Try.underlying37 (by kernel_rfl) mutCells hf'
  cases e
  exact ⟨l, hA, ok⟩
theorem eArg_of {H : Type} {enc : TypeId × Value → H} {w : World} {base : Nat} {spare : Nat → Bool} {held : Bool} {a : Option Addr} {len cap : Nat} {d : DataW H} {p : List MemPlace}
    (h : DataW.Trod enc Try.prog w base spare held 22 (.slice a len cap) d p) : ∃ l, EArg w a len cap l := by
  obtain ⟨fuel, hf⟩ := h
  have hf' : DataW.trod enc Try.prog w base spare held fuel 22 [.slice a len cap] = some (d, p) := by simpa [Value.cells] using hf
  obtain ⟨a', n', c', l, e, hA, ok⟩ := rargOk_of encE OkE 9 (by decide) encE_len Try.underlying22 (by kernel_rfl) entCells hf'
  cases e
  exact ⟨l, hA, ok⟩
end Go.Proofs.Ythofoidafdbgcaa
