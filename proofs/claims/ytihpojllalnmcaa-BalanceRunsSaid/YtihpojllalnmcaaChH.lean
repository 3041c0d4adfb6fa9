/-
  CONTRACT: the statements' walk: charts one behind the other.
-/
import Derived.Test.YtihpojllalnmcaaChG
import Derived.Deep.DeepCutAuto
namespace Go.Proofs.Ytihpojllalnmcaa
open Go.RowKit Go.Shelf Go.ChangeShapes Go.WideShapes Go.Deep

/-- A change: its kind, its shard, where. -/
abbrev Gd := Int × Int × Int
def encG (g : Gd) : List Value := [.int .i64 g.1, .int .i64 g.2.1, .int .i64 g.2.2]
theorem encG_len (g : Gd) : (encG g).length = 3 := rfl
/-- A chart as data. -/
structure Cd where
  ep : Int
  nx : Int
  l : List Sd
/-- A chart as it lies in memory. -/
structure Cr where
  ep : Int
  nx : Int
  a : Option Addr
  n : Nat
  c : Nat
  l : List Sd
instance : Inhabited Cr := ⟨⟨0, 0, none, 0, 0, []⟩⟩
def Cr.cd (x : Cr) : Cd := ⟨x.ep, x.nx, x.l⟩
def encK (x : Cr) : List Value := [.int .i64 x.ep, .int .i64 x.nx, .slice x.a x.n x.c]
theorem encK_len (x : Cr) : (encK x).length = 3 := rfl
def stepC (c : Cd) (x : Gd) : Option Cd := if (appC c.ep c.nx c.l x.1 x.2.1 x.2.2).e = 0 then some ⟨(appC c.ep c.nx c.l x.1 x.2.1 x.2.2).ep, (appC c.ep c.nx c.l x.1 x.2.1 x.2.2).nx, (appC c.ep c.nx c.l x.1 x.2.1 x.2.2).l⟩ else none
def pastL : Cd → List Gd → List Cd
  | _, [] => []
  | c, x :: t => match stepC c x with | some d => d :: pastL d t | none => pastL c t
theorem pastL_len : ∀ (t : List Gd) (c : Cd), (pastL c t).length ≤ t.length
  | [], _ => Nat.le_refl _
  | x :: t, c => by
    show (match stepC c x with | some d => d :: pastL d t | none => pastL c t).length ≤ _
    cases stepC c x with
    | some d => have := pastL_len t d; simp; omega
    | none => have := pastL_len t c; simp; omega
def modP (m x : Int) : Int := 1 + x.tmod m % m
def startC (nodes shards : Int) : Cd := ⟨1, modP 8 shards + 1, firstL (modP 5 nodes) (modP 8 shards).toNat⟩
def walkL (nodes shards : Int) (t : List Gd) : List Cd := startC nodes shards :: pastL (startC nodes shards) t
theorem modP_bd (m x : Int) (hm : 0 < m) : 1 ≤ modP m x ∧ modP m x ≤ m := by
  unfold modP
  have h1 := Int.emod_nonneg (x.tmod m) (show m ≠ 0 by omega)
  have h2 := Int.emod_lt_of_pos (x.tmod m) hm
  omega
theorem tmod_bd (m x : Int) (hm : 0 < m) : -m < x.tmod m ∧ x.tmod m < m := by
  have h1 := Int.tmod_lt_of_pos x hm
  have h2 := Int.lt_tmod_of_pos x hm
  exact ⟨h2, h1⟩
/-- Charts in a row, with their shards. -/
def Rows (W : World) (cs : List Cr) : Prop := ∀ x ∈ cs, RArg encS 4 W x.a x.n x.c x.l
theorem Rows.below {W W' : World} {cs : List Cr} (h : Rows W cs) (hb : Below W.heap.size W W') : Rows W' cs := fun x hx => (h x hx).below hb
/-- The same when one block alone has changed, in which none of them lies. -/
def Off (g : Nat) (a : Option Addr) : Prop := ∀ p, a = some p → p.block ≠ g
theorem TRow.off {W : World} {a : Option Addr} {g : Nat} {cur : Array Value} {t : TypeId} {fr : Nat × Nat} (h : TRow W a) (hg : W.heap[g]? = some (.cells cur t fr)) (ht : t ≠ 61) : Off g a := fun p hp e => by
  obtain ⟨cur', fr', hc⟩ := h p hp
  rw [e, hg] at hc
  injection hc with hc
  injection hc with _ hc _
  exact ht hc
theorem TRow.only {g : Nat} {W W' : World} {a : Option Addr} (h : TRow W a) (ho : Only g W W') (hg : Off g a) : TRow W' a := fun p hp => by
  obtain ⟨cur, fr, hc⟩ := h p hp
  exact ⟨cur, fr, (ho.2 p.block (hg p hp)).trans hc⟩
theorem RArg.only {g : Nat} {W W' : World} {a : Option Addr} {n c : Nat} {l : List Sd} (h : RArg encS 4 W a n c l) (ho : Only g W W') (hg : Off g a) : RArg encS 4 W' a n c l :=
  ⟨h.1, h.2.1, h.2.2.1, h.2.2.2.1, fun j hj => by
    obtain ⟨b, off, e, hb, hc⟩ := h.2.2.2.2 j hj
    have hne : b ≠ g := hg _ e
    exact ⟨b, off, e, by rw [ho.1]; exact hb, fun i v hi => (ho.cell (p := ⟨b, off + j * 4 + i, none⟩) hne).trans (hc i v hi)⟩⟩
theorem encK_one (cs : List Cr) : ∀ v ∈ flatR encK cs, v.oneCell' = true := by
  intro v hv
  unfold flatR at hv
  obtain ⟨x, _, hx⟩ := List.mem_flatMap.1 hv
  simp [encK] at hx
  rcases hx with rfl | rfl | rfl <;> rfl
theorem Try.infoChart : (Try.prog.info? 24).map (fun i => (i.zero, i.size, i.bytes)) = some (some (.agg #[.int .i64 0, .int .i64 0, .slice none 0 0]), 3, 40) := by kernel_rfl
theorem RIn.chg {w : World} {B : Nat} {a : Option Addr} {l : List Gd} (h : RIn encG 3 w B a l) (j : Nat) (hj : j < l.length) :
    ∃ b off, a = some ⟨b, off, none⟩ ∧ b < B ∧ w.cell? ⟨b, off + j * 3, none⟩ = some (.int .i64 l[j]!.1) ∧ w.cell? ⟨b, off + j * 3 + 1, none⟩ = some (.int .i64 l[j]!.2.1) ∧ w.cell? ⟨b, off + j * 3 + 2, none⟩ = some (.int .i64 l[j]!.2.2) := by
  obtain ⟨b, off, e, hb, hc⟩ := h j hj
  exact ⟨b, off, e, hb, hc 0 _ rfl, hc 1 _ rfl, hc 2 _ rfl⟩
theorem cellK {W : World} {x : Array Value} {t : TypeId} {b i : Nat} (hb : b = W.heap.size) : (W.alloc (.cells x t)).cell? ⟨b, i, none⟩ = x[i]? := by subst hb; exact cell_of_row _ _ _ _ _ _ (heap_alloc_new _ _)
/-- Rows of shards under a growth of another block. -/
theorem RArg.grown {W W' : World} {row : Option Nat} {a : Option Addr} {n c : Nat} {l : List Sd} (h : RArg encS 4 W a n c l) (hg : W.grownBy W' row) (ho : ∀ p, a = some p → some p.block ≠ row) : RArg encS 4 W' a n c l :=
  ⟨h.1, h.2.1, h.2.2.1, h.2.2.2.1, fun j hj => by
    obtain ⟨b, off, e, hb, hc⟩ := h.2.2.2.2 j hj
    exact ⟨b, off, e, Nat.lt_of_lt_of_le hb hg.size, fun i v hi => World.grownBy.cell hg (a := ⟨b, off + j * 4 + i, none⟩) (hc i v hi) (show some b ≠ row from ho ⟨b, off, none⟩ e)⟩⟩
theorem TRow.grown {W W' : World} {row : Option Nat} {a : Option Addr} (h : TRow W a) (hg : W.grownBy W' row) (ho : ∀ p, a = some p → some p.block ≠ row) : TRow W' a := fun p hp => by
  obtain ⟨cur, fr, hc⟩ := h p hp
  have hlt : p.block < W.heap.size := by
    rcases Nat.lt_or_ge p.block W.heap.size with q | q
    · exact q
    · rw [Array.getElem?_eq_none q] at hc; cases hc
  exact ⟨cur, fr, (hg.block p.block hlt (ho p hp)).trans hc⟩
theorem OwnsR.offK {W : World} {base : Nat} {v : Value} {cs : List Cr} (h : OwnsR encK 3 24 W base v cs) {a : Option Addr} (ht : TRow W a) : ∀ p, a = some p → some p.block ≠ v.ownBlock := fun p hp e => by
  rcases h.2 with ⟨rfl, _⟩ | ⟨g, cap, cur, rfl, _, hg, _⟩
  · cases e
  · have e' : p.block = g := by simpa [Value.ownBlock] using e
    exact TRow.off ht hg (by decide) p hp e'
theorem OwnsR.onlyK {g : Nat} {t : TypeId} {W W' : World} {base : Nat} {v : Value} {cs : List Cr} (h : OwnsR encK 3 t W base v cs) (ho : Only g W W') (hg : g < base) : OwnsR encK 3 t W' base v cs := by
  refine ⟨h.1, ?_⟩
  rcases h.2 with hn | ⟨k, cap, cur, rfl, hb, hh, rest⟩
  · exact .inl hn
  · exact .inr ⟨k, cap, cur, rfl, hb, (ho.2 k (by omega)).trans hh, rest⟩
theorem OwnsR.rowK {t : TypeId} {W : World} {base : Nat} {a : Option Addr} {n c : Nat} {l : List Cr} (h : OwnsR encK 3 t W base (.slice a n c) l) : RArg encK 3 W a n c l := by
  obtain ⟨a', c', e, hr⟩ := h.arg encK_len
  cases e
  exact hr
theorem boxZ3 {W wz : World} {t : TypeId} {u v q : Value} (h : Below ((W.alloc (.cells #[.int .i64 0, .int .i64 0, .slice none 0 0] t)).drew).heap.size ((W.alloc (.cells #[.int .i64 0, .int .i64 0, .slice none 0 0] t)).drew) wz) :
    (((wz.setCell ⟨W.heap.size, 0, none⟩ u).setCell ⟨W.heap.size, 1, none⟩ v).setCell ⟨W.heap.size, 2, none⟩ q).cell? ⟨W.heap.size, 0, none⟩ = some u ∧ (((wz.setCell ⟨W.heap.size, 0, none⟩ u).setCell ⟨W.heap.size, 1, none⟩ v).setCell ⟨W.heap.size, 2, none⟩ q).cell? ⟨W.heap.size, 1, none⟩ = some v ∧ (((wz.setCell ⟨W.heap.size, 0, none⟩ u).setCell ⟨W.heap.size, 1, none⟩ v).setCell ⟨W.heap.size, 2, none⟩ q).cell? ⟨W.heap.size, 2, none⟩ = some q := by
  have hs : W.heap.size < ((W.alloc (.cells #[.int .i64 0, .int .i64 0, .slice none 0 0] t)).drew).heap.size := by simp
  have c := fun i => h.cell (p := ⟨W.heap.size, i, none⟩) hs
  exact set3J ((c 0).trans (cell_of_row _ _ 0 _ _ _ (heap_alloc_new W _))) ((c 1).trans (cell_of_row _ _ 1 _ _ _ (heap_alloc_new W _))) ((c 2).trans (cell_of_row _ _ 2 _ _ _ (heap_alloc_new W _)))
theorem offN {W : World} {o : Obj} {a : Option Addr} (h : NewAt ((W.alloc o).drew).heap.size a) : Off W.heap.size a := fun p hp e => by
  have := h p hp
  simp at this
  omega
def WalkPost (P : List Cd) (w : World) (e : Ending) (w' : World) : Prop := ∃ (cs : List Cr) (z : Cr) (av : Option Addr) (nv cv : Nat),
  e = .returned (.tuple #[.agg #[.int .i64 z.ep, .int .i64 z.nx, .slice z.a z.n z.c], .slice av nv cv]) ∧ cs.map Cr.cd = P ∧ P.getLast? = some z.cd ∧ RArg encK 3 w' av nv cv cs ∧ Rows w' cs ∧ RArg encS 4 w' z.a z.n z.c z.l ∧ Below w.heap.size w w'
end Go.Proofs.Ytihpojllalnmcaa
