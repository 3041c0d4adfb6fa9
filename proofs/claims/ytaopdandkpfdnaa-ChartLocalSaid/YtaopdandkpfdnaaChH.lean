/-
  CONTRACT: the statements' walk: charts one behind the other.
-/
import Derived.Test.YtaopdandkpfdnaaChG
import Derived.Deep.DeepCutAuto
namespace Go.Proofs.Ytaopdandkpfdnaa
open Go.RowKit Go.Shelf Go.ChangeShapes Go.WideShapes Go.Deep

/-- A change: its kind, its shard, where. -/
abbrev Gd := Int × Int × Int
def encG (g : Gd) : List Value := [.int .i64 g.1, .int .i64 g.2.1, .int .i64 g.2.2]
theorem encG_len (g : Gd) : (encG g).length = 3 := rfl
/-- A chart as data. -/
structure Cd where
  ep : Int
  nx : Int
  l : List Sd
/-- A chart as it lies in memory. -/
structure Cr where
  ep : Int
  nx : Int
  a : Option Addr
  n : Nat
  c : Nat
  l : List Sd
instance : Inhabited Cr := ⟨⟨0, 0, none, 0, 0, []⟩⟩
def Cr.cd (x : Cr) : Cd := ⟨x.ep, x.nx, x.l⟩
def encK (x : Cr) : List Value := [.int .i64 x.ep, .int .i64 x.nx, .slice x.a x.n x.c]
theorem encK_len (x : Cr) : (encK x).length = 3 := rfl
def stepC (c : Cd) (x : Gd) : Option Cd := if (appC c.ep c.nx c.l x.1 x.2.1 x.2.2).e = 0 then some ⟨(appC c.ep c.nx c.l x.1 x.2.1 x.2.2).ep, (appC c.ep c.nx c.l x.1 x.2.1 x.2.2).nx, (appC c.ep c.nx c.l x.1 x.2.1 x.2.2).l⟩ else none
def pastL : Cd → List Gd → List Cd
  | _, [] => []
  | c, x :: t => match stepC c x with | some d => d :: pastL d t | none => pastL c t
theorem pastL_len : ∀ (t : List Gd) (c : Cd), (pastL c t).length ≤ t.length
  | [], _ => Nat.le_refl _
  | x :: t, c => by
    show (match stepC c x with | some d => d :: pastL d t | none => pastL c t).length ≤ _
    cases stepC c x with
    | some d => have := pastL_len t d; simp; omega
    | none => have := pastL_len t c; simp; omega
def modP (m x : Int) : Int := 1 + x.tmod m % m
def startC (nodes shards : Int) : Cd := ⟨1, modP 8 shards + 1, firstL (modP 5 nodes) (modP 8 shards).toNat⟩
def walkL (nodes shards : Int) (t : List Gd) : List Cd := startC nodes shards :: pastL (startC nodes shards) t
theorem modP_bd (m x : Int) (hm : 0 < m) : 1 ≤ modP m x ∧ modP m x ≤ m := by
  unfold modP
  have h1 := Int.emod_nonneg (x.tmod m) (show m ≠ 0 by omega)
  have h2 := Int.emod_lt_of_pos (x.tmod m) hm
  omega
theorem tmod_bd (m x : Int) (hm : 0 < m) : -m < x.tmod m ∧ x.tmod m < m := by
  have h1 := Int.tmod_lt_of_pos x hm
  have h2 := Int.lt_tmod_of_pos x hm
  exact ⟨h2, h1⟩
/-- Charts in a row, with their shards. -/
def Rows (W : World) (cs : List Cr) : Prop := ∀ x ∈ cs, RArg encS 4 W x.a x.n x.c x.l
theorem Rows.below {W W' : World} {cs : List Cr} (h : Rows W cs) (hb : Below W.heap.size W W') : Rows W' cs := fun x hx => (h x hx).below hb
/-- The same when one block alone has changed, in which none of them lies. -/
def Off (g : Nat) (a : Option Addr) : Prop := ∀ p, a = some p → p.block ≠ g
theorem TRow.off {W : World} {a : Option Addr} {g : Nat} {cur : Array Value} {t : TypeId} {fr : Nat × Nat} (h : TRow W a) (hg : W.heap[g]? = some (.cells cur t fr)) (ht : t ≠ 42) : Off g a := fun p hp e => by
  obtain ⟨cur', fr', hc⟩ := h p hp
  rw [e, hg] at hc
  injection hc with hc
  injection hc with _ hc _
  exact ht hc
theorem TRow.only {g : Nat} {W W' : World} {a : Option Addr} (h : TRow W a) (ho : Only g W W') (hg : Off g a) : TRow W' a := fun p hp => by
  obtain ⟨cur, fr, hc⟩ := h p hp
  exact ⟨cur, fr, (ho.2 p.block (hg p hp)).trans hc⟩
theorem RArg.only {g : Nat} {W W' : World} {a : Option Addr} {n c : Nat} {l : List Sd} (h : RArg encS 4 W a n c l) (ho : Only g W W') (hg : Off g a) : RArg encS 4 W' a n c l :=
  ⟨h.1, h.2.1, h.2.2.1, h.2.2.2.1, fun j hj => by
    obtain ⟨b, off, e, hb, hc⟩ := h.2.2.2.2 j hj
    have hne : b ≠ g := hg _ e
    exact ⟨b, off, e, by rw [ho.1]; exact hb, fun i v hi => (ho.cell (p := ⟨b, off + j * 4 + i, none⟩) hne).trans (hc i v hi)⟩⟩
theorem encK_one (cs : List Cr) : ∀ v ∈ flatR encK cs, v.oneCell' = true := by
  intro v hv
  unfold flatR at hv
  obtain ⟨x, _, hx⟩ := List.mem_flatMap.1 hv
  simp [encK] at hx
  rcases hx with rfl | rfl | rfl <;> rfl
theorem Try.infoChart : (Try.prog.info? 24).map (fun i => (i.zero, i.size, i.bytes)) = some (some (.agg #[.int .i64 0, .int .i64 0, .slice none 0 0]), 3, 40) := by kernel_rfl
theorem RIn.chg {w : World} {B : Nat} {a : Option Addr} {l : List Gd} (h : RIn encG 3 w B a l) (j : Nat) (hj : j < l.length) :
    ∃ b off, a = some ⟨b, off, none⟩ ∧ b < B ∧ w.cell? ⟨b, off + j * 3, none⟩ = some (.int .i64 l[j]!.1) ∧ w.cell? ⟨b, off + j * 3 + 1, none⟩ = some (.int .i64 l[j]!.2.1) ∧ w.cell? ⟨b, off + j * 3 + 2, none⟩ = some (.int .i64 l[j]!.2.2) := by
  obtain ⟨b, off, e, hb, hc⟩ := h j hj
  exact ⟨b, off, e, hb, hc 0 _ rfl, hc 1 _ rfl, hc 2 _ rfl⟩
theorem cellK {W : World} {x : Array Value} {t : TypeId} {b i : Nat} (hb : b = W.heap.size) : (W.alloc (.cells x t)).cell? ⟨b, i, none⟩ = x[i]? := by subst hb; exact cell_of_row _ _ _ _ _ _ (heap_alloc_new _ _)
/-- Rows of shards under a growth of another block. -/
theorem RArg.grown {W W' : World} {row : Option Nat} {a : Option Addr} {n c : Nat} {l : List Sd} (h : RArg encS 4 W a n c l) (hg : W.grownBy W' row) (ho : ∀ p, a = some p → some p.block ≠ row) : RArg encS 4 W' a n c l :=
  ⟨h.1, h.2.1, h.2.2.1, h.2.2.2.1, fun j hj => by
    obtain ⟨b, off, e, hb, hc⟩ := h.2.2.2.2 j hj
    exact ⟨b, off, e, Nat.lt_of_lt_of_le hb hg.size, fun i v hi => World.grownBy.cell hg (a := ⟨b, off + j * 4 + i, none⟩) (hc i v hi) (show some b ≠ row from ho ⟨b, off, none⟩ e)⟩⟩
theorem TRow.grown {W W' : World} {row : Option Nat} {a : Option Addr} (h : TRow W a) (hg : W.grownBy W' row) (ho : ∀ p, a = some p → some p.block ≠ row) : TRow W' a := fun p hp => by
  obtain ⟨cur, fr, hc⟩ := h p hp
  have hlt : p.block < W.heap.size := by
    rcases Nat.lt_or_ge p.block W.heap.size with q | q
    · exact q
    · rw [Array.getElem?_eq_none q] at hc; cases hc
  exact ⟨cur, fr, (hg.block p.block hlt (ho p hp)).trans hc⟩
theorem OwnsR.offK {W : World} {base : Nat} {v : Value} {cs : List Cr} (h : OwnsR encK 3 24 W base v cs) {a : Option Addr} (ht : TRow W a) : ∀ p, a = some p → some p.block ≠ v.ownBlock := fun p hp e => by
  rcases h.2 with ⟨rfl, _⟩ | ⟨g, cap, cur, rfl, _, hg, _⟩
  · cases e
  · have e' : p.block = g := by simpa [Value.ownBlock] using e
    exact TRow.off ht hg (by decide) p hp e'
theorem OwnsR.onlyK {g : Nat} {t : TypeId} {W W' : World} {base : Nat} {v : Value} {cs : List Cr} (h : OwnsR encK 3 t W base v cs) (ho : Only g W W') (hg : g < base) : OwnsR encK 3 t W' base v cs := by
  refine ⟨h.1, ?_⟩
  rcases h.2 with hn | ⟨k, cap, cur, rfl, hb, hh, rest⟩
  · exact .inl hn
  · exact .inr ⟨k, cap, cur, rfl, hb, (ho.2 k (by omega)).trans hh, rest⟩
theorem OwnsR.rowK {t : TypeId} {W : World} {base : Nat} {a : Option Addr} {n c : Nat} {l : List Cr} (h : OwnsR encK 3 t W base (.slice a n c) l) : RArg encK 3 W a n c l := by
  obtain ⟨a', c', e, hr⟩ := h.arg encK_len
  cases e
  exact hr
theorem boxZ3 {W wz : World} {t : TypeId} {u v q : Value} (h : Below ((W.alloc (.cells #[.int .i64 0, .int .i64 0, .slice none 0 0] t)).drew).heap.size ((W.alloc (.cells #[.int .i64 0, .int .i64 0, .slice none 0 0] t)).drew) wz) :
    (((wz.setCell ⟨W.heap.size, 0, none⟩ u).setCell ⟨W.heap.size, 1, none⟩ v).setCell ⟨W.heap.size, 2, none⟩ q).cell? ⟨W.heap.size, 0, none⟩ = some u ∧ (((wz.setCell ⟨W.heap.size, 0, none⟩ u).setCell ⟨W.heap.size, 1, none⟩ v).setCell ⟨W.heap.size, 2, none⟩ q).cell? ⟨W.heap.size, 1, none⟩ = some v ∧ (((wz.setCell ⟨W.heap.size, 0, none⟩ u).setCell ⟨W.heap.size, 1, none⟩ v).setCell ⟨W.heap.size, 2, none⟩ q).cell? ⟨W.heap.size, 2, none⟩ = some q := by
  have hs : W.heap.size < ((W.alloc (.cells #[.int .i64 0, .int .i64 0, .slice none 0 0] t)).drew).heap.size := by simp
  have c := fun i => h.cell (p := ⟨W.heap.size, i, none⟩) hs
  exact set3J ((c 0).trans (cell_of_row _ _ 0 _ _ _ (heap_alloc_new W _))) ((c 1).trans (cell_of_row _ _ 1 _ _ _ (heap_alloc_new W _))) ((c 2).trans (cell_of_row _ _ 2 _ _ _ (heap_alloc_new W _)))
theorem offN {W : World} {o : Obj} {a : Option Addr} (h : NewAt ((W.alloc o).drew).heap.size a) : Off W.heap.size a := fun p hp e => by
  have := h p hp
  simp at this
  omega
def WalkPost (P : List Cd) (w : World) (e : Ending) (w' : World) : Prop := ∃ (cs : List Cr) (z : Cr) (av : Option Addr) (nv cv : Nat),
  e = .returned (.tuple #[.agg #[.int .i64 z.ep, .int .i64 z.nx, .slice z.a z.n z.c], .slice av nv cv]) ∧ cs.map Cr.cd = P ∧ P.getLast? = some z.cd ∧ RArg encK 3 w' av nv cv cs ∧ Rows w' cs ∧ RArg encS 4 w' z.a z.n z.c z.l ∧ Below w.heap.size w w'
set_option maxRecDepth 100000 in
set_option maxHeartbeats 8000000 in
theorem walk_any (nodes shards : Int) (a : Option Addr) (n c : Nat) (G : List Gd) (mo : Nat) (hmo : mo ≤ 100) (w : World) (h : RArg encG 3 w a n c G) :
    Calls Try.prog 37 #[.int .i64 nodes, .int .i64 shards, .slice a n c, .int .i64 (mo : Int)] w (WalkPost (walkL nodes shards (G.take mo)) w) := by
  obtain ⟨i0, hi0, hz0, hz1, hz2⟩ := info_parts Try.infoChart
  obtain ⟨P, hP⟩ : ∃ P, walkL nodes shards (G.take mo) = P := ⟨_, rfl⟩
  rw [hP]
  obtain ⟨W1, hW1⟩ : ∃ W1, w.alloc (.cells #[.int .i64 0, .int .i64 0, .slice none 0 0] 24) = W1 := ⟨_, rfl⟩
  have bw : Below w.heap.size w W1 := by rw [← hW1]; exact (Below.refl _ _).alloc (Nat.le_refl _) _
  have g1 : w.heap.size < W1.heap.size := by rw [← hW1]; simp
  have K := Lib.hid (fun W (h : Below W1.heap.size W1 W) => box3Z (w := w) (t := 24) (x := .int .i64 0) (y := .int .i64 0) (z := .slice none 0 0) (W := W) (by rw [hW1]; exact h))
  obtain ⟨t1, t2⟩ := tmod_bd 5 nodes (by omega)
  obtain ⟨t3, t4⟩ := tmod_bd 8 shards (by omega)
  obtain ⟨m1, m2⟩ := modP_bd 5 nodes (by omega)
  obtain ⟨m3, m4⟩ := modP_bd 8 shards (by omega)
  have FI := Lib.hid (show Calls Try.prog 12 #[.int .i64 (1 + nodes.tmod 5 % 5), .int .i64 (1 + shards.tmod 8 % 8)] W1 (FirstPost (1, modP 8 shards + 1, firstL (modP 5 nodes) (modP 8 shards).toNat, 0) W1) by
    have := first_any (modP 5 nodes) (modP 8 shards) W1
    rw [show firstC (modP 5 nodes) (modP 8 shards) = (1, modP 8 shards + 1, firstL (modP 5 nodes) (modP 8 shards).toNat, 0) from if_pos ⟨(btwC_iff _ _ _).2 ⟨m1, m2⟩, (btwC_iff _ _ _).2 ⟨m3, by omega⟩⟩] at this
    exact this)
  have HP0 := Lib.hid hP
  have HG := Lib.hid (h.below bw)
  have hn := h.1
  have hnz : (n : Int) ≤ 9223372036854775807 := by have := h.2.1; omega
  have hmz : (mo : Int) ≤ 100 := by omega
  obtain ⟨x, hx⟩ : ∃ x, modP 8 shards + 1 = x := ⟨_, rfl⟩
  obtain ⟨F0, hF0⟩ : ∃ F0, firstL (modP 5 nodes) (modP 8 shards).toNat = F0 := ⟨_, rfl⟩
  have hst : startC nodes shards = ⟨1, x, F0⟩ := by unfold startC; rw [hx, hF0]
  rw [hx, hF0] at FI
  have HPS : Hid ((⟨1, x, F0⟩ : Cd) :: pastL ⟨1, x, F0⟩ (G.take mo) = P) := Lib.hid (by rw [← hst]; exact hP)
  clear h hP m1 m2 m3 m4 hx hF0 hst HP0
  replace hn := Lib.hid hn
  go_enter Try.func37, Try.ntmps37
  go_wp2_with (go_at_call 12; (with_reducible refine FI.out.mono ?_); rintro e w5 ⟨af, nf, cf, rfl, hf, b5, hty⟩; dsimp only at hf ⊢; obtain ⟨W6, hW6⟩ : ∃ W6, w5.alloc (.cells #[.int .i64 1, .int .i64 x, .slice af nf cf] 24) = W6 := ⟨_, rfl⟩; have b6 : Below w5.heap.size w5 W6 := (by rw [← hW6]; exact (Below.refl _ _).alloc (Nat.le_refl _) _); obtain ⟨y0, y1, y2, e0, e1, e2⟩ := box3Z (w := w5) (t := 24) (x := .int .i64 1) (y := .int .i64 x) (z := .slice af nf cf) (W := W6) (by rw [← hW6]; exact Below.refl _ _))
  have g6 : w5.heap.size < W6.heap.size := by rw [← hW6]; simp
  replace hW6 := Lib.hid hW6
  replace hW1 := Lib.hid hW1
  have A1 := Lib.hid (fun W (hb : Below w5.heap.size w5 W) => hf.below hb)
  have hr6 : W6.heap[w5.heap.size]? = some (.cells #[.int .i64 1, .int .i64 x, .slice af nf cf] 24 (0, 0)) := by rw [← hW6.out]; exact heap_alloc_new _ _
  have HR6 := Lib.hid hr6
  clear hr6
  go_wp2_with fail
  try generalize nodes.tmod 5 % 5 = q1
  try generalize (nodes.tmod 5 + 5) % 5 = q2
  try generalize shards.tmod 8 % 8 = q3
  try generalize (shards.tmod 8 + 8) % 8 = q4
  go_loopw [12, 13, 14, 15, 16, 17] (fun v i _ _ _ _ wr => ∃ (j : Nat) (cur : Cr) (cs : List Cr), i = .int .i64 (j : Int) ∧ j ≤ (G.take mo).length ∧ Hid (OwnsR encK 3 24 wr W6.heap.size v cs) ∧ Hid (cs.map Cr.cd ++ pastL cur.cd ((G.take mo).drop j) = P) ∧ Hid (cs ≠ [] ∧ cs.getLast? = some cur ∧ cs.length ≤ j + 1) ∧ Hid (Rows wr cs ∧ ∀ x ∈ cs, TRow wr x.a) ∧ Hid (wr.heap[w5.heap.size]? = some (.cells #[.int .i64 cur.ep, .int .i64 cur.nx, .slice cur.a cur.n cur.c] 24 (0, 0))) ∧ Below w5.heap.size w5 wr ∧ W6.heap.size ≤ wr.heap.size)
    (fun _ i _ _ _ _ _ => n - (intOf i).toNat)
  case atStart =>
    have bA : Below W6.heap.size W6 (W6.alloc (.cells #[.int .i64 1, .int .i64 x, .slice af nf cf] 24)) := (Below.refl _ _).alloc (Nat.le_refl _) _
    refine ⟨0, ⟨1, x, af, nf, cf, F0⟩, [⟨1, x, af, nf, cf, F0⟩], rfl, Nat.zero_le _, Lib.hid ?_, HPS, Lib.hid ⟨by simp, rfl, by simp⟩, Lib.hid ⟨fun y hy => ?_, fun y hy => ?_⟩, Lib.hid ((bA.block _ g6).trans HR6.out), below_next b6 bA, by simp⟩
    · exact ⟨rfl, .inr ⟨W6.heap.size, 1, _, rfl, Nat.le_refl _, heap_alloc_new _ _, Nat.le_refl _, by unfold maxLen; omega, rfl, rfl⟩⟩
    · obtain rfl : y = ⟨1, x, af, nf, cf, F0⟩ := by simpa using hy
      exact (A1.out _ (below_next b6 bA))
    · obtain rfl : y = ⟨1, x, af, nf, cf, F0⟩ := by simpa using hy
      exact hty.below (below_next b6 bA)
  case round =>
    obtain ⟨j, cur, cs, rfl, hj, HO, HD, HL, HR, HC, hbl, hsz⟩ := hrel
    obtain ⟨hne, hlast, hlen⟩ := HL.out
    obtain ⟨hrows, htys⟩ := HR.out
    have hcur : cur ∈ cs := by
      obtain ⟨ys, e⟩ := List.getLast?_eq_some_iff.1 hlast
      rw [e]
      simp
    have k0 : wr.cell? ⟨w5.heap.size, 0, none⟩ = some (.int .i64 cur.ep) := cell_of_row _ _ 0 _ _ _ HC.out
    have k1 : wr.cell? ⟨w5.heap.size, 1, none⟩ = some (.int .i64 cur.nx) := cell_of_row _ _ 1 _ _ _ HC.out
    have k2 : wr.cell? ⟨w5.heap.size, 2, none⟩ = some (.slice cur.a cur.n cur.c) := cell_of_row _ _ 2 _ _ _ HC.out
    have gC : w5.heap.size < wr.heap.size := Nat.lt_of_lt_of_le g6 hsz
    by_cases hlt : j < (G.take mo).length
    · have hj2 : j < n ∧ j < mo := by rw [List.length_take] at hlt; have := hn.out; omega
      have hjG : j < G.length := by rw [← hn.out]; exact hj2.1
      have hjz : (j : Int) < (n : Int) := by omega
      have hjm : (j : Int) < (mo : Int) := by omega
      obtain ⟨b, off, e, hb, h0, h1, h2⟩ := (HG.out.below (below_next b5 hbl)).2.2.2.2.chg j hjG
      subst e
      obtain ⟨⟨kk, id, at_⟩, hg⟩ : ∃ g, G[j]! = g := ⟨_, rfl⟩
      rw [hg] at h0 h1 h2
      dsimp only at h0 h1 h2
      have hgt : (G.take mo)[j]! = (kk, id, at_) := by rw [← hg, getElem!_pos _ j hlt, List.getElem_take, getElem!_pos G j hjG]
      have hd := HD.out
      rw [drop_moreG hlt, hgt] at hd
      obtain ⟨M, hM⟩ : ∃ M, appC cur.ep cur.nx cur.l kk id at_ = M := ⟨_, rfl⟩
      have hst : pastL cur.cd ((kk, id, at_) :: (G.take mo).drop (j + 1)) = match (if M.e = 0 then some (⟨M.ep, M.nx, M.l⟩ : Cd) else none) with | some d => d :: pastL d ((G.take mo).drop (j + 1)) | none => pastL cur.cd ((G.take mo).drop (j + 1)) := by rw [← hM]; rfl
      rw [hst] at hd
      replace hst := Lib.hid hst
      have AP := Lib.hid (fun W hh => hM ▸ capply_any cur.ep cur.nx cur.a cur.n cur.c cur.l kk id at_ W hh)
      have HCU := Lib.hid (hrows cur hcur)
      have KK := Lib.hid (fun W (h : Below wr.heap.size wr W) => (show W.cell? ⟨w5.heap.size, 0, none⟩ = some (.int .i64 cur.ep) ∧ W.cell? ⟨w5.heap.size, 1, none⟩ = some (.int .i64 cur.nx) ∧ W.cell? ⟨w5.heap.size, 2, none⟩ = some (.slice cur.a cur.n cur.c) ∧ W.cell? ⟨b, off + j * 3, none⟩ = some (.int .i64 kk) ∧ W.cell? ⟨b, off + j * 3 + 1, none⟩ = some (.int .i64 id) ∧ W.cell? ⟨b, off + j * 3 + 2, none⟩ = some (.int .i64 at_) from
        ⟨(h.cell (p := ⟨w5.heap.size, 0, none⟩) gC).trans k0, (h.cell (p := ⟨w5.heap.size, 1, none⟩) gC).trans k1, (h.cell (p := ⟨w5.heap.size, 2, none⟩) gC).trans k2, (h.cell (p := ⟨b, off + j * 3, none⟩) hb).trans h0, (h.cell (p := ⟨b, off + j * 3 + 1, none⟩) hb).trans h1, (h.cell (p := ⟨b, off + j * 3 + 2, none⟩) hb).trans h2⟩))
      have HDD := Lib.hid hd
      have HRW := Lib.hid hrows
      have HTY := Lib.hid htys
      have HLS := Lib.hid hlast
      have HLN := Lib.hid hlen
      clear hd hM hrows htys hlast hlen hne hcur hgt HD HL HR
      replace hg := Lib.hid hg
      go_upto_region 6 with fail
      go_cut [14, 15, 16, 17] from 34 to 62 (fun pd _ _ pe wx => ∃ (g2 : Nat) (ad : Option Addr) (nd cd : Nat), pd = .pointer (some ⟨g2, 0, none⟩) ∧ pe = .int .i64 M.e ∧ wx.cell? ⟨g2, 0, none⟩ = some (.int .i64 M.ep) ∧ wx.cell? ⟨g2, 1, none⟩ = some (.int .i64 M.nx) ∧ wx.cell? ⟨g2, 2, none⟩ = some (.slice ad nd cd) ∧ RArg encS 4 wx ad nd cd M.l ∧ TRow wx ad ∧ Below wr.heap.size wr wx)
      case first =>
        have HBD : Below wr.heap.size wr wr := Below.refl _ _
        go_region_held3 (fun W => W.cell? ⟨w5.heap.size, 0, none⟩ = some (.int .i64 cur.ep) ∧ W.cell? ⟨w5.heap.size, 1, none⟩ = some (.int .i64 cur.nx) ∧ W.cell? ⟨w5.heap.size, 2, none⟩ = some (.slice cur.a cur.n cur.c) ∧ W.cell? ⟨b, off + j * 3, none⟩ = some (.int .i64 kk) ∧ W.cell? ⟨b, off + j * 3 + 1, none⟩ = some (.int .i64 id) ∧ W.cell? ⟨b, off + j * 3 + 2, none⟩ = some (.int .i64 at_)) (exact KK.out _ (by repeat (first | exact HBD | refine Below.drew ?_ | refine Below.alloc ?_ (by first | omega | (simp; omega)) _ | refine Below.setCell ?_ (by first | exact Nat.le_refl _ | omega | (simp; omega)) _))) ((first | (go_at_call 29; (with_reducible refine (AP.out _ (HCU.out.below (by repeat (first | exact HBD | refine Below.drew ?_ | refine Below.alloc ?_ (by first | omega | (simp; omega)) _ | refine Below.setCell ?_ (by first | exact Nat.le_refl _ | omega | (simp; omega)) _)))).mono ?_); rintro e wz ⟨ad, nd, cd, ao, no, co, ax, nax, cax, rfl, hL', _, _, hbz, hN', _, _, hT'⟩; have HBD := below_next (w := wr) (by repeat (first | exact HBD | refine Below.drew ?_ | refine Below.alloc ?_ (by first | omega | (simp; omega)) _ | refine Below.setCell ?_ (by first | exact Nat.le_refl _ | omega | (simp; omega)) _)) hbz; have HBZ := HBD.size; have kzc := (fun (i : Nat) h => hbz.cell (p := ⟨wr.heap.size, i, none⟩) h); have kzf := (fun (i : Nat) h => hbz.frozen (p := ⟨wr.heap.size, i, none⟩) h)) | fail))
        all_goals
          go_wp2_with fail
          go_meet
          first
            | exact ⟨wz.heap.size, ad, nd, cd, rfl, rfl, (cellK rfl).trans rfl, (cellK rfl).trans rfl, (cellK rfl).trans rfl, hL'.below ((Below.refl _ _).alloc (Nat.le_refl _) _), hT'.below ((Below.refl _ _).alloc (Nat.le_refl _) _), (by repeat (first | exact HBD | refine Below.drew ?_ | refine Below.alloc ?_ (by first | omega | (simp; omega)) _ | refine Below.setCell ?_ (by first | exact Nat.le_refl _ | omega | (simp; omega)) _))⟩
            | exact ⟨wr.heap.size, ad, nd, cd, rfl, rfl, (boxZ3 hbz).1, (boxZ3 hbz).2.1, (boxZ3 hbz).2.2, hL'.only (by repeat (first | exact Only.refl _ _ | refine Only.set ?_ _ _ | refine Only.drewR ?_)) (offN hN'), hT'.only (by repeat (first | exact Only.refl _ _ | refine Only.set ?_ _ _ | refine Only.drewR ?_)) (offN hN'), (by repeat (first | exact HBD | refine Below.drew ?_ | refine Below.alloc ?_ (by first | omega | (simp; omega)) _ | refine Below.setCell ?_ (by first | exact Nat.le_refl _ | omega | (simp; omega)) _))⟩
      case rest =>
        obtain ⟨g2, ad, nd, cd, rfl, rfl, d0, d1, d2, hL, hT, bC⟩ := hcut
        have hbC := below_next hbl bC
        have hsC := Nat.le_trans hsz bC.size
        have HCC := (bC.block _ gC).trans HC.out
        have j0 : wc.cell? ⟨w5.heap.size, 0, none⟩ = some (.int .i64 cur.ep) := cell_of_row _ _ 0 _ _ _ HCC
        have j1 : wc.cell? ⟨w5.heap.size, 1, none⟩ = some (.int .i64 cur.nx) := cell_of_row _ _ 1 _ _ _ HCC
        have j2 : wc.cell? ⟨w5.heap.size, 2, none⟩ = some (.slice cur.a cur.n cur.c) := cell_of_row _ _ 2 _ _ _ HCC
        have f0 := frozen_of_row _ _ 0 _ _ HCC
        have f1 := frozen_of_row _ _ 1 _ _ HCC
        have f2 := frozen_of_row _ _ 2 _ _ HCC
        have HOC := Lib.hid (HO.out.below bC)
        have HRC := Lib.hid (HRW.out.below bC)
        have HTC := Lib.hid (fun x (hx : x ∈ cs) => (HTY.out x hx).below bC)
        have hLh := Lib.hid hL
        have hTh := Lib.hid hT
        have HCH := Lib.hid HCC
        clear hL hT HCC
        by_cases he : M.e = 0
        · have he1 : (M.e == 0) = true := by simpa using he
          have hd2 := HDD.out
          rw [if_pos he] at hd2
          have HN2 := Lib.hid (show (cs ++ [(⟨M.ep, M.nx, ad, nd, cd, M.l⟩ : Cr)]).map Cr.cd ++ pastL (⟨M.ep, M.nx, M.l⟩ : Cd) ((G.take mo).drop (j + 1)) = P by
            rw [List.map_append, List.append_assoc]
            exact hd2)
          clear hd2 he HDD
          obtain ⟨WS, hWS⟩ : ∃ WS, ((wc.setCell ⟨w5.heap.size, 0, none⟩ (.int .i64 M.ep)).setCell ⟨w5.heap.size, 1, none⟩ (.int .i64 M.nx)).setCell ⟨w5.heap.size, 2, none⟩ (.slice ad nd cd) = WS := ⟨_, rfl⟩
          have hon : Only w5.heap.size wc WS := by rw [← hWS]; exact (by repeat (first | exact Only.refl _ _ | refine Only.set ?_ _ _ | refine Only.drewR ?_))
          have HSB : WS.heap[w5.heap.size]? = some (.cells #[.int .i64 M.ep, .int .i64 M.nx, .slice ad nd cd] 24 (0, 0)) := by
            rw [← hWS]
            exact heap_setCell_same _ _ 2 _ _ _ (heap_setCell_same _ _ 1 _ _ _ (heap_setCell_same _ _ 0 _ _ _ HCH.out))
          have s0 : WS.cell? ⟨w5.heap.size, 0, none⟩ = some (.int .i64 M.ep) := cell_of_row _ _ 0 _ _ _ HSB
          have s1 : WS.cell? ⟨w5.heap.size, 1, none⟩ = some (.int .i64 M.nx) := cell_of_row _ _ 1 _ _ _ HSB
          have s2 : WS.cell? ⟨w5.heap.size, 2, none⟩ = some (.slice ad nd cd) := cell_of_row _ _ 2 _ _ _ HSB
          have bS : Below w5.heap.size w5 WS := by rw [← hWS]; exact ((hbC.setCell (p := ⟨w5.heap.size, 0, none⟩) (Nat.le_refl _) _).setCell (p := ⟨w5.heap.size, 1, none⟩) (Nat.le_refl _) _).setCell (p := ⟨w5.heap.size, 2, none⟩) (Nat.le_refl _) _
          have gS : W6.heap.size ≤ WS.heap.size := by rw [hon.1]; exact hsC
          have HOS := Lib.hid (OwnsR.onlyK HOC.out hon g6)
          have HRS := Lib.hid (show Rows WS cs from fun x hx => (HRC.out x hx).only hon (TRow.off (HTC.out x hx) HCH.out (by decide)))
          have HTS := Lib.hid (fun x (hx : x ∈ cs) => TRow.only (HTC.out x hx) hon (TRow.off (HTC.out x hx) HCH.out (by decide)))
          have HLS2 := Lib.hid (hLh.out.only hon (TRow.off hTh.out HCH.out (by decide)))
          have HTS2 := Lib.hid (TRow.only hTh.out hon (TRow.off hTh.out HCH.out (by decide)))
          have HSBh := Lib.hid HSB
          have hl100 := Lib.hid (show cs.length + 1 ≤ 102 by have := HLN.out; have : (G.take mo).length ≤ mo := List.length_take_le _ _; omega)
          clear HSB
          go_wp2_with ((at_builtin; refine wpList_append_own _ rfl _ _ 73 rfl W6.heap.size 24 i0 (.agg #[.int .i64 0, .int .i64 0, .slice none 0 0]) 3 40 Try.underlying73 hi0 hz0 hz1 hz2 rfl (by decide) _ _ _ rfl (World.ownsRow.alloc HOS.out _) ⟨WS.heap.size, 0, none⟩ 1 1 [.int .i64 M.ep, .int .i64 M.nx, .slice ad nd cd] rfl rfl ?ca ?cb ?cc ?cd ?ce ?_))
          case ca => exact fun jj u hj => by rw [addr_add]; exact (cellK rfl).trans (by simpa using hj)
          case cb => intro u hu; simp at hu; rcases hu with rfl | rfl | rfl <;> rfl
          case cc => have := hl100.out; unfold maxLen; omega
          case cd => have := hl100.out; omega
          case ce => simp; omega
          intro v9 w9 hown9 hg9 _
          have bAl : Below WS.heap.size WS (WS.alloc (.cells #[.int .i64 M.ep, .int .i64 M.nx, .slice ad nd cd] 24)) := (Below.refl _ _).alloc (Nat.le_refl _) _
          have hb9 : Below w5.heap.size w5 w9 := (bS.alloc (Nat.le_trans (Nat.le_of_lt g6) gS) _).grown hg9 (by simp; omega) (fun k hk => Nat.le_of_lt (Nat.lt_of_lt_of_le g6 (HOS.out.lt k hk).1))
          have ho9 := Lib.hid (OwnsR.snoc (x := (⟨M.ep, M.nx, ad, nd, cd, M.l⟩ : Cr)) rfl hown9)
          have hS9 : w9.heap[w5.heap.size]? = some (.cells #[.int .i64 M.ep, .int .i64 M.nx, .slice ad nd cd] 24 (0, 0)) := (hg9.block w5.heap.size (by simp; omega) (fun e => by have := (HOS.out.lt _ e.symm).1; omega)).trans ((bAl.block _ (Nat.lt_of_lt_of_le g6 gS)).trans HSBh.out)
          have HR9 := Lib.hid (show Rows w9 (cs ++ [(⟨M.ep, M.nx, ad, nd, cd, M.l⟩ : Cr)]) from fun x hx => by
            rcases List.mem_append.1 hx with hx | hx
            · exact ((HRS.out x hx).below bAl).grown hg9 (OwnsR.offK (OwnsR.below HOS.out bAl) ((HTS.out x hx).below bAl))
            · obtain rfl : x = ⟨M.ep, M.nx, ad, nd, cd, M.l⟩ := by simpa using hx
              exact (HLS2.out.below bAl).grown hg9 (OwnsR.offK (OwnsR.below HOS.out bAl) (HTS2.out.below bAl)))
          have HT9 := Lib.hid (show ∀ x ∈ cs ++ [(⟨M.ep, M.nx, ad, nd, cd, M.l⟩ : Cr)], TRow w9 x.a from fun x hx => by
            rcases List.mem_append.1 hx with hx | hx
            · exact ((HTS.out x hx).below bAl).grown hg9 (OwnsR.offK (OwnsR.below HOS.out bAl) ((HTS.out x hx).below bAl))
            · obtain rfl : x = ⟨M.ep, M.nx, ad, nd, cd, M.l⟩ := by simpa using hx
              exact (HTS2.out.below bAl).grown hg9 (OwnsR.offK (OwnsR.below HOS.out bAl) (HTS2.out.below bAl)))
          have hs9 : W6.heap.size ≤ w9.heap.size := Nat.le_trans (by simp; omega) hg9.size
          replace hS9 := Lib.hid hS9
          clear hown9 hg9 hWS
          go_wp2
          go_roundw
          case rel => exact ⟨j + 1, ⟨M.ep, M.nx, ad, nd, cd, M.l⟩, cs ++ [⟨M.ep, M.nx, ad, nd, cd, M.l⟩], by go_num, by omega, ho9, HN2, Lib.hid ⟨by simp, by simp, by have := HLN.out; simp; omega⟩, Lib.hid ⟨HR9.out, HT9.out⟩, hS9, hb9, hs9⟩
          case measure => simp [intOf]; omega
        · have he1 : (M.e == 0) = false := by simpa using he
          have hd2 := HDD.out
          rw [if_neg he] at hd2
          have HN2 := Lib.hid hd2
          have hnz2 := Lib.hid (show cs ≠ [] from fun e => by have := HLS.out; rw [e] at this; cases this)
          clear hd2 he HDD
          go_wp2_with fail
          go_roundw
          case rel => exact ⟨j + 1, cur, cs, by go_num, by omega, HOC, HN2, Lib.hid ⟨hnz2.out, HLS.out, by have := HLN.out; omega⟩, Lib.hid ⟨HRC.out, HTC.out⟩, HCH, hbC, hsC⟩
          case measure => simp [intOf]; omega
    · have hjl : ¬ (j : Int) < (n : Int) ∨ ((j : Int) < (n : Int) ∧ ¬ (j : Int) < (mo : Int)) := by
        rw [List.length_take] at hlt
        have := hn.out
        omega
      have hdrop : (G.take mo).drop j = [] := List.drop_eq_nil_of_le (by omega)
      have hd := HD.out
      rw [hdrop] at hd
      have hPm : cs.map Cr.cd = P := by rw [← hd]; exact (List.append_nil _).symm
      have hPl : P.getLast? = some cur.cd := by rw [← hPm, List.getLast?_map, hlast]; rfl
      obtain ⟨av, cv, rfl, hav⟩ := OwnsR.arg encK_len HO.out
      have HAV := Lib.hid (show OwnsR encK 3 24 wr W6.heap.size (.slice av cs.length cv) cs from HO.out)
      obtain ⟨z0, z1, z2, f0, f1, f2⟩ := K.out _ (below_next b5 hbl)
      have HRZ := Lib.hid (show wr.heap[w.heap.size]? = some (.cells #[.int .i64 0, .int .i64 0, .slice none 0 0] 24 (0, 0)) from ((below_next b5 hbl).block _ g1).trans (by rw [← hW1.out]; exact heap_alloc_new _ _))
      have g16 : w.heap.size < W6.heap.size := Nat.lt_of_lt_of_le g1 (Nat.le_trans b5.size b6.size)
      have HRW := Lib.hid hrows
      have HTY := Lib.hid htys
      have HPm := Lib.hid hPm
      have HPl := Lib.hid hPl
      have HCU := Lib.hid (hrows cur hcur)
      have HCT := Lib.hid (htys cur hcur)
      clear hd hdrop hPm hPl hav hlt hlast hlen hrows htys hne hcur HD HL HR HO
      rcases hjl with hjz | ⟨hjz, hjm⟩
      all_goals
        go_wp2
        exact bodyPost_ret (v := .tuple #[.agg #[.int .i64 cur.ep, .int .i64 cur.nx, .slice cur.a cur.n cur.c], .slice av cs.length cv]) (by simp [results, Try.results37, go_sem, z0, z1, z2]) rfl ⟨cs, cur, av, cs.length, cv, rfl, HPm.out, HPl.out,
          OwnsR.rowK (OwnsR.onlyK (g := w.heap.size) HAV.out (by repeat (first | exact Only.refl _ _ | refine Only.set ?_ _ _ | refine Only.drewR ?_)) g16),
          (fun x hx => (HRW.out x hx).only (g := w.heap.size) (by repeat (first | exact Only.refl _ _ | refine Only.set ?_ _ _ | refine Only.drewR ?_)) (TRow.off (HTY.out x hx) HRZ.out (by decide))), HCU.out.only (g := w.heap.size) (by repeat (first | exact Only.refl _ _ | refine Only.set ?_ _ _ | refine Only.drewR ?_)) (TRow.off HCT.out HRZ.out (by decide)),
          (by repeat (first | exact below_next bw (below_next b5 hbl) | refine Below.setCell ?_ (show w.heap.size ≤ w.heap.size from Nat.le_refl _) _))⟩
end Go.Proofs.Ytaopdandkpfdnaa
