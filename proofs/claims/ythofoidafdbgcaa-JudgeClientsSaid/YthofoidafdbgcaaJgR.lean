/-
  CONTRACTS: the statements' own Ref on a core that has a log alone; Entries.
-/
import Derived.Test.YthofoidafdbgcaaJgF
import Derived.Test.YthofoidafdbgcaaDlZ
import Derived.Deep.RegionHeld3
import Derived.Deep.AppendLies
import Derived.Deep.RegionLaw
namespace Go.Proofs.Ythofoidafdbgcaa
open Go.RowKit Go.Shelf Go.Deep

theorem Try.infoREnt : (Try.prog.info? 69).map (fun i => (i.zero, i.size, i.bytes)) = some (some (.agg #[.int .i64 0, .int .i64 0, .int .i64 0, .slice none 0 0, .int .i64 0, .int .i64 0, .int .i64 0, .int .i64 0, .bool false]), 9, 88) := by kernel_rfl
/-- What an entry says. -/
def canE (e : Ev) : Ev := ⟨canM e.m, e.t, e.d⟩
structure OwnE (w : World) (base : Nat) (e : Ev) : Prop where
  m : OwnM w base e.m
  t : (Lit.int .i64 e.t).wf = true
theorem OwnE.ok {w : World} {base : Nat} {e : Ev} (h : OwnE w base e) : OkE w e := ⟨h.m.ok, h.t⟩
theorem OwnE.below {w w' : World} {base : Nat} {e : Ev} (h : OwnE w base e) (hb : Below w.heap.size w w') : OwnE w' base e := { h with m := h.m.below hb }
theorem OwnE.grown {w w' : World} {base b2 k n : Nat} {t : TypeId} {e : Ev} {v : Value} {xs : List Value} (h : OwnE w base e) (ht : 66 ≠ t) (ho : w.ownsRow b2 t k v n xs) (hg : w.grownBy w' v.ownBlock) : OwnE w' base e :=
  { h with m := h.m.grown ht ho hg }
theorem grown_setR (w : World) (b i : Nat) (v : Value) : w.grownBy (w.setCell ⟨b, i, none⟩ v) (some b) :=
  ⟨rfl, rfl, rfl, by simp [World.setCell], fun k _ hk => heap_setCell_other w ⟨b, i, none⟩ k v (fun e => hk (by simp [e]))⟩
/-- A block of another type is not a row's. -/
theorem row_notR {w : World} {b1 k1 n1 g : Nat} {t1 t2 : TypeId} {v : Value} {l : List Value} {x : Array Value} {fr : Nat × Nat} (ht : t1 ≠ t2) (h : w.ownsRow b1 t1 k1 v n1 l) (hg : w.heap[g]? = some (.cells x t2 fr)) : some g ≠ v.ownBlock := by
  rcases h.2 with ⟨rfl, _⟩ | ⟨q, cap, cur, rfl, _, hq, _⟩
  · simp [Value.ownBlock]
  · intro e
    have e' : g = q := by simpa [Value.ownBlock] using e
    rw [e', hq] at hg
    cases hg
    exact ht rfl
theorem OwnE.setR {w : World} {base g i : Nat} {e : Ev} {x : Array Value} {t : TypeId} {fr : Nat × Nat} (h : OwnE w base e) (ht : 66 ≠ t) (hg : w.heap[g]? = some (.cells x t fr)) (v : Value) : OwnE (w.setCell ⟨g, i, none⟩ v) base e :=
  { h with m := { h.m with ps := World.ownsRow.kept h.m.ps (grown_setR w g i v) (.inr (row_notR ht h.m.ps hg).symm) } }
/-- Entries of one's own. -/
structure OwnsEs (w : World) (base : Nat) (v : Value) (l : List Ev) : Prop where
  row : OwnsR encE 9 69 w base v l
  each : ∀ e ∈ l, OwnE w base e
theorem OwnsEs.far {w : World} {base : Nat} {v : Value} {l : List Ev} (h : OwnsEs w base v l) (p : Addr) (u : Value) (hp : p.block < base) : OwnsEs (w.setCell p u) base v l :=
  ⟨ownsRow_setCell_below h.row hp u, fun e he => { h.each e he with m := { (h.each e he).m with ps := ownsRow_setCell_below (h.each e he).m.ps hp u } }⟩
theorem OwnsEs.arg {w : World} {base : Nat} {a : Option Addr} {n c : Nat} {l : List Ev} (h : OwnsEs w base (.slice a n c) l) : EArg w a n c l := by
  obtain ⟨a', c', e, hr⟩ := OwnsR.arg encE_len h.row
  cases e
  exact ⟨hr, fun e he => (h.each e he).ok⟩
theorem nine_one {c s k lo hi2 old t : Int} {a : Option Addr} {n cp : Nat} {d : Bool} : ∀ u ∈ [Value.int .i64 c, .int .i64 s, .int .i64 k, .slice a n cp, .int .i64 lo, .int .i64 hi2, .int .i64 old, .int .i64 t, .bool d], u.oneCell' = true := by
  intro u hu
  simp at hu
  rcases hu with rfl | rfl | rfl | rfl | rfl | rfl | rfl | rfl | rfl <;> rfl
theorem cellR9 (w : World) (x : Array Value) (t : TypeId) (l : List Value) (hx : x.toList = l) : ∀ j u, l[j]? = some u → (w.alloc (.cells x t)).cell? ((⟨w.heap.size, 0, none⟩ : Addr).add j) = some u := by
  intro j u hj
  rw [addr_add, Nat.zero_add]
  exact (cellG rfl).trans (by rw [← hx] at hj; simpa using hj)
/-- Entries of the document's, given: they say what those say that were given. -/
def EntsPost (w : World) (l : List Ev) (e : Ending) (w' : World) : Prop := ∃ a n c k, e = .returned (.slice a n c) ∧ EArg w' a n c k ∧ k.map canE = l.map canE ∧ Below w.heap.size w w'
def CorePost (w : World) (l : List Ev) (e : Ending) (w' : World) : Prop := ∃ bs a n c k, e = .returned (.agg #[.int .i64 0, .int .i64 0, .int .i64 0, .int .i64 0, .bool false, .bool false, .slice none 0 0, bs, .slice a n c, .slice none 0 0]) ∧ EArg w' a n c k ∧ k.map canE = l.map canE ∧ Below w.heap.size w w'
set_option maxRecDepth 100000 in
set_option maxHeartbeats 8000000 in
theorem ref12_any (a : Option Addr) (n cp : Nat) (l : List Ev) (w : World) (hL : EArg w a n cp l) (hz : l.length ≤ 1000) (hps : ∀ j, j < l.length → l[j]!.m.n ≤ 100000) :
    Calls Try.prog 29 #[.agg #[.int .i64 0, .int .i64 0, .int .i64 0, .int .i64 0, .bool false, .bool false, .slice none 0 0, .slice none 0 0, .slice a n cp, .slice none 0 0]] w (CorePost w l) := by
  obtain ⟨i0, hi, hz0, hz1, hz2⟩ := info_parts Try.infoREnt
  obtain ⟨W0, hW0⟩ : ∃ W0, (w.alloc (.cells #[.int .i64 0, .int .i64 0, .int .i64 0, .int .i64 0, .bool false, .bool false, .slice none 0 0, .slice none 0 0, .slice a n cp, .slice none 0 0] 80)).alloc (.cells #[.int .i64 0, .int .i64 0, .int .i64 0, .int .i64 0, .bool false, .bool false, .slice none 0 0, .slice none 0 0, .slice none 0 0, .slice none 0 0] 75) = W0 := ⟨_, rfl⟩
  have bw : Below w.heap.size w W0 := by rw [← hW0]; exact ((Below.refl _ _).alloc (Nat.le_refl _) _).alloc (by simp) _
  have sw : W0.heap.size = w.heap.size + 2 := by rw [← hW0]; simp
  have k0 : W0.heap[w.heap.size]? = some (.cells #[.int .i64 0, .int .i64 0, .int .i64 0, .int .i64 0, .bool false, .bool false, .slice none 0 0, .slice none 0 0, .slice a n cp, .slice none 0 0] 80 (0, 0)) := by rw [← hW0, heap_alloc_old _ _ (by simp)]; exact heap_alloc_new w _
  have k1 : W0.heap[w.heap.size + 1]? = some (.cells #[.int .i64 0, .int .i64 0, .int .i64 0, .int .i64 0, .bool false, .bool false, .slice none 0 0, .slice none 0 0, .slice none 0 0, .slice none 0 0] 75 (0, 0)) := by
    have := heap_alloc_new (w.alloc (.cells #[.int .i64 0, .int .i64 0, .int .i64 0, .int .i64 0, .bool false, .bool false, .slice none 0 0, .slice none 0 0, .slice a n cp, .slice none 0 0] 80)) (.cells #[.int .i64 0, .int .i64 0, .int .i64 0, .int .i64 0, .bool false, .bool false, .slice none 0 0, .slice none 0 0, .slice none 0 0, .slice none 0 0] 75)
    rw [hW0] at this
    simpa using this
  have KA := Lib.hid (fun W (h : Below W0.heap.size W0 W) => (show W.heap[w.heap.size]? = some (.cells #[.int .i64 0, .int .i64 0, .int .i64 0, .int .i64 0, .bool false, .bool false, .slice none 0 0, .slice none 0 0, .slice a n cp, .slice none 0 0] 80 (0, 0)) from (h.block _ (by omega)).trans k0))
  have KZ := Lib.hid (fun W (h : Below W0.heap.size W0 W) => (show W.heap[w.heap.size + 1]? = some (.cells #[.int .i64 0, .int .i64 0, .int .i64 0, .int .i64 0, .bool false, .bool false, .slice none 0 0, .slice none 0 0, .slice none 0 0, .slice none 0 0] 75 (0, 0)) from (h.block _ (by omega)).trans k1))
  have HL := Lib.hid hL
  have HPS := Lib.hid hps
  obtain rfl : n = l.length := hL.row.1
  have SW := Lib.hid sw
  have sw1 : w.heap.size < W0.heap.size := by omega
  have sw2 : w.heap.size + 1 < W0.heap.size := by omega
  have BW := Lib.hid bw
  clear hL k0 k1 bw sw hps
  go_enter Try.func29, Try.ntmps29
  go_upto_region 1 with fail
  replace hW0 := Lib.hid hW0
  go_cut [3] from 9 to 22 (fun p wx => ∃ (g : Nat) (ab : Option Addr) (nb cb : Nat), p = .pointer (some ⟨g, 0, none⟩) ∧ W0.heap.size ≤ g ∧ wx.heap[g]? = some (.cells #[.int .i64 0, .int .i64 0, .int .i64 0, .int .i64 0, .bool false, .bool false, .slice none 0 0, .slice ab nb cb, .slice none 0 0, .slice none 0 0] 75 (0, 0)) ∧ Below W0.heap.size W0 wx)
  case first =>
    have HBD : Below W0.heap.size W0 W0 := Below.refl _ _
    have KS := Lib.hid (fun W (h : Below W0.heap.size W0 W) => (show W.cell? ⟨w.heap.size, 0, none⟩ = some (.int .i64 0) ∧ W.cell? ⟨w.heap.size, 1, none⟩ = some (.int .i64 0) ∧ W.cell? ⟨w.heap.size, 2, none⟩ = some (.int .i64 0) ∧ W.cell? ⟨w.heap.size, 3, none⟩ = some (.int .i64 0) ∧ W.cell? ⟨w.heap.size, 4, none⟩ = some (.bool false) ∧ W.cell? ⟨w.heap.size, 5, none⟩ = some (.bool false) ∧ W.cell? ⟨w.heap.size, 7, none⟩ = some (.slice none 0 0) from ⟨cell_of_row _ _ 0 _ _ _ (KA.out W h), cell_of_row _ _ 1 _ _ _ (KA.out W h), cell_of_row _ _ 2 _ _ _ (KA.out W h), cell_of_row _ _ 3 _ _ _ (KA.out W h), cell_of_row _ _ 4 _ _ _ (KA.out W h), cell_of_row _ _ 5 _ _ _ (KA.out W h), cell_of_row _ _ 7 _ _ _ (KA.out W h)⟩))
    (first | go_region_held3 (fun W => W.cell? ⟨w.heap.size, 0, none⟩ = some (.int .i64 0) ∧ W.cell? ⟨w.heap.size, 1, none⟩ = some (.int .i64 0) ∧ W.cell? ⟨w.heap.size, 2, none⟩ = some (.int .i64 0) ∧ W.cell? ⟨w.heap.size, 3, none⟩ = some (.int .i64 0) ∧ W.cell? ⟨w.heap.size, 4, none⟩ = some (.bool false) ∧ W.cell? ⟨w.heap.size, 5, none⟩ = some (.bool false) ∧ W.cell? ⟨w.heap.size, 7, none⟩ = some (.slice none 0 0)) (exact KS.out _ (by repeat (first | with_reducible exact HBD | with_reducible refine toDJ ?_ | with_reducible refine Below.alloc ?_ (by first | exact Nat.le_refl _ | omega | (simp; omega)) _ | with_reducible refine Below.setCell ?_ (by first | with_reducible exact Nat.le_refl _ | (dsimp only; omega)) _))) ((first
      | (go_at_call 11; (with_reducible refine (refs5_any none 0 0 [] _ (by simp) (Arg.nilJ _)).mono ?_); rintro e wz ⟨a6, n6, c6, rfl, _, bz⟩; have HBD := below_next (w := W0) (by repeat (first | with_reducible exact HBD | with_reducible refine toDJ ?_ | with_reducible refine Below.alloc ?_ (by first | exact Nat.le_refl _ | omega | (simp; omega)) _ | with_reducible refine Below.setCell ?_ (by first | with_reducible exact Nat.le_refl _ | (dsimp only; omega)) _)) bz; have HBZ := HBD.size; have kzb := (fun k hk => bz.block k hk); have kzc := (fun (i : Nat) h => bz.cell (p := ⟨W0.heap.size, i, none⟩) h); have kzf := (fun (i : Nat) h => bz.frozen (p := ⟨W0.heap.size, i, none⟩) h))
      | fail)) | fail)
    all_goals
      go_wp2_with fail
      go_meet
      first
        | exact ⟨_, _, _, _, rfl, HBZ, heap_alloc_new _ _, (by repeat (first | with_reducible exact HBD | with_reducible refine toDJ ?_ | with_reducible refine Below.alloc ?_ (by first | exact Nat.le_refl _ | omega | (simp; omega)) _ | with_reducible refine Below.setCell ?_ (by first | with_reducible exact Nat.le_refl _ | (dsimp only; omega)) _))⟩
        | (have hz4 : wz.heap[W0.heap.size]? = some (.cells #[.int .i64 0, .int .i64 0, .int .i64 0, .int .i64 0, .bool false, .bool false, .slice none 0 0, .slice none 0 0, .slice none 0 0, .slice none 0 0] 75 (0, 0)) := (kzb _ (by simp)).trans (heap_alloc_new _ _); exact ⟨_, _, _, _, rfl, Nat.le_refl _, heap_setCell_same _ _ 9 _ _ _ (heap_setCell_same _ _ 8 _ _ _ (heap_setCell_same _ _ 7 _ _ _ (heap_setCell_same _ _ 6 _ _ _ (heap_setCell_same _ _ 5 _ _ _ (heap_setCell_same _ _ 4 _ _ _ (heap_setCell_same _ _ 3 _ _ _ (heap_setCell_same _ _ 2 _ _ _ (heap_setCell_same _ _ 1 _ _ _ (heap_setCell_same _ _ 0 _ _ _ hz4))))))))), (by repeat (first | with_reducible exact HBD | with_reducible refine toDJ ?_ | with_reducible refine Below.alloc ?_ (by first | exact Nat.le_refl _ | omega | (simp; omega)) _ | with_reducible refine Below.setCell ?_ (by first | with_reducible exact Nat.le_refl _ | (dsimp only; omega)) _))⟩)
  case rest =>
    obtain ⟨g, ab, nb, cb, rfl, hg0, hgx, hbc⟩ := hcut
    obtain ⟨W5, hW5⟩ : ∃ W5, wc = W5 := ⟨_, rfl⟩
    rw [hW5] at hgx hbc ⊢
    clear hW5
    have r6 : W5.cell? ⟨w.heap.size, 6, none⟩ = some (.slice none 0 0) := cell_of_row _ _ 6 _ _ _ (KA.out _ hbc)
    have HGX := Lib.hid hgx
    clear hgx
    go_wp2_with fail
    refine wp_loop_rounds 1 ?_
    rw [rounds_succ]
    go_wp2_with fail
    go_loopw [7] (fun i wr => ∃ (j : Nat) (KL : List Ev) (v : Value), i = .int .i64 (j : Int) ∧ j ≤ l.length ∧ Hid (KL.map canE = (l.take j).map canE) ∧ Hid (wr.heap[g]? = some (.cells #[.int .i64 0, .int .i64 0, .int .i64 0, .int .i64 0, .bool false, .bool false, .slice none 0 0, .slice ab nb cb, v, .slice none 0 0] 75 (0, 0))) ∧ Hid (OwnsR encE 9 69 wr W0.heap.size v KL) ∧ Hid (∀ e ∈ KL, OwnE wr W0.heap.size e) ∧ Below W0.heap.size W0 wr) (fun i _ => l.length - (intOf i).toNat)
    case atStart => exact ⟨0, [], .slice none 0 0, rfl, Nat.zero_le _, Lib.hid rfl, HGX, Lib.hid (OwnsR.nil _ _ _ _ _), Lib.hid (by simp), hbc⟩
    case round =>
      obtain ⟨j, KL, v, rfl, hj, HK, HX, HO, HOk, hbl⟩ := hrel
      have hbw := BW.out.trans (hbl.mono BW.out.size)
      have hKl := Lib.hid (show KL.length = j by have h := congrArg List.length HK.out; simpa [Nat.min_eq_left hj] using h)
      have t8 : wr.cell? ⟨w.heap.size, 8, none⟩ = some (.slice a l.length cp) := cell_of_row _ _ 8 _ _ _ (KA.out _ hbl)
      have hgw : g < wr.heap.size := (Array.getElem?_eq_some_iff.1 HX.out).1
      by_cases hlt : j < l.length
      · have hjz : (j : Int) < (l.length : Int) := by omega
        have HT := Lib.hid (fun (e : Ev) (he : canE e = canE l[j]!) => (show (KL ++ [e]).map canE = (l.take (j + 1)).map canE by rw [take_moreG hlt, List.map_append, List.map_append, HK.out]; simp [he]))
        have ZK := Lib.hid (show KL.length ≤ 1000 by have := hKl.out; omega)
        have KR0 := Lib.hid (fun W (h : Below wr.heap.size wr W) => HL.out.cells (below_next hbw h) hlt)
        have ok := (HL.out.ok _ (mem_get! hlt))
        have hpn := HPS.out j hlt
        generalize l[j]! = ev at KR0 ok HT hpn
        obtain ⟨⟨c, s, k, am, nm, cm, ps, lo, hi2, old⟩, t, d⟩ := ev
        dsimp only at hpn
        obtain ⟨b, off, e, hb, _⟩ := KR0.out _ (Below.refl _ _)
        subst e
        have hbwr : b < wr.heap.size := by have := hbw.size; omega
        have KC := Lib.hid (fun W (h0 : Below W0.heap.size W0 W) (hx : W.heap[g]? = some (.cells #[.int .i64 0, .int .i64 0, .int .i64 0, .int .i64 0, .bool false, .bool false, .slice none 0 0, .slice ab nb cb, v, .slice none 0 0] 75 (0, 0))) (hh : W.cell? ⟨b, off + j * 9, none⟩ = some (.int .i64 c) ∧ W.cell? ⟨b, off + j * 9 + 1, none⟩ = some (.int .i64 s) ∧ W.cell? ⟨b, off + j * 9 + 2, none⟩ = some (.int .i64 k) ∧ W.cell? ⟨b, off + j * 9 + 3, none⟩ = some (.slice am nm cm) ∧ W.cell? ⟨b, off + j * 9 + 4, none⟩ = some (.int .i64 lo) ∧ W.cell? ⟨b, off + j * 9 + 5, none⟩ = some (.int .i64 hi2) ∧ W.cell? ⟨b, off + j * 9 + 6, none⟩ = some (.int .i64 old) ∧ W.cell? ⟨b, off + j * 9 + 7, none⟩ = some (.int .i64 t) ∧ W.cell? ⟨b, off + j * 9 + 8, none⟩ = some (.bool d)) => (show (fun W : World => W.cell? ⟨w.heap.size, 8, none⟩ = some (.slice (some ⟨b, off, none⟩) l.length cp) ∧ W.cell? ⟨g, 8, none⟩ = some v ∧ W.cell? ⟨b, off + j * 9, none⟩ = some (.int .i64 c) ∧ W.cell? ⟨b, off + j * 9 + 1, none⟩ = some (.int .i64 s) ∧ W.cell? ⟨b, off + j * 9 + 2, none⟩ = some (.int .i64 k) ∧ W.cell? ⟨b, off + j * 9 + 3, none⟩ = some (.slice am nm cm) ∧ W.cell? ⟨b, off + j * 9 + 4, none⟩ = some (.int .i64 lo) ∧ W.cell? ⟨b, off + j * 9 + 5, none⟩ = some (.int .i64 hi2) ∧ W.cell? ⟨b, off + j * 9 + 6, none⟩ = some (.int .i64 old) ∧ W.cell? ⟨b, off + j * 9 + 7, none⟩ = some (.int .i64 t) ∧ W.cell? ⟨b, off + j * 9 + 8, none⟩ = some (.bool d)) W from ⟨cell_of_row _ _ 8 _ _ _ (KA.out W h0), cell_of_row _ _ 8 _ _ _ hx, hh⟩))
        have KRr := Lib.hid (by
          obtain ⟨b', off', e', _, hh⟩ := KR0.out _ (Below.refl _ _)
          cases e'
          exact hh : wr.cell? ⟨b, off + j * 9, none⟩ = some (.int .i64 c) ∧ wr.cell? ⟨b, off + j * 9 + 1, none⟩ = some (.int .i64 s) ∧ wr.cell? ⟨b, off + j * 9 + 2, none⟩ = some (.int .i64 k) ∧ wr.cell? ⟨b, off + j * 9 + 3, none⟩ = some (.slice am nm cm) ∧ wr.cell? ⟨b, off + j * 9 + 4, none⟩ = some (.int .i64 lo) ∧ wr.cell? ⟨b, off + j * 9 + 5, none⟩ = some (.int .i64 hi2) ∧ wr.cell? ⟨b, off + j * 9 + 6, none⟩ = some (.int .i64 old) ∧ wr.cell? ⟨b, off + j * 9 + 7, none⟩ = some (.int .i64 t) ∧ wr.cell? ⟨b, off + j * 9 + 8, none⟩ = some (.bool d))
        have hbW0 : b < W0.heap.size := by omega
        have KB := Lib.hid (fun W (h : Below W0.heap.size W0 W) (hx : W.heap[g]? = some (.cells #[.int .i64 0, .int .i64 0, .int .i64 0, .int .i64 0, .bool false, .bool false, .slice none 0 0, .slice ab nb cb, v, .slice none 0 0] 75 (0, 0))) => (show (fun W : World => W.cell? ⟨w.heap.size, 8, none⟩ = some (.slice (some ⟨b, off, none⟩) l.length cp) ∧ W.cell? ⟨g, 8, none⟩ = some v ∧ W.cell? ⟨b, off + j * 9, none⟩ = some (.int .i64 c) ∧ W.cell? ⟨b, off + j * 9 + 1, none⟩ = some (.int .i64 s) ∧ W.cell? ⟨b, off + j * 9 + 2, none⟩ = some (.int .i64 k) ∧ W.cell? ⟨b, off + j * 9 + 3, none⟩ = some (.slice am nm cm) ∧ W.cell? ⟨b, off + j * 9 + 4, none⟩ = some (.int .i64 lo) ∧ W.cell? ⟨b, off + j * 9 + 5, none⟩ = some (.int .i64 hi2) ∧ W.cell? ⟨b, off + j * 9 + 6, none⟩ = some (.int .i64 old) ∧ W.cell? ⟨b, off + j * 9 + 7, none⟩ = some (.int .i64 t) ∧ W.cell? ⟨b, off + j * 9 + 8, none⟩ = some (.bool d)) W from by
          obtain ⟨y0, y1, y2, y3, y4, y5, y6, y7, y8⟩ := KRr.out
          have hq : ∀ i, W.cell? ⟨b, i, none⟩ = wr.cell? ⟨b, i, none⟩ := fun i => (h.cell (p := ⟨b, i, none⟩) hbW0).trans (hbl.cell (p := ⟨b, i, none⟩) hbW0).symm
          exact KC.out W h hx ⟨(hq _).trans y0, (hq _).trans y1, (hq _).trans y2, (hq _).trans y3, (hq _).trans y4, (hq _).trans y5, (hq _).trans y6, (hq _).trans y7, (hq _).trans y8⟩))
        have CR := Lib.hid (fun W (h : Below wr.heap.size wr W) => ref4O_any c s k am nm cm ps lo hi2 old W (by have h1 := ok.m.ps.1; dsimp only at h1; omega) (ok.m.ps.below (below_next hbw h)))
        have WF := Lib.hid (And.intro ok.m.c (And.intro ok.m.s ok.t))
        have hwsz := hbl.size
        clear ok KR0
        have hS := KB.out _ hbl.drew (show wr.drew.heap[g]? = _ from HX.out)
        have hbd : Below wr.heap.size wr wr.drew := (Below.refl _ _).drew
        go_wp2_with fail
        refine wp_region_last (fun W => W.cell? ⟨w.heap.size, 8, none⟩ = some (.slice (some ⟨b, off, none⟩) l.length cp) ∧ W.cell? ⟨g, 8, none⟩ = some v ∧ W.cell? ⟨b, off + j * 9, none⟩ = some (.int .i64 c) ∧ W.cell? ⟨b, off + j * 9 + 1, none⟩ = some (.int .i64 s) ∧ W.cell? ⟨b, off + j * 9 + 2, none⟩ = some (.int .i64 k) ∧ W.cell? ⟨b, off + j * 9 + 3, none⟩ = some (.slice am nm cm) ∧ W.cell? ⟨b, off + j * 9 + 4, none⟩ = some (.int .i64 lo) ∧ W.cell? ⟨b, off + j * 9 + 5, none⟩ = some (.int .i64 hi2) ∧ W.cell? ⟨b, off + j * 9 + 6, none⟩ = some (.int .i64 old) ∧ W.cell? ⟨b, off + j * 9 + 7, none⟩ = some (.int .i64 t) ∧ W.cell? ⟨b, off + j * 9 + 8, none⟩ = some (.bool d)) 25 (by kernel_rfl) ?_
        refine wpAnyL_take (i := 0) (v := ?_) rfl (by kernel_rfl) (by kernel_rfl) (by kernel_rfl) (by kernel_rfl) (fun _ _ _ h => h) (Or.inl ⟨by kernel_rfl, ?_⟩) hS ?_
        rotate_left
        · intro w hSw
          (try dsimp only at hSw)
          go_simp
          try with_reducible rfl
        try dsimp only [Act.put, List.getElem?_toArray, List.getElem?_cons_succ, List.getElem?_cons_zero, List.getElem_toArray, List.getElem_cons_succ, List.getElem_cons_zero]
        try simp only [List.setIfInBounds_toArray, List.set_cons_zero, List.set_cons_succ]
        refine wpAnyL_take (i := 1) (v := ?_) rfl (by kernel_rfl) (by kernel_rfl) (by kernel_rfl) (by kernel_rfl) (fun _ _ _ h => h) (Or.inl ⟨by kernel_rfl, ?_⟩) hS ?_
        rotate_left
        · intro w hSw
          (try dsimp only at hSw)
          go_simp
          try with_reducible rfl
        try dsimp only [Act.put, List.getElem?_toArray, List.getElem?_cons_succ, List.getElem?_cons_zero, List.getElem_toArray, List.getElem_cons_succ, List.getElem_cons_zero]
        try simp only [List.setIfInBounds_toArray, List.set_cons_zero, List.set_cons_succ]
        refine wpAnyL_take (i := 2) (v := ?_) rfl (by kernel_rfl) (by kernel_rfl) (by kernel_rfl) (by kernel_rfl) (fun _ _ _ h => h) (Or.inl ⟨by kernel_rfl, ?_⟩) hS ?_
        rotate_left
        · intro w hSw
          (try dsimp only at hSw)
          go_simp
          try with_reducible rfl
        try dsimp only [Act.put, List.getElem?_toArray, List.getElem?_cons_succ, List.getElem?_cons_zero, List.getElem_toArray, List.getElem_cons_succ, List.getElem_cons_zero]
        try simp only [List.setIfInBounds_toArray, List.set_cons_zero, List.set_cons_succ]
        refine wpAnyL_take (i := 3) (v := ?_) rfl (by kernel_rfl) (by kernel_rfl) (by kernel_rfl) (by kernel_rfl) (fun _ _ _ h => h) (Or.inl ⟨by kernel_rfl, ?_⟩) hS ?_
        rotate_left
        · intro w hSw
          (try dsimp only at hSw)
          go_simp
          try with_reducible rfl
        try dsimp only [Act.put, List.getElem?_toArray, List.getElem?_cons_succ, List.getElem?_cons_zero, List.getElem_toArray, List.getElem_cons_succ, List.getElem_cons_zero]
        try simp only [List.setIfInBounds_toArray, List.set_cons_zero, List.set_cons_succ]
        refine wpAnyL_take (i := 4) (v := ?_) rfl (by kernel_rfl) (by kernel_rfl) (by kernel_rfl) (by kernel_rfl) (fun _ _ _ h => h) (Or.inl ⟨by kernel_rfl, ?_⟩) hS ?_
        rotate_left
        · intro w hSw
          (try dsimp only at hSw)
          go_simp
          try with_reducible rfl
        try dsimp only [Act.put, List.getElem?_toArray, List.getElem?_cons_succ, List.getElem?_cons_zero, List.getElem_toArray, List.getElem_cons_succ, List.getElem_cons_zero]
        try simp only [List.setIfInBounds_toArray, List.set_cons_zero, List.set_cons_succ]
        refine wpAnyL_take (i := 5) (v := ?_) rfl (by kernel_rfl) (by kernel_rfl) (by kernel_rfl) (by kernel_rfl) (fun _ _ _ h => h) (Or.inl ⟨by kernel_rfl, ?_⟩) hS ?_
        rotate_left
        · intro w hSw
          (try dsimp only at hSw)
          go_simp
          try with_reducible rfl
        try dsimp only [Act.put, List.getElem?_toArray, List.getElem?_cons_succ, List.getElem?_cons_zero, List.getElem_toArray, List.getElem_cons_succ, List.getElem_cons_zero]
        try simp only [List.setIfInBounds_toArray, List.set_cons_zero, List.set_cons_succ]
        refine wpAnyL_take (i := 6) (v := ?_) rfl (by kernel_rfl) (by kernel_rfl) (by kernel_rfl) (by kernel_rfl) (fun _ _ _ h => h) (Or.inl ⟨by kernel_rfl, ?_⟩) hS ?_
        rotate_left
        · intro w hSw
          (try dsimp only at hSw)
          go_simp
          try with_reducible rfl
        try dsimp only [Act.put, List.getElem?_toArray, List.getElem?_cons_succ, List.getElem?_cons_zero, List.getElem_toArray, List.getElem_cons_succ, List.getElem_cons_zero]
        try simp only [List.setIfInBounds_toArray, List.set_cons_zero, List.set_cons_succ]
        refine wpAnyL_take (i := 7) (v := ?_) rfl (by kernel_rfl) (by kernel_rfl) (by kernel_rfl) (by kernel_rfl) (fun _ _ _ h => h) (Or.inl ⟨by kernel_rfl, ?_⟩) hS ?_
        rotate_left
        · intro w hSw
          (try dsimp only at hSw)
          go_simp
          try with_reducible rfl
        try dsimp only [Act.put, List.getElem?_toArray, List.getElem?_cons_succ, List.getElem?_cons_zero, List.getElem_toArray, List.getElem_cons_succ, List.getElem_cons_zero]
        try simp only [List.setIfInBounds_toArray, List.set_cons_zero, List.set_cons_succ]
        refine wpAnyL_take (i := 9) (v := ?_) rfl (by kernel_rfl) (by kernel_rfl) (by kernel_rfl) (by kernel_rfl) (fun _ _ _ h => h) (Or.inl ⟨by kernel_rfl, ?_⟩) hS ?_
        rotate_left
        · intro w hSw
          (try dsimp only at hSw)
          go_simp
          try with_reducible rfl
        try dsimp only [Act.put, List.getElem?_toArray, List.getElem?_cons_succ, List.getElem?_cons_zero, List.getElem_toArray, List.getElem_cons_succ, List.getElem_cons_zero]
        try simp only [List.setIfInBounds_toArray, List.set_cons_zero, List.set_cons_succ]
        refine wpAnyL_take (i := 10) (v := ?_) rfl (by kernel_rfl) (by kernel_rfl) (by kernel_rfl) (by kernel_rfl) (fun _ _ _ h => h) (Or.inl ⟨by kernel_rfl, ?_⟩) hS ?_
        rotate_left
        · intro w hSw
          (try dsimp only at hSw)
          go_simp
          try with_reducible rfl
        try dsimp only [Act.put, List.getElem?_toArray, List.getElem?_cons_succ, List.getElem?_cons_zero, List.getElem_toArray, List.getElem_cons_succ, List.getElem_cons_zero]
        try simp only [List.setIfInBounds_toArray, List.set_cons_zero, List.set_cons_succ]
        refine wpAnyL_take (i := 11) (v := ?_) rfl (by kernel_rfl) (by kernel_rfl) (by kernel_rfl) (by kernel_rfl) (fun _ _ _ h => h) (Or.inl ⟨by kernel_rfl, ?_⟩) hS ?_
        rotate_left
        · intro w hSw
          (try dsimp only at hSw)
          go_simp
          try with_reducible rfl
        try dsimp only [Act.put, List.getElem?_toArray, List.getElem?_cons_succ, List.getElem?_cons_zero, List.getElem_toArray, List.getElem_cons_succ, List.getElem_cons_zero]
        try simp only [List.setIfInBounds_toArray, List.set_cons_zero, List.set_cons_succ]
        refine wpAnyL_take (i := 12) (v := ?_) rfl (by kernel_rfl) (by kernel_rfl) (by kernel_rfl) (by kernel_rfl) (fun _ _ _ h => h) (Or.inl ⟨by kernel_rfl, ?_⟩) hS ?_
        rotate_left
        · intro w hSw
          (try dsimp only at hSw)
          go_simp
          try with_reducible rfl
        try dsimp only [Act.put, List.getElem?_toArray, List.getElem?_cons_succ, List.getElem?_cons_zero, List.getElem_toArray, List.getElem_cons_succ, List.getElem_cons_zero]
        try simp only [List.setIfInBounds_toArray, List.set_cons_zero, List.set_cons_succ]
        refine wpAnyL_take (i := 13) (v := ?_) rfl (by kernel_rfl) (by kernel_rfl) (by kernel_rfl) (by kernel_rfl) (fun _ _ _ h => h) (Or.inl ⟨by kernel_rfl, ?_⟩) hS ?_
        rotate_left
        · intro w hSw
          (try dsimp only at hSw)
          go_simp
          try with_reducible rfl
        try dsimp only [Act.put, List.getElem?_toArray, List.getElem?_cons_succ, List.getElem?_cons_zero, List.getElem_toArray, List.getElem_cons_succ, List.getElem_cons_zero]
        try simp only [List.setIfInBounds_toArray, List.set_cons_zero, List.set_cons_succ]
        refine wpAnyL_take (i := 14) (v := ?_) rfl (by kernel_rfl) (by kernel_rfl) (by kernel_rfl) (by kernel_rfl) (fun _ _ _ h => h) (Or.inl ⟨by kernel_rfl, ?_⟩) hS ?_
        rotate_left
        · intro w hSw
          (try dsimp only at hSw)
          go_simp
          try with_reducible rfl
        try dsimp only [Act.put, List.getElem?_toArray, List.getElem?_cons_succ, List.getElem?_cons_zero, List.getElem_toArray, List.getElem_cons_succ, List.getElem_cons_zero]
        try simp only [List.setIfInBounds_toArray, List.set_cons_zero, List.set_cons_succ]
        refine wpAnyL_take (i := 15) (v := ?_) rfl (by kernel_rfl) (by kernel_rfl) (by kernel_rfl) (by kernel_rfl) (fun _ _ _ h => h) (Or.inl ⟨by kernel_rfl, ?_⟩) hS ?_
        rotate_left
        · intro w hSw
          (try dsimp only at hSw)
          go_simp
          try with_reducible rfl
        try dsimp only [Act.put, List.getElem?_toArray, List.getElem?_cons_succ, List.getElem?_cons_zero, List.getElem_toArray, List.getElem_cons_succ, List.getElem_cons_zero]
        try simp only [List.setIfInBounds_toArray, List.set_cons_zero, List.set_cons_succ]
        refine wpAnyL_take (i := 16) (v := ?_) rfl (by kernel_rfl) (by kernel_rfl) (by kernel_rfl) (by kernel_rfl) (fun _ _ _ h => h) (Or.inl ⟨by kernel_rfl, ?_⟩) hS ?_
        rotate_left
        · intro w hSw
          (try dsimp only at hSw)
          go_simp
          try with_reducible rfl
        try dsimp only [Act.put, List.getElem?_toArray, List.getElem?_cons_succ, List.getElem?_cons_zero, List.getElem_toArray, List.getElem_cons_succ, List.getElem_cons_zero]
        try simp only [List.setIfInBounds_toArray, List.set_cons_zero, List.set_cons_succ]
        refine wpAnyL_take (i := 17) (v := ?_) rfl (by kernel_rfl) (by kernel_rfl) (by kernel_rfl) (by kernel_rfl) (fun _ _ _ h => h) (Or.inl ⟨by kernel_rfl, ?_⟩) hS ?_
        rotate_left
        · intro w hSw
          (try dsimp only at hSw)
          go_simp
          try with_reducible rfl
        try dsimp only [Act.put, List.getElem?_toArray, List.getElem?_cons_succ, List.getElem?_cons_zero, List.getElem_toArray, List.getElem_cons_succ, List.getElem_cons_zero]
        try simp only [List.setIfInBounds_toArray, List.set_cons_zero, List.set_cons_succ]
        refine wpAnyL_take (i := 18) (v := ?_) rfl (by kernel_rfl) (by kernel_rfl) (by kernel_rfl) (by kernel_rfl) (fun _ _ _ h => h) (Or.inl ⟨by kernel_rfl, ?_⟩) hS ?_
        rotate_left
        · intro w hSw
          (try dsimp only at hSw)
          go_simp
          try with_reducible rfl
        try dsimp only [Act.put, List.getElem?_toArray, List.getElem?_cons_succ, List.getElem?_cons_zero, List.getElem_toArray, List.getElem_cons_succ, List.getElem_cons_zero]
        try simp only [List.setIfInBounds_toArray, List.set_cons_zero, List.set_cons_succ]
        refine wpAnyL_take (i := 19) (v := ?_) rfl (by kernel_rfl) (by kernel_rfl) (by kernel_rfl) (by kernel_rfl) (fun _ _ _ h => h) (Or.inl ⟨by kernel_rfl, ?_⟩) hS ?_
        rotate_left
        · intro w hSw
          (try dsimp only at hSw)
          go_simp
          try with_reducible rfl
        try dsimp only [Act.put, List.getElem?_toArray, List.getElem?_cons_succ, List.getElem?_cons_zero, List.getElem_toArray, List.getElem_cons_succ, List.getElem_cons_zero]
        try simp only [List.setIfInBounds_toArray, List.set_cons_zero, List.set_cons_succ]
        refine wpAnyL_take (i := 20) (v := ?_) rfl (by kernel_rfl) (by kernel_rfl) (by kernel_rfl) (by kernel_rfl) (fun _ _ _ h => h) (Or.inl ⟨by kernel_rfl, ?_⟩) hS ?_
        rotate_left
        · intro w hSw
          (try dsimp only at hSw)
          go_simp
          try with_reducible rfl
        try dsimp only [Act.put, List.getElem?_toArray, List.getElem?_cons_succ, List.getElem?_cons_zero, List.getElem_toArray, List.getElem_cons_succ, List.getElem_cons_zero]
        try simp only [List.setIfInBounds_toArray, List.set_cons_zero, List.set_cons_succ]
        refine wpAnyL_ready (rs := [8]) (by kernel_rfl) (by simp) (AllReadyL.cons rfl (fun K hK => ?_) AllReadyL.nil)
        go_simp
        go_wp2_with (go_at_call 16; (with_reducible refine (CR.out _ hbd).mono ?_); rintro e w6 ⟨a4, n4, c4, rfl, e4, h4, b4⟩; have b04 := below_next hbd b4; have M4 := Lib.hid (show OwnE w6 W0.heap.size ⟨⟨c, s, k, a4, n4, c4, ps, lo, hi2, old⟩, t, d⟩ from ⟨⟨e4, OwnsP.base_le h4 hwsz, WF.out.1, WF.out.2.1⟩, WF.out.2.2⟩); have HOk4 := Lib.hid (fun e he => (HOk.out e he).below b04); have HO4 := Lib.hid (OwnsR.below HO.out b04); have hx4 := (b04.block g hgw).trans HX.out; have hbl4 := hbl.trans (b04.mono hbl.size); have hS1 := KB.out _ hbl4 hx4; replace hx4 := Lib.hid hx4; clear h4 e4)
        refine hK.out _ _ (.inr hS1) ?_
        clear hK K hS
        try dsimp only [Act.put, List.getElem?_toArray, List.getElem?_cons_succ, List.getElem?_cons_zero, List.getElem_toArray, List.getElem_cons_succ, List.getElem_cons_zero]
        try simp only [List.setIfInBounds_toArray, List.set_cons_zero, List.set_cons_succ]
        refine wpAnyL_take (i := 21) (v := ?_) rfl (by kernel_rfl) (by kernel_rfl) (by kernel_rfl) (by kernel_rfl) (fun _ _ _ h => h) (Or.inl ⟨by kernel_rfl, ?_⟩) hS1 ?_
        rotate_left
        · intro w hSw
          (try dsimp only at hSw)
          go_simp
          try with_reducible rfl
        try dsimp only [Act.put, List.getElem?_toArray, List.getElem?_cons_succ, List.getElem?_cons_zero, List.getElem_toArray, List.getElem_cons_succ, List.getElem_cons_zero]
        try simp only [List.setIfInBounds_toArray, List.set_cons_zero, List.set_cons_succ]
        have ba := (Below.refl w6.heap.size w6).alloc (Nat.le_refl _) (.cells #[.int .i64 c, .int .i64 s, .int .i64 k, .slice a4 n4 c4, .int .i64 lo, .int .i64 hi2, .int .i64 old, .int .i64 t, .bool d] 69)
        have hbl5 : Below W0.heap.size W0 (w6.alloc (.cells #[.int .i64 c, .int .i64 s, .int .i64 k, .slice a4 n4 c4, .int .i64 lo, .int .i64 hi2, .int .i64 old, .int .i64 t, .bool d] 69)) := hbl4.trans (ba.mono hbl4.size)
        have hx5 : (w6.alloc (.cells #[.int .i64 c, .int .i64 s, .int .i64 k, .slice a4 n4 c4, .int .i64 lo, .int .i64 hi2, .int .i64 old, .int .i64 t, .bool d] 69)).heap[g]? = some (.cells #[.int .i64 0, .int .i64 0, .int .i64 0, .int .i64 0, .bool false, .bool false, .slice none 0 0, .slice ab nb cb, v, .slice none 0 0] 75 (0, 0)) := (ba.block g (Nat.lt_of_lt_of_le hgw b04.size)).trans hx4.out
        have hS2 := KB.out _ hbl5 hx5
        have oa := OwnsR.below HO4.out ba
        have HD := Lib.hid oa
        have B63 := Lib.hid (show KL.length + 1 ≤ maxLen by have := ZK.out; unfold maxLen; omega)
        have BBY := Lib.hid (show (KL.length + 1) * 88 ≤ 140737488355328 by have := ZK.out; omega)
        have HBS := Lib.hid hbl5.size
        have HH := Lib.hid (show (w6.alloc (.cells #[.int .i64 c, .int .i64 s, .int .i64 k, .slice a4 n4 c4, .int .i64 lo, .int .i64 hi2, .int .i64 old, .int .i64 t, .bool d] 69)).heap.size = w6.heap.size + 1 by simp)
        have HG := Lib.hid (fun w1 (hg : (w6.alloc (.cells #[.int .i64 c, .int .i64 s, .int .i64 k, .slice a4 n4 c4, .int .i64 lo, .int .i64 hi2, .int .i64 old, .int .i64 t, .bool d] 69)).grownBy w1 v.ownBlock) => (show w1.heap[g]? = some (.cells #[.int .i64 0, .int .i64 0, .int .i64 0, .int .i64 0, .bool false, .bool false, .slice none 0 0, .slice ab nb cb, v, .slice none 0 0] 75 (0, 0)) ∧ Below W0.heap.size W0 w1 ∧ ∀ e ∈ KL ++ [(⟨⟨c, s, k, a4, n4, c4, ps, lo, hi2, old⟩, t, d⟩ : Ev)], OwnE w1 W0.heap.size e from
          ⟨(hg.block g (Nat.lt_of_lt_of_le hgw (Nat.le_trans b04.size ba.size)) (row_notR (by decide) oa hx5)).trans hx5, hbl5.grown hg hbl5.size (fun k hk => (World.ownsRow.lt oa k hk).1), fun e he => by
            rcases List.mem_append.1 he with he | he
            · exact ((HOk4.out e he).below ba).grown (by decide) oa hg
            · obtain rfl : e = ⟨⟨c, s, k, a4, n4, c4, ps, lo, hi2, old⟩, t, d⟩ := by simpa using he
              exact (M4.out.below ba).grown (by decide) oa hg⟩))
        clear oa hx5
        refine wpAnyL_ready (rs := [22]) (by kernel_rfl) (by simp) (AllReadyL.cons rfl (fun K hK => ?_) AllReadyL.nil)
        go_simp
        refine hK.out _ _ (.inr hS2) ?_
        clear hK K hS1
        try dsimp only [Act.put, List.getElem?_toArray, List.getElem?_cons_succ, List.getElem?_cons_zero, List.getElem_toArray, List.getElem_cons_succ, List.getElem_cons_zero]
        try simp only [List.setIfInBounds_toArray, List.set_cons_zero, List.set_cons_succ]
        refine wpAnyL_ready (rs := [23]) (by kernel_rfl) (by simp) (AllReadyL.cons rfl (fun K hK => ?_) AllReadyL.nil)
        refine step_append_lies _ rfl (.tmp 89) (.tmp 110) 32 rfl W0.heap.size 69 i0 (.agg #[.int .i64 0, .int .i64 0, .int .i64 0, .slice none 0 0, .int .i64 0, .int .i64 0, .int .i64 0, .int .i64 0, .bool false]) 9 88 Try.underlying32 hi hz0 hz1 hz2 rfl (by decide) _ _ _ rfl HD.out ⟨w6.heap.size, 0, none⟩ 1 1 [.int .i64 c, .int .i64 s, .int .i64 k, .slice a4 n4 c4, .int .i64 lo, .int .i64 hi2, .int .i64 old, .int .i64 t, .bool d] rfl rfl (cellR9 w6 _ _ _ rfl) nine_one (by decide) B63.out BBY.out HBS.out (w6.heap.size + 1) HH.out ?_
        intro ga cap w1 hown1 hgrow1 _ _
        obtain ⟨g1, g2, g3⟩ := HG.out _ hgrow1
        have z8 : w1.cell? ⟨g, 8, none⟩ = some v := cell_of_row _ _ 8 _ _ _ g1
        have f8 : w1.frozen? ⟨g, 8, none⟩ = false := frozen_of_row _ _ 8 _ _ g1
        have hS3 := KB.out _ g2 g1
        obtain ⟨Wn, hWn⟩ : ∃ Wn, w1.setCell ⟨g, 8, none⟩ (.slice (some ⟨ga, 0, none⟩) (KL.length + 1) cap) = Wn := ⟨_, rfl⟩
        have N1 : Hid (Wn.heap[g]? = some (.cells #[.int .i64 0, .int .i64 0, .int .i64 0, .int .i64 0, .bool false, .bool false, .slice none 0 0, .slice ab nb cb, .slice (some ⟨ga, 0, none⟩) (KL.length + 1) cap, .slice none 0 0] 75 (0, 0))) := Lib.hid (by rw [← hWn]; exact heap_setCell_same _ _ 8 _ _ _ g1)
        have N2 : Hid (OwnsR encE 9 69 Wn W0.heap.size (.slice (some ⟨ga, 0, none⟩) (KL.length + 1) cap) (KL ++ [⟨⟨c, s, k, a4, n4, c4, ps, lo, hi2, old⟩, t, d⟩])) := Lib.hid (by rw [← hWn]; exact World.ownsRow.kept (OwnsR.snoc (enc := encE) (x := (⟨⟨c, s, k, a4, n4, c4, ps, lo, hi2, old⟩, t, d⟩ : Ev)) rfl hown1) (grown_setR _ _ _ _) (.inr (row_notR (by decide) hown1 g1).symm))
        have N3 : Hid (∀ e ∈ KL ++ [(⟨⟨c, s, k, a4, n4, c4, ps, lo, hi2, old⟩, t, d⟩ : Ev)], OwnE Wn W0.heap.size e) := Lib.hid (by rw [← hWn]; exact fun e he => (g3 e he).setR (by decide) g1 _)
        have N4 : Below W0.heap.size W0 Wn := by rw [← hWn]; exact g2.setCell (p := ⟨g, 8, none⟩) hg0 _
        refine hK.out _ _ (.inr hS3) ?_
        clear hK K hS2 hown1 hgrow1 g1 g2 g3
        try dsimp only [Act.put, List.getElem?_toArray, List.getElem?_cons_succ, List.getElem?_cons_zero, List.getElem_toArray, List.getElem_cons_succ, List.getElem_cons_zero]
        try simp only [List.setIfInBounds_toArray, List.set_cons_zero, List.set_cons_succ]
        refine wpAnyL_take (i := 24) (v := ?_) rfl (by kernel_rfl) (by kernel_rfl) (by kernel_rfl) (by kernel_rfl) (fun _ _ _ h => h) (Or.inl ⟨by kernel_rfl, ?_⟩) hS3 ?_
        rotate_left
        · intro w hSw
          (try dsimp only at hSw)
          go_simp
          try with_reducible rfl
        try dsimp only [Act.put, List.getElem?_toArray, List.getElem?_cons_succ, List.getElem?_cons_zero, List.getElem_toArray, List.getElem_cons_succ, List.getElem_cons_zero]
        try simp only [List.setIfInBounds_toArray, List.set_cons_zero, List.set_cons_succ]
        refine wpAnyL_ready (rs := [25]) (by kernel_rfl) (by simp) (AllReadyL.cons rfl (fun K hK => ?_) AllReadyL.nil)
        go_simp
        refine hK.out _ _ (.inl rfl) ?_
        clear hK K
        try dsimp only [Act.put, List.getElem?_toArray, List.getElem?_cons_succ, List.getElem?_cons_zero, List.getElem_toArray, List.getElem_cons_succ, List.getElem_cons_zero]
        try simp only [List.setIfInBounds_toArray, List.set_cons_zero, List.set_cons_succ]
        refine wpAnyL_done (by kernel_rfl) ?_ _
        clear hS3 KB KC KRr z8 f8
        go_wp2_with fail
        go_roundw
        case rel => exact ⟨j + 1, _, _, by go_num, by omega, Lib.hid (HT.out ⟨⟨c, s, k, a4, n4, c4, ps, lo, hi2, old⟩, t, d⟩ rfl), N1, N2, N3, N4⟩
        case measure => simp [intOf]; omega
      · have hjz : ¬ (j : Int) < (l.length : Int) := by omega
        have hk := HK.out
        rw [List.take_of_length_le (by omega)] at hk
        obtain ⟨ar, cr, rfl, hr⟩ := OwnsR.arg encE_len HO.out
        have HE := Lib.hid (OwnsEs.mk HO.out HOk.out)
        have t9 : wr.cell? ⟨w.heap.size, 9, none⟩ = some (.slice none 0 0) := cell_of_row _ _ 9 _ _ _ (KA.out _ hbl)
        have x := fun i => cell_of_row _ _ i _ _ _ HX.out
        have x0 : wr.cell? ⟨g, 0, none⟩ = some (.int .i64 0) := x 0
        have x1 : wr.cell? ⟨g, 1, none⟩ = some (.int .i64 0) := x 1
        have x2 : wr.cell? ⟨g, 2, none⟩ = some (.int .i64 0) := x 2
        have x3 : wr.cell? ⟨g, 3, none⟩ = some (.int .i64 0) := x 3
        have x4 : wr.cell? ⟨g, 4, none⟩ = some (.bool false) := x 4
        have x5 : wr.cell? ⟨g, 5, none⟩ = some (.bool false) := x 5
        have x6 : wr.cell? ⟨g, 6, none⟩ = some (.slice none 0 0) := x 6
        have x7 : wr.cell? ⟨g, 7, none⟩ = some (.slice ab nb cb) := x 7
        have x8 : wr.cell? ⟨g, 8, none⟩ = some (.slice ar KL.length cr) := x 8
        have x9 : wr.cell? ⟨g, 9, none⟩ = some (.slice none 0 0) := x 9
        have HZK := Lib.hid (KZ.out _ hbl)
        have yf : ∀ i, wr.frozen? ⟨w.heap.size + 1, i, none⟩ = false := fun i => frozen_of_row _ _ i _ _ HZK.out
        have y := fun i => cell_of_row _ _ i _ _ _ HZK.out
        have y0 : wr.cell? ⟨w.heap.size + 1, 0, none⟩ = some (.int .i64 0) := y 0
        have y1 : wr.cell? ⟨w.heap.size + 1, 1, none⟩ = some (.int .i64 0) := y 1
        have y2 : wr.cell? ⟨w.heap.size + 1, 2, none⟩ = some (.int .i64 0) := y 2
        have y3 : wr.cell? ⟨w.heap.size + 1, 3, none⟩ = some (.int .i64 0) := y 3
        have y4 : wr.cell? ⟨w.heap.size + 1, 4, none⟩ = some (.bool false) := y 4
        have y5 : wr.cell? ⟨w.heap.size + 1, 5, none⟩ = some (.bool false) := y 5
        have y6 : wr.cell? ⟨w.heap.size + 1, 6, none⟩ = some (.slice none 0 0) := y 6
        have y7 : wr.cell? ⟨w.heap.size + 1, 7, none⟩ = some (.slice none 0 0) := y 7
        have y8 : wr.cell? ⟨w.heap.size + 1, 8, none⟩ = some (.slice none 0 0) := y 8
        have y9 : wr.cell? ⟨w.heap.size + 1, 9, none⟩ = some (.slice none 0 0) := y 9
        have HKk := Lib.hid hk
        have hne : g ≠ w.heap.size + 1 := by have := hg0; omega
        clear x y hr hk HX HO HOk HK hKl
        generalize KL.length = nk at *
        go_wp2_with fail
        refine wp_loop_rounds 1 ?_
        rw [rounds_succ]
        go_wp2_with fail
        refine bodyPost_ret (v := .agg #[.int .i64 0, .int .i64 0, .int .i64 0, .int .i64 0, .bool false, .bool false, .slice none 0 0, .slice ab nb cb, .slice ar nk cr, .slice none 0 0]) (by simp [results, Try.results29, go_sem, y0, y1, y2, y3, y4, y5, y6, y7, y8, y9]) rfl ⟨_, _, _, _, KL, rfl, ?_, HKk.out, ?_⟩
        · refine OwnsEs.arg (base := W0.heap.size) ?_
          repeat (first | with_reducible exact HE.out | with_reducible refine OwnsEs.far ?_ _ _ (by show w.heap.size + 1 < _; exact sw2))
        · repeat (first | with_reducible exact hbw | with_reducible refine Below.setCell ?_ (by show w.heap.size ≤ w.heap.size + 1; omega) _)
theorem plen_of {l : List Ev} (hf : fewE l = true) : l.length ≤ 1000 ∧ ∀ j, j < l.length → l[j]!.m.n ≤ 100000 := by
  unfold fewE at hf
  rw [Bool.and_eq_true, List.all_eq_true] at hf
  have h1 := of_decide_eq_true hf.1
  refine ⟨by omega, fun j hj => ?_⟩
  have := of_decide_eq_true (hf.2 _ (mem_get! hj))
  omega
set_option maxRecDepth 100000 in
theorem ents15_any (a : Option Addr) (n cp : Nat) (l : List Ev) (w : World) (hL : EArg w a n cp l) (hf : fewE l = true) :
    Calls Try.prog 14 #[.slice a n cp] w (EntsPost w l) := by
  obtain ⟨h1, h2⟩ := plen_of hf
  have C := Lib.hid (ref12_any a n cp l w hL h1 h2)
  have hfld : ∀ (W : World) (bs : Value) (x : Option Addr) (xn xc : Nat), (Instr.field 75 (.agg #[.int .i64 0, .int .i64 0, .int .i64 0, .int .i64 0, .bool false, .bool false, .slice none 0 0, bs, .slice x xn xc, .slice none 0 0]) 7).run Try.prog W = .ok (.slice x xn xc) W := fun _ _ _ _ _ => by kernel_rfl
  clear hL hf h1 h2
  go_enter Try.func14, Try.ntmps14
  go_wp2_with (go_at_call 29; (with_reducible refine C.out.mono ?_); rintro e w2 ⟨bs, a2, n2, c2, k, rfl, h2, hk, b2⟩; have H := Lib.hid (And.intro h2 hk); clear h2 hk)
  go_ret
  exact ⟨_, _, _, k, rfl, H.out.1, H.out.2, b2⟩
theorem foldE_map (l : List Ev) (on : List Sp) (mark : Int) : foldE (l.map canE) on mark = foldE l on mark := by
  have e1 : ((l.map canE).all fun e => chkV e.m) = l.all fun e => chkV e.m := by rw [List.all_map]; rfl
  have e2 : upE (l.map canE) mark = (upE l mark).map canM := by
    unfold upE
    rw [List.filter_map, List.map_map, List.map_map]
    rfl
  unfold foldE
  rw [e1, e2, ontoP_map]
theorem foldE_can {l k : List Ev} (h : k.map canE = l.map canE) (on : List Sp) (mark : Int) : foldE k on mark = foldE l on mark := by
  rw [← foldE_map k, h, foldE_map]
theorem clB_map (l : List Ev) : clB (l.map canE) = clB l := by
  exact decide_eq_decide.2 List.pairwise_map
theorem clB_can {l k : List Ev} (h : k.map canE = l.map canE) : clB k = clB l := by
  rw [← clB_map k, h, clB_map]
end Go.Proofs.Ythofoidafdbgcaa
