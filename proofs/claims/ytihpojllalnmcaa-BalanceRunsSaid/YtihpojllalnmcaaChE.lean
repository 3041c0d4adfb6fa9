/-
  CONTRACT: chart.Apply.
-/
import Derived.Test.YtihpojllalnmcaaChD
import Derived.Deep.DeepCutAuto
import Derived.BigQuiet
namespace Go.Proofs.Ytihpojllalnmcaa
open Go.RowKit Go.Shelf Go.ChangeShapes Go.WideShapes Go.Deep

/-- What a change makes: the chart, the old ones, the fresh ones, the error. -/
structure Made where
  ep : Int
  nx : Int
  l : List Sd
  old : List Sd
  fresh : List Sd
  e : Int
def badM (e : Int) : Made := ⟨0, 0, [], [], [], e⟩
def goodM (ep nx : Int) (l : List Sd) (k at_ : Int) (i : Nat) : Made :=
  let old := (l.drop i).take (repN k)
  let fresh := succC k at_ nx old[0]! old[1]!
  if chkC (ep + 1) (nx + fresh.length) (l.take i ++ (fresh ++ l.drop (i + repN k))) = true then ⟨ep + 1, nx + fresh.length, l.take i ++ (fresh ++ l.drop (i + repN k)), old, fresh, 0⟩ else badM 2
def appC (ep nx : Int) (l : List Sd) (k id at_ : Int) : Made :=
  if ¬ (chkC ep nx l = true ∧ chgB k at_ = true) then badM 1
  else if idxC (fun x => x.1 == id) l < 0 ∨ (l.length : Int) < idxC (fun x => x.1 == id) l + repN k then badM 4
  else if k = 1 ∧ insB at_ l[(idxC (fun x => x.1 == id) l).toNat]!.2.1 l[(idxC (fun x => x.1 == id) l).toNat]!.2.2.1 = false then badM 1
  else goodM ep nx l k at_ (idxC (fun x => x.1 == id) l).toNat
/-- A row in memory from block B on. -/
def NewAt (B : Nat) (a : Option Addr) : Prop := ∀ p, a = some p → B ≤ p.block
theorem NewAt.none (B : Nat) : NewAt B none := fun _ h => by cases h
theorem OwnsR.newAt {t : TypeId} {W : World} {base : Nat} {a : Option Addr} {n c : Nat} {l : List Sd} (h : OwnsR encS 4 t W base (.slice a n c) l) {B : Nat} (hB : B ≤ base) : NewAt B a := fun p hp => by
  subst hp
  exact Nat.le_trans hB (World.ownsRow.lt h p.block rfl).1
/-- A row in a block of shards. -/
def TRow (W : World) (a : Option Addr) : Prop := ∀ p, a = some p → ∃ cur fr, W.heap[p.block]? = some (.cells cur 61 fr)
theorem TRow.none (W : World) : TRow W none := fun _ h => by cases h
theorem TRow.below {W W' : World} {a : Option Addr} (h : TRow W a) (hb : Below W.heap.size W W') : TRow W' a := fun p hp => by
  obtain ⟨cur, fr, hc⟩ := h p hp
  have hlt : p.block < W.heap.size := by
    rcases Nat.lt_or_ge p.block W.heap.size with q | q
    · exact q
    · rw [Array.getElem?_eq_none q] at hc; cases hc
  exact ⟨cur, fr, (hb.block p.block hlt).trans hc⟩
theorem OwnsR.trow {W : World} {base : Nat} {a : Option Addr} {n c : Nat} {l : List Sd} (h : OwnsR encS 4 61 W base (.slice a n c) l) : TRow W a := fun p hp => by
  subst hp
  rcases h.2 with ⟨e, _⟩ | ⟨g, cap, cur, e, _, hg, _⟩
  · cases e
  · cases e
    exact ⟨cur, _, hg⟩
def MadePost (r : Made) (w : World) (e : Ending) (w' : World) : Prop := ∃ a n c a2 n2 c2 a3 n3 c3,
  e = .returned (.tuple #[.agg #[.int .i64 r.ep, .int .i64 r.nx, .slice a n c], .slice a2 n2 c2, .slice a3 n3 c3, .int .i64 r.e]) ∧ RArg encS 4 w' a n c r.l ∧ RArg encS 4 w' a2 n2 c2 r.old ∧ RArg encS 4 w' a3 n3 c3 r.fresh ∧ Below w.heap.size w w' ∧ NewAt w.heap.size a ∧ NewAt w.heap.size a2 ∧ NewAt w.heap.size a3 ∧ TRow w' a
theorem ap_ret {r : Made} {e : Int} (h : r = badM e) : Ending.returned (.tuple #[.agg #[.int .i64 0, .int .i64 0, .slice none 0 0], .slice none 0 0, .slice none 0 0, .int .i64 e]) = .returned (.tuple #[.agg #[.int .i64 r.ep, .int .i64 r.nx, .slice none 0 0], .slice none 0 0, .slice none 0 0, .int .i64 r.e]) := by rw [h]; rfl
theorem succC_len (k at_ nx : Int) (o0 o1 : Sd) : (succC k at_ nx o0 o1).length = if k = 1 then 2 else 1 := by
  unfold succC
  split
  · rfl
  · split
    · rfl
    · split <;> rfl
theorem box3Z {w W : World} {t : TypeId} {x y z : Value} (hb : Below (w.alloc (.cells #[x, y, z] t)).heap.size (w.alloc (.cells #[x, y, z] t)) W) :
    W.cell? ⟨w.heap.size, 0, none⟩ = some x ∧ W.cell? ⟨w.heap.size, 1, none⟩ = some y ∧ W.cell? ⟨w.heap.size, 2, none⟩ = some z ∧ W.frozen? ⟨w.heap.size, 0, none⟩ = false ∧ W.frozen? ⟨w.heap.size, 1, none⟩ = false ∧ W.frozen? ⟨w.heap.size, 2, none⟩ = false := by
  have hs : w.heap.size < (w.alloc (.cells #[x, y, z] t)).heap.size := by simp
  have c := fun i => hb.cell (p := ⟨w.heap.size, i, none⟩) hs
  have f := fun i => (hb.frozen (p := ⟨w.heap.size, i, none⟩) hs).trans (frozen_of_row _ _ i _ _ (heap_alloc_new _ _))
  exact ⟨(c 0).trans (cell_of_row _ _ 0 _ _ _ (heap_alloc_new _ _)), (c 1).trans (cell_of_row _ _ 1 _ _ _ (heap_alloc_new _ _)), (c 2).trans (cell_of_row _ _ 2 _ _ _ (heap_alloc_new _ _)), f 0, f 1, f 2⟩
theorem set3J {W : World} {b : Nat} {x y z u v q : Value} (h0 : W.cell? ⟨b, 0, none⟩ = some x) (h1 : W.cell? ⟨b, 1, none⟩ = some y) (h2 : W.cell? ⟨b, 2, none⟩ = some z) :
    (((W.setCell ⟨b, 0, none⟩ u).setCell ⟨b, 1, none⟩ v).setCell ⟨b, 2, none⟩ q).cell? ⟨b, 0, none⟩ = some u ∧ (((W.setCell ⟨b, 0, none⟩ u).setCell ⟨b, 1, none⟩ v).setCell ⟨b, 2, none⟩ q).cell? ⟨b, 1, none⟩ = some v ∧ (((W.setCell ⟨b, 0, none⟩ u).setCell ⟨b, 1, none⟩ v).setCell ⟨b, 2, none⟩ q).cell? ⟨b, 2, none⟩ = some q := by
  have a0 : (W.setCell ⟨b, 0, none⟩ u).cell? ⟨b, 0, none⟩ = some u := World.cell?_setCell_same' _ _ _ (by rw [h0]; rfl)
  have a1 : (W.setCell ⟨b, 0, none⟩ u).cell? ⟨b, 1, none⟩ = some y := (World.cell?_setCell_other W ⟨b, 0, none⟩ ⟨b, 1, none⟩ u (by simp)).trans h1
  have a2 : (W.setCell ⟨b, 0, none⟩ u).cell? ⟨b, 2, none⟩ = some z := (World.cell?_setCell_other W ⟨b, 0, none⟩ ⟨b, 2, none⟩ u (by simp)).trans h2
  have c0 := (World.cell?_setCell_other _ ⟨b, 1, none⟩ ⟨b, 0, none⟩ v (by simp)).trans a0
  have c1 : ((W.setCell ⟨b, 0, none⟩ u).setCell ⟨b, 1, none⟩ v).cell? ⟨b, 1, none⟩ = some v := World.cell?_setCell_same' _ _ _ (by rw [a1]; rfl)
  have c2 := (World.cell?_setCell_other _ ⟨b, 1, none⟩ ⟨b, 2, none⟩ v (by simp)).trans a2
  exact ⟨(World.cell?_setCell_other _ ⟨b, 2, none⟩ ⟨b, 0, none⟩ q (by simp)).trans c0, (World.cell?_setCell_other _ ⟨b, 2, none⟩ ⟨b, 1, none⟩ q (by simp)).trans c1, World.cell?_setCell_same' _ _ _ (by rw [c2]; rfl)⟩
/-- Nothing but one block has changed. -/
def Only (g : Nat) (W W' : World) : Prop := W'.heap.size = W.heap.size ∧ ∀ k, k ≠ g → W'.heap[k]? = W.heap[k]?
theorem Only.refl (g : Nat) (W : World) : Only g W W := ⟨rfl, fun _ _ => rfl⟩
theorem Only.set {g : Nat} {W W' : World} (h : Only g W W') (i : Nat) (v : Value) : Only g W (W'.setCell ⟨g, i, none⟩ v) := ⟨by rw [← h.1]; simp, fun k hk => (Below.heap_setCell W' ⟨g, i, none⟩ v k hk).trans (h.2 k hk)⟩
theorem Only.drewR {g : Nat} {W W' : World} (h : Only g W W') : Only g W W'.drew := h
theorem OwnsR.only {g : Nat} {t : TypeId} {W W' : World} {base : Nat} {v : Value} {l : List Sd} (h : OwnsR encS 4 t W base v l) (ho : Only g W W') (hg : g < base) : OwnsR encS 4 t W' base v l := by
  refine ⟨h.1, ?_⟩
  rcases h.2 with hn | ⟨k, cap, cur, rfl, hb, hh, rest⟩
  · exact .inl hn
  · exact .inr ⟨k, cap, cur, rfl, hb, (ho.2 k (by omega)).trans hh, rest⟩
theorem OwnsR.low {t : TypeId} {W : World} {base base' : Nat} {v : Value} {l : List Sd} (h : OwnsR encS 4 t W base v l) (hb : base' ≤ base) : OwnsR encS 4 t W base' v l := by
  refine ⟨h.1, ?_⟩
  rcases h.2 with hn | ⟨k, cap, cur, rfl, hk, rest⟩
  · exact .inl hn
  · exact .inr ⟨k, cap, cur, rfl, Nat.le_trans hb hk, rest⟩
theorem OwnsR.spot {t : TypeId} {W : World} {base : Nat} {v : Value} {l : List Sd} (h : OwnsR encS 4 t W base v l) (hl : l ≠ []) : ∃ g c, v = .slice (some ⟨g, 0, none⟩) l.length c := by
  rcases h.2 with ⟨_, hn⟩ | ⟨g, cap, cur, rfl, _⟩
  · exact absurd (List.eq_nil_of_length_eq_zero hn) hl
  · exact ⟨g, cap, rfl⟩
theorem OwnsR.row {t : TypeId} {W : World} {base : Nat} {a : Option Addr} {n c : Nat} {l : List Sd} (h : OwnsR encS 4 t W base (.slice a n c) l) : RArg encS 4 W a n c l := by
  obtain ⟨a', c', e, hr⟩ := h.arg encS_len
  cases e
  exact hr
set_option maxRecDepth 100000 in
set_option maxHeartbeats 8000000 in
theorem capply_any (ep nx : Int) (a : Option Addr) (n c : Nat) (l : List Sd) (k id at_ : Int) (w : World) (h : RArg encS 4 w a n c l) :
    Calls Try.prog 15 #[.agg #[.int .i64 ep, .int .i64 nx, .slice a n c], .agg #[.int .i64 k, .int .i64 id, .int .i64 at_]] w (MadePost (appC ep nx l k id at_) w) := by
  obtain ⟨R, hR⟩ : ∃ R, appC ep nx l k id at_ = R := ⟨_, rfl⟩
  rw [hR]
  obtain ⟨W1, hW1⟩ : ∃ W1, w.alloc (.cells #[.int .i64 ep, .int .i64 nx, .slice a n c] 24) = W1 := ⟨_, rfl⟩
  have bw1 : Below w.heap.size w W1 := by rw [← hW1]; exact (Below.refl _ _).alloc (Nat.le_refl _) _
  obtain ⟨W2, hW2⟩ : ∃ W2, W1.alloc (.cells #[.int .i64 k, .int .i64 id, .int .i64 at_] 33) = W2 := ⟨_, rfl⟩
  have b12 : Below W1.heap.size W1 W2 := by rw [← hW2]; exact (Below.refl _ _).alloc (Nat.le_refl _) _
  obtain ⟨W3, hW3⟩ : ∃ W3, W2.alloc (.cells #[.int .i64 0, .int .i64 0, .slice none 0 0] 24) = W3 := ⟨_, rfl⟩
  have b23 : Below W2.heap.size W2 W3 := by rw [← hW3]; exact (Below.refl _ _).alloc (Nat.le_refl _) _
  have bw2 := below_next bw1 b12
  have bw3 := below_next bw2 b23
  have g1 : w.heap.size < W1.heap.size := by rw [← hW1]; simp
  have g2 : W1.heap.size < W2.heap.size := by rw [← hW2]; simp
  have g3 : W2.heap.size < W3.heap.size := by rw [← hW3]; simp
  have K1 := Lib.hid (fun W (h : Below W3.heap.size W3 W) => box3D (w := w) (t := 24) (x := .int .i64 ep) (y := .int .i64 nx) (z := .slice a n c) (w' := W) (by rw [hW1]; exact below_next (below_next b12 b23) h))
  have K2 := Lib.hid (fun W (h : Below W3.heap.size W3 W) => box3D (w := W1) (t := 33) (x := .int .i64 k) (y := .int .i64 id) (z := .int .i64 at_) (w' := W) (by rw [hW2]; exact below_next b23 h))
  have K3 := Lib.hid (fun W (h : Below W3.heap.size W3 W) => box3Z (w := W2) (t := 24) (x := .int .i64 0) (y := .int .i64 0) (z := .slice none 0 0) (W := W) (by rw [hW3]; exact h))
  have HP := Lib.hid (h.below bw3)
  have HB := Lib.hid (Below.refl W3.heap.size W3)
  obtain ⟨q0, q1, q2⟩ := K1.out _ HB.out
  obtain ⟨p0, p1, p2⟩ := K2.out _ HB.out
  obtain ⟨z0, z1, z2, f0, f1, f2⟩ := K3.out _ HB.out
  obtain ⟨r1, h1⟩ : ∃ r, chkC ep nx l = r := ⟨_, rfl⟩
  obtain ⟨r2, h2⟩ : ∃ r, chgB k at_ = r := ⟨_, rfl⟩
  have CK := Lib.hid (fun W hh => h1 ▸ chk_any ep nx a n c l W hh)
  have IC := Lib.hid (fun W => h2 ▸ isChange_any k id at_ W)
  have RP := Lib.hid (fun W => replaces_any k id at_ W)
  by_cases hbad : ¬ (chkC ep nx l = true ∧ chgB k at_ = true)
  · have HR := Lib.hid (show R = badM 1 by rw [← hR]; exact if_pos hbad)
    rw [h1, h2] at hbad
    clear h h1 h2 hR
    cases r1
    · clear hbad
      go_enter Try.func15, Try.ntmps15
      go_wp2_with (first | (go_at_call 33; (with_reducible refine (CK.out _ (HP.out.below HB.out)).mono ?_); rintro e w' ⟨rfl, hb⟩; replace HB := Lib.hid (below_next HB.out hb); clear hb; obtain ⟨q0, q1, q2⟩ := K1.out _ HB.out; obtain ⟨p0, p1, p2⟩ := K2.out _ HB.out; obtain ⟨z0, z1, z2, f0, f1, f2⟩ := K3.out _ HB.out) | (go_at_call 34; (with_reducible refine (IC.out _).mono ?_); rintro e w' ⟨rfl, hb⟩; replace HB := Lib.hid (below_next HB.out hb); clear hb; obtain ⟨q0, q1, q2⟩ := K1.out _ HB.out; obtain ⟨p0, p1, p2⟩ := K2.out _ HB.out; obtain ⟨z0, z1, z2, f0, f1, f2⟩ := K3.out _ HB.out))
      exact bodyPost_ret (v := .tuple #[.agg #[.int .i64 0, .int .i64 0, .slice none 0 0], .slice none 0 0, .slice none 0 0, .int .i64 1]) (by simp [results, Try.results15, go_sem, z0, z1, z2]) rfl ⟨none, 0, 0, none, 0, 0, none, 0, 0, ap_ret (HR.out), by rw [HR.out]; exact RArg.nil _ _ _, by rw [HR.out]; exact RArg.nil _ _ _, by rw [HR.out]; exact RArg.nil _ _ _, (by repeat (first | exact below_next bw3 HB.out | refine Below.setCell ?_ (by first | exact bw2.size | omega | (simp; omega)) _ | refine below_drewN ?_ _ | refine Below.drew ?_)), NewAt.none _, NewAt.none _, NewAt.none _, TRow.none _⟩
    · cases r2
      · clear hbad
        go_enter Try.func15, Try.ntmps15
        go_wp2_with (first | (go_at_call 33; (with_reducible refine (CK.out _ (HP.out.below HB.out)).mono ?_); rintro e w' ⟨rfl, hb⟩; replace HB := Lib.hid (below_next HB.out hb); clear hb; obtain ⟨q0, q1, q2⟩ := K1.out _ HB.out; obtain ⟨p0, p1, p2⟩ := K2.out _ HB.out; obtain ⟨z0, z1, z2, f0, f1, f2⟩ := K3.out _ HB.out) | (go_at_call 34; (with_reducible refine (IC.out _).mono ?_); rintro e w' ⟨rfl, hb⟩; replace HB := Lib.hid (below_next HB.out hb); clear hb; obtain ⟨q0, q1, q2⟩ := K1.out _ HB.out; obtain ⟨p0, p1, p2⟩ := K2.out _ HB.out; obtain ⟨z0, z1, z2, f0, f1, f2⟩ := K3.out _ HB.out))
        exact bodyPost_ret (v := .tuple #[.agg #[.int .i64 0, .int .i64 0, .slice none 0 0], .slice none 0 0, .slice none 0 0, .int .i64 1]) (by simp [results, Try.results15, go_sem, z0, z1, z2]) rfl ⟨none, 0, 0, none, 0, 0, none, 0, 0, ap_ret (HR.out), by rw [HR.out]; exact RArg.nil _ _ _, by rw [HR.out]; exact RArg.nil _ _ _, by rw [HR.out]; exact RArg.nil _ _ _, (by repeat (first | exact below_next bw3 HB.out | refine Below.setCell ?_ (by first | exact bw2.size | omega | (simp; omega)) _ | refine below_drewN ?_ _ | refine Below.drew ?_)), NewAt.none _, NewAt.none _, NewAt.none _, TRow.none _⟩
      · exact absurd ⟨rfl, rfl⟩ hbad
  have hR2 : R = if idxC (fun x => x.1 == id) l < 0 ∨ (l.length : Int) < idxC (fun x => x.1 == id) l + repN k then badM 4
      else if k = 1 ∧ insB at_ l[(idxC (fun x => x.1 == id) l).toNat]!.2.1 l[(idxC (fun x => x.1 == id) l).toNat]!.2.2.1 = false then badM 1
      else goodM ep nx l k at_ (idxC (fun x => x.1 == id) l).toNat := by rw [← hR]; exact if_neg hbad
  have hgood : chkC ep nx l = true ∧ chgB k at_ = true := Classical.not_not.1 hbad
  obtain rfl : r1 = true := h1.symm.trans hgood.1
  obtain rfl : r2 = true := h2.symm.trans hgood.2
  obtain ⟨hep, hnx, hlen, _⟩ := chkC_parts hgood.1
  have hl : l ≠ [] := fun e => by rw [e] at hlen; simp at hlen
  have hn := h.1
  obtain ⟨b, off, e, hbw, _⟩ := h.2.2.2.2.spot hl
  subst e
  have IX := Lib.hid (fun W (hb : Below W3.heap.size W3 W) => indexShard_any (fun x => x.1 == id) 36 #[.pointer (some ⟨W1.heap.size, 0, none⟩)] (enters_of Try.func36 (by kernel_rfl) rfl) (some ⟨b, off, none⟩) n c l W (apply1 id W1.heap.size W (Nat.lt_of_lt_of_le (Nat.lt_trans g2 g3) hb.size) (K2.out _ hb).2.1) h.1 h.2.1 hl (HP.out.below hb).2.2.2.2)
  have hrep : repN k = 1 ∨ repN k = 2 := by unfold repN; split <;> simp
  obtain ⟨rr, hrr⟩ : ∃ rr, repN k = rr := ⟨_, rfl⟩
  rcases idxC_spec (fun x => x.1 == id) l with ⟨hi, _⟩ | ⟨i, hil, hi, _⟩
  · rw [hi] at IX
    rw [hrr] at RP
    have HR := Lib.hid (show R = badM 4 by rw [hR2]; exact if_pos (.inl (by omega)))
    have hw : IntKind.i64.wrap (-1 + (rr : Int)) = -1 + (rr : Int) := IntWalk.i64_in _ (by omega)
    clear h h1 h2 hR hR2 hbad hgood hn hlen hl hi hep hnx hrep hrr
    go_enter Try.func15, Try.ntmps15
    go_wp2_with (first | (go_at_call 33; (with_reducible refine (CK.out _ (HP.out.below HB.out)).mono ?_); rintro e w' ⟨rfl, hb⟩; replace HB := Lib.hid (below_next HB.out hb); clear hb; obtain ⟨q0, q1, q2⟩ := K1.out _ HB.out; obtain ⟨p0, p1, p2⟩ := K2.out _ HB.out; obtain ⟨z0, z1, z2, f0, f1, f2⟩ := K3.out _ HB.out) | (go_at_call 34; (with_reducible refine (IC.out _).mono ?_); rintro e w' ⟨rfl, hb⟩; replace HB := Lib.hid (below_next HB.out hb); clear hb; obtain ⟨q0, q1, q2⟩ := K1.out _ HB.out; obtain ⟨p0, p1, p2⟩ := K2.out _ HB.out; obtain ⟨z0, z1, z2, f0, f1, f2⟩ := K3.out _ HB.out) | (go_at_call 35; (with_reducible refine (IX.out _ HB.out).mono ?_); rintro e w' ⟨rfl, hb⟩; replace HB := Lib.hid (below_next HB.out hb); clear hb; obtain ⟨q0, q1, q2⟩ := K1.out _ HB.out; obtain ⟨p0, p1, p2⟩ := K2.out _ HB.out; obtain ⟨z0, z1, z2, f0, f1, f2⟩ := K3.out _ HB.out) | (go_at_call 37; (with_reducible refine (RP.out _).mono ?_); rintro e w' ⟨rfl, hb⟩; replace HB := Lib.hid (below_next HB.out hb); clear hb; obtain ⟨q0, q1, q2⟩ := K1.out _ HB.out; obtain ⟨p0, p1, p2⟩ := K2.out _ HB.out; obtain ⟨z0, z1, z2, f0, f1, f2⟩ := K3.out _ HB.out))
    exact bodyPost_ret (v := .tuple #[.agg #[.int .i64 0, .int .i64 0, .slice none 0 0], .slice none 0 0, .slice none 0 0, .int .i64 4]) (by simp [results, Try.results15, go_sem, z0, z1, z2]) rfl ⟨none, 0, 0, none, 0, 0, none, 0, 0, ap_ret (HR.out), by rw [HR.out]; exact RArg.nil _ _ _, by rw [HR.out]; exact RArg.nil _ _ _, by rw [HR.out]; exact RArg.nil _ _ _, (by repeat (first | exact below_next bw3 HB.out | refine Below.setCell ?_ (by first | exact bw2.size | omega | (simp; omega)) _ | refine below_drewN ?_ _ | refine Below.drew ?_)), NewAt.none _, NewAt.none _, NewAt.none _, TRow.none _⟩
  rw [hi] at IX hR2
  have hit : ((i : Int)).toNat = i := by omega
  rw [hit] at hR2
  have hi0 : decide ((i : Int) < 0) = false := decide_eq_false (by omega)
  have hw : IntKind.i64.wrap ((i : Int) + (rr : Int)) = (i : Int) + (rr : Int) := IntWalk.i64_in _ (by omega)
  by_cases ht : n < i + rr
  · have HR := Lib.hid (show R = badM 4 by rw [hR2]; exact if_pos (.inr (by rw [hrr]; omega)))
    have htz : decide ((i : Int) + (rr : Int) > (n : Int)) = true := decide_eq_true (by omega)
    rw [hrr] at RP
    have hnz : (n : Int) ≤ 24 := by omega
    clear h h1 h2 hR hR2 hbad hgood hn hlen hl hi hep hnx hrep hrr hil ht
    go_enter Try.func15, Try.ntmps15
    go_wp2_with (first | (go_at_call 33; (with_reducible refine (CK.out _ (HP.out.below HB.out)).mono ?_); rintro e w' ⟨rfl, hb⟩; replace HB := Lib.hid (below_next HB.out hb); clear hb; obtain ⟨q0, q1, q2⟩ := K1.out _ HB.out; obtain ⟨p0, p1, p2⟩ := K2.out _ HB.out; obtain ⟨z0, z1, z2, f0, f1, f2⟩ := K3.out _ HB.out) | (go_at_call 34; (with_reducible refine (IC.out _).mono ?_); rintro e w' ⟨rfl, hb⟩; replace HB := Lib.hid (below_next HB.out hb); clear hb; obtain ⟨q0, q1, q2⟩ := K1.out _ HB.out; obtain ⟨p0, p1, p2⟩ := K2.out _ HB.out; obtain ⟨z0, z1, z2, f0, f1, f2⟩ := K3.out _ HB.out) | (go_at_call 35; (with_reducible refine (IX.out _ HB.out).mono ?_); rintro e w' ⟨rfl, hb⟩; replace HB := Lib.hid (below_next HB.out hb); clear hb; obtain ⟨q0, q1, q2⟩ := K1.out _ HB.out; obtain ⟨p0, p1, p2⟩ := K2.out _ HB.out; obtain ⟨z0, z1, z2, f0, f1, f2⟩ := K3.out _ HB.out) | (go_at_call 37; (with_reducible refine (RP.out _).mono ?_); rintro e w' ⟨rfl, hb⟩; replace HB := Lib.hid (below_next HB.out hb); clear hb; obtain ⟨q0, q1, q2⟩ := K1.out _ HB.out; obtain ⟨p0, p1, p2⟩ := K2.out _ HB.out; obtain ⟨z0, z1, z2, f0, f1, f2⟩ := K3.out _ HB.out))
    exact bodyPost_ret (v := .tuple #[.agg #[.int .i64 0, .int .i64 0, .slice none 0 0], .slice none 0 0, .slice none 0 0, .int .i64 4]) (by simp [results, Try.results15, go_sem, z0, z1, z2]) rfl ⟨none, 0, 0, none, 0, 0, none, 0, 0, ap_ret (HR.out), by rw [HR.out]; exact RArg.nil _ _ _, by rw [HR.out]; exact RArg.nil _ _ _, by rw [HR.out]; exact RArg.nil _ _ _, (by repeat (first | exact below_next bw3 HB.out | refine Below.setCell ?_ (by first | exact bw2.size | omega | (simp; omega)) _ | refine below_drewN ?_ _ | refine Below.drew ?_)), NewAt.none _, NewAt.none _, NewAt.none _, TRow.none _⟩
  have htn : i + rr ≤ n := by omega
  have hTn : i + rr ≤ n := by omega
  have hiT : i ≤ i + rr := by omega
  have hin : i < n := by omega
  have htz : decide ((n : Int) < (i : Int) + (rr : Int)) = false := decide_eq_false (by omega)
  have hnn : n ≤ 24 := by omega
  have hnc : n ≤ c := by have := h.2.2.1; omega
  have hcm : c ≤ 9223372036854775807 := by have := h.2.2.2.1; unfold maxLen at this; omega
  have HSH := Lib.hid (fun W (hb : Below W3.heap.size W3 W) => (HP.out.below hb).2.2.2.2.shard i hil)
  obtain ⟨⟨oi, olo, ohi, ond⟩, ho⟩ : ∃ o, l[i]! = o := ⟨_, rfl⟩
  rw [ho] at HSH hR2
  dsimp only at HSH hR2
  rw [if_neg (by rw [hrr]; omega)] at hR2
  have HC := Lib.hid (fun W (hb : Below W3.heap.size W3 W) => (show W.cell? ⟨b, off + i * 4 + 1, none⟩ = some (.int .i64 olo) ∧ W.cell? ⟨b, off + i * 4 + 2, none⟩ = some (.int .i64 ohi) by
    obtain ⟨b', off', e', _, _, c1, c2, _⟩ := HSH.out W hb
    cases e'
    exact ⟨c1, c2⟩))
  obtain ⟨old, hold⟩ : ∃ old, (l.drop i).take rr = old := ⟨_, rfl⟩
  have holdl : old.length = rr := by rw [← hold, List.length_take, List.length_drop]; omega
  obtain ⟨fresh, hfr⟩ : ∃ fresh, succC k at_ nx old[0]! old[1]! = fresh := ⟨_, rfl⟩
  obtain ⟨nf, hnf⟩ : ∃ nf, fresh.length = nf := ⟨_, rfl⟩
  have hnf2 : 1 ≤ nf ∧ nf ≤ 2 := by rw [← hnf, ← hfr, succC_len]; split <;> omega
  obtain ⟨NL, hNL⟩ : ∃ NL, l.take i ++ (fresh ++ l.drop (i + rr)) = NL := ⟨_, rfl⟩
  have hG : goodM ep nx l k at_ i = if chkC (ep + 1) (nx + nf) NL = true then ⟨ep + 1, nx + nf, NL, old, fresh, 0⟩ else badM 2 := by
    unfold goodM
    dsimp only
    rw [hrr, hold, hfr, hnf, hNL]
  rw [hG] at hR2
  have HNL := Lib.hid hNL
  have HP1 := Lib.hid (fun W (hb : Below W3.heap.size W3 W) => (HP.out.below hb).2.2.2.2.sub i rr)
  rw [hold] at HP1
  have HOLD := Lib.hid (fun W (hb : Below W3.heap.size W3 W) => (show Calls Try.prog 31 #[.slice (some ⟨b, off + i * 4, none⟩) rr (c - i)] W (ShPost W.heap.size old W) from
    cloneShard_any b (off + i * 4) rr (c - i) old W (by omega) (by omega) (HP1.out W hb)))
  have hold2 : 1 ≤ old.length := by omega
  have hk2 : k = 2 → 2 ≤ old.length := fun q => by rw [holdl, ← hrr]; unfold repN; rw [if_pos q]; exact Nat.le_refl _
  have HSU := Lib.hid (fun W bo oo no co (hA : RArg encS 4 W (some ⟨bo, oo, none⟩) no co old) => hfr ▸ successors_any k id at_ nx bo oo no co old W hA hold2 hk2 (by omega))
  have HRE := Lib.hid (fun W (hb : Below W3.heap.size W3 W) b2 o2 n2 c2 (hF : RArg encS 4 W (some ⟨b2, o2, none⟩) n2 c2 fresh) => (show Calls Try.prog 40 #[.slice (some ⟨b, off, none⟩) n c, .int .i64 (i : Int), .int .i64 ((i : Int) + (rr : Int)), .slice (some ⟨b2, o2, none⟩) n2 c2] W (ShPost W.heap.size NL W) by
    have := replaced_any b off n c l i (i + rr) b2 o2 n2 c2 fresh W (HP.out.below hb) hF (by omega) hiT hTn (by omega) ⟨by rw [hF.1, hnf]; exact hnf2.1, by rw [hF.1, hnf]; omega⟩
    rw [hNL] at this
    rwa [show ((i + rr : Nat) : Int) = (i : Int) + (rr : Int) from by omega] at this))
  have hfne : fresh ≠ [] := fun e => by rw [e] at hnf; simp at hnf; omega
  have hone : old ≠ [] := fun e => by rw [e] at hold2; simp at hold2
  have he1 : IntKind.i64.wrap (ep + 1) = ep + 1 := IntWalk.i64_in _ (by omega)
  have he2 : IntKind.i64.wrap (nx + (nf : Int)) = nx + (nf : Int) := IntWalk.i64_in _ (by omega)
  have HNF := Lib.hid hnf
  have KS := Lib.hid (fun W (h : Below W2.heap.size W2 W) => box3D (w := w) (t := 24) (x := .int .i64 ep) (y := .int .i64 nx) (z := .slice (some ⟨b, off, none⟩) n c) (w' := W) (by rw [hW1]; exact below_next b12 h))
  rw [hrr] at RP
  obtain ⟨r9, h9⟩ : ∃ r, chkC (ep + 1) (nx + nf) NL = r := ⟨_, rfl⟩
  have C9 := Lib.hid (fun W a n c hh => h9 ▸ chk_any (ep + 1) (nx + nf) a n c NL W hh)
  rw [h9] at hR2
  have HIN := Lib.hid (fun W => inside_any at_ olo ohi W)
  have hTi : 1 ≤ rr := by omega
  have HOL := Lib.hid holdl
  clear h h1 h2 hR hbad hgood hn hlen hl hi hep hnx hrep hrr hil ht ho hold holdl hfr hnf hNL hG hold2 hk2 h9
  have KK := Lib.hid (fun W (h : Below W3.heap.size W3 W) => (show W.cell? ⟨W1.heap.size, 0, none⟩ = some (.int .i64 k) ∧ W.cell? ⟨W1.heap.size, 2, none⟩ = some (.int .i64 at_) ∧ W.cell? ⟨w.heap.size, 2, none⟩ = some (.slice (some ⟨b, off, none⟩) n c) ∧ W.cell? ⟨b, off + i * 4 + 1, none⟩ = some (.int .i64 olo) ∧ W.cell? ⟨b, off + i * 4 + 2, none⟩ = some (.int .i64 ohi) from ⟨(K2.out W h).1, (K2.out W h).2.2, (K1.out W h).2.2, HC.out W h⟩))
  by_cases hk1 : k = 1
  · subst hk1
    obtain ⟨ri, hri⟩ : ∃ r, insB at_ olo ohi = r := ⟨_, rfl⟩
    rw [hri] at HIN hR2
    replace hri := Lib.hid hri
    cases ri
    · have HR := Lib.hid (show R = badM 1 from hR2)
      clear hR2
      go_enter Try.func15, Try.ntmps15
      go_wp2_with (first | (go_at_call 33; (with_reducible refine (CK.out _ (HP.out.below HB.out)).mono ?_); rintro e w' ⟨rfl, hb⟩; replace HB := Lib.hid (below_next HB.out hb); clear hb; obtain ⟨q0, q1, q2⟩ := K1.out _ HB.out; obtain ⟨p0, p1, p2⟩ := K2.out _ HB.out; obtain ⟨z0, z1, z2, f0, f1, f2⟩ := K3.out _ HB.out) | (go_at_call 34; (with_reducible refine (IC.out _).mono ?_); rintro e w' ⟨rfl, hb⟩; replace HB := Lib.hid (below_next HB.out hb); clear hb; obtain ⟨q0, q1, q2⟩ := K1.out _ HB.out; obtain ⟨p0, p1, p2⟩ := K2.out _ HB.out; obtain ⟨z0, z1, z2, f0, f1, f2⟩ := K3.out _ HB.out) | (go_at_call 35; (with_reducible refine (IX.out _ HB.out).mono ?_); rintro e w' ⟨rfl, hb⟩; replace HB := Lib.hid (below_next HB.out hb); clear hb; obtain ⟨q0, q1, q2⟩ := K1.out _ HB.out; obtain ⟨p0, p1, p2⟩ := K2.out _ HB.out; obtain ⟨z0, z1, z2, f0, f1, f2⟩ := K3.out _ HB.out) | (go_at_call 37; (with_reducible refine (RP.out _).mono ?_); rintro e w' ⟨rfl, hb⟩; replace HB := Lib.hid (below_next HB.out hb); clear hb; obtain ⟨q0, q1, q2⟩ := K1.out _ HB.out; obtain ⟨p0, p1, p2⟩ := K2.out _ HB.out; obtain ⟨z0, z1, z2, f0, f1, f2⟩ := K3.out _ HB.out))
      replace HB := Lib.hid (show Below W3.heap.size W3 w'.drew from HB.out.drew)
      go_region_held3 (fun W => W.cell? ⟨W1.heap.size, 0, none⟩ = some (.int .i64 1) ∧ W.cell? ⟨W1.heap.size, 2, none⟩ = some (.int .i64 at_) ∧ W.cell? ⟨w.heap.size, 2, none⟩ = some (.slice (some ⟨b, off, none⟩) n c) ∧ W.cell? ⟨b, off + i * 4 + 1, none⟩ = some (.int .i64 olo) ∧ W.cell? ⟨b, off + i * 4 + 2, none⟩ = some (.int .i64 ohi)) (exact KK.out _ HB.out) ((first | (go_at_call 38; (with_reducible refine (HIN.out _).mono ?_); rintro e w' ⟨rfl, hb⟩; replace HB := Lib.hid (below_next HB.out hb); clear hb; obtain ⟨q0, q1, q2⟩ := K1.out _ HB.out; obtain ⟨p0, p1, p2⟩ := K2.out _ HB.out; obtain ⟨z0, z1, z2, f0, f1, f2⟩ := K3.out _ HB.out) | fail))
      all_goals
        go_wp2
        exact bodyPost_ret (v := .tuple #[.agg #[.int .i64 0, .int .i64 0, .slice none 0 0], .slice none 0 0, .slice none 0 0, .int .i64 1]) (by simp [results, Try.results15, go_sem, z0, z1, z2]) rfl ⟨none, 0, 0, none, 0, 0, none, 0, 0, ap_ret (HR.out), by rw [HR.out]; exact RArg.nil _ _ _, by rw [HR.out]; exact RArg.nil _ _ _, by rw [HR.out]; exact RArg.nil _ _ _, (by repeat (first | exact below_next bw3 HB.out | refine Below.setCell ?_ (by first | exact bw2.size | omega | (simp; omega)) _ | refine below_drewN ?_ _ | refine Below.drew ?_)), NewAt.none _, NewAt.none _, NewAt.none _, TRow.none _⟩
    · rw [if_neg (by simp)] at hR2
      have HR := Lib.hid hR2
      clear hR2
      go_enter Try.func15, Try.ntmps15
      go_wp2_with (first | (go_at_call 33; (with_reducible refine (CK.out _ (HP.out.below HB.out)).mono ?_); rintro e w' ⟨rfl, hb⟩; replace HB := Lib.hid (below_next HB.out hb); clear hb; obtain ⟨q0, q1, q2⟩ := K1.out _ HB.out; obtain ⟨p0, p1, p2⟩ := K2.out _ HB.out; obtain ⟨z0, z1, z2, f0, f1, f2⟩ := K3.out _ HB.out) | (go_at_call 34; (with_reducible refine (IC.out _).mono ?_); rintro e w' ⟨rfl, hb⟩; replace HB := Lib.hid (below_next HB.out hb); clear hb; obtain ⟨q0, q1, q2⟩ := K1.out _ HB.out; obtain ⟨p0, p1, p2⟩ := K2.out _ HB.out; obtain ⟨z0, z1, z2, f0, f1, f2⟩ := K3.out _ HB.out) | (go_at_call 35; (with_reducible refine (IX.out _ HB.out).mono ?_); rintro e w' ⟨rfl, hb⟩; replace HB := Lib.hid (below_next HB.out hb); clear hb; obtain ⟨q0, q1, q2⟩ := K1.out _ HB.out; obtain ⟨p0, p1, p2⟩ := K2.out _ HB.out; obtain ⟨z0, z1, z2, f0, f1, f2⟩ := K3.out _ HB.out) | (go_at_call 37; (with_reducible refine (RP.out _).mono ?_); rintro e w' ⟨rfl, hb⟩; replace HB := Lib.hid (below_next HB.out hb); clear hb; obtain ⟨q0, q1, q2⟩ := K1.out _ HB.out; obtain ⟨p0, p1, p2⟩ := K2.out _ HB.out; obtain ⟨z0, z1, z2, f0, f1, f2⟩ := K3.out _ HB.out))
      replace HB := Lib.hid (show Below W3.heap.size W3 w'.drew from HB.out.drew)
      go_region_held3 (fun W => W.cell? ⟨W1.heap.size, 0, none⟩ = some (.int .i64 1) ∧ W.cell? ⟨W1.heap.size, 2, none⟩ = some (.int .i64 at_) ∧ W.cell? ⟨w.heap.size, 2, none⟩ = some (.slice (some ⟨b, off, none⟩) n c) ∧ W.cell? ⟨b, off + i * 4 + 1, none⟩ = some (.int .i64 olo) ∧ W.cell? ⟨b, off + i * 4 + 2, none⟩ = some (.int .i64 ohi)) (exact KK.out _ HB.out) ((first | (go_at_call 38; (with_reducible refine (HIN.out _).mono ?_); rintro e w' ⟨rfl, hb⟩; replace HB := Lib.hid (below_next HB.out hb); clear hb; obtain ⟨q0, q1, q2⟩ := K1.out _ HB.out; obtain ⟨p0, p1, p2⟩ := K2.out _ HB.out; obtain ⟨z0, z1, z2, f0, f1, f2⟩ := K3.out _ HB.out) | fail))
      go_wp2_with (first | (go_at_call 31; (with_reducible refine (HOLD.out _ HB.out).mono ?_); rintro e wo ⟨vo, rfl, oo, hb⟩; obtain ⟨go, co, e1'⟩ := OwnsR.spot oo hone; rw [HOL.out] at e1'; subst e1'; have OO := Lib.hid (OwnsR.low oo HB.out.size); clear oo; replace HB := Lib.hid (below_next HB.out hb); clear hb; obtain ⟨q0, q1, q2⟩ := K1.out _ HB.out; obtain ⟨p0, p1, p2⟩ := K2.out _ HB.out; obtain ⟨z0, z1, z2, f0, f1, f2⟩ := K3.out _ HB.out) | (go_at_call 39; (with_reducible refine (HSU.out _ go 0 rr co OO.out.row).mono ?_); rintro e ws ⟨vs, rfl, os', hb⟩; obtain ⟨gs, cs, e2'⟩ := OwnsR.spot os' hfne; rw [HNF.out] at e2'; subst e2'; have OS := Lib.hid (OwnsR.low os' HB.out.size); clear os'; replace OO := Lib.hid (OO.out.below hb); replace HB := Lib.hid (below_next HB.out hb); clear hb; obtain ⟨q0, q1, q2⟩ := K1.out _ HB.out; obtain ⟨p0, p1, p2⟩ := K2.out _ HB.out; obtain ⟨z0, z1, z2, f0, f1, f2⟩ := K3.out _ HB.out))
      replace HB := Lib.hid (show Below W3.heap.size W3 ws.drew from HB.out.drew)
      replace OO := Lib.hid (show OwnsR encS 4 61 ws.drew W3.heap.size (.slice (some ⟨go, 0, none⟩) rr co) old from OO.out)
      replace OS := Lib.hid (show OwnsR encS 4 61 ws.drew W3.heap.size (.slice (some ⟨gs, 0, none⟩) nf cs) fresh from OS.out)
      go_region_held3 (fun W => W.cell? ⟨w.heap.size, 0, none⟩ = some (.int .i64 ep) ∧ W.cell? ⟨w.heap.size, 1, none⟩ = some (.int .i64 nx) ∧ W.cell? ⟨w.heap.size, 2, none⟩ = some (.slice (some ⟨b, off, none⟩) n c)) (first | exact ⟨q0, q1, q2⟩ | exact KS.out _ (by repeat (first | exact below_next b23 HB.out | refine Below.setCell ?_ (show W2.heap.size ≤ W2.heap.size from Nat.le_refl _) _ | refine Below.drew ?_))) ((first | (go_at_call 40; (with_reducible refine (HRE.out _ HB.out gs 0 nf cs OS.out.row).mono ?_); rintro e wr ⟨vr, rfl, or', hb⟩; obtain ⟨ar, cr, rfl, _⟩ := OwnsR.arg encS_len or'; have OR := Lib.hid (OwnsR.low or' HB.out.size); clear or'; replace OO := Lib.hid (OO.out.below hb); replace OS := Lib.hid (OS.out.below hb); replace HB := Lib.hid (below_next HB.out hb); clear hb; obtain ⟨q0, q1, q2⟩ := K1.out _ HB.out; obtain ⟨p0, p1, p2⟩ := K2.out _ HB.out; obtain ⟨z0, z1, z2, f0, f1, f2⟩ := K3.out _ HB.out) | fail))
      all_goals
        obtain ⟨WS, hWS⟩ : ∃ WS, ((wr.setCell ⟨W2.heap.size, 0, none⟩ (.int .i64 (ep + 1))).setCell ⟨W2.heap.size, 1, none⟩ (.int .i64 (nx + (nf : Int)))).setCell ⟨W2.heap.size, 2, none⟩ (.slice ar NL.length cr) = WS := ⟨_, rfl⟩
        rw [hWS]
        have hon : Only W2.heap.size wr WS := by rw [← hWS]; exact (by repeat (first | exact Only.refl _ _ | refine Only.set ?_ _ _ | refine Only.drewR ?_))
        obtain ⟨t0, t1, t2⟩ := set3J (u := .int .i64 (ep + 1)) (v := .int .i64 (nx + (nf : Int))) (q := .slice ar NL.length cr) z0 z1 z2
        rw [hWS] at t0 t1 t2
        have bS : Below w.heap.size w WS := by rw [← hWS]; exact (by repeat (first | exact below_next bw3 HB.out | refine Below.setCell ?_ (by first | exact bw2.size | omega | (simp; omega)) _ | refine below_drewN ?_ _ | refine Below.drew ?_))
        have gS : W2.heap.size < WS.heap.size := by rw [hon.1]; exact Nat.lt_of_lt_of_le g3 HB.out.size
        have y0 : WS.frozen? ⟨W2.heap.size, 0, none⟩ = false := by rw [← hWS]; simp [f0]
        have y1 : WS.frozen? ⟨W2.heap.size, 1, none⟩ = false := by rw [← hWS]; simp [f1]
        have y2 : WS.frozen? ⟨W2.heap.size, 2, none⟩ = false := by rw [← hWS]; simp [f2]
        replace hWS := Lib.hid hWS
        have CS := Lib.hid (C9.out WS ar NL.length cr (OwnsR.row (OwnsR.only OR.out hon g3)))
        clear z0 z1 z2 f0 f1 f2 q0 q1 q2 p0 p1 p2
        cases r9
        · have HRe := Lib.hid (show R = badM 2 by have := HR.out; simpa using this)
          go_wp2_with (go_at_call 33; (with_reducible refine CS.out.mono ?_); rintro e w9 ⟨rfl, hb9⟩; have z0 := (hb9.cell (p := ⟨W2.heap.size, 0, none⟩) gS).trans t0; have z1 := (hb9.cell (p := ⟨W2.heap.size, 1, none⟩) gS).trans t1; have z2 := (hb9.cell (p := ⟨W2.heap.size, 2, none⟩) gS).trans t2; have f0 := (hb9.frozen (p := ⟨W2.heap.size, 0, none⟩) gS).trans y0; have f1 := (hb9.frozen (p := ⟨W2.heap.size, 1, none⟩) gS).trans y1; have f2 := (hb9.frozen (p := ⟨W2.heap.size, 2, none⟩) gS).trans y2; have HBF := below_next bS hb9)
          exact bodyPost_ret (v := .tuple #[.agg #[.int .i64 0, .int .i64 0, .slice none 0 0], .slice none 0 0, .slice none 0 0, .int .i64 2]) (by simp [results, Try.results15, go_sem, z0, z1, z2]) rfl ⟨none, 0, 0, none, 0, 0, none, 0, 0, ap_ret (HRe.out), by rw [HRe.out]; exact RArg.nil _ _ _, by rw [HRe.out]; exact RArg.nil _ _ _, by rw [HRe.out]; exact RArg.nil _ _ _, (by repeat (first | exact HBF | refine Below.setCell ?_ (by first | exact bw2.size | omega | (simp; omega)) _ | refine below_drewN ?_ _ | refine Below.drew ?_)), NewAt.none _, NewAt.none _, NewAt.none _, TRow.none _⟩
        · have HRe := Lib.hid (show R = ⟨ep + 1, nx + nf, NL, old, fresh, 0⟩ by have := HR.out; simpa using this)
          go_wp2_with (go_at_call 33; (with_reducible refine CS.out.mono ?_); rintro e w9 ⟨rfl, hb9⟩; have z0 := (hb9.cell (p := ⟨W2.heap.size, 0, none⟩) gS).trans t0; have z1 := (hb9.cell (p := ⟨W2.heap.size, 1, none⟩) gS).trans t1; have z2 := (hb9.cell (p := ⟨W2.heap.size, 2, none⟩) gS).trans t2; have f0 := (hb9.frozen (p := ⟨W2.heap.size, 0, none⟩) gS).trans y0; have f1 := (hb9.frozen (p := ⟨W2.heap.size, 1, none⟩) gS).trans y1; have f2 := (hb9.frozen (p := ⟨W2.heap.size, 2, none⟩) gS).trans y2; have HBF := below_next bS hb9)
          exact bodyPost_ret (v := .tuple #[.agg #[.int .i64 (ep + 1), .int .i64 (nx + (nf : Int)), .slice ar NL.length cr], .slice (some ⟨go, 0, none⟩) rr co, .slice (some ⟨gs, 0, none⟩) nf cs, .int .i64 0]) (by simp [results, Try.results15, go_sem, z0, z1, z2]) rfl ⟨ar, NL.length, cr, some ⟨go, 0, none⟩, rr, co, some ⟨gs, 0, none⟩, nf, cs, by rw [HRe.out], by rw [HRe.out]; exact OwnsR.row (OwnsR.only ((OwnsR.only OR.out hon g3).below hb9) (by repeat (first | exact Only.refl _ _ | refine Only.set ?_ _ _ | refine Only.drewR ?_)) g3), by rw [HRe.out]; exact OwnsR.row (OwnsR.only ((OwnsR.only OO.out hon g3).below hb9) (by repeat (first | exact Only.refl _ _ | refine Only.set ?_ _ _ | refine Only.drewR ?_)) g3), by rw [HRe.out]; exact OwnsR.row (OwnsR.only ((OwnsR.only OS.out hon g3).below hb9) (by repeat (first | exact Only.refl _ _ | refine Only.set ?_ _ _ | refine Only.drewR ?_)) g3), (by repeat (first | exact HBF | refine Below.setCell ?_ (by first | exact bw2.size | omega | (simp; omega)) _ | refine below_drewN ?_ _ | refine Below.drew ?_)), OwnsR.newAt OR.out bw3.size, OwnsR.newAt OO.out bw3.size, OwnsR.newAt OS.out bw3.size, OwnsR.trow (OwnsR.only ((OwnsR.only OR.out hon g3).below hb9) (by repeat (first | exact Only.refl _ _ | refine Only.set ?_ _ _ | refine Only.drewR ?_)) g3)⟩
  · have e1 : (k == 1) = false := by simpa using hk1
    rw [if_neg (by intro q; exact hk1 q.1)] at hR2
    have HR := Lib.hid hR2
    clear hR2 hk1
    go_enter Try.func15, Try.ntmps15
    go_wp2_with (first | (go_at_call 33; (with_reducible refine (CK.out _ (HP.out.below HB.out)).mono ?_); rintro e w' ⟨rfl, hb⟩; replace HB := Lib.hid (below_next HB.out hb); clear hb; obtain ⟨q0, q1, q2⟩ := K1.out _ HB.out; obtain ⟨p0, p1, p2⟩ := K2.out _ HB.out; obtain ⟨z0, z1, z2, f0, f1, f2⟩ := K3.out _ HB.out) | (go_at_call 34; (with_reducible refine (IC.out _).mono ?_); rintro e w' ⟨rfl, hb⟩; replace HB := Lib.hid (below_next HB.out hb); clear hb; obtain ⟨q0, q1, q2⟩ := K1.out _ HB.out; obtain ⟨p0, p1, p2⟩ := K2.out _ HB.out; obtain ⟨z0, z1, z2, f0, f1, f2⟩ := K3.out _ HB.out) | (go_at_call 35; (with_reducible refine (IX.out _ HB.out).mono ?_); rintro e w' ⟨rfl, hb⟩; replace HB := Lib.hid (below_next HB.out hb); clear hb; obtain ⟨q0, q1, q2⟩ := K1.out _ HB.out; obtain ⟨p0, p1, p2⟩ := K2.out _ HB.out; obtain ⟨z0, z1, z2, f0, f1, f2⟩ := K3.out _ HB.out) | (go_at_call 37; (with_reducible refine (RP.out _).mono ?_); rintro e w' ⟨rfl, hb⟩; replace HB := Lib.hid (below_next HB.out hb); clear hb; obtain ⟨q0, q1, q2⟩ := K1.out _ HB.out; obtain ⟨p0, p1, p2⟩ := K2.out _ HB.out; obtain ⟨z0, z1, z2, f0, f1, f2⟩ := K3.out _ HB.out))
    go_quiet (fail)
    go_wp2_with (first | (go_at_call 31; (with_reducible refine (HOLD.out _ (below_drewN HB.out _)).mono ?_); rintro e wo ⟨vo, rfl, oo, hb⟩; obtain ⟨go, co, e1'⟩ := OwnsR.spot oo hone; rw [HOL.out] at e1'; subst e1'; have OO := Lib.hid (OwnsR.low oo HB.out.size); clear oo; replace HB := Lib.hid (below_next (below_drewN HB.out _) hb); clear hb; obtain ⟨q0, q1, q2⟩ := K1.out _ HB.out; obtain ⟨p0, p1, p2⟩ := K2.out _ HB.out; obtain ⟨z0, z1, z2, f0, f1, f2⟩ := K3.out _ HB.out) | (go_at_call 39; (with_reducible refine (HSU.out _ go 0 rr co OO.out.row).mono ?_); rintro e ws ⟨vs, rfl, os', hb⟩; obtain ⟨gs, cs, e2'⟩ := OwnsR.spot os' hfne; rw [HNF.out] at e2'; subst e2'; have OS := Lib.hid (OwnsR.low os' HB.out.size); clear os'; replace OO := Lib.hid (OO.out.below hb); replace HB := Lib.hid (below_next HB.out hb); clear hb; obtain ⟨q0, q1, q2⟩ := K1.out _ HB.out; obtain ⟨p0, p1, p2⟩ := K2.out _ HB.out; obtain ⟨z0, z1, z2, f0, f1, f2⟩ := K3.out _ HB.out))
    replace HB := Lib.hid (show Below W3.heap.size W3 ws.drew from HB.out.drew)
    replace OO := Lib.hid (show OwnsR encS 4 61 ws.drew W3.heap.size (.slice (some ⟨go, 0, none⟩) rr co) old from OO.out)
    replace OS := Lib.hid (show OwnsR encS 4 61 ws.drew W3.heap.size (.slice (some ⟨gs, 0, none⟩) nf cs) fresh from OS.out)
    go_region_held3 (fun W => W.cell? ⟨w.heap.size, 0, none⟩ = some (.int .i64 ep) ∧ W.cell? ⟨w.heap.size, 1, none⟩ = some (.int .i64 nx) ∧ W.cell? ⟨w.heap.size, 2, none⟩ = some (.slice (some ⟨b, off, none⟩) n c)) (first | exact ⟨q0, q1, q2⟩ | exact KS.out _ (by repeat (first | exact below_next b23 HB.out | refine Below.setCell ?_ (show W2.heap.size ≤ W2.heap.size from Nat.le_refl _) _ | refine Below.drew ?_))) ((first | (go_at_call 40; (with_reducible refine (HRE.out _ HB.out gs 0 nf cs OS.out.row).mono ?_); rintro e wr ⟨vr, rfl, or', hb⟩; obtain ⟨ar, cr, rfl, _⟩ := OwnsR.arg encS_len or'; have OR := Lib.hid (OwnsR.low or' HB.out.size); clear or'; replace OO := Lib.hid (OO.out.below hb); replace OS := Lib.hid (OS.out.below hb); replace HB := Lib.hid (below_next HB.out hb); clear hb; obtain ⟨q0, q1, q2⟩ := K1.out _ HB.out; obtain ⟨p0, p1, p2⟩ := K2.out _ HB.out; obtain ⟨z0, z1, z2, f0, f1, f2⟩ := K3.out _ HB.out) | fail))
    all_goals
      obtain ⟨WS, hWS⟩ : ∃ WS, ((wr.setCell ⟨W2.heap.size, 0, none⟩ (.int .i64 (ep + 1))).setCell ⟨W2.heap.size, 1, none⟩ (.int .i64 (nx + (nf : Int)))).setCell ⟨W2.heap.size, 2, none⟩ (.slice ar NL.length cr) = WS := ⟨_, rfl⟩
      rw [hWS]
      have hon : Only W2.heap.size wr WS := by rw [← hWS]; exact (by repeat (first | exact Only.refl _ _ | refine Only.set ?_ _ _ | refine Only.drewR ?_))
      obtain ⟨t0, t1, t2⟩ := set3J (u := .int .i64 (ep + 1)) (v := .int .i64 (nx + (nf : Int))) (q := .slice ar NL.length cr) z0 z1 z2
      rw [hWS] at t0 t1 t2
      have bS : Below w.heap.size w WS := by rw [← hWS]; exact (by repeat (first | exact below_next bw3 HB.out | refine Below.setCell ?_ (by first | exact bw2.size | omega | (simp; omega)) _ | refine below_drewN ?_ _ | refine Below.drew ?_))
      have gS : W2.heap.size < WS.heap.size := by rw [hon.1]; exact Nat.lt_of_lt_of_le g3 HB.out.size
      have y0 : WS.frozen? ⟨W2.heap.size, 0, none⟩ = false := by rw [← hWS]; simp [f0]
      have y1 : WS.frozen? ⟨W2.heap.size, 1, none⟩ = false := by rw [← hWS]; simp [f1]
      have y2 : WS.frozen? ⟨W2.heap.size, 2, none⟩ = false := by rw [← hWS]; simp [f2]
      replace hWS := Lib.hid hWS
      have CS := Lib.hid (C9.out WS ar NL.length cr (OwnsR.row (OwnsR.only OR.out hon g3)))
      clear z0 z1 z2 f0 f1 f2 q0 q1 q2 p0 p1 p2
      cases r9
      · have HRe := Lib.hid (show R = badM 2 by have := HR.out; simpa using this)
        go_wp2_with (go_at_call 33; (with_reducible refine CS.out.mono ?_); rintro e w9 ⟨rfl, hb9⟩; have z0 := (hb9.cell (p := ⟨W2.heap.size, 0, none⟩) gS).trans t0; have z1 := (hb9.cell (p := ⟨W2.heap.size, 1, none⟩) gS).trans t1; have z2 := (hb9.cell (p := ⟨W2.heap.size, 2, none⟩) gS).trans t2; have f0 := (hb9.frozen (p := ⟨W2.heap.size, 0, none⟩) gS).trans y0; have f1 := (hb9.frozen (p := ⟨W2.heap.size, 1, none⟩) gS).trans y1; have f2 := (hb9.frozen (p := ⟨W2.heap.size, 2, none⟩) gS).trans y2; have HBF := below_next bS hb9)
        exact bodyPost_ret (v := .tuple #[.agg #[.int .i64 0, .int .i64 0, .slice none 0 0], .slice none 0 0, .slice none 0 0, .int .i64 2]) (by simp [results, Try.results15, go_sem, z0, z1, z2]) rfl ⟨none, 0, 0, none, 0, 0, none, 0, 0, ap_ret (HRe.out), by rw [HRe.out]; exact RArg.nil _ _ _, by rw [HRe.out]; exact RArg.nil _ _ _, by rw [HRe.out]; exact RArg.nil _ _ _, (by repeat (first | exact HBF | refine Below.setCell ?_ (by first | exact bw2.size | omega | (simp; omega)) _ | refine below_drewN ?_ _ | refine Below.drew ?_)), NewAt.none _, NewAt.none _, NewAt.none _, TRow.none _⟩
      · have HRe := Lib.hid (show R = ⟨ep + 1, nx + nf, NL, old, fresh, 0⟩ by have := HR.out; simpa using this)
        go_wp2_with (go_at_call 33; (with_reducible refine CS.out.mono ?_); rintro e w9 ⟨rfl, hb9⟩; have z0 := (hb9.cell (p := ⟨W2.heap.size, 0, none⟩) gS).trans t0; have z1 := (hb9.cell (p := ⟨W2.heap.size, 1, none⟩) gS).trans t1; have z2 := (hb9.cell (p := ⟨W2.heap.size, 2, none⟩) gS).trans t2; have f0 := (hb9.frozen (p := ⟨W2.heap.size, 0, none⟩) gS).trans y0; have f1 := (hb9.frozen (p := ⟨W2.heap.size, 1, none⟩) gS).trans y1; have f2 := (hb9.frozen (p := ⟨W2.heap.size, 2, none⟩) gS).trans y2; have HBF := below_next bS hb9)
        exact bodyPost_ret (v := .tuple #[.agg #[.int .i64 (ep + 1), .int .i64 (nx + (nf : Int)), .slice ar NL.length cr], .slice (some ⟨go, 0, none⟩) rr co, .slice (some ⟨gs, 0, none⟩) nf cs, .int .i64 0]) (by simp [results, Try.results15, go_sem, z0, z1, z2]) rfl ⟨ar, NL.length, cr, some ⟨go, 0, none⟩, rr, co, some ⟨gs, 0, none⟩, nf, cs, by rw [HRe.out], by rw [HRe.out]; exact OwnsR.row (OwnsR.only ((OwnsR.only OR.out hon g3).below hb9) (by repeat (first | exact Only.refl _ _ | refine Only.set ?_ _ _ | refine Only.drewR ?_)) g3), by rw [HRe.out]; exact OwnsR.row (OwnsR.only ((OwnsR.only OO.out hon g3).below hb9) (by repeat (first | exact Only.refl _ _ | refine Only.set ?_ _ _ | refine Only.drewR ?_)) g3), by rw [HRe.out]; exact OwnsR.row (OwnsR.only ((OwnsR.only OS.out hon g3).below hb9) (by repeat (first | exact Only.refl _ _ | refine Only.set ?_ _ _ | refine Only.drewR ?_)) g3), (by repeat (first | exact HBF | refine Below.setCell ?_ (by first | exact bw2.size | omega | (simp; omega)) _ | refine below_drewN ?_ _ | refine Below.drew ?_)), OwnsR.newAt OR.out bw3.size, OwnsR.newAt OO.out bw3.size, OwnsR.newAt OS.out bw3.size, OwnsR.trow (OwnsR.only ((OwnsR.only OR.out hon g3).below hb9) (by repeat (first | exact Only.refl _ _ | refine Only.set ?_ _ _ | refine Only.drewR ?_)) g3)⟩
end Go.Proofs.Ytihpojllalnmcaa
