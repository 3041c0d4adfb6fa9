/-
  BAGS: three mails, the first two of them between addresses that are apart.
-/
import Derived.Test.YtbimchdjlkihdaaBgL
import Derived.OpenShut
import Derived.Lib.SmallJoins
namespace Go.Proofs.Ytbimchdjlkihdaa
open Go.RowKit Go.Maps Go.ChangeMaps Go.ChangeShapes Go.WideShapes

def R3Post (base : Nat) (w : World) (e : Ending) (w' : World) : Prop := ∃ g c, e = .returned (.slice (some ⟨g, 0, none⟩) 1 c) ∧ w'.cell? ⟨g, 0, none⟩ = some (.int .i64 3) ∧ g < w'.heap.size ∧ Below base w w'
set_option maxRecDepth 100000 in
set_option maxHeartbeats 1000000 in
theorem ready3_any {w : World} {p mb ab : Nat} {s : Bs} (h : Bg w p mb ab s) (hids : idsL s.G s.last = [1, 2, 3]) {ma mc md : Ml} (ga : s.G 1 = some ma) (gc : s.G 2 = some mc) (gd : s.G 3 = some md)
    (va : cutB s ma.fr ma.to = true) (vc : cutB s mc.fr mc.to = true) (vd : cutB s md.fr md.to = false) :
    Calls Try.prog 20 #[.pointer (some ⟨p, 0, none⟩)] w (R3Post w.heap.size w) := by
  obtain ⟨W1, hW1⟩ : ∃ W1, w.alloc (.cells #[.pointer (some ⟨p, 0, none⟩)] 23) = W1 := ⟨_, rfl⟩
  have B1 : Below w.heap.size w W1 := by rw [← hW1]; exact (Below.refl _ _).alloc (Nat.le_refl _) _
  have hx : W1.heap[w.heap.size]? = some (.cells #[.pointer (some ⟨p, 0, none⟩)] 23) := by rw [← hW1]; exact heap_alloc_new _ _
  have z0 := cell_of_row _ _ 0 _ _ _ hx
  have h1 := h.same B1
  have hlt : w.heap.size < W1.heap.size := by rw [← hW1]; simp
  have hI := (ids_any h1).1
  have hids' := Lib.hid hids
  clear hids
  go_enter Try.func20, Try.ntmps20
  go_wp2_with (first
    | (go_at_call 17; (with_reducible refine hI.mono ?_); rintro e w2 ⟨a, c, rfl, hrow, b2⟩; rw [hids'.out] at hrow ⊢; obtain ⟨_, hrow⟩ := hrow; obtain ⟨g, cap, cur, hv, hbg, hg, hn, hcm, hcs, htk⟩ := (hrow.resolve_left (fun q => absurd q.2 (by decide))); cases hv; (have h2 := h1.same b2); (have l2 := h1.lt); (have hx2 := (b2.cell (p := ⟨w.heap.size, 0, none⟩) hlt).trans z0))
    | (go_at_call 36; refine (delete3_any h2 hx2 (Nat.lt_of_lt_of_le hlt b2.size) ga gc gd va vc vd hg ⟨hn, by simpa using hcs, hcm⟩ (by simpa using htk)).mono ?_; rintro e w3 ⟨rfl, k3, b3⟩))
  go_ret
  have hgl := (Array.getElem?_eq_some_iff.1 hg).1
  exact ⟨g, _, rfl, k3, Nat.lt_of_lt_of_le hgl b3.size, (B1.trans (b2.mono B1.size)).trans (b3.below (by have := b2.size; omega) (by omega) (by omega) (by omega))⟩
theorem send_ok {s : Bs} {f t : Int} {x : ByteArray} (a1 : addrB f = true) (a2 : addrB t = true) (a3 : ¬ 65536 < x.size) (a4 : ¬ 400 ≤ s.n) :
    sendS s f t x = { s with G := putG s.G (s.last + 1) (some ⟨s.last + 1, f, t, x⟩), n := s.n + 1, last := s.last + 1 } := by
  unfold sendS
  rw [if_neg (by rw [a1, a2]; intro q; rcases q with q | q | q; · cases q
                 · cases q
                 · exact a3 q)]
  unfold addS
  rw [if_neg a4]
  rfl
def threeG (x y z : Int) (t : ByteArray) : Int → Option Ml := putG (putG (putG noG 1 (some ⟨1, x, y, t⟩)) 2 (some ⟨2, y, x, t⟩)) 3 (some ⟨3, x, z, t⟩)
theorem addrB_of {n : Int} (h1 : 0 ≤ n) (h2 : n ≤ 63) : addrB n = true := by unfold addrB; simp [h1, h2]
theorem cut_put (s : Bs) (x y : Int) (v : Bool) : cutB { s with L := putL s.L (min x y) (max x y) v } x y = v ∧ cutB { s with L := putL s.L (min x y) (max x y) v } y x = v := by
  unfold cutB putL
  dsimp only
  rw [if_pos ⟨rfl, rfl⟩, if_pos ⟨Int.min_comm y x, Int.max_comm y x⟩]
  exact ⟨rfl, rfl⟩
/-- What the statement's bag goes through. -/
theorem apart_plain {x y z : Int} {t : ByteArray} (hx : 0 ≤ x ∧ x ≤ 63) (hy : 0 ≤ y ∧ y ≤ 63) (hz : 0 ≤ z ∧ z ≤ 63) (h1 : x ≠ y) (_h2 : z ≠ x) (h3 : z ≠ y) (ht : t.size ≤ 300) :
    ∃ (s1 s2 s3 s4 s5 s6 s7 s8 : Bs) (ma mc : Ml), (sendS newB x y t = s1 ∧ s1.last < 100000) ∧ (sendS s1 y x t = s2 ∧ s2.last < 100000) ∧ (sendS s2 x z t = s3 ∧ s3.c ≤ 4000) ∧ (apartS s3 x y true = s4 ∧ apartV x y = 0) ∧
      (idsL s4.G s4.last = [1, 2, 3] ∧ s4.G 1 = some ⟨1, x, y, t⟩ ∧ s4.G 2 = some ⟨2, y, x, t⟩ ∧ s4.G 3 = some ⟨3, x, z, t⟩ ∧ cutB s4 x y = true ∧ cutB s4 y x = true ∧ cutB s4 x z = false) ∧
      (takeS s4 1 = s4 ∧ takeV s4 1 = (ma, 50)) ∧ (takeS s4 2 = s4 ∧ takeV s4 2 = (mc, 50)) ∧ (takeS s4 3 = s5 ∧ takeV s4 3 = (⟨3, x, z, t⟩, 0) ∧ s5.c ≤ 4000) ∧ (apartS s5 x x true = s5 ∧ apartV x x = 1) ∧ (apartS s5 y x false = s6 ∧ apartV y x = 0) ∧
      (takeS s6 2 = s7 ∧ takeV s6 2 = (⟨2, y, x, t⟩, 0)) ∧ (takeS s7 1 = s8 ∧ takeV s7 1 = (⟨1, x, y, t⟩, 0)) ∧ s8.n = 0 := by
  have ax := addrB_of hx.1 hx.2
  have ay := addrB_of hy.1 hy.2
  have az := addrB_of hz.1 hz.2
  have at3 : ¬ 65536 < t.size := by omega
  have e1 : sendS newB x y t = ⟨putG noG 1 (some ⟨1, x, y, t⟩), 1, 1, noL, 0⟩ := send_ok ax ay at3 (by decide)
  have e2 : sendS ⟨putG noG 1 (some ⟨1, x, y, t⟩), 1, 1, noL, 0⟩ y x t = ⟨putG (putG noG 1 (some ⟨1, x, y, t⟩)) 2 (some ⟨2, y, x, t⟩), 2, 2, noL, 0⟩ := send_ok ay ax at3 (by decide : ¬ (400 ≤ 1))
  have e3 : sendS ⟨putG (putG noG 1 (some ⟨1, x, y, t⟩)) 2 (some ⟨2, y, x, t⟩), 2, 2, noL, 0⟩ x z t = ⟨threeG x y z t, 3, 3, noL, 0⟩ := send_ok ax az at3 (by decide : ¬ (400 ≤ 2))
  have pxy : aparts x y = true := by unfold aparts; rw [ax, ay]; simpa using h1
  have pyx : aparts y x = true := by unfold aparts; rw [ax, ay]; simpa using (Ne.symm h1)
  have pxx : aparts x x = false := by unfold aparts; simp
  have e4 : apartS ⟨threeG x y z t, 3, 3, noL, 0⟩ x y true = ⟨threeG x y z t, 3, 3, putL noL (min x y) (max x y) true, 1⟩ := by unfold apartS; rw [if_pos pxy]; rfl
  have k1 := (cut_put ⟨threeG x y z t, 3, 3, noL, 1⟩ x y true).1
  have k2 := (cut_put ⟨threeG x y z t, 3, 3, noL, 1⟩ x y true).2
  have k3 : cutB ⟨threeG x y z t, 3, 3, putL noL (min x y) (max x y) true, 1⟩ x z = false := by
    unfold cutB putL
    dsimp only
    rw [if_neg (by omega)]
    rfl
  have k4 := (cut_put (dropS ⟨threeG x y z t, 3, 3, putL noL (min x y) (max x y) true, 1⟩ 3) y x false).1
  have k5 := (cut_put (dropS ⟨threeG x y z t, 3, 3, putL noL (min x y) (max x y) true, 1⟩ 3) y x false).2
  have e5 : takeS ⟨threeG x y z t, 3, 3, putL noL (min x y) (max x y) true, 1⟩ 3 = dropS ⟨threeG x y z t, 3, 3, putL noL (min x y) (max x y) true, 1⟩ 3 := by
    show (if cutB ⟨threeG x y z t, 3, 3, putL noL (min x y) (max x y) true, 1⟩ x z = true then _ else _) = _
    rw [k3]; rfl
  have e6 : apartS (dropS ⟨threeG x y z t, 3, 3, putL noL (min x y) (max x y) true, 1⟩ 3) y x false = { dropS ⟨threeG x y z t, 3, 3, putL noL (min x y) (max x y) true, 1⟩ 3 with L := putL (putL noL (min x y) (max x y) true) (min y x) (max y x) false } := by unfold apartS; rw [if_pos pyx]; rfl
  refine ⟨_, _, _, _, _, _, dropS { dropS ⟨threeG x y z t, 3, 3, putL noL (min x y) (max x y) true, 1⟩ 3 with L := putL (putL noL (min x y) (max x y) true) (min y x) (max y x) false } 2, dropS (dropS { dropS ⟨threeG x y z t, 3, 3, putL noL (min x y) (max x y) true, 1⟩ 3 with L := putL (putL noL (min x y) (max x y) true) (min y x) (max y x) false } 2) 1, m0, m0,
    ⟨e1, (by decide : (1 : Int) < 100000)⟩, ⟨e2, (by decide : (2 : Int) < 100000)⟩, ⟨e3, (by decide : (0 : Nat) ≤ 4000)⟩, ⟨e4, by unfold apartV; rw [if_pos pxy]⟩, ⟨by rfl, rfl, rfl, rfl, k1, k2, k3⟩, ⟨?_, ?_⟩, ⟨?_, ?_⟩, ⟨e5, ?_, (by decide : (1 : Nat) ≤ 4000)⟩, ⟨by unfold apartS; rw [pxx]; rfl, by unfold apartV; rw [pxx]; rfl⟩, ⟨e6, by unfold apartV; rw [if_pos pyx]⟩, ⟨?_, ?_⟩, ⟨?_, ?_⟩, rfl⟩
  · show (if cutB ⟨threeG x y z t, 3, 3, putL noL (min x y) (max x y) true, 1⟩ x y = true then _ else _) = _
    rw [if_pos k1]
  · show (if cutB ⟨threeG x y z t, 3, 3, putL noL (min x y) (max x y) true, 1⟩ x y = true then _ else _) = _
    rw [if_pos k1]
  · show (if cutB ⟨threeG x y z t, 3, 3, putL noL (min x y) (max x y) true, 1⟩ y x = true then _ else _) = _
    rw [if_pos k2]
  · show (if cutB ⟨threeG x y z t, 3, 3, putL noL (min x y) (max x y) true, 1⟩ y x = true then _ else _) = _
    rw [if_pos k2]
  · show (if cutB ⟨threeG x y z t, 3, 3, putL noL (min x y) (max x y) true, 1⟩ x z = true then _ else _) = _
    rw [k3]; rfl
  · show (if cutB { dropS ⟨threeG x y z t, 3, 3, putL noL (min x y) (max x y) true, 1⟩ 3 with L := putL (putL noL (min x y) (max x y) true) (min y x) (max y x) false } y x = true then _ else _) = _
    rw [show cutB { dropS ⟨threeG x y z t, 3, 3, putL noL (min x y) (max x y) true, 1⟩ 3 with L := putL (putL noL (min x y) (max x y) true) (min y x) (max y x) false } y x = false from k4]; rfl
  · show (if cutB { dropS ⟨threeG x y z t, 3, 3, putL noL (min x y) (max x y) true, 1⟩ 3 with L := putL (putL noL (min x y) (max x y) true) (min y x) (max y x) false } y x = true then _ else _) = _
    rw [show cutB { dropS ⟨threeG x y z t, 3, 3, putL noL (min x y) (max x y) true, 1⟩ 3 with L := putL (putL noL (min x y) (max x y) true) (min y x) (max y x) false } y x = false from k4]; rfl
  · show (if cutB { dropS ⟨threeG x y z t, 3, 3, putL noL (min x y) (max x y) true, 1⟩ 3 with L := putL (putL noL (min x y) (max x y) true) (min y x) (max y x) false } x y = true then _ else _) = _
    rw [show cutB { dropS ⟨threeG x y z t, 3, 3, putL noL (min x y) (max x y) true, 1⟩ 3 with L := putL (putL noL (min x y) (max x y) true) (min y x) (max y x) false } x y = false from k5]; rfl
  · show (if cutB { dropS ⟨threeG x y z t, 3, 3, putL noL (min x y) (max x y) true, 1⟩ 3 with L := putL (putL noL (min x y) (max x y) true) (min y x) (max y x) false } x y = true then _ else _) = _
    rw [show cutB { dropS ⟨threeG x y z t, 3, 3, putL noL (min x y) (max x y) true, 1⟩ 3 with L := putL (putL noL (min x y) (max x y) true) (min y x) (max y x) false } x y = false from k5]; rfl
end Go.Proofs.Ytbimchdjlkihdaa
