/-
  CONTRACTS: balance.first; what the parts suggest is what the shards' loads suggest.
-/
import Derived.Test.YtihpojllalnmcaaBaJ
namespace Go.Proofs.Ytihpojllalnmcaa
open Go.RowKit Go.Shelf

def itF (x : Pt) : It := (x.s, x.v)
theorem pick_map {α β : Type} (f : α → β) (ok : β → Bool) (m : β → Int) (l : List α) : pickF ok m (l.map f) = (bestF (fun x => m (f x)) (l.filter fun x => ok (f x))).map f := by
  rw [← best_filter, List.filter_map, best_map]
  rfl
theorem its_of {l : List Sp} {sd : List Sd} {ps : List Pt} (h : DivOk l sd sd.length ps) : ps.map itF = itsB l sd := by
  have := h.its
  rw [List.take_length] at this
  exact this
theorem div_len {l : List Sp} {sd : List Sd} {ps : List Pt} (h : DivOk l sd sd.length ps) : ps.length = sd.length := h.len
theorem div_load {l : List Sp} {sd : List Sd} {ps : List Pt} (h : DivOk l sd sd.length ps) {x : Pt} (hx : x ∈ ps) : x.v = sumK l x.s.2.1 x.s.2.2.1 := by
  have hm : itF x ∈ itsB l sd := by rw [← its_of h]; exact List.mem_map_of_mem hx
  exact (itsB_mem hm).2
theorem cut_eq {l : List Sp} {sd : List Sd} {ps : List Pt} (h : DivOk l sd sd.length ps) {x : Pt} (hx : x ∈ ps) : cutP x = cutF l x.s.2.1 x.s.2.2.1 := by
  unfold cutP cutF
  rw [← div_load h hx, h.prs x hx]
theorem best_isSome_iff {α : Type} (m : α → Int) (l : List α) : (bestF m l).isSome = decide (0 < l.length) := by
  cases l with
  | nil => rfl
  | cons x t => rw [best_isSome m _ (by simp)]; simp
theorem split_eq {l : List Sp} {sd : List Sd} {ps : List Pt} (h : DivOk l sd sd.length ps) (high : Int) : splitP high ps = splitC l sd high := by
  unfold splitP splitC
  rw [div_len h, ← its_of h, pick_map]
  by_cases h24 : 24 ≤ sd.length
  · rw [if_pos h24, if_pos h24]
  · rw [if_neg h24, if_neg h24]
    have hf : ps.filter (heavyP high) = ps.filter fun x => heavyB l high (itF x) := List.filter_congr fun x hx => by
      have e1 : heavyP high x = (decide (high < x.v) && decide (0 < (cutsL x.v 0 x.ps).length)) := rfl
      have e2 : heavyB l high (itF x) = (decide (high < x.v) && (cutF l x.s.2.1 x.s.2.2.1).isSome) := rfl
      rw [e1, e2, ← cut_eq h hx, show (cutP x).isSome = decide (0 < (cutsL x.v 0 x.ps).length) from best_isSome_iff _ _]
    rw [hf]
    have e3 : (fun x : Pt => (itF x).2) = fun x : Pt => x.v := rfl
    rw [e3]
    cases hb : bestF (fun x : Pt => x.v) (ps.filter fun x => heavyB l high (itF x)) with
    | none => rfl
    | some x =>
      have hx := (List.mem_filter.1 (best_some hb).1).1
      show some (1, x.s.1, ((cutP x).getD (0, 0)).1) = some (1, x.s.1, ((cutF l x.s.2.1 x.s.2.2.1).getD (0, 0)).1)
      rw [cut_eq h hx]
theorem shift_eq {l : List Sp} {sd : List Sd} {ps : List Pt} (h : DivOk l sd sd.length ps) (S : List Int) (slack : Int) : shiftP S slack ps = shiftC (itsB l sd) S slack := by
  unfold shiftP shiftC gapS
  rw [← its_of h, pick_map]
  split
  · rfl
  · have e3 : (fun x : Pt => (itF x).2) = fun x : Pt => x.v := rfl
    have e4 : (fun x : Pt => fitB (topI S : Int) (S[topI S]! - S[lowI S]!) (itF x)) = fitP (topI S : Int) (S[topI S]! - S[lowI S]!) := rfl
    rw [e3, e4]
    cases bestF (fun x : Pt => x.v) (ps.filter (fitP (topI S : Int) (S[topI S]! - S[lowI S]!))) <;> rfl
def wnF (x : Wn) : It × It := (itF x.x, itF x.y)
theorem win_eq (b off c : Nat) (ps : List Pt) : (winP b off c ps).map wnF = winB (ps.map itF) := by
  unfold winP winB
  rw [List.map_map, List.length_map]
  refine List.map_congr_left fun i hi => ?_
  have hi' : i < ps.length - 1 := List.mem_range.1 hi
  have g : ∀ j, j < ps.length → (ps.map itF)[j]! = itF ps[j]! := fun j hj => by
    rw [getElem!_pos _ j (by rw [List.length_map]; exact hj), getElem!_pos ps j hj, List.getElem_map]
  rw [g i (by omega), g (i + 1) (by omega)]
  rfl
theorem merge_eq {l : List Sp} {sd : List Sd} {ps : List Pt} (h : DivOk l sd sd.length ps) (b off c : Nat) (low : Int) : mergeP b off c low ps = mergeC (itsB l sd) low := by
  unfold mergeP mergeC
  rw [← its_of h, ← win_eq b off c, pick_map]
  have e3 : (fun x : Wn => -((wnF x).1.2 + (wnF x).2.2)) = fun x : Wn => -sumW x := rfl
  have e4 : (fun x : Wn => lightB low (wnF x)) = lightP low := rfl
  rw [e3, e4]
  cases bestF (fun x : Wn => -sumW x) ((winP b off c ps).filter (lightP low)) <;> rfl
def firstP (S : List Int) (p : Po) (b off c : Nat) (ps : List Pt) : Option Gd := match splitP p.1 ps with
  | some x => some x
  | none => match shiftP S p.2.2 ps with
    | some x => some x
    | none => mergeP b off c p.2.1 ps
theorem first_eq {l : List Sp} {sd : List Sd} {ps : List Pt} (h : DivOk l sd sd.length ps) (n : Nat) (p : Po) (b off c : Nat) : firstP (nodesB (itsB l sd) n) p b off c ps = firstG l sd n p := by
  unfold firstP firstG
  rw [split_eq h, shift_eq h, merge_eq h]
  cases splitC l sd p.1 with
  | some x => rfl
  | none => cases shiftC (itsB l sd) (nodesB (itsB l sd) n) p.2.2 <;> rfl
set_option maxRecDepth 100000 in
set_option maxHeartbeats 4000000 in
theorem first25_any (b off n c : Nat) (ps : List Pt) (a2 : Option Addr) (m cp2 : Nat) (S : List Int) (ph pl psl : Int) (w : World) (h : RArg encPt 6 w (some ⟨b, off, none⟩) n c ps) (hps : GoodPs w ps) (hn24 : 1 ≤ n ∧ n ≤ 24) (hS : RArg encI 1 w a2 m cp2 S) (hm : 1 ≤ m ∧ m ≤ 5) (hb : ∀ z ∈ S, 0 ≤ z ∧ z ≤ 1000000000000000000) :
    Calls Try.prog 22 #[.slice (some ⟨b, off, none⟩) n c, .slice a2 m cp2, .agg #[.int .i64 ph, .int .i64 pl, .int .i64 psl]] w (SugPost (firstP S (ph, pl, psl) b off c ps) w) := by
  obtain ⟨R, hR⟩ : ∃ R, firstP S (ph, pl, psl) b off c ps = R := ⟨_, rfl⟩
  rw [hR]
  obtain ⟨W0, hW0⟩ : ∃ W0, w.alloc (.cells #[.int .i64 ph, .int .i64 pl, .int .i64 psl] 27) = W0 := ⟨_, rfl⟩
  have b0 : Below w.heap.size w W0 := by rw [← hW0]; exact (Below.refl _ _).alloc (Nat.le_refl _) _
  have g0 : w.heap.size < W0.heap.size := by rw [← hW0]; simp
  have r0 : W0.heap[w.heap.size]? = some (.cells #[.int .i64 ph, .int .i64 pl, .int .i64 psl] 27) := by rw [← hW0]; exact heap_alloc_new _ _
  obtain ⟨W1, hW1⟩ : ∃ W1, W0.alloc (.cells #[.int .i64 0, .int .i64 0, .int .i64 0] 33) = W1 := ⟨_, rfl⟩
  have b01 : Below W0.heap.size W0 W1 := by rw [← hW1]; exact (Below.refl _ _).alloc (Nat.le_refl _) _
  have g1 : W0.heap.size < W1.heap.size := by rw [← hW1]; simp
  have r1 : W1.heap[W0.heap.size]? = some (.cells #[.int .i64 0, .int .i64 0, .int .i64 0] 33) := by rw [← hW1]; exact heap_alloc_new _ _
  have bw := below_next b0 b01
  have KZ := Lib.hid (fun W (hb : Below W1.heap.size W1 W) => cells3B ((hb.block _ g1).trans r1))
  have KP := Lib.hid (fun W (hb : Below W1.heap.size W1 W) => (cells3B ((hb.block _ (Nat.lt_trans g0 g1)).trans ((b01.block _ g0).trans r0))).1)
  obtain ⟨q0, q1, q2⟩ := KP.out _ (Below.refl _ _)
  have g0w : w.heap.size ≤ W0.heap.size := Nat.le_of_lt g0
  have HA := Lib.hid (h.below bw)
  have HG := Lib.hid (hps.below bw)
  have HSA := Lib.hid (hS.below bw)
  have C1 := Lib.hid (fun W (hb' : Below W1.heap.size W1 W) => split_any (some ⟨b, off, none⟩) n c ps ph W (HA.out.below hb') (HG.out.below hb') hn24.2)
  have C2 := Lib.hid (fun W (hb' : Below W1.heap.size W1 W) => shift_any (some ⟨b, off, none⟩) n c ps a2 m cp2 S psl W (HA.out.below hb') (HG.out.below hb') hn24.2 (HSA.out.below hb') hm hb)
  have C3 := Lib.hid (fun W (hb' : Below W1.heap.size W1 W) => merge_any b off n c ps pl W (HA.out.below hb') (fun x hx => (HG.out x hx).2) hn24)
  have hRe : R = match splitP ph ps with | some x => some x | none => match shiftP S psl ps with | some x => some x | none => mergeP b off c pl ps := hR.symm
  clear r0 r1 h hps hS hb hR hn24 hm
  cases h1 : splitP ph ps with
  | some x =>
    rw [h1] at hRe C1
    obtain ⟨k, id, at_⟩ := x
    have HR := Lib.hid (show R = some (k, id, at_) from hRe)
    have D1 := Lib.hid (fun W (hb' : Below W1.heap.size W1 W) => (show Calls Try.prog 45 #[.slice (some ⟨b, off, none⟩) n c, .int .i64 ph] W fun e w' => e = .returned (.tuple #[.agg #[.int .i64 k, .int .i64 id, .int .i64 at_], .bool true]) ∧ Below W.heap.size W w' from C1.out W hb'))
    clear hRe h1 C1 C2 C3
    go_enter Try.func22, Try.ntmps22
    go_wp2_with (first | (go_at_call 45; (with_reducible refine (D1.out _ (Below.refl _ _)).mono ?_); rintro e w2 ⟨rfl, hb2⟩; (obtain ⟨W3, hW3⟩ : ∃ W3, w2.alloc (.cells #[.int .i64 k, .int .i64 id, .int .i64 at_] 33) = W3 := ⟨_, rfl⟩); (have b23 : Below w2.heap.size w2 W3 := by rw [← hW3]; exact (Below.refl _ _).alloc (Nat.le_refl _) _); (have r3 : W3.heap[w2.heap.size]? = some (.cells #[.int .i64 k, .int .i64 id, .int .i64 at_] 33) := by rw [← hW3]; exact heap_alloc_new _ _); obtain ⟨x0, x1, x2⟩ := (cells3B r3).1; have hb13 := below_next hb2 b23; obtain ⟨⟨z0, z1, z2⟩, fz⟩ := KZ.out _ hb13; have f0 := fz 0; have f1 := fz 1; have f2 := fz 2; clear fz r3) | fail)
    exact bodyPost_ret (v := .tuple #[.agg #[.int .i64 k, .int .i64 id, .int .i64 at_], .bool true]) (by simp [results, Try.results22, go_sem, z0, z1, z2]) rfl ⟨by rw [HR.out]; rfl, (by repeat (first | with_reducible exact below_next bw hb13 | with_reducible refine Below.setCell ?_ (show w.heap.size ≤ W0.heap.size from g0w) _))⟩
  | none =>
    rw [h1] at hRe C1
    have D1 := Lib.hid (fun W (hb' : Below W1.heap.size W1 W) => (show Calls Try.prog 45 #[.slice (some ⟨b, off, none⟩) n c, .int .i64 ph] W fun e w' => e = .returned (.tuple #[.agg #[.int .i64 0, .int .i64 0, .int .i64 0], .bool false]) ∧ Below W.heap.size W w' from C1.out W hb'))
    cases h2 : shiftP S psl ps with
    | some x =>
      rw [h2] at hRe C2
      obtain ⟨k, id, at_⟩ := x
      have HR := Lib.hid (show R = some (k, id, at_) from hRe)
      have D2 := Lib.hid (fun W (hb' : Below W1.heap.size W1 W) => (show Calls Try.prog 46 #[.slice (some ⟨b, off, none⟩) n c, .slice a2 m cp2, .int .i64 psl] W fun e w' => e = .returned (.tuple #[.agg #[.int .i64 k, .int .i64 id, .int .i64 at_], .bool true]) ∧ Below W.heap.size W w' from C2.out W hb'))
      clear hRe h1 h2 C1 C2 C3
      go_enter Try.func22, Try.ntmps22
      go_wp2_with (first | (go_at_call 45; (with_reducible refine (D1.out _ (Below.refl _ _)).mono ?_); rintro e w2 ⟨rfl, hb2⟩; have hb13 := hb2.alloc hb2.size (.cells #[.int .i64 0, .int .i64 0, .int .i64 0] 33); obtain ⟨q0, q1, q2⟩ := KP.out _ hb13) | (go_at_call 46; (with_reducible refine (D2.out _ hb13).mono ?_); rintro e w4 ⟨rfl, hb4⟩; have hb14 := below_next hb13 hb4; (obtain ⟨W3, hW3⟩ : ∃ W3, w4.alloc (.cells #[.int .i64 k, .int .i64 id, .int .i64 at_] 33) = W3 := ⟨_, rfl⟩); (have b43 : Below w4.heap.size w4 W3 := by rw [← hW3]; exact (Below.refl _ _).alloc (Nat.le_refl _) _); (have r3 : W3.heap[w4.heap.size]? = some (.cells #[.int .i64 k, .int .i64 id, .int .i64 at_] 33) := by rw [← hW3]; exact heap_alloc_new _ _); obtain ⟨x0, x1, x2⟩ := (cells3B r3).1; have hb15 := below_next hb14 b43; obtain ⟨⟨z0, z1, z2⟩, fz⟩ := KZ.out _ hb15; have f0 := fz 0; have f1 := fz 1; have f2 := fz 2; clear fz r3) | fail)
      exact bodyPost_ret (v := .tuple #[.agg #[.int .i64 k, .int .i64 id, .int .i64 at_], .bool true]) (by simp [results, Try.results22, go_sem, z0, z1, z2]) rfl ⟨by rw [HR.out]; rfl, (by repeat (first | with_reducible exact below_next bw hb15 | with_reducible refine Below.setCell ?_ (show w.heap.size ≤ W0.heap.size from g0w) _))⟩
    | none =>
      rw [h2] at hRe C2
      have HR := Lib.hid (show R = mergeP b off c pl ps from hRe)
      obtain ⟨M, hM⟩ : ∃ M, mergeP b off c pl ps = M := ⟨_, rfl⟩
      rw [hM] at C3 HR
      obtain ⟨⟨k, id, at_⟩, hg⟩ : ∃ g, M.getD (0, 0, 0) = g := ⟨_, rfl⟩
      obtain ⟨sm, hs⟩ : ∃ s, M.isSome = s := ⟨_, rfl⟩
      have HE := Lib.hid (show SugPost R w = fun e w' => e = .returned (.tuple #[.agg #[.int .i64 k, .int .i64 id, .int .i64 at_], .bool sm]) ∧ Below w.heap.size w w' by unfold SugPost; rw [HR.out, hg, hs])
      have D2 := Lib.hid (fun W (hb' : Below W1.heap.size W1 W) => (show Calls Try.prog 46 #[.slice (some ⟨b, off, none⟩) n c, .slice a2 m cp2, .int .i64 psl] W fun e w' => e = .returned (.tuple #[.agg #[.int .i64 0, .int .i64 0, .int .i64 0], .bool false]) ∧ Below W.heap.size W w' from C2.out W hb'))
      have D3 := Lib.hid (fun W (hb' : Below W1.heap.size W1 W) => (show Calls Try.prog 47 #[.slice (some ⟨b, off, none⟩) n c, .int .i64 pl] W fun e w' => e = .returned (.tuple #[.agg #[.int .i64 k, .int .i64 id, .int .i64 at_], .bool sm]) ∧ Below W.heap.size W w' by
        have := C3.out W hb'
        unfold SugPost at this
        rw [hg, hs] at this
        exact this))
      rw [HE.out]
      clear hRe h1 h2 C1 C2 C3 hM hg hs
      go_enter Try.func22, Try.ntmps22
      go_wp2_with (first | (go_at_call 45; (with_reducible refine (D1.out _ (Below.refl _ _)).mono ?_); rintro e w2 ⟨rfl, hb2⟩; have hb13 := hb2.alloc hb2.size (.cells #[.int .i64 0, .int .i64 0, .int .i64 0] 33); obtain ⟨q0, q1, q2⟩ := KP.out _ hb13) | (go_at_call 46; (with_reducible refine (D2.out _ hb13).mono ?_); rintro e w4 ⟨rfl, hb4⟩; have hb14 := below_next hb13 hb4; have hb15 := hb14.alloc hb14.size (.cells #[.int .i64 0, .int .i64 0, .int .i64 0] 33); obtain ⟨q0, q1, q2⟩ := KP.out _ hb15) | (go_at_call 47; (with_reducible refine (D3.out _ hb15).mono ?_); rintro e w6 ⟨rfl, hb6⟩; have hb16 := below_next hb15 hb6; obtain ⟨⟨z0, z1, z2⟩, fz⟩ := KZ.out _ hb16; have f0 := fz 0; have f1 := fz 1; have f2 := fz 2; clear fz) | fail)
      exact bodyPost_ret (v := .tuple #[.agg #[.int .i64 k, .int .i64 id, .int .i64 at_], .bool sm]) (by simp [results, Try.results22, go_sem, z0, z1, z2]) rfl ⟨rfl, (by repeat (first | with_reducible exact below_next bw hb16 | with_reducible refine Below.setCell ?_ (show w.heap.size ≤ W0.heap.size from g0w) _))⟩
end Go.Proofs.Ytihpojllalnmcaa
