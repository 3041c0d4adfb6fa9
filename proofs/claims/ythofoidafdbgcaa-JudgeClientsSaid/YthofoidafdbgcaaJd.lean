/-
  CONTRACTS: the document's Apply.
-/
import Derived.Test.YthofoidafdbgcaaJc
import Derived.Test.YthofoidafdbgcaaMB2
import Derived.Deep.RegionHeld3
import Derived.Deep.RegionLaw
import Derived.Deep.AppendLies
import Derived.Deep.DeepCutAuto
namespace Go.Proofs.Ythofoidafdbgcaa
open Go.RowKit Go.Shelf Go.ChangeShapes Go.WideShapes Go.Deep

def AppDoc (r : List Sp × Bool) (w : World) (e : Ending) (w' : World) : Prop := ∃ a n c, e = .returned (.tuple #[.slice a n c, .bool r.2]) ∧ Arg w' a n c r.1 ∧ Below w.heap.size w w'
theorem tupJ {v : Value} {p q : Bool} (h : p = q) : Ending.returned (.tuple #[v, .bool p]) = .returned (.tuple #[v, .bool q]) := by rw [h]
theorem toDJ {B : Nat} {a X : World} (h : Below B a X) : Below B a X.drew := ⟨h.os, h.tape, h.output, h.size, h.block⟩
theorem cellJ {W : World} {x : Array Value} {t : TypeId} {b i : Nat} (hb : b = W.heap.size) : (W.alloc (.cells x t)).cell? ⟨b, i, none⟩ = x[i]? := by subst hb; exact cell_of_row _ _ _ _ _ _ (heap_alloc_new _ _)
theorem kzJ {W wz : World} {t : TypeId} (h : Below ((W.alloc (.cells #[.int .i64 0, .bool false] t)).drew).heap.size ((W.alloc (.cells #[.int .i64 0, .bool false] t)).drew) wz) :
    wz.cell? ⟨W.heap.size, 0, none⟩ = some (.int .i64 0) ∧ wz.cell? ⟨W.heap.size, 1, none⟩ = some (.bool false) ∧ wz.frozen? ⟨W.heap.size, 0, none⟩ = false ∧ wz.frozen? ⟨W.heap.size, 1, none⟩ = false := by
  have hs : W.heap.size < ((W.alloc (.cells #[.int .i64 0, .bool false] t)).drew).heap.size := by simp
  have c := fun i => h.cell (p := ⟨W.heap.size, i, none⟩) hs
  have f := fun i => h.frozen (p := ⟨W.heap.size, i, none⟩) hs
  exact ⟨(c 0).trans (cell_of_row _ _ 0 _ _ _ (heap_alloc_new W _)), (c 1).trans (cell_of_row _ _ 1 _ _ _ (heap_alloc_new W _)), (f 0).trans (frozen_of_row _ _ 0 _ _ (heap_alloc_new W _)), (f 1).trans (frozen_of_row _ _ 1 _ _ (heap_alloc_new W _))⟩
theorem setJ {W : World} {b : Nat} {x y u v : Value} (h0 : W.cell? ⟨b, 0, none⟩ = some x) (h1 : W.cell? ⟨b, 1, none⟩ = some y) :
    ((W.setCell ⟨b, 0, none⟩ u).setCell ⟨b, 1, none⟩ v).cell? ⟨b, 0, none⟩ = some u ∧ ((W.setCell ⟨b, 0, none⟩ u).setCell ⟨b, 1, none⟩ v).cell? ⟨b, 1, none⟩ = some v := by
  have e0 : (W.setCell ⟨b, 0, none⟩ u).cell? ⟨b, 0, none⟩ = some u := World.cell?_setCell_same' _ _ _ (by rw [h0]; rfl)
  have e1 : (W.setCell ⟨b, 0, none⟩ u).cell? ⟨b, 1, none⟩ = some y := (World.cell?_setCell_other W ⟨b, 0, none⟩ ⟨b, 1, none⟩ u (by simp)).trans h1
  exact ⟨(World.cell?_setCell_other _ ⟨b, 1, none⟩ ⟨b, 0, none⟩ v (by simp)).trans e0, World.cell?_setCell_same' _ _ _ (by rw [e1]; rfl)⟩
theorem docA_cons {l : List Sp} {f : Int → Option Int × Bool} {x : Int} {t : List Int} {O : List Sp} {r : Option Int × Bool} {y : List Sp × Bool} (h : docA l f (x :: t) O = y) (hf : f x = r) :
    (r.2 = true → (r.1.isSome = true → docA l f t (O ++ [(x, r.1.getD 0)]) = y) ∧ (r.1.isSome = false → docA l f t O = y)) ∧ (r.2 = false → y = (l, false)) := by
  have e : docA l f (x :: t) O = if (f x).2 = true then docA l f t (match (f x).1 with | some v => O ++ [(x, v)] | none => O) else (l, false) := rfl
  rw [e, hf] at h
  refine ⟨fun h2 => ?_, fun h2 => ?_⟩
  · rw [if_pos h2] at h
    obtain ⟨o, z⟩ := r
    cases o with
    | none => exact ⟨fun q => (by cases q), fun _ => h⟩
    | some q => exact ⟨fun _ => h, fun q => (by cases q)⟩
  · rw [if_neg (by rw [h2]; simp)] at h
    exact h.symm
set_option maxRecDepth 100000 in
set_option maxHeartbeats 8000000 in
theorem rtapply_any (a : Option Addr) (n cp : Nat) (l : List Sp) (c s k : Int) (a2 : Option Addr) (n2 cp2 : Nat) (ps : List Sp) (lo hi old : Int) (a3 : Option Addr) (n3 cp3 : Nat) (on : List Sp) (w : World) (hL : Arg w a n cp l) (hP : Arg w a2 n2 cp2 ps) (hO : Arg w a3 n3 cp3 on) (hz : l.length ≤ 4096) (hz2 : ps.length ≤ 4096) :
    Calls Try.prog 28 #[.slice a n cp, .agg #[.int .i64 c, .int .i64 s, .int .i64 k, .slice a2 n2 cp2, .int .i64 lo, .int .i64 hi, .int .i64 old], .slice a3 n3 cp3] w (AppDoc (applyP l c s k ps lo hi old on) w) := by
  have mixed : Try.prog.follows .mixedOrders = true := by kernel_rfl
  obtain ⟨i0, hi0, hz0, hz1, hz2'⟩ := info_parts Try.infoRPair
  obtain ⟨W1, hW1⟩ : ∃ W1, w.alloc (.cells #[.int .i64 c, .int .i64 s, .int .i64 k, .slice a2 n2 cp2, .int .i64 lo, .int .i64 hi, .int .i64 old] 45) = W1 := ⟨_, rfl⟩
  have bw : Below w.heap.size w W1 := by rw [← hW1]; exact (Below.refl _ _).alloc (Nat.le_refl _) _
  have K7 := Lib.hid (fun W (h : Below W1.heap.size W1 W) => box7 (w := w) (t := 45) (v0 := .int .i64 c) (v1 := .int .i64 s) (v2 := .int .i64 k) (v3 := .slice a2 n2 cp2) (v4 := .int .i64 lo) (v5 := .int .i64 hi) (v6 := .int .i64 old) (w' := W) (by rw [hW1]; exact h))
  have HS := Lib.hid ((((Env.mk (L := []) (Below.refl W1.heap.size W1) (by simp)).add (hO.below bw)).add (hP.below bw)).add (hL.below bw))
  obtain ⟨q0, q1, q2, q3, q4, q5, q6⟩ := K7.out _ HS.out.low
  obtain ⟨R, hR⟩ : ∃ R, applyP l c s k ps lo hi old on = R := ⟨_, rfl⟩
  rw [hR]
  obtain ⟨t1, ht1⟩ : ∃ f, tblB l = f := ⟨_, rfl⟩
  obtain ⟨t2, ht2⟩ : ∃ f, chkM c s k ps lo hi old = f := ⟨_, rfl⟩
  obtain ⟨t3, ht3⟩ : ∃ f, chkB on = f := ⟨_, rfl⟩
  have TC := Lib.hid (fun W h => ht1 ▸ rtcheck_any a n cp l W h)
  have MC := Lib.hid (fun W h => ht2 ▸ rcheck4_any c s k a2 n2 cp2 ps lo hi old W h)
  have SC := Lib.hid (fun W h => ht3 ▸ rcheck_any a3 n3 cp3 on W h)
  have HZ := Lib.hid hz
  have HZ2 := Lib.hid hz2
  have hcase : t1 = false ∨ (t1 = true ∧ t2 = false) ∨ (t1 = true ∧ t2 = true ∧ t3 = false) ∨ (t1 = true ∧ t2 = true ∧ t3 = true) := by cases t1 <;> cases t2 <;> cases t3 <;> simp
  clear hL hP hO hz hz2
  rcases hcase with rfl | ⟨rfl, rfl⟩ | ⟨rfl, rfl, rfl⟩ | ⟨rfl, rfl, rfl⟩
  · have HRR := Lib.hid (show R = ([], false) by rw [← hR]; exact if_neg (by rw [ht1]; simp))
    replace hR := Lib.hid hR
    replace ht1 := Lib.hid ht1
    replace ht2 := Lib.hid ht2
    replace ht3 := Lib.hid ht3
    go_enter Try.func28, Try.ntmps28
    go_wp2_with (first | (go_at_call 36; (with_reducible refine (TC.out _ (HS.out.get (by repeat (first | exact List.mem_cons_self | apply List.mem_cons_of_mem)))).mono ?_); rintro e w' ⟨rfl, hb⟩; replace HS := Lib.hid (HS.out.step hb); clear hb; obtain ⟨q0, q1, q2, q3, q4, q5, q6⟩ := K7.out _ HS.out.low) | (go_at_call 21; (with_reducible refine (MC.out _ (HS.out.get (by repeat (first | exact List.mem_cons_self | apply List.mem_cons_of_mem)))).mono ?_); rintro e w' ⟨rfl, hb⟩; replace HS := Lib.hid (HS.out.step hb); clear hb; obtain ⟨q0, q1, q2, q3, q4, q5, q6⟩ := K7.out _ HS.out.low) | (go_at_call 25; (with_reducible refine (SC.out _ (HS.out.get (by repeat (first | exact List.mem_cons_self | apply List.mem_cons_of_mem)))).mono ?_); rintro e w' ⟨rfl, hb⟩; replace HS := Lib.hid (HS.out.step hb); clear hb; obtain ⟨q0, q1, q2, q3, q4, q5, q6⟩ := K7.out _ HS.out.low))
    go_ret2
    exact ⟨none, 0, 0, tupJ (by rw [HRR.out]), by rw [HRR.out]; exact ⟨rfl, by simp, by simp, by simp, PIn.nil _ _ _⟩, bw.trans (HS.out.low.mono bw.size)⟩
  · have HRR := Lib.hid (show R = ([], false) by rw [← hR]; exact if_neg (by rw [ht2]; simp))
    replace hR := Lib.hid hR
    replace ht1 := Lib.hid ht1
    replace ht2 := Lib.hid ht2
    replace ht3 := Lib.hid ht3
    go_enter Try.func28, Try.ntmps28
    go_wp2_with (first | (go_at_call 36; (with_reducible refine (TC.out _ (HS.out.get (by repeat (first | exact List.mem_cons_self | apply List.mem_cons_of_mem)))).mono ?_); rintro e w' ⟨rfl, hb⟩; replace HS := Lib.hid (HS.out.step hb); clear hb; obtain ⟨q0, q1, q2, q3, q4, q5, q6⟩ := K7.out _ HS.out.low) | (go_at_call 21; (with_reducible refine (MC.out _ (HS.out.get (by repeat (first | exact List.mem_cons_self | apply List.mem_cons_of_mem)))).mono ?_); rintro e w' ⟨rfl, hb⟩; replace HS := Lib.hid (HS.out.step hb); clear hb; obtain ⟨q0, q1, q2, q3, q4, q5, q6⟩ := K7.out _ HS.out.low) | (go_at_call 25; (with_reducible refine (SC.out _ (HS.out.get (by repeat (first | exact List.mem_cons_self | apply List.mem_cons_of_mem)))).mono ?_); rintro e w' ⟨rfl, hb⟩; replace HS := Lib.hid (HS.out.step hb); clear hb; obtain ⟨q0, q1, q2, q3, q4, q5, q6⟩ := K7.out _ HS.out.low))
    go_ret2
    exact ⟨none, 0, 0, tupJ (by rw [HRR.out]), by rw [HRR.out]; exact ⟨rfl, by simp, by simp, by simp, PIn.nil _ _ _⟩, bw.trans (HS.out.low.mono bw.size)⟩
  · have HRR := Lib.hid (show R = ([], false) by rw [← hR]; exact if_neg (by rw [ht3]; simp))
    replace hR := Lib.hid hR
    replace ht1 := Lib.hid ht1
    replace ht2 := Lib.hid ht2
    replace ht3 := Lib.hid ht3
    go_enter Try.func28, Try.ntmps28
    go_wp2_with (first | (go_at_call 36; (with_reducible refine (TC.out _ (HS.out.get (by repeat (first | exact List.mem_cons_self | apply List.mem_cons_of_mem)))).mono ?_); rintro e w' ⟨rfl, hb⟩; replace HS := Lib.hid (HS.out.step hb); clear hb; obtain ⟨q0, q1, q2, q3, q4, q5, q6⟩ := K7.out _ HS.out.low) | (go_at_call 21; (with_reducible refine (MC.out _ (HS.out.get (by repeat (first | exact List.mem_cons_self | apply List.mem_cons_of_mem)))).mono ?_); rintro e w' ⟨rfl, hb⟩; replace HS := Lib.hid (HS.out.step hb); clear hb; obtain ⟨q0, q1, q2, q3, q4, q5, q6⟩ := K7.out _ HS.out.low) | (go_at_call 25; (with_reducible refine (SC.out _ (HS.out.get (by repeat (first | exact List.mem_cons_self | apply List.mem_cons_of_mem)))).mono ?_); rintro e w' ⟨rfl, hb⟩; replace HS := Lib.hid (HS.out.step hb); clear hb; obtain ⟨q0, q1, q2, q3, q4, q5, q6⟩ := K7.out _ HS.out.low))
    go_ret2
    exact ⟨none, 0, 0, tupJ (by rw [HRR.out]), by rw [HRR.out]; exact ⟨rfl, by simp, by simp, by simp, PIn.nil _ _ _⟩, bw.trans (HS.out.low.mono bw.size)⟩
  · have ht : touchesB k ps lo hi = touchesB k ps lo hi := rfl
    clear ht
    have HAP := doc_apply (on := on) (s := s) (c := c) (hi := hi) (lo := lo) (old := old) ht1 ht2
    have HRR : applyP l c s k ps lo hi old on = appT l k ps lo hi old on := if_pos ⟨ht1, ht2, ht3⟩
    rw [hR] at HRR
    rw [← HRR] at HAP
    clear HRR
    have hkind := fits_cases (chkM_and ht2).2.2.2
    have hlen : k = 3 ∨ k = 4 ∨ k = 5 → 0 < ps.length := by
      rcases hkind with ⟨k1, _⟩ | ⟨k2, _⟩ | ⟨_, p, rfl, _⟩ | ⟨_, p, q, rfl, _⟩
      · omega
      · omega
      · simp
      · simp
    have hpv : k = 3 ∨ k = 5 → -1099511627776 ≤ (ps.getD 0 (0, 0)).2 ∧ (ps.getD 0 (0, 0)).2 ≤ 1099511627776 := by
      rcases hkind with ⟨k1, _⟩ | ⟨k2, _⟩ | ⟨_, p, rfl, hp⟩ | ⟨_, p, q, rfl, hp, _⟩
      · omega
      · omega
      · intro _; have := (okP_bd hp).2; simpa using this
      · intro _; have := (okP_bd hp).2; simpa using this
    have HLN := Lib.hid hlen
    have HPV := Lib.hid hpv
    have HGV := Lib.hid (fun x => getT_val (k := x) ht1)
    clear hkind hlen hpv
    replace hR := Lib.hid hR
    replace ht1 := Lib.hid ht1
    replace ht2 := Lib.hid ht2
    replace ht3 := Lib.hid ht3
    obtain ⟨K, hK⟩ : ∃ K, keysF (keysF [] l) ps = K := ⟨_, rfl⟩
    rw [hK] at HAP
    have hKl : K.length ≤ 8192 := by have h1 := keysF_len l []; have h2 := keysF_len ps (keysF [] l); have := HZ.out; have := HZ2.out; rw [hK] at h2; simp at h1; omega
    obtain ⟨f, hf⟩ : ∃ f, docF l k ps lo hi old on = f := ⟨_, rfl⟩
    rw [hf] at HAP
    have H0 := Lib.hid (show docA l f (K.drop 0) [] = R from HAP)
    clear HAP
    have HKL := Lib.hid hKl
    clear hKl
    replace hK := Lib.hid hK
    replace hf := Lib.hid hf
    go_enter Try.func28, Try.ntmps28
    go_wp2_with (first | (go_at_call 36; (with_reducible refine (TC.out _ (HS.out.get (by repeat (first | exact List.mem_cons_self | apply List.mem_cons_of_mem)))).mono ?_); rintro e w' ⟨rfl, hb⟩; replace HS := Lib.hid (HS.out.step hb); clear hb; obtain ⟨q0, q1, q2, q3, q4, q5, q6⟩ := K7.out _ HS.out.low) | (go_at_call 21; (with_reducible refine (MC.out _ (HS.out.get (by repeat (first | exact List.mem_cons_self | apply List.mem_cons_of_mem)))).mono ?_); rintro e w' ⟨rfl, hb⟩; replace HS := Lib.hid (HS.out.step hb); clear hb; obtain ⟨q0, q1, q2, q3, q4, q5, q6⟩ := K7.out _ HS.out.low) | (go_at_call 25; (with_reducible refine (SC.out _ (HS.out.get (by repeat (first | exact List.mem_cons_self | apply List.mem_cons_of_mem)))).mono ?_); rintro e w' ⟨rfl, hb⟩; replace HS := Lib.hid (HS.out.step hb); clear hb; obtain ⟨q0, q1, q2, q3, q4, q5, q6⟩ := K7.out _ HS.out.low) | (go_at_call 50; (with_reducible refine (rkeys_any a n cp l c s k a2 n2 cp2 ps lo hi old _ (HS.out.get (by repeat (first | exact List.mem_cons_self | apply List.mem_cons_of_mem))) (HS.out.get (by repeat (first | exact List.mem_cons_self | apply List.mem_cons_of_mem))) HZ.out HZ2.out).mono ?_); rintro e w5 ⟨ak, nk, ck, rfl, hnk, hik, hb⟩; replace hnk := Lib.hid hnk; replace hik := Lib.hid hik; replace HS := Lib.hid (HS.out.step hb); clear hb; obtain ⟨q0, q1, q2, q3, q4, q5, q6⟩ := K7.out _ HS.out.low))
    rw [hK.out] at hnk hik
    have hnk2 := Lib.hid (show nk ≤ 8192 by have := hnk.out; have := HKL.out; omega)
    have hnz : (nk : Int) ≤ 9223372036854775807 := by have := hnk2.out; omega
    have HB5 := Lib.hid HS.out.low
    have HL := Lib.hid (show Arg w5 a n cp l from HS.out.get (by repeat (first | exact List.mem_cons_self | apply List.mem_cons_of_mem)))
    have HP := Lib.hid (show Arg w5 a2 n2 cp2 ps from HS.out.get (by repeat (first | exact List.mem_cons_self | apply List.mem_cons_of_mem)))
    have HO3 := Lib.hid (show Arg w5 a3 n3 cp3 on from HS.out.get (by repeat (first | exact List.mem_cons_self | apply List.mem_cons_of_mem)))
    clear HS q0 q1 q2 q3 q4 q5 q6
    replace hW1 := Lib.hid hW1
    go_loopw [9, 10] (fun vO i wr => ∃ (j : Nat) (O : List Sp), i = .int .i64 (j : Int) ∧ j ≤ nk ∧ Hid (OwnsP 66 wr w5.heap.size vO O) ∧ Hid (docA l f (K.drop j) O = R) ∧ Hid (O.length ≤ j) ∧ Below w5.heap.size w5 wr)
      (fun _ i _ => nk - (intOf i).toNat)
    case atStart => exact ⟨0, [], rfl, Nat.zero_le _, Lib.hid (OwnsP.nil _ _ _), H0, Lib.hid (Nat.le_refl _), Below.refl _ _⟩
    case round =>
      obtain ⟨j, O, rfl, hj, HO, HD, HJ, hbl⟩ := hrel
      by_cases hlt : j < nk
      · have hjl : j < K.length := by rw [← hnk.out]; exact hlt
        have hjz : (j : Int) < (nk : Int) := by omega
        rcases hik.out with hl | ⟨bk, ok, e, hbk, hcell⟩
        · rw [hl] at hjl; simp at hjl
        subst e
        have cK := hcell j hjl
        clear hcell
        have hdj := HD.out
        rw [drop_moreI hjl] at hdj
        obtain ⟨x, hx⟩ : ∃ x, K.getD j 0 = x := ⟨_, rfl⟩
        rw [hx] at cK hdj
        have ck : wr.cell? ⟨bk, ok + j, none⟩ = some (.int .i64 x) := (hbl.cell (p := ⟨bk, ok + j, none⟩) hbk).trans cK
        replace hx := Lib.hid hx
        replace cK := Lib.hid cK
        have cK' : w5.cell? ⟨bk, ok + j, none⟩ = some (.int .i64 x) := cK.out
        replace cK' := Lib.hid cK'
        have b1r : Below W1.heap.size W1 wr := below_next HB5.out hbl
        obtain ⟨q0, q1, q2, q3, q4, q5, q6⟩ := K7.out _ b1r
        obtain ⟨g, hg⟩ : ∃ g, getT l x = g := ⟨_, rfl⟩
        obtain ⟨v, hv⟩ : ∃ v, g.getD 0 = v := ⟨_, rfl⟩
        obtain ⟨b, hb⟩ : ∃ b, g.isSome = b := ⟨_, rfl⟩
        have hc : cellA g = .agg #[.int .i64 v, .bool b] := by unfold cellA; rw [hv, hb]
        have RG := Lib.hid (fun W (h : Below wr.heap.size wr W) => hc ▸ hg ▸ rget_any a n cp l x W ((HL.out.below hbl).below h))
        have hgv : -1099511627776 ≤ g.getD 0 ∧ g.getD 0 ≤ 1099511627776 := hg ▸ HGV.out x
        obtain ⟨⟨d, z⟩, hd⟩ : ∃ r, cellD k old ps x g = r := ⟨_, rfl⟩
        obtain ⟨v2, hv2⟩ : ∃ v, d.getD 0 = v := ⟨_, rfl⟩
        obtain ⟨b2, hb2⟩ : ∃ b, d.isSome = b := ⟨_, rfl⟩
        have hc2 : cellA d = .agg #[.int .i64 v2, .bool b2] := by unfold cellA; rw [hv2, hb2]
        have CE := Lib.hid (fun W (h : Arg W a2 n2 cp2 ps) => (show Calls Try.prog 54 #[.agg #[.int .i64 v, .bool b], .agg #[.int .i64 c, .int .i64 s, .int .i64 k, .slice a2 n2 cp2, .int .i64 lo, .int .i64 hi, .int .i64 old], .int .i64 x] W (fun e w' => e = .returned (.tuple #[.agg #[.int .i64 v2, .bool b2], .bool z]) ∧ Below W.heap.size W w') by
          have := rcells_any g c s k a2 n2 cp2 ps lo hi old x W h (fun q => by rw [h.1]; exact HLN.out q) hgv HPV.out
          rw [hc, hd] at this
          unfold CellOut at this
          dsimp only at this
          rw [hc2] at this
          exact this))
        obtain ⟨tx, htx⟩ : ∃ t, touchesB k ps lo hi x = t := ⟨_, rfl⟩
        obtain ⟨hx2, hhx⟩ : ∃ t, hasB on x = t := ⟨_, rfl⟩
        have hfx : f x = if (tx && hx2) = true then (d, z) else (g, true) := by rw [← hf.out]; unfold docF; rw [htx, hhx, hg, hd]
        have TS := Lib.hid (fun W h => htx ▸ touches4_any c s k a2 n2 cp2 ps lo hi old x W h)
        have HH3 := Lib.hid (fun W h => hhx ▸ rhas_any a3 n3 cp3 on x W h)
        have HDJ := Lib.hid hdj
        clear hdj HD hgv
        replace hg := Lib.hid hg
        replace hc := Lib.hid hc
        replace hc2 := Lib.hid hc2
        replace hd := Lib.hid hd
        replace htx := Lib.hid htx
        replace hhx := Lib.hid hhx
        replace hfx := Lib.hid hfx
        replace hv := Lib.hid hv
        replace hb := Lib.hid hb
        replace hv2 := Lib.hid hv2
        replace hb2 := Lib.hid hb2
        have bwr := Below.refl wr.heap.size wr
        go_upto_region 9 with (go_at_call 51; (with_reducible refine (RG.out _ bwr).mono ?_); rintro e w6 ⟨rfl, b6⟩; obtain ⟨W7, hW7⟩ : ∃ W7, w6.alloc (.cells #[.int .i64 v, .bool b] 104) = W7 := ⟨_, rfl⟩; obtain ⟨cB, hcB⟩ : ∃ cB, w6.heap.size = cB := ⟨_, rfl⟩; replace b6 := Lib.hid b6)
        replace hW7 := Lib.hid hW7
        replace hcB := Lib.hid hcB
        have b67 : Below w6.heap.size w6 W7 := by rw [← hW7.out]; exact (Below.refl _ _).alloc (Nat.le_refl _) _
        have br7 : Below wr.heap.size wr W7 := below_next b6.out b67
        have bw7 := below_next hbl br7
        have c7 : cB < W7.heap.size := by rw [← hW7.out, ← hcB.out]; simp
        have cr : wr.heap.size ≤ cB := by rw [← hcB.out]; exact b6.out.size
        have z0 := Lib.hid (show W7.cell? ⟨cB, 0, none⟩ = some (.int .i64 v) by rw [← hW7.out]; exact (cellJ hcB.out.symm).trans rfl)
        have z1 := Lib.hid (show W7.cell? ⟨cB, 1, none⟩ = some (.bool b) by rw [← hW7.out]; exact (cellJ hcB.out.symm).trans rfl)
        have zf := Lib.hid (show ∀ i, W7.frozen? ⟨cB, i, none⟩ = false from fun i => by rw [← hW7.out, ← hcB.out]; exact frozen_of_row _ _ _ _ _ (heap_alloc_new w6 _))
        have KE := fun (p : EnvW W7 [(a3, n3, cp3, on), (a2, n2, cp2, ps), (a, n, cp, l)]) => K7.out _ (below_next (below_next b1r br7) p.h.low)
        have G0 : ∀ p : EnvW W7 [(a3, n3, cp3, on), (a2, n2, cp2, ps), (a, n, cp, l)], p.W.cell? ⟨w.heap.size, 0, none⟩ = some (.int .i64 c) := fun p => (KE p).1
        have G1 : ∀ p : EnvW W7 [(a3, n3, cp3, on), (a2, n2, cp2, ps), (a, n, cp, l)], p.W.cell? ⟨w.heap.size, 1, none⟩ = some (.int .i64 s) := fun p => (KE p).2.1
        have G2 : ∀ p : EnvW W7 [(a3, n3, cp3, on), (a2, n2, cp2, ps), (a, n, cp, l)], p.W.cell? ⟨w.heap.size, 2, none⟩ = some (.int .i64 k) := fun p => (KE p).2.2.1
        have G3 : ∀ p : EnvW W7 [(a3, n3, cp3, on), (a2, n2, cp2, ps), (a, n, cp, l)], p.W.cell? ⟨w.heap.size, 3, none⟩ = some (.slice a2 n2 cp2) := fun p => (KE p).2.2.2.1
        have G4 : ∀ p : EnvW W7 [(a3, n3, cp3, on), (a2, n2, cp2, ps), (a, n, cp, l)], p.W.cell? ⟨w.heap.size, 4, none⟩ = some (.int .i64 lo) := fun p => (KE p).2.2.2.2.1
        have G5 : ∀ p : EnvW W7 [(a3, n3, cp3, on), (a2, n2, cp2, ps), (a, n, cp, l)], p.W.cell? ⟨w.heap.size, 5, none⟩ = some (.int .i64 hi) := fun p => (KE p).2.2.2.2.2.1
        have G6 : ∀ p : EnvW W7 [(a3, n3, cp3, on), (a2, n2, cp2, ps), (a, n, cp, l)], p.W.cell? ⟨w.heap.size, 6, none⟩ = some (.int .i64 old) := fun p => (KE p).2.2.2.2.2.2
        have GK : ∀ p : EnvW W7 [(a3, n3, cp3, on), (a2, n2, cp2, ps), (a, n, cp, l)], p.W.cell? ⟨bk, ok + j, none⟩ = some (.int .i64 x) := fun p => ((below_next bw7 p.h.low).cell (p := ⟨bk, ok + j, none⟩) hbk).trans cK.out
        clear KE
        have QT : Hid (∀ p : EnvW W7 [(a3, n3, cp3, on), (a2, n2, cp2, ps), (a, n, cp, l)], Calls Try.prog 52 #[.agg #[.int .i64 c, .int .i64 s, .int .i64 k, .slice a2 n2 cp2, .int .i64 lo, .int .i64 hi, .int .i64 old], .int .i64 x] p.W fun e w'' => e = .returned (.bool tx) ∧ ∃ q : EnvW W7 [(a3, n3, cp3, on), (a2, n2, cp2, ps), (a, n, cp, l)], w'' = q.W) := Lib.hid fun p => env_of p (TS.out p.W (p.h.get (by repeat (first | exact List.mem_cons_self | apply List.mem_cons_of_mem))))
        have QH : Hid (∀ p : EnvW W7 [(a3, n3, cp3, on), (a2, n2, cp2, ps), (a, n, cp, l)], Calls Try.prog 53 #[.slice a3 n3 cp3, .int .i64 x] p.W fun e w'' => e = .returned (.bool hx2) ∧ ∃ q : EnvW W7 [(a3, n3, cp3, on), (a2, n2, cp2, ps), (a, n, cp, l)], w'' = q.W) := Lib.hid fun p => env_of p (HH3.out p.W (p.h.get (by repeat (first | exact List.mem_cons_self | apply List.mem_cons_of_mem))))
        have hne : Nonempty (EnvW W7 [(a3, n3, cp3, on), (a2, n2, cp2, ps), (a, n, cp, l)]) := ⟨⟨W7, (((Env.mk (L := []) (Below.refl _ _) (by simp)).add (n := n) (HL.out.below bw7)).add (n := n2) (HP.out.below bw7)).add (n := n3) (HO3.out.below bw7)⟩⟩
        replace cK := cK.out
        cases tx
        · have HT := Lib.hid (show (b = true → docA l f (K.drop (j + 1)) (O ++ [(x, v)]) = R) ∧ (b = false → docA l f (K.drop (j + 1)) O = R) by
            have := (docA_cons (r := (g, true)) HDJ.out (hfx.out.trans (if_neg (by simp)))).1 rfl
            rw [← hv.out, ← hb.out]
            exact this)
          go_wp2_with fail
          have HE : Env W7 W7 [(a3, n3, cp3, on), (a2, n2, cp2, ps), (a, n, cp, l)] := (((Env.mk (L := []) (Below.refl _ _) (by simp)).add (n := n) (HL.out.below bw7)).add (n := n2) (HP.out.below bw7)).add (n := n3) (HO3.out.below bw7)
          refine wp_region_quiet_env HE mixed (by kernel_rfl) ?_
          clear HE
          repeat (first | go_big_quiet_step (first | (go_at_call 52; with_reducible exact QT.out _) | (go_at_call 53; with_reducible exact QH.out _)) | quiet_step (first | (go_at_call 52; with_reducible exact QT.out _) | (go_at_call 53; with_reducible exact QH.out _)))
          refine wpQuiet_nil ?_
          intro W9 hw'
          have b9 : Below W7.heap.size W7 W9 := by
            obtain ⟨⟨W8, hE9⟩, hw''⟩ := hw'
            subst hw''
            exact hE9.low
          clear hw'
          have hbW := below_next br7 b9
          have y0 : W9.cell? ⟨cB, 0, none⟩ = some (.int .i64 v) := (b9.cell (p := ⟨cB, 0, none⟩) c7).trans z0.out
          have y1 : W9.cell? ⟨cB, 1, none⟩ = some (.bool b) := (b9.cell (p := ⟨cB, 1, none⟩) c7).trans z1.out
          have hcW : cB < W9.heap.size := Nat.lt_of_lt_of_le c7 b9.size
          have bwW := below_next hbl hbW
          have ck : W9.cell? ⟨bk, ok + j, none⟩ = some (.int .i64 x) := (bwW.cell (p := ⟨bk, ok + j, none⟩) hbk).trans cK
          have HOW := Lib.hid (OwnsP.below HO.out hbW)
          cases b
          · have HN := Lib.hid (HT.out.2 rfl)
            clear HT
            go_wp2_with fail
            go_roundw
            case rel => exact ⟨j + 1, O, by go_num, by omega, HOW, HN, Lib.hid (by have := HJ.out; omega), bwW⟩
            case measure => simp [intOf]; omega
          · have HN := Lib.hid (HT.out.1 rfl)
            clear HT
            have A0 : ∀ o, (W9.alloc o).cell? ⟨bk, ok + j, none⟩ = some (.int .i64 x) := fun o => (World.cell?_alloc_lt _ _ ⟨bk, ok + j, none⟩ (Nat.lt_of_lt_of_le hbk bwW.size)).trans ck
            have A1 : ∀ o, (W9.alloc o).cell? ⟨cB, 0, none⟩ = some (.int .i64 v) := fun o => (World.cell?_alloc_lt _ _ ⟨cB, 0, none⟩ hcW).trans y0
            have HD := Lib.hid (fun o => ((show W9.ownsRow w5.heap.size 66 2 u9 O.length (flatP O) from HOW.out).alloc o).drew)
            have HG := Lib.hid (fun o w1 r (hlt : ∀ g, r = some g → w5.heap.size ≤ g) (hg : ((W9.alloc o).drew).grownBy w1 r) => (show Below w5.heap.size w5 w1 from ((bwW.alloc bwW.size o).drew).grown hg (by have := bwW.size; simp; omega) hlt))
            have B63 := Lib.hid (show O.length + 1 ≤ maxLen by have := HJ.out; have := hnk2.out; unfold maxLen; omega)
            have BBY := Lib.hid (show (O.length + 1) * 16 ≤ 140737488355328 by have := HJ.out; have := hnk2.out; omega)
            have HBS := Lib.hid (fun o => (show w5.heap.size ≤ ((W9.alloc o).drew).heap.size from by have := bwW.size; simp; omega))
            have HH := Lib.hid (fun o => (show ((W9.alloc o).drew).heap.size = W9.heap.size + 1 from by simp))
            have HLT := Lib.hid (fun g e => ((show W9.ownsRow w5.heap.size 66 2 u9 O.length (flatP O) from HOW.out).lt g e).1)
            go_wp2_with fail
            go_region_law (first | (refine step_append_lies _ rfl (.tmp 72) (.tmp 80) 27 rfl w5.heap.size 66 i0 (.agg #[.int .i64 0, .int .i64 0]) 2 16 Try.underlying27 hi0 hz0 hz1 hz2' rfl (by decide) _ _ _ rfl (HD.out _) ⟨W9.heap.size, 0, none⟩ 1 1 [.int .i64 x, .int .i64 v] rfl rfl (cellD2 W9 _ _ _) (two_i64 _ _) (by decide) B63.out BBY.out (HBS.out _) (W9.heap.size + 1) (HH.out _) ?_; intro g9 cap9 w1 hown1 hgrow1 _ _; have g3 := HG.out _ _ _ HLT.out hgrow1; replace hown1 := Lib.hid hown1; clear hgrow1))
            all_goals
              go_wp2
              go_roundw
              case rel =>
                refine ⟨j + 1, O ++ [(x, v)], by go_num, by omega, Lib.hid ?_, HN, Lib.hid (by have := HJ.out; simp; omega), g3⟩
                exact OwnsP.snoc rfl hown1.out
              case measure => simp [intOf]; omega
        cases hx2
        · have HT := Lib.hid (show (b = true → docA l f (K.drop (j + 1)) (O ++ [(x, v)]) = R) ∧ (b = false → docA l f (K.drop (j + 1)) O = R) by
            have := (docA_cons (r := (g, true)) HDJ.out (hfx.out.trans (if_neg (by simp)))).1 rfl
            rw [← hv.out, ← hb.out]
            exact this)
          go_wp2_with fail
          have HE : Env W7 W7 [(a3, n3, cp3, on), (a2, n2, cp2, ps), (a, n, cp, l)] := (((Env.mk (L := []) (Below.refl _ _) (by simp)).add (n := n) (HL.out.below bw7)).add (n := n2) (HP.out.below bw7)).add (n := n3) (HO3.out.below bw7)
          refine wp_region_quiet_env HE mixed (by kernel_rfl) ?_
          clear HE
          repeat (first | go_big_quiet_step (first | (go_at_call 52; with_reducible exact QT.out _) | (go_at_call 53; with_reducible exact QH.out _)) | quiet_step (first | (go_at_call 52; with_reducible exact QT.out _) | (go_at_call 53; with_reducible exact QH.out _)))
          refine wpQuiet_nil ?_
          intro W9 hw'
          have b9 : Below W7.heap.size W7 W9 := by
            obtain ⟨⟨W8, hE9⟩, hw''⟩ := hw'
            subst hw''
            exact hE9.low
          clear hw'
          have hbW := below_next br7 b9
          have y0 : W9.cell? ⟨cB, 0, none⟩ = some (.int .i64 v) := (b9.cell (p := ⟨cB, 0, none⟩) c7).trans z0.out
          have y1 : W9.cell? ⟨cB, 1, none⟩ = some (.bool b) := (b9.cell (p := ⟨cB, 1, none⟩) c7).trans z1.out
          have hcW : cB < W9.heap.size := Nat.lt_of_lt_of_le c7 b9.size
          have bwW := below_next hbl hbW
          have ck : W9.cell? ⟨bk, ok + j, none⟩ = some (.int .i64 x) := (bwW.cell (p := ⟨bk, ok + j, none⟩) hbk).trans cK
          have HOW := Lib.hid (OwnsP.below HO.out hbW)
          cases b
          · have HN := Lib.hid (HT.out.2 rfl)
            clear HT
            go_wp2_with fail
            go_roundw
            case rel => exact ⟨j + 1, O, by go_num, by omega, HOW, HN, Lib.hid (by have := HJ.out; omega), bwW⟩
            case measure => simp [intOf]; omega
          · have HN := Lib.hid (HT.out.1 rfl)
            clear HT
            have A0 : ∀ o, (W9.alloc o).cell? ⟨bk, ok + j, none⟩ = some (.int .i64 x) := fun o => (World.cell?_alloc_lt _ _ ⟨bk, ok + j, none⟩ (Nat.lt_of_lt_of_le hbk bwW.size)).trans ck
            have A1 : ∀ o, (W9.alloc o).cell? ⟨cB, 0, none⟩ = some (.int .i64 v) := fun o => (World.cell?_alloc_lt _ _ ⟨cB, 0, none⟩ hcW).trans y0
            have HD := Lib.hid (fun o => ((show W9.ownsRow w5.heap.size 66 2 u9 O.length (flatP O) from HOW.out).alloc o).drew)
            have HG := Lib.hid (fun o w1 r (hlt : ∀ g, r = some g → w5.heap.size ≤ g) (hg : ((W9.alloc o).drew).grownBy w1 r) => (show Below w5.heap.size w5 w1 from ((bwW.alloc bwW.size o).drew).grown hg (by have := bwW.size; simp; omega) hlt))
            have B63 := Lib.hid (show O.length + 1 ≤ maxLen by have := HJ.out; have := hnk2.out; unfold maxLen; omega)
            have BBY := Lib.hid (show (O.length + 1) * 16 ≤ 140737488355328 by have := HJ.out; have := hnk2.out; omega)
            have HBS := Lib.hid (fun o => (show w5.heap.size ≤ ((W9.alloc o).drew).heap.size from by have := bwW.size; simp; omega))
            have HH := Lib.hid (fun o => (show ((W9.alloc o).drew).heap.size = W9.heap.size + 1 from by simp))
            have HLT := Lib.hid (fun g e => ((show W9.ownsRow w5.heap.size 66 2 u9 O.length (flatP O) from HOW.out).lt g e).1)
            go_wp2_with fail
            go_region_law (first | (refine step_append_lies _ rfl (.tmp 72) (.tmp 80) 27 rfl w5.heap.size 66 i0 (.agg #[.int .i64 0, .int .i64 0]) 2 16 Try.underlying27 hi0 hz0 hz1 hz2' rfl (by decide) _ _ _ rfl (HD.out _) ⟨W9.heap.size, 0, none⟩ 1 1 [.int .i64 x, .int .i64 v] rfl rfl (cellD2 W9 _ _ _) (two_i64 _ _) (by decide) B63.out BBY.out (HBS.out _) (W9.heap.size + 1) (HH.out _) ?_; intro g9 cap9 w1 hown1 hgrow1 _ _; have g3 := HG.out _ _ _ HLT.out hgrow1; replace hown1 := Lib.hid hown1; clear hgrow1))
            all_goals
              go_wp2
              go_roundw
              case rel =>
                refine ⟨j + 1, O ++ [(x, v)], by go_num, by omega, Lib.hid ?_, HN, Lib.hid (by have := HJ.out; simp; omega), g3⟩
                exact OwnsP.snoc rfl hown1.out
              case measure => simp [intOf]; omega
        go_wp2_with fail
        have HE : Env W7 W7 [(a3, n3, cp3, on), (a2, n2, cp2, ps), (a, n, cp, l)] := (((Env.mk (L := []) (Below.refl _ _) (by simp)).add (n := n) (HL.out.below bw7)).add (n := n2) (HP.out.below bw7)).add (n := n3) (HO3.out.below bw7)
        refine wp_region_quiet_env HE mixed (by kernel_rfl) ?_
        clear HE
        repeat (first | go_big_quiet_step (first | (go_at_call 52; with_reducible exact QT.out _) | (go_at_call 53; with_reducible exact QH.out _)) | quiet_step (first | (go_at_call 52; with_reducible exact QT.out _) | (go_at_call 53; with_reducible exact QH.out _)))
        refine wpQuiet_nil ?_
        intro W9 hw'
        have b9 : Below W7.heap.size W7 W9 := by
          obtain ⟨⟨W8, hE9⟩, hw''⟩ := hw'
          subst hw''
          exact hE9.low
        clear hw'
        go_upto_region 10 with fail
        have hbW := below_next br7 b9
        have y0 : W9.cell? ⟨cB, 0, none⟩ = some (.int .i64 v) := (b9.cell (p := ⟨cB, 0, none⟩) c7).trans z0.out
        have y1 : W9.cell? ⟨cB, 1, none⟩ = some (.bool b) := (b9.cell (p := ⟨cB, 1, none⟩) c7).trans z1.out
        have hcW : cB < W9.heap.size := Nat.lt_of_lt_of_le c7 b9.size
        clear G0 G1 G2 G3 G4 G5 G6 GK QT QH hne
        go_cut [12, 13] from 30 to 81 (fun pd dn wx => ∃ g2 : Nat, pd = .pointer (some ⟨g2, 0, none⟩) ∧ dn = .bool z ∧ g2 < wx.heap.size ∧ wx.cell? ⟨g2, 0, none⟩ = some (.int .i64 v2) ∧ wx.cell? ⟨g2, 1, none⟩ = some (.bool b2) ∧ Below W9.heap.size W9 wx)
        case first =>
          have ck9 : W9.cell? ⟨bk, ok + j, none⟩ = some (.int .i64 x) := ((below_next bw7 b9).cell (p := ⟨bk, ok + j, none⟩) hbk).trans cK
          have KK := Lib.hid (fun W (h : Below W9.heap.size W9 W) => (show W.cell? ⟨w.heap.size, 0, none⟩ = some (.int .i64 c) ∧ W.cell? ⟨w.heap.size, 1, none⟩ = some (.int .i64 s) ∧ W.cell? ⟨w.heap.size, 2, none⟩ = some (.int .i64 k) ∧ W.cell? ⟨w.heap.size, 3, none⟩ = some (.slice a2 n2 cp2) ∧ W.cell? ⟨w.heap.size, 4, none⟩ = some (.int .i64 lo) ∧ W.cell? ⟨w.heap.size, 5, none⟩ = some (.int .i64 hi) ∧ W.cell? ⟨w.heap.size, 6, none⟩ = some (.int .i64 old) ∧ W.cell? ⟨cB, 0, none⟩ = some (.int .i64 v) ∧ W.cell? ⟨cB, 1, none⟩ = some (.bool b) ∧ W.cell? ⟨bk, ok + j, none⟩ = some (.int .i64 x) by
            obtain ⟨q0, q1, q2, q3, q4, q5, q6⟩ := K7.out W (below_next (below_next (below_next b1r br7) b9) h)
            exact ⟨q0, q1, q2, q3, q4, q5, q6, (h.cell (p := ⟨cB, 0, none⟩) hcW).trans y0, (h.cell (p := ⟨cB, 1, none⟩) hcW).trans y1, (h.cell (p := ⟨bk, ok + j, none⟩) (Nat.lt_of_lt_of_le hbk (below_next bw7 b9).size)).trans ck9⟩))
          have HP9 := Lib.hid (show Arg W9 a2 n2 cp2 ps from HP.out.below (below_next bw7 b9))
          have HBD : Below W9.heap.size W9 W9 := Below.refl _ _
          go_region_held3 (fun WW => WW.cell? ⟨w.heap.size, 0, none⟩ = some (.int .i64 c) ∧ WW.cell? ⟨w.heap.size, 1, none⟩ = some (.int .i64 s) ∧ WW.cell? ⟨w.heap.size, 2, none⟩ = some (.int .i64 k) ∧ WW.cell? ⟨w.heap.size, 3, none⟩ = some (.slice a2 n2 cp2) ∧ WW.cell? ⟨w.heap.size, 4, none⟩ = some (.int .i64 lo) ∧ WW.cell? ⟨w.heap.size, 5, none⟩ = some (.int .i64 hi) ∧ WW.cell? ⟨w.heap.size, 6, none⟩ = some (.int .i64 old) ∧ WW.cell? ⟨cB, 0, none⟩ = some (.int .i64 v) ∧ WW.cell? ⟨cB, 1, none⟩ = some (.bool b) ∧ WW.cell? ⟨bk, ok + j, none⟩ = some (.int .i64 x)) (exact KK.out _ (by repeat (first | exact HBD | refine toDJ ?_ | refine Below.alloc ?_ (by first | omega | (simp; omega)) _ | refine Below.setCell ?_ (by first | exact Nat.le_refl _ | omega | (simp; omega)) _))) ((first | (go_at_call 54; (with_reducible refine (CE.out _ (HP9.out.below (by repeat (first | exact HBD | refine toDJ ?_ | refine Below.alloc ?_ (by first | omega | (simp; omega)) _ | refine Below.setCell ?_ (by first | exact Nat.le_refl _ | omega | (simp; omega)) _)))).mono ?_); rintro e wz ⟨rfl, hbz⟩; have HBD := below_next (w := W9) (by repeat (first | exact HBD | refine toDJ ?_ | refine Below.alloc ?_ (by first | omega | (simp; omega)) _ | refine Below.setCell ?_ (by first | exact Nat.le_refl _ | omega | (simp; omega)) _)) hbz; have HBZ := HBD.size; have kzc := (fun (i : Nat) h => hbz.cell (p := ⟨W9.heap.size, i, none⟩) h); have kzf := (fun (i : Nat) h => hbz.frozen (p := ⟨W9.heap.size, i, none⟩) h)) | fail))
          all_goals
            go_wp2_with fail
            go_meet
            first
              | exact ⟨wz.heap.size, rfl, rfl, by simp, (cellJ rfl).trans rfl, (cellJ rfl).trans rfl, (by repeat (first | exact HBD | refine toDJ ?_ | refine Below.alloc ?_ (by first | omega | (simp; omega)) _ | refine Below.setCell ?_ (by first | exact Nat.le_refl _ | omega | (simp; omega)) _))⟩
              | exact ⟨W9.heap.size, rfl, rfl, by have := hbz.size; simp at this ⊢; omega, (setJ (kzJ hbz).1 (kzJ hbz).2.1).1, (setJ (kzJ hbz).1 (kzJ hbz).2.1).2, (by repeat (first | exact HBD | refine toDJ ?_ | refine Below.alloc ?_ (by first | omega | (simp; omega)) _ | refine Below.setCell ?_ (by first | exact Nat.le_refl _ | omega | (simp; omega)) _))⟩
        case rest =>
          obtain ⟨g2, rfl, rfl, hg2, d0, d1, b10⟩ := hcut
          have hfx2 : f x = (d, z) := hfx.out.trans (if_pos rfl)
          have bwc := below_next hbW b10
          cases z
          · have HRR := Lib.hid (show R = (l, false) from (docA_cons (r := (d, false)) HDJ.out hfx2).2 rfl)
            clear hfx2
            go_wp2_with fail
            go_ret2
            exact ⟨a, n, cp, tupJ (by rw [HRR.out]), by rw [HRR.out]; exact HL.out.below (below_next hbl bwc), bw.trans ((below_next HB5.out (below_next hbl bwc)).mono bw.size)⟩
          · have HT := Lib.hid (show (b2 = true → docA l f (K.drop (j + 1)) (O ++ [(x, v2)]) = R) ∧ (b2 = false → docA l f (K.drop (j + 1)) O = R) by
              have := (docA_cons (r := (d, true)) HDJ.out hfx2).1 rfl
              rw [← hv2.out, ← hb2.out]
              exact this)
            clear hfx2
            have x0 : wc.cell? ⟨cB, 0, none⟩ = some (.int .i64 v) := (b10.cell (p := ⟨cB, 0, none⟩) hcW).trans y0
            have x1 : wc.cell? ⟨cB, 1, none⟩ = some (.bool b) := (b10.cell (p := ⟨cB, 1, none⟩) hcW).trans y1
            have fz0 : wc.frozen? ⟨cB, 0, none⟩ = false := (b10.frozen (p := ⟨cB, 0, none⟩) hcW).trans ((b9.frozen (p := ⟨cB, 0, none⟩) c7).trans (zf.out 0))
            have fz1 : wc.frozen? ⟨cB, 1, none⟩ = false := (b10.frozen (p := ⟨cB, 1, none⟩) hcW).trans ((b9.frozen (p := ⟨cB, 1, none⟩) c7).trans (zf.out 1))
            obtain ⟨WY, hWY⟩ : ∃ WY, (wc.setCell ⟨cB, 0, none⟩ (.int .i64 v2)).setCell ⟨cB, 1, none⟩ (.bool b2) = WY := ⟨_, rfl⟩
            obtain ⟨t0, t1⟩ := setJ (u := .int .i64 v2) (v := .bool b2) x0 x1
            rw [hWY] at t0 t1
            have hbY : Below wr.heap.size wr WY := by rw [← hWY]; exact (bwc.setCell (p := ⟨cB, 0, none⟩) cr _).setCell (p := ⟨cB, 1, none⟩) cr _
            have hcY : cB < WY.heap.size := by rw [← hWY]; simp; exact Nat.lt_of_lt_of_le hcW b10.size
            replace hbW := hbY
            replace y0 := t0
            replace y1 := t1
            replace hcW := hcY
            clear t0 t1 hbY hcY
            have bwW := below_next hbl hbW
            have ck : WY.cell? ⟨bk, ok + j, none⟩ = some (.int .i64 x) := (bwW.cell (p := ⟨bk, ok + j, none⟩) hbk).trans cK
            have HOW := Lib.hid (OwnsP.below HO.out hbW)
            cases b2
            · have HN := Lib.hid (HT.out.2 rfl)
              clear HT
              go_wp2_with fail
              go_roundw
              case rel => exact ⟨j + 1, O, by go_num, by omega, HOW, HN, Lib.hid (by have := HJ.out; omega), bwW⟩
              case measure => simp [intOf]; omega
            · have HN := Lib.hid (HT.out.1 rfl)
              clear HT
              have A0 : ∀ o, (WY.alloc o).cell? ⟨bk, ok + j, none⟩ = some (.int .i64 x) := fun o => (World.cell?_alloc_lt _ _ ⟨bk, ok + j, none⟩ (Nat.lt_of_lt_of_le hbk bwW.size)).trans ck
              have A1 : ∀ o, (WY.alloc o).cell? ⟨cB, 0, none⟩ = some (.int .i64 v2) := fun o => (World.cell?_alloc_lt _ _ ⟨cB, 0, none⟩ hcW).trans y0
              have HD := Lib.hid (fun o => ((show WY.ownsRow w5.heap.size 66 2 u9 O.length (flatP O) from HOW.out).alloc o).drew)
              have HG := Lib.hid (fun o w1 r (hlt : ∀ g, r = some g → w5.heap.size ≤ g) (hg : ((WY.alloc o).drew).grownBy w1 r) => (show Below w5.heap.size w5 w1 from ((bwW.alloc bwW.size o).drew).grown hg (by have := bwW.size; simp; omega) hlt))
              have B63 := Lib.hid (show O.length + 1 ≤ maxLen by have := HJ.out; have := hnk2.out; unfold maxLen; omega)
              have BBY := Lib.hid (show (O.length + 1) * 16 ≤ 140737488355328 by have := HJ.out; have := hnk2.out; omega)
              have HBS := Lib.hid (fun o => (show w5.heap.size ≤ ((WY.alloc o).drew).heap.size from by have := bwW.size; simp; omega))
              have HH := Lib.hid (fun o => (show ((WY.alloc o).drew).heap.size = WY.heap.size + 1 from by simp))
              have HLT := Lib.hid (fun g e => ((show WY.ownsRow w5.heap.size 66 2 u9 O.length (flatP O) from HOW.out).lt g e).1)
              go_wp2_with fail
              go_region_law (first | (refine step_append_lies _ rfl (.tmp 72) (.tmp 80) 27 rfl w5.heap.size 66 i0 (.agg #[.int .i64 0, .int .i64 0]) 2 16 Try.underlying27 hi0 hz0 hz1 hz2' rfl (by decide) _ _ _ rfl (HD.out _) ⟨WY.heap.size, 0, none⟩ 1 1 [.int .i64 x, .int .i64 v2] rfl rfl (cellD2 WY _ _ _) (two_i64 _ _) (by decide) B63.out BBY.out (HBS.out _) (WY.heap.size + 1) (HH.out _) ?_; intro g9 cap9 w1 hown1 hgrow1 _ _; have g3 := HG.out _ _ _ HLT.out hgrow1; replace hown1 := Lib.hid hown1; clear hgrow1))
              all_goals
                go_wp2
                go_roundw
                case rel =>
                  refine ⟨j + 1, O ++ [(x, v2)], by go_num, by omega, Lib.hid ?_, HN, Lib.hid (by have := HJ.out; simp; omega), g3⟩
                  exact OwnsP.snoc rfl hown1.out
                case measure => simp [intOf]; omega
      · have hjz : ¬ (j : Int) < (nk : Int) := by omega
        have HF := Lib.hid (show R = (O, true) by
          have := HD.out
          rw [List.drop_eq_nil_of_le (by rw [← hnk.out]; omega)] at this
          exact this.symm)
        obtain ⟨a6, c6, e6, h1, h2, h3, _⟩ := OwnsP.arg HO.out
        subst e6
        go_wp2_with fail
        go_ret2
        exact ⟨a6, O.length, c6, tupJ (by rw [HF.out]), by rw [HF.out]; exact Arg.of_own HO.out rfl, bw.trans ((below_next HB5.out hbl).mono bw.size)⟩
end Go.Proofs.Ythofoidafdbgcaa
