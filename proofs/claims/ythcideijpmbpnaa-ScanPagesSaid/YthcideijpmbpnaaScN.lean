/-
  SCAN: contracts of Nth, Rank and the document's Rank; an argument of two numbers.
-/
import Derived.Test.YthcideijpmbpnaaScL
import Derived.Test.YthcideijpmbpnaaJq
import Derived.OpenShut
namespace Go.Proofs.Ythcideijpmbpnaa
open Go.RowKit Go.Shelf Go.WideShapes

set_option maxRecDepth 100000 in
theorem pairArr_of {H : Type} {enc : TypeId × Value → H} {w : World} {r : Reach} {b0 base : Nat} {spare : Nat → Bool} {held : Bool} {v : Value} {d : DataW H} {p : List MemPlace}
    (hv : Value.okWide Try.prog w r b0 63 v) (h : DataW.Trod enc Try.prog w base spare held 63 v d p) :
    ∃ (x y : Int), v = .agg #[.int .i64 x, .int .i64 y] := by
  have kI : Try.prog.cellsOf 3 = 1 := by kernel_rfl
  have kA : Try.prog.cellsOf 63 = 2 := by kernel_rfl
  simp only [Value.okWide, Try.underlying63] at hv
  obtain ⟨cs, rfl, hsz, _⟩ := hv
  rw [kA] at hsz
  obtain ⟨fuel, hf⟩ := h
  obtain ⟨xs, m, _, _, _, hl, hel⟩ := DataW.trod_array Try.underlying63 hf
  rw [kI] at hel
  obtain ⟨v0, v1, rfl⟩ : ∃ v0 v1, cs = #[v0, v1] := by
    refine ⟨cs[0], cs[1], ?_⟩
    apply Array.ext
    · simp [hsz]
    · intro i h1 h2
      have : i = 0 ∨ i = 1 := by omega
      rcases this with rfl | rfl <;> rfl
  have e0 := hel 0 (by omega)
  have e1 := hel 1 (by omega)
  rw [List.getElem?_eq_getElem (by omega)] at e0 e1
  obtain ⟨x, h0, _, _⟩ := DataW.trod_int Try.underlying3 e0
  obtain ⟨y, h1, _, _⟩ := DataW.trod_int Try.underlying3 e1
  simp [Value.cells] at h0 h1
  rw [h0, h1]
  exact ⟨x, y, rfl⟩
def nthP (M : List Sp) (k : Int) : Sp × Bool := if 0 ≤ k ∧ k < (M.length : Int) then (M.getD k.toNat (0, 0), true) else ((0, 0), false)
def NthPost (r : Sp × Bool) (w : World) (e : Ending) (w' : World) : Prop := e = .returned (.tuple #[.agg #[.int .i64 r.1.1, .int .i64 r.1.2], .bool r.2]) ∧ Below w.heap.size w w'
theorem nth_ret {r : Sp × Bool} {x y : Int} {b : Bool} (h : r = ((x, y), b)) : Ending.returned (.tuple #[.agg #[.int .i64 x, .int .i64 y], .bool b]) = .returned (.tuple #[.agg #[.int .i64 r.1.1, .int .i64 r.1.2], .bool r.2]) := by rw [h]
theorem cell2 {W : World} {b : Nat} {x y : Value} {t : TypeId} (h : W.heap[b]? = some (.cells #[x, y] t)) : W.cell? ⟨b, 0, none⟩ = some x ∧ W.cell? ⟨b, 1, none⟩ = some y :=
  ⟨cell_of_row _ _ 0 _ _ _ h, cell_of_row _ _ 1 _ _ _ h⟩
theorem froz2 {W : World} {b : Nat} {x y : Value} {t : TypeId} (h : W.heap[b]? = some (.cells #[x, y] t)) : W.frozen? ⟨b, 0, none⟩ = false ∧ W.frozen? ⟨b, 1, none⟩ = false :=
  ⟨frozen_of_row _ _ 0 _ _ h, frozen_of_row _ _ 1 _ _ h⟩
set_option maxRecDepth 100000 in
set_option maxHeartbeats 1000000 in
theorem nth_any (a : Option Addr) (n c : Nat) (l : List Sp) (a3 : Option Addr) (n3 c3 : Nat) (on : List Sp) (k : Int) (w : World) (hL : Arg w a n c l) (hO : Arg w a3 n3 c3 on) :
    Calls Try.prog 26 #[.slice a n c, .slice a3 n3 c3, .int .i64 k] w (NthPost (nthP (clipP l on) k) w) := by
  obtain ⟨W1, hW1⟩ : ∃ W1, w.alloc (.cells #[.int .i64 0, .int .i64 0] 48) = W1 := ⟨_, rfl⟩
  have bw : Below w.heap.size w W1 := by rw [← hW1]; exact (Below.refl _ _).alloc (Nat.le_refl _) _
  have g1 : w.heap.size < W1.heap.size := by rw [← hW1]; simp
  have hr1 : W1.heap[w.heap.size]? = some (.cells #[.int .i64 0, .int .i64 0] 48) := by rw [← hW1]; exact heap_alloc_new _ _
  have HX := Lib.hid (fun W (hb : Below W1.heap.size W1 W) => (hb.block _ g1).trans hr1)
  have CL := Lib.hid (clip_any a n c l a3 n3 c3 on W1 (hL.below bw) (hO.below bw))
  generalize clipP l on = M at *
  obtain ⟨R, hR⟩ : ∃ R, nthP M k = R := ⟨_, rfl⟩
  rw [hR]
  by_cases h0 : k < 0
  · have HR := Lib.hid (show R = ((0, 0), false) by rw [← hR]; exact if_neg (by omega))
    clear hL hO hR hr1
    go_enter Try.func26, Try.ntmps26
    go_wp2_with (go_at_call 19; (with_reducible refine CL.out.mono ?_); rintro e w2 ⟨v, rfl, ho, b2⟩; obtain ⟨a8, c8, hv, _⟩ := ho.arg; subst hv; obtain ⟨u0, u1⟩ := cell2 (HX.out _ b2); obtain ⟨f0, f1⟩ := froz2 (HX.out _ b2))
    exact bodyPost_ret (v := .tuple #[.agg #[.int .i64 0, .int .i64 0], .bool false]) (by simp [results, Try.results26, go_sem, u0, u1]) rfl ⟨nth_ret HR.out, (by repeat (first | with_reducible exact below_next bw b2 | with_reducible refine Below.setCell ?_ (by first | with_reducible exact Nat.le_refl _ | (dsimp only; omega)) _))⟩
  · by_cases h1 : k < (M.length : Int)
    · obtain ⟨j, rfl⟩ : ∃ j : Nat, k = (j : Int) := ⟨k.toNat, by omega⟩
      have hjM : j < M.length := by omega
      have HR := Lib.hid (show R = (M.getD j (0, 0), true) by rw [← hR]; exact if_pos ⟨by omega, h1⟩)
      obtain ⟨⟨x, y⟩, hxy⟩ : ∃ p, M.getD j (0, 0) = p := ⟨_, rfl⟩
      rw [hxy] at HR
      have hge : ¬ (M.length : Int) ≤ (j : Int) := by omega
      clear hL hO hR hr1
      go_enter Try.func26, Try.ntmps26
      go_wp2_with (go_at_call 19; (with_reducible refine CL.out.mono ?_); rintro e w2 ⟨v, rfl, ho, b2⟩; obtain ⟨a8, c8, hv, hc8, hc9, hp8, _⟩ := ho.arg; subst hv; obtain ⟨b8, o8, e8, hb8, d0, d1⟩ := hp8 j hjM; subst e8; rw [hxy] at d0 d1; dsimp only at d0 d1; obtain ⟨u0, u1⟩ := cell2 (HX.out _ b2); obtain ⟨f0, f1⟩ := froz2 (HX.out _ b2))
      exact bodyPost_ret (v := .tuple #[.agg #[.int .i64 x, .int .i64 y], .bool true]) (by simp [results, Try.results26, go_sem, u0, u1]) rfl ⟨nth_ret HR.out, (by repeat (first | with_reducible exact below_next bw b2 | with_reducible refine Below.setCell ?_ (by first | with_reducible exact Nat.le_refl _ | (dsimp only; omega)) _))⟩
    · have HR := Lib.hid (show R = ((0, 0), false) by rw [← hR]; exact if_neg (by omega))
      have hge : (M.length : Int) ≤ k := by omega
      clear hL hO hR hr1
      go_enter Try.func26, Try.ntmps26
      go_wp2_with (go_at_call 19; (with_reducible refine CL.out.mono ?_); rintro e w2 ⟨v, rfl, ho, b2⟩; obtain ⟨a8, c8, hv, _⟩ := ho.arg; subst hv; obtain ⟨u0, u1⟩ := cell2 (HX.out _ b2); obtain ⟨f0, f1⟩ := froz2 (HX.out _ b2))
      exact bodyPost_ret (v := .tuple #[.agg #[.int .i64 0, .int .i64 0], .bool false]) (by simp [results, Try.results26, go_sem, u0, u1]) rfl ⟨nth_ret HR.out, (by repeat (first | with_reducible exact below_next bw b2 | with_reducible refine Below.setCell ?_ (by first | with_reducible exact Nat.le_refl _ | (dsimp only; omega)) _))⟩
theorem rankS_any (a : Option Addr) (n c : Nat) (l : List Sp) (a3 : Option Addr) (n3 c3 : Nat) (on : List Sp) (key : Int) (w : World) (hL : Arg w a n c l) (hO : Arg w a3 n3 c3 on) :
    Calls Try.prog 28 #[.slice a n c, .slice a3 n3 c3, .int .i64 key] w (Gives w (.int .i64 (plc (clipP l on) key : Nat))) := by
  have CL := Lib.hid (clip_any a n c l a3 n3 c3 on w hL hO)
  have hct := clip_tbl l on
  generalize clipP l on = M at *
  have BL := Lib.hid (fun W (a8 : Option Addr) (n8 c8 : Nat) (hh : Arg W a8 n8 c8 M) => belowS_any a8 n8 c8 M key W hh hct)
  generalize plc M key = p at *
  clear hL hO hct
  go_enter Try.func28, Try.ntmps28
  go_wp2_with (first | (go_at_call 19; (with_reducible refine CL.out.mono ?_); rintro e w2 ⟨v, rfl, ho, b2⟩; obtain ⟨a8, c8, hv, hr⟩ := ho.arg; subst hv; have HA := Lib.hid (Arg.of_own ho rfl)) | (go_at_call 52; (with_reducible refine (BL.out _ _ _ _ HA.out).mono ?_); rintro e w3 ⟨rfl, b3⟩))
  go_ret
  exact ⟨rfl, below_next b2 b3⟩
set_option maxRecDepth 100000 in
set_option maxHeartbeats 1000000 in
theorem rrank_any (a : Option Addr) (n c : Nat) (l : List Sp) (a3 : Option Addr) (n3 c3 : Nat) (on : List Sp) (key : Int) (w : World) (hL : Arg w a n c l) (hO : Arg w a3 n3 c3 on) (hz : l.length ≤ 100000) :
    Calls Try.prog 29 #[.slice a n c, .slice a3 n3 c3, .int .i64 key] w (Gives w (.int .i64 (plc (clipP l on) key : Nat))) := by
  have CL := Lib.hid (rtclip_any a n c l a3 n3 c3 on w hL hO hz)
  have hct := clip_tbl l on
  have hcl := tbl_le hct
  have hple := plc_le (clipP l on) key
  generalize clipP l on = M at *
  have PI := Lib.hid (fun (i : Nat) (hi : i < M.length) => plc_iff (k := key) hct hi)
  generalize plc M key = p at *
  clear hL hO hct
  go_enter Try.func29, Try.ntmps29
  go_wp2_with (go_at_call 27; (with_reducible refine CL.out.mono ?_); rintro e w2 ⟨a8, n8, c8, rfl, h8, b2⟩; obtain rfl : n8 = _ := h8.1; have H8 := Lib.hid h8; clear h8)
  go_loopw [8, 9] (fun cn i wr => ∃ (k : Nat), cn = .int .i64 ((min k p : Nat) : Int) ∧ i = .int .i64 (k : Int) ∧ k ≤ M.length ∧ Below w2.heap.size w2 wr) (fun _ i _ => M.length - (intOf i).toNat)
  case atStart => exact ⟨0, by simp, rfl, Nat.zero_le _, Below.refl _ _⟩
  case round =>
    obtain ⟨k, rfl, rfl, hk, hbl⟩ := hrel
    by_cases hlt : k < M.length
    · have hkz : (k : Int) < (M.length : Int) := by omega
      obtain ⟨b, off, e, hb, c0, c1⟩ := (H8.out.below hbl).2.2.2.2 k hlt
      subst e
      have hi := PI.out k hlt
      generalize M.getD k (0, 0) = q at c0 c1 hi
      obtain ⟨x, y⟩ := q
      dsimp only at c0 c1 hi
      by_cases hx : x < key
      · have hkp := hi.1 hx
        obtain ⟨m, hm⟩ : ∃ m, min k p = m := ⟨_, rfl⟩
        have hmk : m = k := by omega
        rw [hm, hmk]
        have hw1 : IntKind.i64.wrap ((k : Int) + 1) = (k : Int) + 1 := IntWalk.i64_in _ (by omega)
        clear hi hm hmk
        go_wp2_with fail
        go_roundw
        case rel => exact ⟨k + 1, by rw [show min (k + 1) p = k + 1 by omega]; go_num, by go_num, by omega, hbl⟩
        case measure => simp [intOf]; omega
      · have hkp : ¬ k < p := fun q => hx (hi.2 q)
        obtain ⟨m, hm⟩ : ∃ m, min k p = m := ⟨_, rfl⟩
        have hmp : min (k + 1) p = m := by omega
        rw [hm]
        have HMP := Lib.hid hmp
        clear hi hm hmp
        go_wp2_with fail
        go_roundw
        case rel => exact ⟨k + 1, by rw [HMP.out], by go_num, by omega, hbl⟩
        case measure => simp [intOf]; omega
    · have hkz : ¬ (k : Int) < (M.length : Int) := by omega
      rw [show min k p = p by omega]
      go_wp2_with fail
      go_ret
      exact ⟨rfl, below_next b2 hbl⟩
theorem plc_self {M : List Sp} (h : tblB M = true) {j : Nat} (hj : j < M.length) : plc M (M.getD j (0, 0)).1 = j := by
  have pw := (tblF_pw M (-1) h).2
  have g : ∀ i (hi : i < M.length), M.getD i (0, 0) = M[i] := fun i hi => by rw [List.getD_eq_getElem?_getD, List.getElem?_eq_getElem hi]; rfl
  refine plc_of M _ j (Nat.le_of_lt hj) (fun i hi => ?_) (fun _ => Int.le_refl _)
  rw [g i (by omega), g j hj]
  exact List.pairwise_iff_getElem.1 pw i j (by omega) hj hi
end Go.Proofs.Ythcideijpmbpnaa
