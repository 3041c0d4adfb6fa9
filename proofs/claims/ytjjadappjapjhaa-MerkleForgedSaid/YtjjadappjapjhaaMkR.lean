/-
  THE LAW MerkleForged: its walk.
-/
import Derived.Test.YtjjadappjapjhaaMkQ
import Derived.Test.YtjjadappjapjhaaMkM
namespace Go.Proofs.Ytjjadappjapjhaa
open Go.RowKit Go.Deep

def forgV (v b a : Int) : Int := wrap64 (bits .xor .u64 (IntKind.u64.wrap v) (IntKind.u64.wrap (b * 2 ^ (8 * (a % 5)).toNat)))
theorem forgV_bv (v b a : Int) : forgV v b a = (BitVec.ofInt 64 v ^^^ BitVec.ofInt 64 (b * 2 ^ (8 * (a % 5)).toNat)).toInt := by
  unfold forgV
  rw [← IntWalk.i64_left]
  show IntKind.i64.wrap (IntKind.u64.wrap (((BitVec.ofInt 64 (IntKind.u64.wrap v)) ^^^ BitVec.ofInt 64 (IntKind.u64.wrap (b * 2 ^ (8 * (a % 5)).toNat))).toNat : Int)) = _
  rw [ofInt_wrap, ofInt_wrap, wrapu64_nat, wrap64_toInt]
theorem forg_is {v b a : Int} (h1 : -9223372036854775808 ≤ v) (h2 : v ≤ 9223372036854775807) (hb : 0 ≤ b) (hb2 : b ≤ 4294967295) : (numV (forgV v b a) == numV v) = (forgV v b a == v) := by
  have hv := forgV_bv v b a
  have hj0 := Int.emod_nonneg a (show (5 : Int) ≠ 0 by decide)
  have hj1 := Int.emod_lt_of_pos a (show (0 : Int) < 5 by decide)
  obtain ⟨j, hj⟩ : ∃ j : Nat, a % 5 = (j : Int) := ⟨(a % 5).toNat, by omega⟩
  obtain ⟨B, rfl⟩ : ∃ B : Nat, b = (B : Int) := ⟨b.toNat, by omega⟩
  have hj5 : j < 5 := by omega
  rw [hj, show (8 * (j : Int)).toNat = 8 * j by omega] at hv
  have hp : (256 : Nat) ^ j ≤ 4294967296 := by
    have hj2 : j = 0 ∨ j = 1 ∨ j = 2 ∨ j = 3 ∨ j = 4 := by omega
    rcases hj2 with rfl | rfl | rfl | rfl | rfl <;> decide
  have hm : B * 256 ^ j < 18446744073709551616 := Nat.lt_of_le_of_lt (Nat.mul_le_mul_left B hp) (by omega)
  have he : ((B : Int) * 2 ^ (8 * j)) = ((B * 256 ^ j : Nat) : Int) := by
    rw [show (256 : Nat) ^ j = 2 ^ (8 * j) by rw [Nat.pow_mul]]
    simp
  rw [he] at hv
  have hY : (BitVec.ofInt 64 ((B * 256 ^ j : Nat) : Int)).toNat = B * 256 ^ j := by
    have := ofInt_nat64 ((B * 256 ^ j : Nat) : Int)
    omega
  have hx : BitVec.ofInt 64 (forgV v (B : Int) a) = BitVec.ofInt 64 v ^^^ BitVec.ofInt 64 ((B * 256 ^ j : Nat) : Int) := by rw [hv, BitVec.ofInt_toInt]
  have r1 : -9223372036854775808 ≤ forgV v (B : Int) a := by rw [hv]; have := BitVec.le_toInt (BitVec.ofInt 64 v ^^^ BitVec.ofInt 64 ((B * 256 ^ j : Nat) : Int)); simpa using this
  have r2 : forgV v (B : Int) a ≤ 9223372036854775807 := by
    rw [hv]
    generalize BitVec.ofInt 64 v ^^^ BitVec.ofInt 64 ((B * 256 ^ j : Nat) : Int) = X
    have := BitVec.toInt_lt (x := X)
    have h2 : (2 : Int) ^ (64 - 1) = 9223372036854775808 := rfl
    omega
  by_cases h : forgV v (B : Int) a = v
  · rw [h, beq_self_eq_true, beq_self_eq_true]
  · rw [beq_eq_false_iff_ne.2 h, beq_eq_false_iff_ne.2 (fun e => h (numV_four hj5 (by omega) hY hx h1 h2 r1 r2 e))]
set_option maxRecDepth 100000 in
theorem bitsVal_of {H : Type} {enc : TypeId × Value → H} {w : World} {r : Reach} {b0 base : Nat} {spare : Nat → Bool} {held : Bool} {v : Value} {d : DataW H} {p : List MemPlace}
    (hv : Value.okWide Try.prog w r b0 63 v) (h : DataW.Trod enc Try.prog w base spare held 63 v d p) :
    ∃ x y : Int, ((Lit.int .u32 x).wf = true ∧ (Lit.int .u8 y).wf = true) ∧ v = .agg #[.int .u32 x, .int .u8 y] := by
  obtain ⟨v0, v1, y0, y1, n, rfl, _, _, r0, r1⟩ := Go.Joins.open_agg2 Try.underlying63 (by kernel_rfl) (by kernel_rfl) hv h
  obtain ⟨x, e1, _, w1⟩ := DataW.trod_int Try.underlying28 r0
  obtain ⟨y, e2, _, w2⟩ := DataW.trod_int Try.underlying5 r1
  simp at e1 e2
  rw [e1, e2]
  exact ⟨x, y, ⟨w1, w2⟩, rfl⟩
set_option maxRecDepth 100000 in
set_option maxHeartbeats 4000000 in
theorem merkleForged_walk (a : Option Addr) (n c : Nat) (l : List Pr) (which b at_ : Int) (w : World) (h : RArg encP 2 w a n c l) (_hw : (Lit.int .i64 which).wf = true) (hbw : (Lit.int .u32 b).wf = true ∧ (Lit.int .u8 at_).wf = true) :
    Calls Try.prog 6 #[.slice a n c, .int .i64 which, .agg #[.int .u32 b, .int .u8 at_]] w (TruePost w) := by
  obtain ⟨hb0, hb4⟩ := bounds_u32 hbw.1
  obtain ⟨ha0, ha4⟩ := bounds_u8 hbw.2
  have hz : (n : Int) ≤ 9223372036854775807 := by have := h.1; have := h.2.1; omega
  have FW := Lib.hid (fun W => few20_any a n c W hz)
  obtain ⟨W1, hW1⟩ : ∃ W1, w.alloc (.cells #[.int .u32 b, .int .u8 at_] 63) = W1 := ⟨_, rfl⟩
  have b01 : Below w.heap.size w W1 := by rw [← hW1]; exact (Below.refl _ _).alloc (Nat.le_refl _) _
  have r1 : W1.heap[w.heap.size]? = some (.cells #[.int .u32 b, .int .u8 at_] 63 (0, 0)) := by rw [← hW1]; exact heap_alloc_new _ _
  obtain ⟨y0, y1⟩ := cells2M r1
  have B01 := Lib.hid b01
  clear b01 r1
  go_enter Try.func6, Try.ntmps6
  go_wp2_with fail
  go_quiet (fail)
  have bq : Below w.heap.size w (W1.drewN nq) := ⟨B01.out.os, B01.out.tape, B01.out.output, B01.out.size, B01.out.block⟩
  clear y0 y1 B01 hW1
  generalize W1.drewN nq = W2 at bq ⊢
  have hq := h.below bq
  cases ht : tblB l
  · have NW := Lib.hid (new_no a n c l W2 hq ht)
    clear ht h hq
    cases hf : decide (n ≤ 60)
    all_goals
      rw [hf] at FW
      clear hf
      go_wp2_with (first | (go_at_call 14; (with_reducible refine NW.out.mono ?_); rintro e w1 ⟨rfl, hb1⟩) | (go_at_call 10; (with_reducible refine (FW.out _).mono ?_); rintro e w2 ⟨rfl, rfl⟩) | (go_at_call 11; (with_reducible refine (awake20_any _).mono ?_); rintro e w9 ⟨rfl, hb9⟩) | fail)
      go_ret
      exact ⟨rfl, below_next bq (below_next hb1 hb9)⟩
  · have NW := Lib.hid (new_ok a n c l W2 hq ht)
    cases hf : decide (n ≤ 60)
    · rw [hf] at FW
      clear hf ht h hq
      go_wp2_with (first | (go_at_call 14; (with_reducible refine NW.out.mono ?_); rintro e w1 ⟨b1, rfl, t1, _, hb1⟩) | (go_at_call 10; (with_reducible refine (FW.out _).mono ?_); rintro e w2 ⟨rfl, rfl⟩) | (go_at_call 11; (with_reducible refine (awake20_any _).mono ?_); rintro e w9 ⟨rfl, hb9⟩) | fail)
      go_ret
      exact ⟨rfl, below_next bq (below_next hb1 hb9)⟩
    · rw [hf] at FW
      have h60 : n ≤ 60 := of_decide_eq_true hf
      by_cases hn0 : n = 0
      · subst hn0
        clear hf ht h hq
        go_wp2_with (first | (go_at_call 14; (with_reducible refine NW.out.mono ?_); rintro e w1 ⟨b1, rfl, t1, _, hb1⟩) | (go_at_call 10; (with_reducible refine (FW.out _).mono ?_); rintro e w2 ⟨rfl, rfl⟩) | (go_at_call 11; (with_reducible refine (awake20_any _).mono ?_); rintro e w9 ⟨rfl, hb9⟩) | fail)
        go_ret
        exact ⟨rfl, below_next bq (below_next hb1 hb9)⟩
      · have hpos : 0 < n := by omega
        have hn1 : ((n : Int) == 0) = false := by simp; omega
        obtain ⟨i, hin, hie⟩ := tmod_first20 which n hpos (by omega)
        have hlen : n = l.length := h.1
        have hil : i < l.length := by omega
        have HIE := Lib.hid hie
        obtain ⟨g, off, e, hg, hc⟩ := hq.2.2.2.2 i hil
        subst e
        have j0 := hc 0 _ rfl
        have j1 := hc 1 _ rfl
        have hke := tbl_key ht hil
        have hval := tbl_val ht hil
        have hat : ∀ k : Nat, (k : Int) = l[i]!.1 → tabC l k = some l[i]!.2 := fun k hk => tabC_at ht hil hk
        generalize l[i]! = pr at j0 j1 hke hval hat
        obtain ⟨kk, vv⟩ := pr
        dsimp only at j0 j1 hke hval hat
        obtain ⟨k, rfl⟩ : ∃ k : Nat, kk = (k : Int) := ⟨kk.toNat, by omega⟩
        have hk4 : k < 4096 := by omega
        have hat := hat k rfl
        have HAT := Lib.hid hat
        have HV := Lib.hid hval
        have KJ := Lib.hid (fun W (hb : Below W2.heap.size W2 W) => (show W.cell? ⟨g, off + i * 2, none⟩ = some (.int .i64 (k : Int)) ∧ W.cell? ⟨g, off + i * 2 + 1, none⟩ = some (.int .i64 vv) from ⟨(hb.cell (p := ⟨g, off + i * 2, none⟩) hg).trans j0, (hb.cell (p := ⟨g, off + i * 2 + 1, none⟩) hg).trans j1⟩))
        have hin2 : (i : Int) < (n : Int) := by omega
        clear hf h hq ht hlen hil hc hn0 j0 j1 hke hat hval
        go_wp2_with (first | (go_at_call 14; (with_reducible refine NW.out.mono ?_); rintro e w1 ⟨b1, rfl, t1, _, hb1⟩; obtain ⟨j0, j1⟩ := KJ.out _ hb1) | (go_at_call 10; (with_reducible refine (FW.out _).mono ?_); rintro e w2 ⟨rfl, rfl⟩) | fail)
        obtain ⟨x, hx⟩ : ∃ x, wrap64 (bits .xor .u64 (IntKind.u64.wrap vv) (IntKind.u64.wrap (b * 2 ^ (8 * (at_ % 5)).toNat))) = x := ⟨_, rfl⟩
        rw [hx]
        have hfo := forg_is (v := vv) (b := b) (a := at_) (by have := HV.out; omega) (by have := HV.out; omega) hb0 hb4
        rw [show forgV vv b at_ = x from hx] at hfo
        obtain ⟨d, hd⟩ : ∃ d, (x == vv) = d := ⟨_, rfl⟩
        rw [hd] at hfo
        have hvr := ver_root (tabC l) k hk4 (numV x)
        rw [show lvN (tabC l) 0 k = numV vv by show numO (tabC l k) = _; rw [HAT.out]; rfl, hfo] at hvr
        obtain ⟨W3, hW3⟩ : ∃ W3, w1.alloc (.cells #[.int .i64 (k : Int), .int .i64 vv] 49) = W3 := ⟨_, rfl⟩
        have b3 : Below w1.heap.size w1 W3 := by rw [← hW3]; exact (Below.refl _ _).alloc (Nat.le_refl _) _
        have g3 : w1.heap.size < W3.heap.size := by rw [← hW3]; simp
        have r3 : W3.heap[w1.heap.size]? = some (.cells #[.int .i64 (k : Int), .int .i64 vv] 49 (0, 0)) := by rw [← hW3]; exact heap_alloc_new _ _
        rw [hW3]
        have T3 := Lib.hid (t1.below b3)
        have KB := Lib.hid (fun W (hb : Below W3.heap.size W3 W) => cells2M ((hb.block _ g3).trans r3))
        have PV := Lib.hid (prove_any b1 k (tabC l) W3 T3.out hk4)
        have HVR := Lib.hid hvr
        have B3 := Lib.hid (below_next bq (below_next hb1 b3))
        have hpl := proofT_len (tabC l) k 3
        have HPL := Lib.hid hpl
        clear hx hfo hvr hW3 b3 r3 j0 j1 hpl t1 hb1 bq
        go_upto_region 10 with (first | (go_at_call 25; (with_reducible refine PV.out.mono ?_); rintro e w4 ⟨v4, rfl, o4, hb4⟩; obtain ⟨a4, c4, rfl, hr4⟩ : ∃ a c, v4 = .slice a 45 c ∧ RArg encU 1 w4 a 45 c (proofT (tabC l) k 3) := (by have := o4.arg encU_len; rw [HPL.out] at this; exact this); replace hr4 := Lib.hid hr4; clear o4) | fail)
        have RT := Lib.hid (fun W (hb : Below W3.heap.size W3 W) => root20_any b1 (tabC l) W (T3.out.below hb))
        have VR := Lib.hid (fun W (hb : Below w4.heap.size w4 W) => (show Calls Try.prog 26 #[.int .u32 (regI (lvN (tabC l) 3 0)), .int .i64 (k : Int), .agg #[.int .i64 x, .bool true], .slice a4 45 c4] W (Gives W (.bool d)) from by
          have := verify_any k (lvN (tabC l) 3 0) x true a4 c4 (proofT (tabC l) k 3) W (hr4.out.below hb) hk4
          rw [show numO (if true = true then some x else none) = numV x from rfl, HVR.out] at this
          exact this))
        obtain ⟨rt, hrt⟩ : ∃ rt, regI (lvN (tabC l) 3 0) = rt := ⟨_, rfl⟩
        rw [hrt] at RT VR
        have HB4 := Lib.hid hb4
        have KS := Lib.hid (fun W (hb : Below w4.heap.size w4 W) => KB.out W (below_next HB4.out hb))
        obtain ⟨z0, z1⟩ := KS.out _ (Below.refl _ _)
        have HBD : Below w4.heap.size w4 w4 := Below.refl _ _
        clear hrt hb4
        go_region_held3 (fun W => W.cell? ⟨w1.heap.size, 0, none⟩ = some (.int .i64 (k : Int)) ∧ W.cell? ⟨w1.heap.size, 1, none⟩ = some (.int .i64 vv)) (exact KS.out _ (by repeat (first | exact HBD | with_reducible refine Below.drew ?_))) ((first
          | (go_at_call 11; (with_reducible refine (awake20_any _).mono ?_); rintro e w9 ⟨rfl, b9⟩; replace HBD := below_next (show Below w4.heap.size w4 _ from by repeat (first | exact HBD | with_reducible refine Below.drew ?_)) b9; clear b9)
          | (go_at_call 20; (with_reducible refine (RT.out _ (below_next HB4.out (by repeat (first | exact HBD | with_reducible refine Below.drew ?_)))).mono ?_); rintro e w10 ⟨rfl, rfl⟩)
          | (go_at_call 26; (with_reducible refine (VR.out _ (by repeat (first | exact HBD | with_reducible refine Below.drew ?_))).mono ?_); rintro e w11 ⟨rfl, b11⟩; replace HBD := below_next (show Below w4.heap.size w4 _ from by repeat (first | exact HBD | with_reducible refine Below.drew ?_)) b11; clear b11)
          | fail))
        all_goals
          go_wp2_with fail
          go_ret
          exact ⟨by first | rfl | (cases d <;> rfl), below_next B3.out (below_next HB4.out (by repeat (first | exact HBD | with_reducible refine Below.drew ?_)))⟩
end Go.Proofs.Ytjjadappjapjhaa
