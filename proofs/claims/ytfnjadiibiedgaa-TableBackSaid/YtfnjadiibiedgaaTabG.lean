/-
  CONTRACTS of without; of Apply.
-/
import Derived.Test.YtfnjadiibiedgaaTabF
import Derived.Test.YtfnjadiibiedgaaTabQ
namespace Go.Proofs.Ytfnjadiibiedgaa
open Go.RowKit Go.Shelf Go.Lib

/-- The predicate that without hands to DeleteFunc. -/
theorem without1 (base bb : Nat) (ga : Option Addr) (gn gc : Nat) (G : List Sp) (w : World) (hbb : bb < base) (hbase : base ≤ w.heap.size) (hc : w.cell? ⟨bb, 0, none⟩ = some (.slice ga gn gc))
    (hn : gn = G.length) (hz : (G.length : Int) ≤ 9223372036854775807) (h1 : G.length ≤ gc) (h2 : gc ≤ maxLen) (hp : PIn w base ga G) :
    PredG 121 #[.pointer (some ⟨bb, 0, none⟩)] (fun x => hasB G x.1) base w := by
  intro W x hb
  obtain ⟨x, y⟩ := x
  have hW := hb.size
  have A : Arg W ga gn gc G := ⟨hn, hz, h1, h2, (hp.below hb).more (by omega)⟩
  have hcW : W.cell? ⟨bb, 0, none⟩ = some (.slice ga gn gc) := (hb.cell (p := ⟨bb, 0, none⟩) hbb).trans hc
  have C := fun W' (h : Below W.heap.size W W') => has_arg G x ga gn gc W' (A.below h)
  dsimp only
  generalize hasB G x = r at *
  obtain ⟨W1, hW1⟩ : ∃ W1, W.alloc (.cells #[.int .i64 x, .int .i64 y] 90) = W1 := ⟨_, rfl⟩
  have b1 : Below W.heap.size W W1 := by rw [← hW1]; exact (Below.refl _ _).alloc (Nat.le_refl _) _
  have e0 : W1.cell? ⟨W.heap.size, 0, none⟩ = some (.int .i64 x) := by rw [← hW1]; simp
  have e1 : W1.cell? ⟨bb, 0, none⟩ = some (.slice ga gn gc) := (b1.cell (p := ⟨bb, 0, none⟩) (show bb < W.heap.size by omega)).trans hcW
  replace C := Lib.hid C
  replace hn := Lib.hid hn
  clear A hp hcW hc
  go_enter Try.func121, Try.ntmps121
  go_wp2_with (go_at_call 20; (with_reducible refine (C.out _ b1).mono ?_); rintro e w2 ⟨rfl, b2⟩)
  go_ret
  exact ⟨rfl, below_next b1 b2⟩

set_option maxRecDepth 100000 in
set_option maxHeartbeats 2000000 in
theorem without_any (a : Option Addr) (n cp : Nat) (l : List Sp) (lo hi : Int) (a3 : Option Addr) (n3 cp3 : Nat) (on : List Sp) (w : World) (hL : Arg w a n cp l) (ho : Arg w a3 n3 cp3 on) (hlen : l.length ≤ 100000) (hone : oneB (lo, hi) = true) (hon : chkB on = true) :
    Calls Try.prog 82 #[.slice a n cp, .agg #[.int .i64 lo, .int .i64 hi], .slice a3 n3 cp3] w (InsPost w.heap.size (l.filter (fun p => !(inB (lo, hi) p.1 && hasB on p.1))) w) := by
  have hm := meet_one hone hon
  have hfil : (l.filter (fun p => !(inB (lo, hi) p.1 && hasB on p.1))) = l.filter (fun p => !(hasB (setOf fun j => inB (lo, hi) j && hasB on j) p.1)) := by
    congr 1
    funext p
    rw [setOf_has]
    cases h : (inB (lo, hi) p.1 && hasB on p.1)
    · simp
    · rw [Bool.and_eq_true] at h
      have := (inB_iff _ _).1 h.1
      dsimp only at this
      rw [decide_eq_true (by omega)]
      rfl
  rw [hfil]
  generalize (setOf fun j => inB (lo, hi) j && hasB on j) = G at *
  obtain ⟨W1, hW1⟩ : ∃ W1, w.alloc (.cells #[.int .i64 lo, .int .i64 hi] 24) = W1 := ⟨_, rfl⟩
  have b1 : Below w.heap.size w W1 := by rw [← hW1]; exact (Below.refl _ _).alloc (Nat.le_refl _) _
  have e0 : W1.cell? ⟨w.heap.size, 0, none⟩ = some (.int .i64 lo) := by rw [← hW1]; simp
  have e1 : W1.cell? ⟨w.heap.size, 1, none⟩ = some (.int .i64 hi) := by rw [← hW1]; simp
  obtain ⟨W2, hW2⟩ : ∃ W2, W1.alloc (.cells #[.int .i64 lo, .int .i64 hi] 24) = W2 := ⟨_, rfl⟩
  have b2 : Below W1.heap.size W1 W2 := by rw [← hW2]; exact (Below.refl _ _).alloc (Nat.le_refl _) _
  have A1 : Arg W2 (some ⟨W1.heap.size, 0, none⟩) 1 1 [(lo, hi)] := by rw [← hW2]; exact arg_new W1 24 [(lo, hi)] #[.int .i64 lo, .int .i64 hi] rfl (by simp)
  have b12 := below_next b1 b2
  have CM := meet_any [(lo, hi)] on (some ⟨W1.heap.size, 0, none⟩) a3 1 n3 1 cp3 W2 A1 (ho.below b12)
  rw [hm] at CM
  have HL := Lib.hid (fun W (h : Below w.heap.size w W) => clonePair_any a n cp l W hlen (hL.below h))
  have eg := enters_of Try.func121 (P := Try.prog) (by kernel_rfl) rfl
  have HD := Lib.hid (fun (w3 : World) (a4 : Option Addr) (n4 c4 : Nat) (b3 : Below W2.heap.size W2 w3) (h4 : Arg w3 a4 n4 c4 G) (w5 : World) (v5 : Value) (o5 : OwnsP 90 w5 (w3.alloc (.cells #[.slice a4 n4 c4] 29)).heap.size v5 l) (b5 : Below (w3.alloc (.cells #[.slice a4 n4 c4] 29)).heap.size (w3.alloc (.cells #[.slice a4 n4 c4] 29)) w5) =>
    delF_any 121 #[.pointer (some ⟨w3.heap.size, 0, none⟩)] (fun x => hasB G x.1) (w3.alloc (.cells #[.slice a4 n4 c4] 29)).heap.size v5 l (w3.alloc (.cells #[.slice a4 n4 c4] 29)) w5 eg hlen o5 b5.size b5
      (without1 _ w3.heap.size a4 n4 c4 G _ (by simp) (Nat.le_refl _) (by simp) h4.1 h4.2.1 h4.2.2.1 h4.2.2.2.1 (h4.2.2.2.2.belowMore ((Below.refl _ _).alloc (Nat.le_refl _) _))))
  replace CM := Lib.hid CM
  clear hm hfil A1 hL ho
  go_enter Try.func82, Try.ntmps82
  go_wp2_with (first | (go_at_call 119; (with_reducible refine CM.out.mono ?_); rintro e w3 ⟨a4, n4, c4, rfl, h4, b3⟩; dsimp only at h4; have b03 := below_next b12 b3; have b04 : Below w.heap.size w (w3.alloc (.cells #[.slice a4 n4 c4] 29)) := below_alloc b03 _; replace h4 := Lib.hid h4) | (go_at_call 83; (with_reducible refine (HL.out _ b04).mono ?_); rintro e w5 ⟨v5, rfl, o5, b5⟩) | (go_at_call 120; (with_reducible refine (HD.out w3 a4 n4 c4 b3 h4.out w5 v5 o5 b5).mono ?_); rintro e w6 ⟨v6, rfl, o6, b6⟩))
  go_ret
  exact ⟨_, rfl, o6.base_le b04.size, b04.trans ((b5.mono b04.size).trans (b6.mono b04.size))⟩
end Go.Proofs.Ytfnjadiibiedgaa
