/-
  CONTRACTS: the document's more, Total, Groups.
-/
import Derived.Test.YtbpekloodjimoaaScGa
import Derived.Test.YtbpekloodjimoaaJq
import Derived.Deep.RegionLaw
import Derived.StillTailTactics
namespace Go.Proofs.Ytbpekloodjimoaa
open Go.RowKit Go.Shelf

def GpPostD (g : Gp) (w : World) (e : Ending) (w' : World) : Prop := e = .returned (.agg #[.int .i64 g.1, .int .i64 g.2.1, .int .i64 g.2.2.1, .int .i64 g.2.2.2.1, .int .i64 g.2.2.2.2]) ∧ Below w.heap.size w w'
theorem more_ret {g : Gp} {a b c d e : Int} (h : (a, b, c, d, e) = g) : Ending.returned (.agg #[.int .i64 a, .int .i64 b, .int .i64 c, .int .i64 d, .int .i64 e]) = .returned (.agg #[.int .i64 g.1, .int .i64 g.2.1, .int .i64 g.2.2.1, .int .i64 g.2.2.2.1, .int .i64 g.2.2.2.2]) := by rw [← h]
set_option maxRecDepth 100000 in
set_option maxHeartbeats 2000000 in
theorem rmore_any (k n s mi ma v : Int) (w : World) (hn : 0 ≤ n ∧ n ≤ 100000) (hs : -1152921504606846976 ≤ s ∧ s ≤ 1152921504606846976) (hv : -1099511627776 ≤ v ∧ v ≤ 1099511627776) :
    Calls Try.prog 38 #[.agg #[.int .i64 k, .int .i64 n, .int .i64 s, .int .i64 mi, .int .i64 ma], .int .i64 v] w (GpPostD (moreG (k, n, s, mi, ma) v) w) := by
  have w1 : IntKind.i64.wrap (n + 1) = n + 1 := IntWalk.i64_in _ (by omega)
  have w2 : IntKind.i64.wrap (s + v) = s + v := IntWalk.i64_in _ (by omega)
  by_cases h0 : n = 0
  · subst h0
    have HG := Lib.hid (show (k, 0 + 1, s + v, v, v) = moreG (k, 0, s, mi, ma) v by simp [moreG])
    clear hn hs hv
    go_enter Try.func38, Try.ntmps38
    go_wp2_with fail
    exact bodyPost_ret (v := .agg #[.int .i64 k, .int .i64 (0 + 1), .int .i64 (s + v), .int .i64 v, .int .i64 v]) (by simp [results, Try.results38, go_sem]) rfl ⟨more_ret HG.out, (by repeat (first | exact Below.refl _ _ | refine Below.alloc ?_ (by first | exact Nat.le_refl _ | (simp)) _ | refine Below.setCell ?_ (by first | exact Nat.le_refl _ | (dsimp only; omega) | (simp; omega)) _))⟩
  · have hb : (n == 0) = false := by simpa using h0
    by_cases ha : v < mi
    · by_cases hc : ma < v
      · have HG := Lib.hid (show (k, n + 1, s + v, v, v) = moreG (k, n, s, mi, ma) v by simp [moreG, ha, hc])
        clear hn hs hv h0
        go_enter Try.func38, Try.ntmps38
        go_wp2_with fail
        exact bodyPost_ret (v := .agg #[.int .i64 k, .int .i64 (n + 1), .int .i64 (s + v), .int .i64 v, .int .i64 v]) (by simp [results, Try.results38, go_sem]) rfl ⟨more_ret HG.out, (by repeat (first | exact Below.refl _ _ | refine Below.alloc ?_ (by first | exact Nat.le_refl _ | (simp)) _ | refine Below.setCell ?_ (by first | exact Nat.le_refl _ | (dsimp only; omega) | (simp; omega)) _))⟩
      · have HG := Lib.hid (show (k, n + 1, s + v, v, ma) = moreG (k, n, s, mi, ma) v by simp [moreG, ha, hc, h0])
        clear hn hs hv h0
        go_enter Try.func38, Try.ntmps38
        go_wp2_with fail
        exact bodyPost_ret (v := .agg #[.int .i64 k, .int .i64 (n + 1), .int .i64 (s + v), .int .i64 v, .int .i64 ma]) (by simp [results, Try.results38, go_sem]) rfl ⟨more_ret HG.out, (by repeat (first | exact Below.refl _ _ | refine Below.alloc ?_ (by first | exact Nat.le_refl _ | (simp)) _ | refine Below.setCell ?_ (by first | exact Nat.le_refl _ | (dsimp only; omega) | (simp; omega)) _))⟩
    · by_cases hc : ma < v
      · have HG := Lib.hid (show (k, n + 1, s + v, mi, v) = moreG (k, n, s, mi, ma) v by simp [moreG, ha, hc, h0])
        clear hn hs hv h0
        go_enter Try.func38, Try.ntmps38
        go_wp2_with fail
        exact bodyPost_ret (v := .agg #[.int .i64 k, .int .i64 (n + 1), .int .i64 (s + v), .int .i64 mi, .int .i64 v]) (by simp [results, Try.results38, go_sem]) rfl ⟨more_ret HG.out, (by repeat (first | exact Below.refl _ _ | refine Below.alloc ?_ (by first | exact Nat.le_refl _ | (simp)) _ | refine Below.setCell ?_ (by first | exact Nat.le_refl _ | (dsimp only; omega) | (simp; omega)) _))⟩
      · have HG := Lib.hid (show (k, n + 1, s + v, mi, ma) = moreG (k, n, s, mi, ma) v by simp [moreG, ha, hc, h0])
        clear hn hs hv h0
        go_enter Try.func38, Try.ntmps38
        go_wp2_with fail
        exact bodyPost_ret (v := .agg #[.int .i64 k, .int .i64 (n + 1), .int .i64 (s + v), .int .i64 mi, .int .i64 ma]) (by simp [results, Try.results38, go_sem]) rfl ⟨more_ret HG.out, (by repeat (first | exact Below.refl _ _ | refine Below.alloc ?_ (by first | exact Nat.le_refl _ | (simp)) _ | refine Below.setCell ?_ (by first | exact Nat.le_refl _ | (dsimp only; omega) | (simp; omega)) _))⟩
end Go.Proofs.Ytbpekloodjimoaa
