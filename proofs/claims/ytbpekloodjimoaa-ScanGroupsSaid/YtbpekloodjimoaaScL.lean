/-
  SCAN: contracts of Total and of the statements' few; plain: what groups add up to.
-/
import Derived.Test.YtbpekloodjimoaaScK
namespace Go.Proofs.Ytbpekloodjimoaa
open Go.RowKit Go.Shelf

set_option maxRecDepth 100000 in
set_option maxHeartbeats 1000000 in
theorem totalS_any (a : Option Addr) (n c : Nat) (l : List Sp) (a3 : Option Addr) (n3 c3 : Nat) (on : List Sp) (w : World) (hL : Arg w a n c l) (hO : Arg w a3 n3 c3 on) :
    Calls Try.prog 19 #[.slice a n c, .slice a3 n3 c3] w (GpPost (totP (clipP l on)) w) := by
  obtain ⟨W1, hW1⟩ : ∃ W1, w.alloc (.cells #[.int .i64 0, .int .i64 0, .int .i64 0, .int .i64 0, .int .i64 0] 57) = W1 := ⟨_, rfl⟩
  have bw : Below w.heap.size w W1 := by rw [← hW1]; exact (Below.refl _ _).alloc (Nat.le_refl _) _
  have g1 : w.heap.size < W1.heap.size := by rw [← hW1]; simp
  have hr1 : W1.heap[w.heap.size]? = some (.cells #[.int .i64 0, .int .i64 0, .int .i64 0, .int .i64 0, .int .i64 0] 57) := by rw [← hW1]; exact heap_alloc_new _ _
  have HX := Lib.hid (fun W (hb : Below W1.heap.size W1 W) => (hb.block _ g1).trans hr1)
  have CL := Lib.hid (clip_any a n c l a3 n3 c3 on W1 (hL.below bw) (hO.below bw))
  have hct := clip_tbl l on
  generalize clipP l on = M at *
  have TO := Lib.hid (fun W (a8 : Option Addr) (n8 c8 : Nat) (hA : Arg W a8 n8 c8 M) => total_any a8 n8 c8 M W hA (tbl_small hct).1)
  obtain ⟨⟨x0, x1, x2, x3, x4⟩, hx⟩ : ∃ g, totP M = g := ⟨_, rfl⟩
  rw [hx] at TO ⊢
  clear hL hO hct hr1 hx
  go_enter Try.func19, Try.ntmps19
  go_wp2_with (first | (go_at_call 12; (with_reducible refine CL.out.mono ?_); rintro e w2 ⟨v, rfl, ho, b2⟩; obtain ⟨a8, c8, hv, _⟩ := ho.arg; subst hv; have HA := Lib.hid (Arg.of_own ho rfl)) | (go_at_call 36; (with_reducible refine (TO.out _ _ _ _ HA.out).mono ?_); rintro e w3 ⟨rfl, b3⟩; dsimp only; have b23 := below_next b2 b3; obtain ⟨u0, u1, u2, u3, u4⟩ := cell5 (HX.out _ b23); obtain ⟨f0, f1, f2, f3, f4⟩ := froz5 (HX.out _ b23)))
  exact bodyPost_ret (v := .agg #[.int .i64 x0, .int .i64 x1, .int .i64 x2, .int .i64 x3, .int .i64 x4]) (by simp [results, Try.results19, go_sem, u0, u1, u2, u3, u4]) rfl ⟨rfl, (by repeat (first | with_reducible exact below_next bw b23 | with_reducible refine Below.setCell ?_ (by first | with_reducible exact Nat.le_refl _ | (dsimp only; omega)) _))⟩
theorem few22_any (a : Option Addr) (n c : Nat) (a3 : Option Addr) (n3 c3 : Nat) (w : World) (h1 : (n : Int) ≤ 9223372036854775807) (h2 : (n3 : Int) ≤ 9223372036854775807) {r : Bool} (hr : decide (n ≤ 100 ∧ n3 ≤ 100) = r) :
    Calls Try.prog 6 #[.slice a n c, .slice a3 n3 c3] w fun e w' => e = .returned (.bool r) ∧ w = w' := by
  by_cases hn : n ≤ 100
  · have hnz : (n : Int) ≤ 100 := by omega
    by_cases hm : n3 ≤ 100
    · have hmz : (n3 : Int) ≤ 100 := by omega
      have hr' : r = true := by rw [← hr]; exact decide_eq_true ⟨hn, hm⟩
      subst hr'
      clear hr
      go_enter Try.func6, Try.ntmps6
      go_wp2
      go_ret
      exact ⟨rfl, rfl⟩
    · have hmz : ¬ (n3 : Int) ≤ 100 := by omega
      have hr' : r = false := by rw [← hr]; exact decide_eq_false fun q => hm q.2
      subst hr'
      clear hr
      go_enter Try.func6, Try.ntmps6
      go_wp2
      go_ret
      exact ⟨rfl, rfl⟩
  · have hnz : ¬ (n : Int) ≤ 100 := by omega
    have hr' : r = false := by rw [← hr]; exact decide_eq_false fun q => hn q.1
    subst hr'
    clear hr
    go_enter Try.func6, Try.ntmps6
    go_wp2
    go_ret
    exact ⟨rfl, rfl⟩

/-! What groups add up to. -/
def cntG : List Gp → Int
  | [] => 0
  | g :: t => g.2.1 + cntG t
def sumG : List Gp → Int
  | [] => 0
  | g :: t => g.2.2.1 + sumG t
def minG (x : Int) (l : List Gp) : Int := l.foldl (fun m g => min m g.2.2.2.1) x
def maxG (x : Int) (l : List Gp) : Int := l.foldl (fun m g => max m g.2.2.2.2) x
theorem cntG_app : ∀ (l m : List Gp), cntG (l ++ m) = cntG l + cntG m
  | [], m => by simp [cntG]
  | p :: t, m => by
    show p.2.1 + cntG (t ++ m) = p.2.1 + cntG t + cntG m
    rw [cntG_app t m]; omega
theorem sumG_app : ∀ (l m : List Gp), sumG (l ++ m) = sumG l + sumG m
  | [], m => by simp [sumG]
  | p :: t, m => by
    show p.2.2.1 + sumG (t ++ m) = p.2.2.1 + sumG t + sumG m
    rw [sumG_app t m]; omega
theorem minV_in : ∀ (l : List Sp) (x y : Int), minV (min x y) l = min x (minV y l)
  | [], _, _ => rfl
  | p :: t, x, y => by
    show minV (min (min x y) p.2) t = min x (minV (min y p.2) t)
    rw [← minV_in t x (min y p.2), show min (min x y) p.2 = min x (min y p.2) by omega]
theorem maxV_in : ∀ (l : List Sp) (x y : Int), maxV (max x y) l = max x (maxV y l)
  | [], _, _ => rfl
  | p :: t, x, y => by
    show maxV (max (max x y) p.2) t = max x (maxV (max y p.2) t)
    rw [← maxV_in t x (max y p.2), show max (max x y) p.2 = max x (max y p.2) by omega]
theorem minV_head (l : List Sp) (h : l ≠ []) (x : Int) : min x (minV (l.getD 0 (0, 0)).2 l) = minV x l := by
  cases l with
  | nil => exact absurd rfl h
  | cons p t =>
    show min x (minV (min p.2 p.2) t) = minV (min x p.2) t
    rw [← minV_in, show min x (min p.2 p.2) = min x p.2 by omega]
theorem maxV_head (l : List Sp) (h : l ≠ []) (x : Int) : max x (maxV (l.getD 0 (0, 0)).2 l) = maxV x l := by
  cases l with
  | nil => exact absurd rfl h
  | cons p t =>
    show max x (maxV (max p.2 p.2) t) = maxV (max x p.2) t
    rw [← maxV_in, show max x (max p.2 p.2) = max x p.2 by omega]
theorem minV_app (x : Int) (l m : List Sp) : minV x (l ++ m) = minV (minV x l) m := by unfold minV; rw [List.foldl_append]
theorem maxV_app (x : Int) (l m : List Sp) : maxV x (l ++ m) = maxV (maxV x l) m := by unfold maxV; rw [List.foldl_append]
theorem take_ne {l : List Sp} (h : l ≠ []) {r : Nat} (hr : 1 ≤ r) : l.take r ≠ [] := fun e => by
  have := congrArg List.length e
  rw [List.length_take, List.length_nil] at this
  have := List.length_pos_iff.2 h
  omega
theorem take_head {l : List Sp} {r : Nat} (hr : 1 ≤ r) : (l.take r).getD 0 (0, 0) = l.getD 0 (0, 0) := by
  rw [List.getD_eq_getElem?_getD, List.getD_eq_getElem?_getD, List.getElem?_take, if_pos (by omega)]
theorem grps_sums (wd : Int) : ∀ (m : Nat) (L : List Sp), L.length ≤ m → cntG (grpsF wd m L) = (L.length : Int) ∧ sumG (grpsF wd m L) = sumV L ∧ (∀ x, minG x (grpsF wd m L) = minV x L) ∧ ∀ x, maxG x (grpsF wd m L) = maxV x L
  | 0, L, h => by
    have : L = [] := List.eq_nil_of_length_eq_zero (by omega)
    subst this
    exact ⟨rfl, rfl, fun _ => rfl, fun _ => rfl⟩
  | m + 1, L, h => by
    by_cases hL : L = []
    · subst hL
      exact ⟨rfl, rfl, fun _ => rfl, fun _ => rfl⟩
    · obtain ⟨r1, r2⟩ := runN_bd wd L hL
      rw [grpsF_cons wd m L hL]
      generalize runN wd L = r at r1 r2
      obtain ⟨i1, i2, i3, i4⟩ := grps_sums wd m (L.drop r) (by rw [List.length_drop]; omega)
      have hne := take_ne hL r1
      have hsp := List.take_append_drop r L
      refine ⟨?_, ?_, fun x => ?_, fun x => ?_⟩
      · show ((L.take r).length : Int) + cntG _ = _
        rw [i1, List.length_take, List.length_drop]
        omega
      · show sumV (L.take r) + sumG _ = _
        rw [i2, ← sumV_app, hsp]
      · show minG (min x (minV ((L.take r).getD 0 (0, 0)).2 (L.take r))) _ = _
        rw [minV_head _ hne, i3, ← minV_app, hsp]
      · show maxG (max x (maxV ((L.take r).getD 0 (0, 0)).2 (L.take r))) _ = _
        rw [maxV_head _ hne, i4, ← maxV_app, hsp]
theorem tblF_pw : ∀ (l : List Sp) (e : Int), tblF e l = true → (∀ p ∈ l, e < p.1) ∧ l.Pairwise (fun p q => p.1 < q.1)
  | [], _, _ => ⟨by simp, List.Pairwise.nil⟩
  | x :: t, e, h => by
    rw [tblF_cons] at h
    obtain ⟨i1, i2⟩ := tblF_pw t x.1 h.2.2
    refine ⟨fun p hp => ?_, List.pairwise_cons.2 ⟨i1, i2⟩⟩
    rcases List.mem_cons.1 hp with rfl | hp
    · exact h.1.1
    · have := i1 p hp; have := h.1.1; omega
theorem grps_of (wd : Int) : ∀ (m : Nat) (L : List Sp) (g : Gp), g ∈ grpsF wd m L → (∃ p ∈ L, g.1 = p.1.tdiv wd * wd) ∧ 1 ≤ g.2.1 ∧ (small L → -1099511627776 * g.2.1 ≤ g.2.2.1 ∧ g.2.2.1 ≤ 1099511627776 * g.2.1)
  | 0, L, g, h => by cases h
  | m + 1, L, g, h => by
    by_cases hL : L = []
    · subst hL; cases h
    · obtain ⟨r1, r2⟩ := runN_bd wd L hL
      rw [grpsF_cons wd m L hL] at h
      generalize runN wd L = r at r1 r2 h
      rcases List.mem_cons.1 h with rfl | h
      · refine ⟨⟨_, getD_memS (k := 0) (List.length_pos_iff.2 hL), rfl⟩, ?_, fun hs => sumV_bd _ (hs.take r).2⟩
        show (1 : Int) ≤ ((L.take r).length : Int)
        rw [List.length_take]
        omega
      · obtain ⟨⟨p, hp, e⟩, i2, i3⟩ := grps_of wd m (L.drop r) g h
        exact ⟨⟨p, List.mem_of_mem_drop hp, e⟩, i2, fun hs => i3 (hs.drop r)⟩
theorem tdiv_mono {a b wd : Int} (h0 : 0 ≤ a) (h : a ≤ b) (hw : 1 ≤ wd) : a.tdiv wd ≤ b.tdiv wd := by
  rw [Int.tdiv_eq_ediv_of_nonneg h0, Int.tdiv_eq_ediv_of_nonneg (by omega)]
  exact Int.ediv_le_ediv (by omega) h
theorem grps_pw (wd : Int) (hw : 1 ≤ wd) : ∀ (m : Nat) (L : List Sp), keysB L → L.Pairwise (fun p q => p.1 < q.1) → (grpsF wd m L).Pairwise (fun g h => g.1 < h.1)
  | 0, L, _, _ => List.Pairwise.nil
  | m + 1, L, hk, hp => by
    by_cases hL : L = []
    · subst hL; exact List.Pairwise.nil
    · obtain ⟨r1, r2⟩ := runN_bd wd L hL
      have ro := runN_out wd L
      rw [grpsF_cons wd m L hL]
      generalize runN wd L = r at r1 r2 ro
      refine List.pairwise_cons.2 ⟨fun g hg => ?_, grps_pw wd hw m (L.drop r) (hk.drop r) (hp.sublist (List.drop_sublist r L))⟩
      obtain ⟨⟨p, hpm, e⟩, _⟩ := grps_of wd m (L.drop r) g hg
      rw [e]
      show (L.getD 0 (0, 0)).1.tdiv wd * wd < p.1.tdiv wd * wd
      obtain ⟨i, hi, ei⟩ := List.mem_iff_getElem.1 hpm
      rw [List.length_drop] at hi
      rw [List.getElem_drop] at ei
      have hrl : r < L.length := by omega
      have ho := ro hrl
      have g0 : L.getD 0 (0, 0) = L[0]'(by omega) := by rw [List.getD_eq_getElem?_getD, List.getElem?_eq_getElem (by omega)]; rfl
      have gr : L.getD r (0, 0) = L[r] := by rw [List.getD_eq_getElem?_getD, List.getElem?_eq_getElem hrl]; rfl
      rw [g0, gr] at ho
      rw [g0]
      have k0 := hk _ (List.getElem_mem (show 0 < L.length by omega))
      have kr := hk _ (List.getElem_mem hrl)
      have pw := List.pairwise_iff_getElem.1 hp
      have l1 := pw 0 r (by omega) hrl (by omega)
      have m1 := tdiv_mono k0.1 (Int.le_of_lt l1) hw
      have l2 : L[r].1 ≤ p.1 := by
        rw [← ei]
        by_cases hi0 : i = 0
        · subst hi0; exact Int.le_refl _
        · exact Int.le_of_lt (pw r (r + i) hrl (by omega) (by omega))
      have m2 := tdiv_mono kr.1 l2 hw
      have hne : L[r].1.tdiv wd ≠ (L[0]'(by omega)).1.tdiv wd := by simpa using ho
      exact Int.mul_lt_mul_of_pos_right (by omega) (by omega)
theorem key_mod (q wd : Int) : (q * wd).tmod wd = 0 := Int.mul_tmod_left q wd
theorem cntG_bd : ∀ (G : List Gp), (∀ g ∈ G, 1 ≤ g.2.1) → 0 ≤ cntG G
  | [], _ => by simp [cntG]
  | g :: t, h => by
    have h1 := h g (by simp)
    have h2 := cntG_bd t fun x hx => h x (by simp [hx])
    show 0 ≤ g.2.1 + cntG t
    omega
theorem sumG_bd : ∀ (G : List Gp), (∀ g ∈ G, -1099511627776 * g.2.1 ≤ g.2.2.1 ∧ g.2.2.1 ≤ 1099511627776 * g.2.1) → -1099511627776 * cntG G ≤ sumG G ∧ sumG G ≤ 1099511627776 * cntG G
  | [], _ => by simp [cntG, sumG]
  | g :: t, h => by
    have h1 := h g (by simp)
    have h2 := sumG_bd t fun x hx => h x (by simp [hx])
    show -1099511627776 * (g.2.1 + cntG t) ≤ g.2.2.1 + sumG t ∧ g.2.2.1 + sumG t ≤ 1099511627776 * (g.2.1 + cntG t)
    omega
theorem minV_le : ∀ (l : List Sp) (x : Int), minV x l ≤ x
  | [], _ => Int.le_refl _
  | p :: t, x => by
    have := minV_le t (min x p.2)
    show minV (min x p.2) t ≤ x
    omega
theorem maxV_ge : ∀ (l : List Sp) (x : Int), x ≤ maxV x l
  | [], _ => Int.le_refl _
  | p :: t, x => by
    have := maxV_ge t (max x p.2)
    show x ≤ maxV (max x p.2) t
    omega
end Go.Proofs.Ytbpekloodjimoaa
