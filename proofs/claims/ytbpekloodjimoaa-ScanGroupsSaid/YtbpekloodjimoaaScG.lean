/-
  SCAN: contract of gather: the groups of rows of keys.
-/
import Derived.Test.YtbpekloodjimoaaScC
namespace Go.Proofs.Ytbpekloodjimoaa
open Go.RowKit Go.Shelf

theorem Arg.dropI {w : World} {b off n c : Nat} {l : List Sp} (h : Arg w (some ⟨b, off, none⟩) n c l) (k : Nat) (hk : k ≤ n) : Arg w (if c = k then some ⟨b, off, none⟩ else some ⟨b, off + k * 2, none⟩) (n - k) (c - k) (l.drop k) := by
  split
  · rename_i hc
    have := h.drop0 k hk hc
    rwa [show c - k = 0 by omega]
  · exact h.dropA k hk
theorem tw_in (q : Sp → Bool) : ∀ (t : List Sp) (i : Nat), i < (t.takeWhile q).length → q (t.getD i (0, 0)) = true
  | [], i, h => by simp at h
  | x :: t, i, h => by
    rw [List.takeWhile_cons] at h
    split at h
    · rename_i hx
      cases i with
      | zero => simpa using hx
      | succ i => simpa using tw_in q t i (by simpa using h)
    · simp at h
theorem tw_out (q : Sp → Bool) : ∀ (t : List Sp), (t.takeWhile q).length < t.length → q (t.getD (t.takeWhile q).length (0, 0)) = false
  | [], h => by simp at h
  | x :: t, h => by
    rw [List.takeWhile_cons] at h ⊢
    split
    · rename_i hx
      rw [if_pos hx] at h
      simpa using tw_out q t (by simpa using h)
    · rename_i hx
      simpa using hx
theorem tw_le (q : Sp → Bool) : ∀ (t : List Sp), (t.takeWhile q).length ≤ t.length
  | [] => by simp
  | x :: t => by
    rw [List.takeWhile_cons]
    split
    · simpa using tw_le q t
    · simp
def sameF (wd : Int) (p q : Sp) : Bool := q.1.tdiv wd == p.1.tdiv wd
def runN (wd : Int) : List Sp → Nat
  | [] => 0
  | p :: t => (t.takeWhile (sameF wd p)).length + 1
theorem runN_bd (wd : Int) (l : List Sp) (h : l ≠ []) : 1 ≤ runN wd l ∧ runN wd l ≤ l.length := by
  cases l with
  | nil => exact absurd rfl h
  | cons p t =>
    have := tw_le (sameF wd p) t
    have e : runN wd (p :: t) = (t.takeWhile (sameF wd p)).length + 1 := rfl
    rw [e, List.length_cons]
    omega
theorem runN_in (wd : Int) (l : List Sp) (i : Nat) (h1 : 1 ≤ i) (h : i < runN wd l) : (l.getD i (0, 0)).1.tdiv wd = (l.getD 0 (0, 0)).1.tdiv wd := by
  cases l with
  | nil => exact absurd h (Nat.not_lt_zero _)
  | cons p t =>
    have e : runN wd (p :: t) = (t.takeWhile (sameF wd p)).length + 1 := rfl
    rw [e] at h
    obtain ⟨j, rfl⟩ : ∃ j, i = j + 1 := ⟨i - 1, by omega⟩
    have := tw_in (sameF wd p) t j (by omega)
    unfold sameF at this
    simpa using this
theorem runN_out (wd : Int) (l : List Sp) (h : runN wd l < l.length) : ((l.getD (runN wd l) (0, 0)).1.tdiv wd == (l.getD 0 (0, 0)).1.tdiv wd) = false := by
  cases l with
  | nil => exact absurd h (Nat.not_lt_zero _)
  | cons p t =>
    have e : runN wd (p :: t) = (t.takeWhile (sameF wd p)).length + 1 := rfl
    rw [e] at h ⊢
    exact tw_out (sameF wd p) t (by simpa using h)
def grpsF (wd : Int) : Nat → List Sp → List Gp
  | 0, _ => []
  | _ + 1, [] => []
  | m + 1, p :: t => grpOf (((p :: t).getD 0 (0, 0)).1.tdiv wd * wd) ((p :: t).take (runN wd (p :: t))) :: grpsF wd m ((p :: t).drop (runN wd (p :: t)))
theorem grpsF_nil (wd : Int) (m : Nat) : grpsF wd m [] = [] := by cases m <;> rfl
theorem grpsF_cons (wd : Int) (m : Nat) (l : List Sp) (h : l ≠ []) : grpsF wd (m + 1) l = grpOf ((l.getD 0 (0, 0)).1.tdiv wd * wd) (l.take (runN wd l)) :: grpsF wd m (l.drop (runN wd l)) := by
  cases l with
  | nil => exact absurd rfl h
  | cons p t => rfl
theorem Try.infoGroup : (Try.prog.info? 57).map (fun i => (i.zero, i.size, i.bytes)) = some (some (.agg #[.int .i64 0, .int .i64 0, .int .i64 0, .int .i64 0, .int .i64 0]), 5, 40) := by kernel_rfl
def lenV : Value → Nat
  | .slice _ n _ => n
  | _ => 0
def GpsPost (G : List Gp) (w : World) (e : Ending) (w' : World) : Prop := ∃ v, e = .returned v ∧ OwnsR encGp 5 57 w' w.heap.size v G ∧ Below w.heap.size w w'
theorem encGp_one (g : Gp) : ∀ u ∈ encGp g, u.oneCell' = true := by
  intro u hu
  unfold encGp at hu
  simp at hu
  rcases hu with rfl | rfl | rfl | rfl | rfl <;> rfl
theorem gp_at (w : World) (a b c d e : Int) (t : TypeId) (j : Nat) (u : Value) (h : (encGp (a, b, c, d, e))[j]? = some u) : (w.alloc (.cells #[.int .i64 a, .int .i64 b, .int .i64 c, .int .i64 d, .int .i64 e] t)).cell? ((⟨w.heap.size, 0, none⟩ : Addr).add j) = some u := by
  rw [addr_add, Nat.zero_add]
  exact cellAt (heap_alloc_new _ _) (by rw [← h]; simp [encGp])
set_option maxRecDepth 100000 in
set_option maxHeartbeats 4000000 in
theorem gather_any (wd : Int) (hw : 1 ≤ wd) (hw2 : wd ≤ 4096) (g5 g8 : Nat) (a : Option Addr) (n c : Nat) (l : List Sp) (w : World) (h : Arg w a n c l) (hs : small l) (hk : keysB l)
    (h5 : g5 < w.heap.size) (c5 : w.cell? ⟨g5, 0, none⟩ = some (.int .i64 wd)) (h8 : g8 < w.heap.size) (c8 : w.cell? ⟨g8, 0, none⟩ = some (.func (.func 33) #[] #[.pointer (some ⟨g5, 0, none⟩)])) :
    Calls Try.prog 34 #[.slice a n c, .func (.func 33) #[] #[.pointer (some ⟨g5, 0, none⟩)], .func (.func 35) #[] #[.pointer (some ⟨g8, 0, none⟩), .pointer (some ⟨g5, 0, none⟩)]] w (GpsPost (grpsF wd l.length l) w) := by
  obtain ⟨i0, hi0, hz0, hz1, hz2⟩ := info_parts Try.infoGroup
  obtain ⟨G, hG⟩ : ∃ G, grpsF wd l.length l = G := ⟨_, rfl⟩
  rw [hG]
  have hl4 := hs.1
  have C5 := Lib.hid (fun W (hb : Below w.heap.size w W) => (hb.cell (p := ⟨g5, 0, none⟩) h5).trans c5)
  have C8 := Lib.hid (fun W (hb : Below w.heap.size w W) => (hb.cell (p := ⟨g8, 0, none⟩) h8).trans c8)
  have A0 := Lib.hid (And.intro h (And.intro hs hk))
  have HG0 := Lib.hid (show ([] : List Gp) ++ grpsF wd l.length l = G from hG)
  clear c5 c8 h hs hk hG
  go_enter Try.func34, Try.ntmps34
  go_wp2_with fail
  go_loopw [0, 7, 8] (fun rows out _ wr => ∃ (a' : Option Addr) (n' c' : Nat) (L : List Sp) (O : List Gp) (m : Nat), rows = .slice a' n' c' ∧ Hid (Arg w a' n' c' L ∧ small L ∧ keysB L) ∧ Hid (OwnsR encGp 5 57 wr w.heap.size out O) ∧ Hid (O ++ grpsF wd m L = G) ∧ Hid (L.length ≤ m) ∧ Hid (O.length + L.length ≤ 4096) ∧ Below w.heap.size w wr)
    (fun rows _ _ _ => lenV rows)
  case atStart => exact ⟨a, n, c, l, [], l.length, rfl, A0, Lib.hid (OwnsR.nil _ _ _ _ _), HG0, Lib.hid (Nat.le_refl _), Lib.hid (by simpa using hl4), Below.refl _ _⟩
  case round =>
    obtain ⟨wo, rfl⟩ : ∃ wo, wo = wr := ⟨_, rfl⟩
    obtain ⟨a', n', c', L, O, m, rfl, HA, HO, HE, HM, HC, hbl⟩ := hrel
    obtain ⟨hA0, hsL, hkL⟩ := HA.out
    have hA := hA0.below hbl
    clear hA0
    have hnL := hA.1
    have hLm := HM.out
    have hOL := HC.out
    by_cases h0 : 0 < n'
    · have hLne : L ≠ [] := fun e => by rw [e] at hnL; simp at hnL; omega
      obtain ⟨b, off, rfl⟩ := hA.form h0
      obtain ⟨r1, r2⟩ := runN_bd wd L hLne
      have h0z : (0 : Int) < (n' : Int) := by omega
      have hnz : (n' : Int) ≤ 4096 := by have := hsL.1; omega
      have hc' : n' ≤ c' := by have := hA.2.2.1; omega
      obtain ⟨m', hm'⟩ : ∃ m', m = m' + 1 := ⟨m - 1, by omega⟩
      have hE := HE.out
      rw [hm', grpsF_cons wd m' L hLne] at hE
      have HE2 := Lib.hid hE
      have RI := Lib.hid (runN_in wd L)
      have RO := Lib.hid (runN_out wd L)
      obtain ⟨r, hr⟩ : ∃ r, runN wd L = r := ⟨_, rfl⟩
      rw [hr] at r1 r2 HE2 RI RO
      have hrn : r ≤ n' := by omega
      have hrc : r ≤ c' := by omega
      have HA1 := Lib.hid hA
      have HTK := Lib.hid (hA.takeA r hrn)
      have HSK := Lib.hid (And.intro (hsL.take r) (And.intro (hkL.take r) (show L.take r ≠ [] from fun e => by have := congrArg List.length e; rw [List.length_take, List.length_nil] at this; omega)))
      have HSD := Lib.hid (And.intro (hsL.drop r) (hkL.drop r))
      have HT0 := Lib.hid (show (L.take r).getD 0 (0, 0) = L.getD 0 (0, 0) by rw [List.getD_eq_getElem?_getD, List.getD_eq_getElem?_getD, List.getElem?_take, if_pos (by omega)])
      have HKB := Lib.hid hkL
      have HNL := Lib.hid hnL
      have HCE := Lib.hid (fun W (hb : Below wo.heap.size wo W) (j : Nat) (hj : j < n') => (show W.cell? ⟨b, off + j * 2, none⟩ = some (.int .i64 (L.getD j (0, 0)).1) ∧ W.cell? ⟨b, off + j * 2 + 1, none⟩ = some (.int .i64 (L.getD j (0, 0)).2) by
        obtain ⟨b', off', e', _, c0, c1⟩ := (hA.below hb).2.2.2.2 j (by omega)
        cases e'
        exact ⟨c0, c1⟩))
      clear hA hsL hkL hnL hLne hE hr
      go_wp2_with fail
      go_loopw [8] (fun sz wi => ∃ (s : Nat), sz = .int .i64 (s : Int) ∧ 1 ≤ s ∧ s ≤ r ∧ Below wo.heap.size wo wi) (fun sz _ => r - (intOf sz).toNat)
      case atStart => exact ⟨1, rfl, Nat.le_refl _, r1, Below.refl _ _⟩
      case round =>
        obtain ⟨wi, rfl⟩ : ∃ wi, wi = wr := ⟨_, rfl⟩
        obtain ⟨s, rfl, hs1, hsr, hbi⟩ := hrel
        have hbwi := below_next hbl hbi
        have C5i := Lib.hid (fun W (hb : Below wi.heap.size wi W) => C5.out _ (below_next hbwi hb))
        have h5i : g5 < wi.heap.size := Nat.lt_of_lt_of_le h5 hbwi.size
        have HBD : Below wi.heap.size wi wi := Below.refl _ _
        obtain ⟨d0, d1⟩ := HCE.out _ hbi 0 h0
        rw [Nat.zero_mul, Nat.add_zero] at d0 d1
        have hk0 := HKB.out _ (getD_memS (l := L) (k := 0) (by have := HNL.out; omega))
        obtain ⟨p0, hp0⟩ : ∃ p, L.getD 0 (0, 0) = p := ⟨_, rfl⟩
        have HP0 := Lib.hid hp0
        rw [hp0] at d0 d1 hk0
        clear hp0
        obtain ⟨k0, v0⟩ := p0
        dsimp only at d0 d1 hk0
        have N0 := Lib.hid (fun W hg hc => nth1 wd k0 v0 hk0.1 hk0.2 hw g5 W hg hc)
        obtain ⟨q0, hq0⟩ : ∃ q, k0.tdiv wd = q := ⟨_, rfl⟩
        rw [hq0] at N0
        have HQ0 := Lib.hid hq0
        clear hq0 hk0
        by_cases hlt : s < n'
        · have hltz : (s : Int) < (n' : Int) := by omega
          obtain ⟨x0, x1⟩ := HCE.out _ hbi s hlt
          have hks := HKB.out _ (getD_memS (l := L) (k := s) (by have := HNL.out; omega))
          obtain ⟨ps, hps⟩ : ∃ p, L.getD s (0, 0) = p := ⟨_, rfl⟩
          have HPS := Lib.hid hps
          rw [hps] at x0 x1 hks
          clear hps
          obtain ⟨ks, vs⟩ := ps
          dsimp only at x0 x1 hks
          have NS := Lib.hid (fun W hg hc => nth1 wd ks vs hks.1 hks.2 hw g5 W hg hc)
          obtain ⟨qs, hqs⟩ : ∃ q, ks.tdiv wd = q := ⟨_, rfl⟩
          rw [hqs] at NS
          have HQS := Lib.hid hqs
          clear hqs hks
          have hbk := World.block_lt_of_cell? wi _ d0
          have KK := Lib.hid (fun W (hb : Below wi.heap.size wi W) => (show W.cell? ⟨b, off, none⟩ = some (.int .i64 k0) ∧ W.cell? ⟨b, off + 1, none⟩ = some (.int .i64 v0) ∧ W.cell? ⟨b, off + s * 2, none⟩ = some (.int .i64 ks) ∧ W.cell? ⟨b, off + s * 2 + 1, none⟩ = some (.int .i64 vs) from ⟨(hb.cell (p := ⟨b, off, none⟩) hbk).trans d0, (hb.cell (p := ⟨b, off + 1, none⟩) hbk).trans d1, (hb.cell (p := ⟨b, off + s * 2, none⟩) hbk).trans x0, (hb.cell (p := ⟨b, off + s * 2 + 1, none⟩) hbk).trans x1⟩))
          by_cases hsr2 : s < r
          · have hqq : qs = q0 := by
              have := RI.out s hs1 hsr2
              rw [HPS.out, HP0.out] at this
              dsimp only at this
              rw [HQS.out, HQ0.out] at this
              exact this
            subst hqq
            clear HQ0 HQS
            go_wp2_with fail
            go_region_held3 (fun W => W.cell? ⟨b, off, none⟩ = some (.int .i64 k0) ∧ W.cell? ⟨b, off + 1, none⟩ = some (.int .i64 v0) ∧ W.cell? ⟨b, off + s * 2, none⟩ = some (.int .i64 ks) ∧ W.cell? ⟨b, off + s * 2 + 1, none⟩ = some (.int .i64 vs)) (exact KK.out _ (by repeat (first | with_reducible exact HBD | refine toDS ?_ | refine Below.alloc ?_ (by first | omega | (simp; omega)) _))) ((first | (go_at_call 33; (with_reducible refine (NS.out _ (lt_grown h5i (by repeat (first | with_reducible exact HBD | refine toDS ?_ | refine Below.alloc ?_ (by first | omega | (simp; omega)) _))) (C5i.out _ (by repeat (first | with_reducible exact HBD | refine toDS ?_ | refine Below.alloc ?_ (by first | omega | (simp; omega)) _)))).mono ?_); rintro e wz ⟨rfl, hbz⟩; have HBD := below_next (w := wi) (by repeat (first | with_reducible exact HBD | refine toDS ?_ | refine Below.alloc ?_ (by first | omega | (simp; omega)) _)) hbz) | (go_at_call 33; (with_reducible refine (N0.out _ (lt_grown h5i (by repeat (first | with_reducible exact HBD | refine toDS ?_ | refine Below.alloc ?_ (by first | omega | (simp; omega)) _))) (C5i.out _ (by repeat (first | with_reducible exact HBD | refine toDS ?_ | refine Below.alloc ?_ (by first | omega | (simp; omega)) _)))).mono ?_); rintro e wz ⟨rfl, hbz⟩; have HBD := below_next (w := wi) (by repeat (first | with_reducible exact HBD | refine toDS ?_ | refine Below.alloc ?_ (by first | omega | (simp; omega)) _)) hbz) | fail))
            all_goals
              go_wp2_with fail
              go_roundw
              case rel => exact ⟨s + 1, by go_num, by omega, by omega, below_next hbi (by repeat (first | with_reducible exact HBD | refine toDS ?_ | refine Below.alloc ?_ (by first | omega | (simp; omega)) _))⟩
              case measure => simp [intOf]; omega
          · have hqq : (qs == q0) = false := by
              have e : s = r := by omega
              subst e
              have := RO.out (by have := HNL.out; omega)
              rw [HPS.out, HP0.out] at this
              dsimp only at this
              rw [HQS.out, HQ0.out] at this
              exact this
            clear HQ0 HQS
            obtain rfl : s = r := by omega
            go_wp2_with fail
            go_region_held3 (fun W => W.cell? ⟨b, off, none⟩ = some (.int .i64 k0) ∧ W.cell? ⟨b, off + 1, none⟩ = some (.int .i64 v0) ∧ W.cell? ⟨b, off + s * 2, none⟩ = some (.int .i64 ks) ∧ W.cell? ⟨b, off + s * 2 + 1, none⟩ = some (.int .i64 vs)) (exact KK.out _ (by repeat (first | with_reducible exact HBD | refine toDS ?_ | refine Below.alloc ?_ (by first | omega | (simp; omega)) _))) ((first | (go_at_call 33; (with_reducible refine (NS.out _ (lt_grown h5i (by repeat (first | with_reducible exact HBD | refine toDS ?_ | refine Below.alloc ?_ (by first | omega | (simp; omega)) _))) (C5i.out _ (by repeat (first | with_reducible exact HBD | refine toDS ?_ | refine Below.alloc ?_ (by first | omega | (simp; omega)) _)))).mono ?_); rintro e wz ⟨rfl, hbz⟩; have HBD := below_next (w := wi) (by repeat (first | with_reducible exact HBD | refine toDS ?_ | refine Below.alloc ?_ (by first | omega | (simp; omega)) _)) hbz) | (go_at_call 33; (with_reducible refine (N0.out _ (lt_grown h5i (by repeat (first | with_reducible exact HBD | refine toDS ?_ | refine Below.alloc ?_ (by first | omega | (simp; omega)) _))) (C5i.out _ (by repeat (first | with_reducible exact HBD | refine toDS ?_ | refine Below.alloc ?_ (by first | omega | (simp; omega)) _)))).mono ?_); rintro e wz ⟨rfl, hbz⟩; have HBD := below_next (w := wi) (by repeat (first | with_reducible exact HBD | refine toDS ?_ | refine Below.alloc ?_ (by first | omega | (simp; omega)) _)) hbz) | fail))
            all_goals
              obtain ⟨⟨x0, x1, x2, x3, x4⟩, hgx⟩ : ∃ g, grpOf ((L.getD 0 (0, 0)).1.tdiv wd * wd) (L.take s) = g := ⟨_, rfl⟩
              have HGX := Lib.hid hgx
              clear hgx
              have hcw : Below wo.heap.size wo _ := below_next hbi (by repeat (first | with_reducible exact HBD | refine toDS ?_ | refine Below.alloc ?_ (by first | omega | (simp; omega)) _))
              have HX0 : Hid (grpOf ((L.getD 0 (0, 0)).1.tdiv wd * wd) (L.take s) = (x0, x1, x2, x3, x4)) := HGX
              have BU := Lib.hid (fun W (hb : Below wo.heap.size wo W) => (show Calls Try.prog 35 #[.slice (some ⟨b, off, none⟩) s c', .pointer (some ⟨g8, 0, none⟩), .pointer (some ⟨g5, 0, none⟩)] W (GpPost (x0, x1, x2, x3, x4) W) from by
                have := build1 wd hw hw2 g5 g8 _ s c' (L.take s) W (HTK.out.below hb) HSK.out.2.2 HSK.out.1 HSK.out.2.1 (Nat.lt_of_lt_of_le h5 (below_next hbl hb).size) (C5.out _ (below_next hbl hb)) (Nat.lt_of_lt_of_le h8 (below_next hbl hb).size) (C8.out _ (below_next hbl hb))
                rw [HT0.out, HX0.out] at this
                exact this))
              go_wp2_with (first | (go_at_call 35; (with_reducible refine (BU.out _ hcw).mono ?_); rintro e w6 ⟨rfl, hb6⟩; dsimp only; have hb06 := below_next hcw hb6; have hbw6 := below_next hbl hb06; have HO6 := Lib.hid (show w6.ownsRow w.heap.size 57 5 _ O.length (flatR encGp O) from HO.out.below hb06)) | (at_builtin; refine wpList_append_own _ rfl _ _ 46 rfl w.heap.size 57 i0 (.agg #[.int .i64 0, .int .i64 0, .int .i64 0, .int .i64 0, .int .i64 0]) 5 40 Try.underlying46 hi0 hz0 hz1 hz2 rfl (by decide) _ _ _ rfl (HO6.out.alloc _) ⟨w6.heap.size, 0, none⟩ 1 1 [.int .i64 x0, .int .i64 x1, .int .i64 x2, .int .i64 x3, .int .i64 x4] rfl rfl ?c1 ?c2 ?c3 ?c4 ?c5 ?_))
              case c1 => exact fun j u hj => gp_at w6 x0 x1 x2 x3 x4 _ j u hj
              case c2 => exact encGp_one (x0, x1, x2, x3, x4)
              case c3 => unfold maxLen; omega
              case c4 => omega
              case c5 => have := hbw6.size; simp; omega
              intro v' w7 hown hgrow _
              have hb17 := (hbw6.alloc hbw6.size (.cells #[.int .i64 x0, .int .i64 x1, .int .i64 x2, .int .i64 x3, .int .i64 x4] 57)).grown hgrow (by have := hbw6.size; simp; omega) (fun j hj => (HO6.out.lt j hj).1)
              have HO7 := Lib.hid (OwnsR.snoc (enc := encGp) (k := 5) (t := 57) (base := w.heap.size) (x := (x0, x1, x2, x3, x4)) (l := O) rfl hown)
              clear hown hgrow
              go_wp2
              all_goals
                go_roundw
                case rel => first | exact ⟨_, _, _, L.drop s, O ++ [(x0, x1, x2, x3, x4)], m', rfl, Lib.hid ⟨HA.out.1.dropA s hrn, HSD.out⟩, HO7, Lib.hid (by rw [← HE2.out, HX0.out, List.append_assoc]; rfl), Lib.hid (by rw [List.length_drop]; have := HM.out; omega), Lib.hid (by rw [List.length_append, List.length_drop]; simp; have := HC.out; omega), hb17⟩ | exact ⟨_, _, _, L.drop s, O ++ [(x0, x1, x2, x3, x4)], m', rfl, Lib.hid ⟨HA.out.1.dropI s hrn, HSD.out⟩, HO7, Lib.hid (by rw [← HE2.out, HX0.out, List.append_assoc]; rfl), Lib.hid (by rw [List.length_drop]; have := HM.out; omega), Lib.hid (by rw [List.length_append, List.length_drop]; simp; have := HC.out; omega), hb17⟩
                case measure => simp [lenV]; omega
        · obtain rfl : s = r := by omega
          have hltz : ¬ (s : Int) < (n' : Int) := by omega
          go_wp2_with fail
          go_quiet (fail)
          obtain ⟨⟨x0, x1, x2, x3, x4⟩, hgx⟩ : ∃ g, grpOf ((L.getD 0 (0, 0)).1.tdiv wd * wd) (L.take s) = g := ⟨_, rfl⟩
          have HGX := Lib.hid hgx
          clear hgx
          have hcw : Below wo.heap.size wo (wi.drewN nq) := below_drewN hbi nq
          have HX0 : Hid (grpOf ((L.getD 0 (0, 0)).1.tdiv wd * wd) (L.take s) = (x0, x1, x2, x3, x4)) := HGX
          have BU := Lib.hid (fun W (hb : Below wo.heap.size wo W) => (show Calls Try.prog 35 #[.slice (some ⟨b, off, none⟩) s c', .pointer (some ⟨g8, 0, none⟩), .pointer (some ⟨g5, 0, none⟩)] W (GpPost (x0, x1, x2, x3, x4) W) from by
            have := build1 wd hw hw2 g5 g8 _ s c' (L.take s) W (HTK.out.below hb) HSK.out.2.2 HSK.out.1 HSK.out.2.1 (Nat.lt_of_lt_of_le h5 (below_next hbl hb).size) (C5.out _ (below_next hbl hb)) (Nat.lt_of_lt_of_le h8 (below_next hbl hb).size) (C8.out _ (below_next hbl hb))
            rw [HT0.out, HX0.out] at this
            exact this))
          go_wp2_with (first | (go_at_call 35; (with_reducible refine (BU.out _ hcw).mono ?_); rintro e w6 ⟨rfl, hb6⟩; dsimp only; have hb06 := below_next hcw hb6; have hbw6 := below_next hbl hb06; have HO6 := Lib.hid (show w6.ownsRow w.heap.size 57 5 _ O.length (flatR encGp O) from HO.out.below hb06)) | (at_builtin; refine wpList_append_own _ rfl _ _ 46 rfl w.heap.size 57 i0 (.agg #[.int .i64 0, .int .i64 0, .int .i64 0, .int .i64 0, .int .i64 0]) 5 40 Try.underlying46 hi0 hz0 hz1 hz2 rfl (by decide) _ _ _ rfl (HO6.out.alloc _) ⟨w6.heap.size, 0, none⟩ 1 1 [.int .i64 x0, .int .i64 x1, .int .i64 x2, .int .i64 x3, .int .i64 x4] rfl rfl ?d1 ?d2 ?d3 ?d4 ?d5 ?_))
          case d1 => exact fun j u hj => gp_at w6 x0 x1 x2 x3 x4 _ j u hj
          case d2 => exact encGp_one (x0, x1, x2, x3, x4)
          case d3 => unfold maxLen; omega
          case d4 => omega
          case d5 => have := hbw6.size; simp; omega
          intro v' w7 hown hgrow _
          have hb17 := (hbw6.alloc hbw6.size (.cells #[.int .i64 x0, .int .i64 x1, .int .i64 x2, .int .i64 x3, .int .i64 x4] 57)).grown hgrow (by have := hbw6.size; simp; omega) (fun j hj => (HO6.out.lt j hj).1)
          have HO7 := Lib.hid (OwnsR.snoc (enc := encGp) (k := 5) (t := 57) (base := w.heap.size) (x := (x0, x1, x2, x3, x4)) (l := O) rfl hown)
          clear hown hgrow
          go_wp2
          all_goals
            go_roundw
            case rel => first | exact ⟨_, _, _, L.drop s, O ++ [(x0, x1, x2, x3, x4)], m', rfl, Lib.hid ⟨HA.out.1.dropA s hrn, HSD.out⟩, HO7, Lib.hid (by rw [← HE2.out, HX0.out, List.append_assoc]; rfl), Lib.hid (by rw [List.length_drop]; have := HM.out; omega), Lib.hid (by rw [List.length_append, List.length_drop]; simp; have := HC.out; omega), hb17⟩ | exact ⟨_, _, _, L.drop s, O ++ [(x0, x1, x2, x3, x4)], m', rfl, Lib.hid ⟨HA.out.1.dropI s hrn, HSD.out⟩, HO7, Lib.hid (by rw [← HE2.out, HX0.out, List.append_assoc]; rfl), Lib.hid (by rw [List.length_drop]; have := HM.out; omega), Lib.hid (by rw [List.length_append, List.length_drop]; simp; have := HC.out; omega), hb17⟩
            case measure => simp [lenV]; omega
    · have hLe : L = [] := List.eq_nil_of_length_eq_zero (by omega)
      have h0z : ¬ (0 : Int) < (n' : Int) := by omega
      have hE := HE.out
      rw [hLe, grpsF_nil, List.append_nil] at hE
      have HE3 := Lib.hid hE
      clear hE hLe hA hsL hkL
      go_wp2_with fail
      go_ret
      exact ⟨_, rfl, by rw [← HE3.out]; exact HO.out, hbl⟩
end Go.Proofs.Ytbpekloodjimoaa
