/-
  CONTRACTS: chart.successors, replaced, Apply, First.
-/
import Derived.Test.YtihpojllalnmcaaChC
import Derived.Test.YtihpojllalnmcaaSC
import Derived.Deep.RegionHeld3
namespace Go.Proofs.Ytihpojllalnmcaa
open Go.RowKit Go.Shelf Go.ChangeShapes Go.WideShapes Go.Deep

def succC (k at_ nx : Int) (o0 o1 : Sd) : List Sd :=
  if k = 1 then [(nx, o0.2.1, at_, o0.2.2.2), (nx + 1, at_, o0.2.2.1, o0.2.2.2)]
  else if k = 2 then [(nx, o0.2.1, o1.2.2.1, o0.2.2.2)]
  else if k = 3 then [(nx, o0.2.1, o0.2.2.1, at_)]
  else [(nx, o0.2.1, o0.2.2.1, o0.2.2.2)]
theorem own_new (l : List Sd) (W : World) (cs : Array Value) (g n base : Nat) (hb : base ≤ W.heap.size) (hg : g = W.heap.size) (hn : n = l.length) (h : flatR encS l = cs.toList) (hl : l.length ≤ 1000) : OwnsR encS 4 61 (W.alloc (.cells cs 61)) base (.slice (some ⟨g, 0, none⟩) n n) l := by
  subst hg
  subst hn
  have hf := flatR_length encS_len l
  have hc : cs.size = l.length * 4 := by rw [← hf, h]; simp
  refine ⟨hf, .inr ⟨W.heap.size, l.length, cs, rfl, hb, heap_alloc_new W _, Nat.le_refl _, by unfold maxLen; omega, hc, ?_⟩⟩
  rw [h]
  exact List.take_of_length_le (by rw [← h, hf]; exact Nat.le_refl _)
set_option maxRecDepth 100000 in
set_option maxHeartbeats 4000000 in
theorem successors_any (k ix at_ nx : Int) (b off n c : Nat) (os : List Sd) (w : World) (hA : RArg encS 4 w (some ⟨b, off, none⟩) n c os) (h1 : 1 ≤ os.length) (h2 : k = 2 → 2 ≤ os.length) (hnx : 0 ≤ nx ∧ nx ≤ 70000) :
    Calls Try.prog 39 #[.agg #[.int .i64 k, .int .i64 ix, .int .i64 at_], .slice (some ⟨b, off, none⟩) n c, .int .i64 nx] w (ShPost w.heap.size (succC k at_ nx os[0]! os[1]!) w) := by
  obtain ⟨W1, hW1⟩ : ∃ W1, w.alloc (.cells #[.int .i64 k, .int .i64 ix, .int .i64 at_] 33) = W1 := ⟨_, rfl⟩
  have bw : Below w.heap.size w W1 := by rw [← hW1]; exact (Below.refl _ _).alloc (Nat.le_refl _) _
  have g1 : w.heap.size < W1.heap.size := by rw [← hW1]; simp
  have s1 : w.heap.size + 1 = W1.heap.size := by rw [← hW1]; simp
  have K := Lib.hid (fun W (h : Below W1.heap.size W1 W) => box3D (w := w) (t := 33) (x := .int .i64 k) (y := .int .i64 ix) (z := .int .i64 at_) (w' := W) (by rw [hW1]; exact h))
  obtain ⟨q0, q1, q2⟩ := K.out _ (Below.refl _ _)
  obtain ⟨_, _, e0, hb, c0, c1, c2, c3⟩ := (hA.below bw).2.2.2.2.shard 0 (by omega)
  cases e0
  rw [show off + 0 * 4 = off from by omega] at c0 c1 c2 c3
  have hn := hA.1
  have hn0 : 0 < n := by omega
  have hn0z : (0 : Int) < (n : Int) := by omega
  have HS1 := Lib.hid (fun (q : 2 ≤ os.length) => (hA.below bw).2.2.2.2.shard 1 (by omega))
  obtain ⟨⟨i0, lo, hi, nd⟩, ho⟩ : ∃ o, os[0]! = o := ⟨_, rfl⟩
  obtain ⟨o1, ho1⟩ : ∃ o, os[1]! = o := ⟨_, rfl⟩
  rw [ho] at c0 c1 c2 c3
  rw [ho1] at HS1
  rw [ho, ho1]
  dsimp only at c0 c1 c2 c3
  replace hn := Lib.hid hn
  replace ho := Lib.hid ho
  replace ho1 := Lib.hid ho1
  replace s1 := Lib.hid s1
  have hbw : b < w.heap.size := by
    have h0 := hA.2.2.2.2.spot (l := os) (fun e => by rw [e] at h1; simp at h1)
    obtain ⟨_, _, e, h, _⟩ := h0
    cases e
    exact h
  clear hA h1
  have hw : IntKind.i64.wrap (nx + 1) = nx + 1 := IntWalk.i64_in _ (by omega)
  have KK := Lib.hid (fun W (h : Below W1.heap.size W1 W) => (show W.cell? ⟨b, off + 1, none⟩ = some (.int .i64 lo) ∧ W.cell? ⟨b, off + 2, none⟩ = some (.int .i64 hi) ∧ W.cell? ⟨b, off + 3, none⟩ = some (.int .i64 nd) from ⟨(h.cell (p := ⟨b, off + 1, none⟩) hb).trans c1, (h.cell (p := ⟨b, off + 2, none⟩) hb).trans c2, (h.cell (p := ⟨b, off + 3, none⟩) hb).trans c3⟩))
  have HBD : Below W1.heap.size W1 W1 := Below.refl _ _
  go_enter Try.func39, Try.ntmps39
  go_wp2_with fail
  go_region_held3 (fun W => W.cell? ⟨b, off + 1, none⟩ = some (.int .i64 lo) ∧ W.cell? ⟨b, off + 2, none⟩ = some (.int .i64 hi) ∧ W.cell? ⟨b, off + 3, none⟩ = some (.int .i64 nd)) (exact KK.out _ (by repeat (first | exact HBD | refine Below.drew ?_ | refine Below.alloc ?_ (by first | omega | (simp; omega)) _ | refine Below.setCell ?_ (by first | exact Nat.le_refl _ | omega | (simp; omega)) _))) (fail)
  obtain ⟨W2, hW2⟩ : ∃ W2, (W1.alloc (.cells #[.int .i64 nx, .int .i64 lo, .int .i64 hi, .int .i64 nd] 61)).drew = W2 := ⟨_, rfl⟩
  rw [hW2]
  have b2 : Below W1.heap.size W1 W2 := by rw [← hW2]; exact ((Below.refl _ _).alloc (Nat.le_refl _) _).drew
  have s2 : W1.heap.size + 1 = W2.heap.size := by rw [← hW2]; simp
  obtain ⟨q0, q1, q2⟩ := K.out _ b2
  obtain ⟨z0, z1, z2, z3, f0, f1, f2, f3⟩ := box4Z (w := W1) (t := 61) (x := .int .i64 nx) (y := .int .i64 lo) (z := .int .i64 hi) (u := .int .i64 nd) (W := W2) (by rw [← hW2]; exact (Below.refl _ _).drew)
  have HBD : Below w.heap.size w W2 := below_next bw b2
  have w1 := bw.size
  have w2 := HBD.size
  have HS2 := Lib.hid (fun (q : 2 ≤ os.length) => (show W2.cell? ⟨b, off + 4 + 2, none⟩ = some (.int .i64 o1.2.2.1) by
    obtain ⟨_, _, e, hb', _, _, d2, _⟩ := HS1.out q
    cases e
    rw [show off + 1 * 4 + 2 = off + 4 + 2 by omega] at d2
    exact (b2.cell (p := ⟨b, off + 4 + 2, none⟩) hb').trans d2))
  have HN := Lib.hid (show 2 ≤ os.length → (1 : Int) < (n : Int) from fun q => by have := hn.out; omega)
  have g21 : w.heap.size < W2.heap.size := by omega
  have g22 : W1.heap.size < W2.heap.size := by omega
  have g23 : b < W2.heap.size := by omega
  replace hW2 := Lib.hid hW2
  replace s2 := Lib.hid s2
  clear HS1
  by_cases k1 : k = 1
  · subst k1
    go_wp2
    go_ret
    exact ⟨_, rfl, own_new [(nx, lo, at_, nd), (nx + 1, at_, hi, nd)] _ _ _ _ _ (by first | omega | (simp; omega)) (by simp) rfl rfl (by simp), (by repeat (first | exact HBD | refine Below.drew ?_ | refine Below.alloc ?_ (by first | omega | (simp; omega)) _ | refine Below.setCell ?_ (by first | exact Nat.le_refl _ | omega | (simp; omega)) _))⟩
  by_cases k2 : k = 2
  · have c6 := HS2.out (h2 k2)
    have hn1 := HN.out (h2 k2)
    subst k2
    go_wp2
    go_ret
    exact ⟨_, rfl, own_new [(nx, lo, o1.2.2.1, nd)] _ _ _ _ _ (by first | omega | (simp; omega)) (by simp) rfl rfl (by simp), (by repeat (first | exact HBD | refine Below.drew ?_ | refine Below.alloc ?_ (by first | omega | (simp; omega)) _ | refine Below.setCell ?_ (by first | exact Nat.le_refl _ | omega | (simp; omega)) _))⟩
  by_cases k3 : k = 3
  · subst k3
    go_wp2
    go_ret
    exact ⟨_, rfl, own_new [(nx, lo, hi, at_)] _ _ _ _ _ (by first | omega | (simp; omega)) (by simp) rfl rfl (by simp), (by repeat (first | exact HBD | refine Below.drew ?_ | refine Below.alloc ?_ (by first | omega | (simp; omega)) _ | refine Below.setCell ?_ (by first | exact Nat.le_refl _ | omega | (simp; omega)) _))⟩
  · have e1 : (k == 1) = false := by simpa using k1
    have e2 : (k == 2) = false := by simpa using k2
    have e3 : (k == 3) = false := by simpa using k3
    have HE := Lib.hid (show succC k at_ nx (i0, lo, hi, nd) o1 = [(nx, lo, hi, nd)] by unfold succC; rw [if_neg k1, if_neg k2, if_neg k3])
    clear k1 k2 k3 h2
    go_wp2
    go_ret
    exact ⟨_, rfl, by rw [HE.out]; exact own_new [(nx, lo, hi, nd)] _ _ _ _ _ (by first | omega | (simp; omega)) (by simp) rfl rfl (by simp), (by repeat (first | exact HBD | refine Below.drew ?_ | refine Below.alloc ?_ (by first | omega | (simp; omega)) _ | refine Below.setCell ?_ (by first | exact Nat.le_refl _ | omega | (simp; omega)) _))⟩

theorem flatS_len (l : List Sd) : (flatR encS l).length = l.length * 4 := flatR_length encS_len l
set_option maxRecDepth 100000 in
set_option maxHeartbeats 4000000 in
theorem replaced_any (b off n c : Nat) (l : List Sd) (f tt : Nat) (b2 off2 n2 c2 : Nat) (fs : List Sd) (w : World) (hL : RArg encS 4 w (some ⟨b, off, none⟩) n c l) (hF : RArg encS 4 w (some ⟨b2, off2, none⟩) n2 c2 fs) (h0 : 1 ≤ n) (h1 : f ≤ tt) (h2 : tt ≤ n) (h3 : n ≤ 100) (h4 : 1 ≤ n2 ∧ n2 ≤ 100) :
    Calls Try.prog 40 #[.slice (some ⟨b, off, none⟩) n c, .int .i64 (f : Int), .int .i64 (tt : Int), .slice (some ⟨b2, off2, none⟩) n2 c2] w (ShPost w.heap.size (l.take f ++ (fs ++ l.drop tt)) w) := by
  obtain ⟨i0, hi0, hz0, hz1, hz2⟩ := info_parts Try.infoShard
  obtain ⟨hn, _, hnc, hcm, hp⟩ := hL
  obtain ⟨hm, _, hmc, hmm, hq⟩ := hF
  have hlt : (l.take f).length = f := by rw [List.length_take]; omega
  have hld : (l.drop tt).length = n - tt := by rw [List.length_drop]; omega
  have hb : b < w.heap.size := by
    obtain ⟨_, _, e, h, _⟩ := hp 0 (by omega)
    cases e
    exact h
  have L1 := Lib.hid (show (flatR encS (l.take f)).length = f * 4 by rw [flatS_len, hlt])
  have L2 := Lib.hid (show (flatR encS fs).length = n2 * 4 by rw [flatS_len, hm])
  have L3 := Lib.hid (show (flatR encS (l.drop tt)).length = (n - tt) * 4 by rw [flatS_len, hld])
  have A1 := Lib.hid (show ∀ b', some (⟨b, off, none⟩ : Addr) = some b' → ∀ j u, (flatR encS (l.take f))[j]? = some u → w.cell? (b'.add j) = some u from fun b' e j u hj => by
    cases e
    rw [addr_add]
    exact (hp.take f).flatS j u hj)
  have A2 := Lib.hid (show ∀ j u, (flatR encS fs)[j]? = some u → w.cell? ((⟨b2, off2, none⟩ : Addr).add j) = some u from fun j u hj => by
    rw [addr_add]
    exact hq.flatS j u hj)
  have B1 := Lib.hid (show f < f + n2 by omega)
  have B2 := Lib.hid (show f + n2 ≤ maxLen by unfold maxLen; omega)
  have B3 := Lib.hid (show (f + n2) * 32 ≤ 140737488355328 by omega)
  have B4 := Lib.hid (show f + n2 + (n - tt) ≤ maxLen by unfold maxLen; omega)
  have B5 := Lib.hid (show (f + n2 + (n - tt)) * 32 ≤ 140737488355328 by omega)
  have HE := Lib.hid (show ∀ (W : World) v m, m = n - tt → W.ownsRow w.heap.size 61 4 v (f + n2 + m) (flatR encS (l.take f) ++ (flatR encS fs ++ flatR encS (l.drop tt))) → OwnsR encS 4 61 W w.heap.size v (l.take f ++ (fs ++ l.drop tt)) from fun W v m hm' h => by
    subst hm'
    unfold OwnsR
    rw [flatR_append, flatR_append, List.length_append, List.length_append, hlt, hld, ← hm, ← Nat.add_assoc]
    exact h)
  have hfc : f ≤ c := by omega
  have hcz : (c : Int) ≤ 9223372036854775807 := by unfold maxLen at hcm; omega
  have htn : (tt : Int) ≤ (n : Int) := by omega
  have hfz : (f : Int) ≤ (c : Int) := by omega
  by_cases hct : c = tt
  · have hnt : n = tt := by omega
    have H3 := Lib.hid (show ∀ W, Below w.heap.size w W → ∀ j u, (flatR encS (l.drop tt))[j]? = some u → W.cell? ((⟨b, off, none⟩ : Addr).add j) = some u from fun W hW j u hj => by
      rw [List.drop_eq_nil_of_le (by omega)] at hj
      simp [flatR] at hj)
    subst hct
    obtain rfl := hnt
    have L3 := Lib.hid (show (flatR encS (l.drop n)).length = 0 * 4 by rw [List.drop_eq_nil_of_le (by omega)]; rfl)
    have B4 := Lib.hid (show f + n2 + 0 ≤ maxLen by unfold maxLen; omega)
    have B5 := Lib.hid (show (f + n2 + 0) * 32 ≤ 140737488355328 by omega)
    clear hlt hld hn hm hp hq hnc hmc
    go_enter Try.func40, Try.ntmps40
    go_wp2_with (at_builtin; refine wpList_append_grows _ rfl (.tmp 13) (.tmp 14) 22 rfl 61 i0 (.agg #[.int .i64 0, .int .i64 0, .int .i64 0, .int .i64 0]) 4 32 Try.underlying22 hi0 hz0 hz1 hz2 rfl (by decide) (some ⟨b, off, none⟩) f f (flatR encS (l.take f)) rfl (fun e => (by cases e)) L1.out (fun b' e j u hj => A1.out b' e j u hj) ⟨b2, off2, none⟩ n2 c2 (flatR encS fs) rfl L2.out A2.out (encS_one fs) B1.out B2.out B3.out ?_)
    intro v1 w1 hown1 hg1
    have bb := (Below.refl w.heap.size w).grown hg1 (Nat.le_refl _) (fun k hk => (by cases hk))
    have A3 := Lib.hid (fun j u (hj : (flatR encS (l.drop n))[j]? = some u) => H3.out w1 bb j u hj)
    replace hown1 := Lib.hid hown1
    replace hg1 := Lib.hid hg1
    go_wp2_with (at_builtin; refine wpList_append_own _ rfl (.tmp 16) (.tmp 19) 22 rfl w.heap.size 61 i0 (.agg #[.int .i64 0, .int .i64 0, .int .i64 0, .int .i64 0]) 4 32 Try.underlying22 hi0 hz0 hz1 hz2 rfl (by decide) _ _ _ rfl hown1.out ⟨b, off, none⟩ 0 0 (flatR encS (l.drop n)) rfl L3.out A3.out (encS_one _) B4.out B5.out bb.size ?_)
    intro v2 w2 hown2 hg2 _
    go_wp2
    go_ret
    exact ⟨_, rfl, HE.out w2 v2 0 (by omega) hown2, bb.grown hg2 bb.size (fun k hk => (hown1.out.lt k hk).1)⟩
  · have hctl : tt < c := by omega
    have hctz : ¬ (c : Int) = (tt : Int) := by omega
    have H3 := Lib.hid (show ∀ W, Below w.heap.size w W → ∀ j u, (flatR encS (l.drop tt))[j]? = some u → W.cell? ((⟨b, off + tt * 4, none⟩ : Addr).add j) = some u from fun W hW j u hj => by
      have := (hp.below hW).sub tt (n - tt)
      rw [List.take_of_length_le (by omega)] at this
      rw [addr_add]
      exact this.flatS j u hj)
    clear hlt hld hn hm hp hq hnc hmc
    go_enter Try.func40, Try.ntmps40
    go_wp2_with (at_builtin; refine wpList_append_grows _ rfl (.tmp 13) (.tmp 14) 22 rfl 61 i0 (.agg #[.int .i64 0, .int .i64 0, .int .i64 0, .int .i64 0]) 4 32 Try.underlying22 hi0 hz0 hz1 hz2 rfl (by decide) (some ⟨b, off, none⟩) f f (flatR encS (l.take f)) rfl (fun e => (by cases e)) L1.out (fun b' e j u hj => A1.out b' e j u hj) ⟨b2, off2, none⟩ n2 c2 (flatR encS fs) rfl L2.out A2.out (encS_one fs) B1.out B2.out B3.out ?_)
    intro v1 w1 hown1 hg1
    have bb := (Below.refl w.heap.size w).grown hg1 (Nat.le_refl _) (fun k hk => (by cases hk))
    have A3 := Lib.hid (fun j u (hj : (flatR encS (l.drop tt))[j]? = some u) => H3.out w1 bb j u hj)
    replace hown1 := Lib.hid hown1
    replace hg1 := Lib.hid hg1
    go_wp2_with (at_builtin; refine wpList_append_own _ rfl (.tmp 16) (.tmp 19) 22 rfl w.heap.size 61 i0 (.agg #[.int .i64 0, .int .i64 0, .int .i64 0, .int .i64 0]) 4 32 Try.underlying22 hi0 hz0 hz1 hz2 rfl (by decide) _ _ _ rfl hown1.out ⟨b, off + tt * 4, none⟩ (n - tt) (c - tt) (flatR encS (l.drop tt)) rfl L3.out A3.out (encS_one _) B4.out B5.out bb.size ?_)
    intro v2 w2 hown2 hg2 _
    go_wp2
    go_ret
    exact ⟨_, rfl, HE.out w2 v2 (n - tt) rfl hown2, bb.grown hg2 bb.size (fun k hk => (hown1.out.lt k hk).1)⟩
end Go.Proofs.Ytihpojllalnmcaa
