/-
  CONTRACTS: a part's cuts, distance, the closures of split; balance.split.
-/
import Derived.Test.YtihpojllalnmcaaBaF
import Derived.Lib.MinMax
namespace Go.Proofs.Ytihpojllalnmcaa
open Go.RowKit Go.Shelf

/-- A part whose load is what its pairs have. -/
structure PtOk (x : Pt) : Prop where
  sum : x.v = valS x.ps
  each : ∀ p ∈ x.ps, 0 ≤ p.2 ∧ -1 < p.1 ∧ p.1 < 4096
  sub : ∀ m, m.Sublist x.ps → 0 ≤ valS m ∧ valS m ≤ 4503599627370496
  len : x.ps.length ≤ 4096
def GoodPs (w : World) (ps : List Pt) : Prop := ∀ x ∈ ps, Arg w x.a x.n x.c x.ps ∧ PtOk x
theorem GoodPs.below {W W' : World} {ps : List Pt} (h : GoodPs W ps) (hb : Below W.heap.size W W') : GoodPs W' ps := fun x hx => ⟨(h x hx).1.below hb, (h x hx).2⟩
theorem GoodPs.sub {W : World} {ps qs : List Pt} (h : GoodPs W ps) (hs : ∀ x ∈ qs, x ∈ ps) : GoodPs W qs := fun x hx => h x (hs x hx)
theorem DivOk.good {l : List Sp} {sd : List Sd} {k : Nat} {ps : List Pt} (h : DivOk l sd k ps) (hl : loadB l = true) : ∀ x ∈ ps, PtOk x := fun x hx => by
  have e := h.prs x hx
  have hm : (x.s, x.v) ∈ itsB l (sd.take k) := by rw [← h.its]; exact List.mem_map_of_mem (f := fun y : Pt => (y.s, y.v)) hx
  refine ⟨?_, fun p hp => ?_, fun m hm' => load_sub hl (hm'.trans (by rw [e]; exact List.filter_sublist)), by rw [e]; exact Nat.le_trans (List.length_filter_le _ _) (tbl_le (loadB_iff.1 hl).2)⟩
  · rw [e]; exact (itsB_mem hm).2
  · rw [e] at hp
    have hp' := (List.mem_filter.1 hp).1
    have := tblF_all l (-1) (loadB_iff.1 hl).2 p hp'
    exact ⟨(loadB_iff.1 hl).1 p hp', this.1, this.2.1⟩
theorem cutsL_snoc (load : Int) : ∀ (t : List Sp) (s : Int) (p : Sp), cutsL load s (t ++ [p]) = cutsL load s t ++ (if 0 < p.2 ∧ s + valS t + p.2 < load then [(p.1 + 1, s + valS t + p.2)] else [])
  | [], s, p => by simp [cutsL, valS]
  | q :: t, s, p => by
    have ih := cutsL_snoc load t (s + q.2) p
    rw [show s + q.2 + valS t = s + valS (q :: t) from by simp only [valS]; omega] at ih
    rw [List.cons_append]
    show (if 0 < q.2 ∧ s + q.2 < load then (q.1 + 1, s + q.2) :: cutsL load (s + q.2) (t ++ [p]) else cutsL load (s + q.2) (t ++ [p])) = (if 0 < q.2 ∧ s + q.2 < load then (q.1 + 1, s + q.2) :: cutsL load (s + q.2) t else cutsL load (s + q.2) t) ++ _
    rw [ih]
    split <;> simp
theorem cutsL_len (load : Int) : ∀ (t : List Sp) (s : Int), (cutsL load s t).length ≤ t.length
  | [], _ => by simp [cutsL]
  | q :: t, s => by
    have := cutsL_len load t (s + q.2)
    unfold cutsL
    split
    · simp only [List.length_cons]; omega
    · simp only [List.length_cons]; omega
theorem Try.infoCut : (Try.prog.info? 120).map (fun i => (i.zero, i.size, i.bytes)) = some (some (.agg #[.int .i64 0, .int .i64 0]), 2, 16) := by kernel_rfl
theorem cellD2B (w : World) (x y : Value) (t : TypeId) : ∀ j q, [x, y][j]? = some q → (w.alloc (.cells #[x, y] t)).cell? ((⟨w.heap.size, 0, none⟩ : Addr).add j) = some q := by
  intro j q hj
  rw [addr_add, Nat.zero_add]
  have e := cell_of_row (w.alloc (.cells #[x, y] t)) w.heap.size j _ _ _ (heap_alloc_new _ _)
  rw [e]
  simpa using hj
theorem OwnsP.push {t : TypeId} {w : World} {base : Nat} {v : Value} {l : List Sp} {x y : Int} (h : w.ownsRow base t 2 v (l.length + 1) (flatP l ++ [.int .i64 x, .int .i64 y])) : OwnsP t w base v (l ++ [(x, y)]) := by
  unfold OwnsP
  rw [flatP_append, List.length_append]
  exact h
set_option maxRecDepth 100000 in
set_option maxHeartbeats 4000000 in
theorem cuts_any (x : Pt) (w : World) (hA : Arg w x.a x.n x.c x.ps) (hx : PtOk x) :
    Calls Try.prog 62 #[.agg #[.int .i64 x.s.1, .int .i64 x.s.2.1, .int .i64 x.s.2.2.1, .int .i64 x.s.2.2.2, .slice x.a x.n x.c, .int .i64 x.v]] w fun e w' => ∃ v, e = .returned v ∧ OwnsP 120 w' w.heap.size v (cutsL x.v 0 x.ps) ∧ Below w.heap.size w w' := by
  obtain ⟨i0, hi0, hz0, hz1, hz2⟩ := info_parts Try.infoCut
  obtain ⟨⟨i1, i2, i3, i4⟩, a, n, c, ps, v⟩ := x
  dsimp only at hA ⊢
  have hsum : v = valS ps := hx.sum
  have HE := Lib.hid (show ∀ p ∈ ps, 0 ≤ p.2 ∧ -1 < p.1 ∧ p.1 < 4096 from hx.each)
  have HS := Lib.hid (show ∀ m, m.Sublist ps → 0 ≤ valS m ∧ valS m ≤ 4503599627370496 from hx.sub)
  have hvb := hx.sub ps (List.Sublist.refl _)
  rw [← hsum] at hvb
  have hps := tblF_len
  obtain ⟨W1, hW1⟩ : ∃ W1, w.alloc (.cells #[.int .i64 i1, .int .i64 i2, .int .i64 i3, .int .i64 i4, .slice a n c, .int .i64 v] 101) = W1 := ⟨_, rfl⟩
  have bw : Below w.heap.size w W1 := by rw [← hW1]; exact (Below.refl _ _).alloc (Nat.le_refl _) _
  have g1 : w.heap.size < W1.heap.size := by rw [← hW1]; simp
  have hr1 : W1.heap[w.heap.size]? = some (.cells #[.int .i64 i1, .int .i64 i2, .int .i64 i3, .int .i64 i4, .slice a n c, .int .i64 v] 101) := by rw [← hW1]; exact heap_alloc_new _ _
  have KX := Lib.hid (fun W (hb : Below W1.heap.size W1 W) => (cells6B ((hb.block _ g1).trans hr1)).1)
  have HA := Lib.hid (hA.below bw)
  have hn := hA.1
  have hnz : (n : Int) ≤ 9223372036854775807 := by have := hA.2.1; omega
  have hcap := hA.2.2.2.1
  have hnc := hA.2.2.1
  obtain ⟨q0, q1, q2, q3, q4, q5⟩ := KX.out _ (Below.refl _ _)
  have hmax : n ≤ 4096 := by have := hx.len; dsimp only at this; omega
  replace hn := Lib.hid hn
  clear hA hx hr1 hsum hps hcap hnc
  go_enter Try.func62, Try.ntmps62
  go_wp2_with fail
  replace hW1 := Lib.hid hW1
  go_loopw [3, 4, 10] (fun v3 be i wr => ∃ (k : Nat) (z : Int), i = .int .i64 (k : Int) ∧ be = .int .i64 z ∧ k ≤ n ∧ Hid (z = valS (ps.take k)) ∧ Hid (OwnsP 120 wr W1.heap.size v3 (cutsL v 0 (ps.take k))) ∧ Below W1.heap.size W1 wr)
    (fun _ _ i _ => n - (intOf i).toNat)
  case atStart => exact ⟨0, 0, rfl, rfl, Nat.zero_le _, Lib.hid rfl, Lib.hid (OwnsP.nil _ _ _), Below.refl _ _⟩
  case round =>
    obtain ⟨k, z, rfl, rfl, hk, HZ, HO, hbl⟩ := hrel
    obtain ⟨y0, y1, y2, y3, y4, y5⟩ := KX.out _ hbl
    by_cases hlt : k < n
    · have hkl : k < ps.length := by rw [← hn.out]; exact hlt
      have hkz : (k : Int) < (n : Int) := by omega
      obtain ⟨b, off, e, _, c0, c1⟩ := (HA.out.below hbl).2.2.2.2 k hkl
      subst e
      have hE := HE.out (ps.getD k (0, 0)) (by rw [← getE_eq hkl]; exact mem_bang hkl)
      have ht := take_more hkl
      have hb2 := HS.out (ps.take (k + 1)) (List.take_sublist _ _)
      obtain ⟨p, hp⟩ : ∃ p, ps.getD k (0, 0) = p := ⟨_, rfl⟩
      rw [hp] at c0 c1 ht hE
      rw [ht] at hb2
      obtain ⟨kx, vx⟩ := p
      dsimp only at c0 c1 hE
      rw [valS_append, ← HZ.out] at hb2
      have hv1 : valS [(kx, vx)] = vx := by simp [valS]
      rw [hv1] at hb2
      have hcut := cutsL_snoc v (ps.take k) 0 (kx, vx)
      rw [← ht, Int.zero_add, ← HZ.out] at hcut
      dsimp only at hcut
      have HZN := Lib.hid (show z + vx = valS (ps.take (k + 1)) by rw [ht, valS_append, hv1, ← HZ.out])
      have hcl := cutsL_len v (ps.take k) 0
      rw [List.length_take] at hcl
      have hw1 : IntKind.i64.wrap (z + vx) = z + vx := IntWalk.i64_in _ (by omega)
      have hw2 : IntKind.i64.wrap (kx + 1) = kx + 1 := IntWalk.i64_in _ (by omega)
      obtain ⟨O, hO⟩ : ∃ O, cutsL v 0 (ps.take k) = O := ⟨_, rfl⟩
      rw [hO] at hcut hcl HO
      obtain ⟨W5, hW5⟩ : ∃ W5, wr.alloc (.cells #[.int .i64 kx, .int .i64 vx] 68) = W5 := ⟨_, rfl⟩
      have b5 : Below wr.heap.size wr W5 := by rw [← hW5]; exact (Below.refl _ _).alloc (Nat.le_refl _) _
      have g5 : wr.heap.size < W5.heap.size := by rw [← hW5]; simp
      have p0 : W5.cell? ⟨wr.heap.size, 0, none⟩ = some (.int .i64 kx) := by rw [← hW5]; exact cell_of_row _ _ 0 _ _ _ (heap_alloc_new _ _)
      have p1 : W5.cell? ⟨wr.heap.size, 1, none⟩ = some (.int .i64 vx) := by rw [← hW5]; exact cell_of_row _ _ 1 _ _ _ (heap_alloc_new _ _)
      have hbl5 := below_next hbl b5
      obtain ⟨x0, x1, x2, x3, x4, x5⟩ := KX.out _ hbl5
      have HO5 := Lib.hid (show W5.ownsRow W1.heap.size 120 2 _ O.length (flatP O) from HO.out.below b5)
      have hOn : O.length ≤ n := by omega
      clear ht hb2 hp hO hv1 b5 hcl
      by_cases h1 : 0 < vx
      · by_cases h2 : z + vx < v
        · rw [if_pos ⟨h1, h2⟩] at hcut
          have HN := Lib.hid hcut
          clear hcut
          go_wp2_with (at_builtin; refine wpList_append_own _ rfl _ _ 113 rfl W1.heap.size 120 i0 (.agg #[.int .i64 0, .int .i64 0]) 2 16 Try.underlying113 hi0 hz0 hz1 hz2 rfl (by decide) _ _ _ rfl (HO5.out.alloc _) ⟨W5.heap.size, 0, none⟩ 1 1 [.int .i64 (kx + 1), .int .i64 (z + vx)] rfl rfl ?c1 ?c2 ?c3 ?c4 ?c5 ?_)
          case c1 => exact cellD2B _ _ _ _
          case c2 => intro x hx; simp at hx; rcases hx with rfl | rfl <;> rfl
          case c3 => unfold maxLen; omega
          case c4 => omega
          case c5 => have := hbl5.size; simp; omega
          intro v' w7 hown hgrow _
          have hb17 := (hbl5.alloc hbl5.size (.cells #[.int .i64 (kx + 1), .int .i64 (z + vx)] 120)).grown hgrow (by have := hbl5.size; simp; omega) (fun j hj => (HO5.out.lt j hj).1)
          have HO7 := Lib.hid (OwnsP.push hown)
          clear hown hgrow
          go_wp2
          go_roundw
          case rel => exact ⟨k + 1, z + vx, by go_num, rfl, by omega, HZN, Lib.hid (by rw [HN.out]; exact HO7.out), hb17⟩
          case measure => simp [intOf]; omega
        · rw [if_neg (fun q => h2 q.2), List.append_nil] at hcut
          have HN := Lib.hid hcut
          clear hcut
          go_wp2
          go_roundw
          case rel => exact ⟨k + 1, z + vx, by go_num, rfl, by omega, HZN, Lib.hid (by rw [HN.out]; exact HO5.out), hbl5⟩
          case measure => simp [intOf]; omega
      · rw [if_neg (fun q => h1 q.1), List.append_nil] at hcut
        have HN := Lib.hid hcut
        clear hcut
        go_wp2
        go_roundw
        case rel => exact ⟨k + 1, z + vx, by go_num, rfl, by omega, HZN, Lib.hid (by rw [HN.out]; exact HO5.out), hbl5⟩
        case measure => simp [intOf]; omega
    · have hkz : ¬ (k : Int) < (n : Int) := by omega
      have ho := HO.out
      rw [List.take_of_length_le (by rw [← hn.out]; omega)] at ho
      have HF := Lib.hid (ho.base_le bw.size)
      clear ho
      go_wp2
      go_ret
      exact ⟨_, rfl, HF.out, below_next bw hbl⟩
theorem gap_max (a b : Int) : gapZ a b = max (a - b) (b - a) := by unfold gapZ; split <;> omega
theorem distance_any (a b : Int) (w : World) (ha : -9007199254740992 ≤ a ∧ a ≤ 9007199254740992) (hb : -9007199254740992 ≤ b ∧ b ≤ 9007199254740992) :
    Calls Try.prog 67 #[.int .i64 a, .int .i64 b] w fun e w' => e = .returned (.int .i64 (gapZ a b)) ∧ w = w' := by
  have hw1 : IntKind.i64.wrap (a - b) = a - b := IntWalk.i64_in _ (by omega)
  have hw2 : IntKind.i64.wrap (b - a) = b - a := IntWalk.i64_in _ (by omega)
  have H := Lib.hid (gap_max a b)
  go_enter Try.func67, Try.ntmps67
  go_wp2
  go_ret
  exact ⟨ret_int H.out.symm, rfl⟩
end Go.Proofs.Ytihpojllalnmcaa
