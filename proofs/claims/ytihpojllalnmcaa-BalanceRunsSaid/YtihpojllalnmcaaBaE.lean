/-
  CONTRACTS: balance.Shards and balance.Nodes.
-/
import Derived.Test.YtihpojllalnmcaaBaD
namespace Go.Proofs.Ytihpojllalnmcaa
open Go.RowKit Go.Shelf

def shardsC (ep nx : Int) (sd : List Sd) (l : List Sp) : List Int × Int := if (chkC ep nx sd && loadB l) = true then ((itsB l sd).map fun x => x.2, 0) else ([], 1)
def mayB (ep nx : Int) (sd : List Sd) (l : List Sp) (nodes : Int) : Bool := ((chkC ep nx sd && loadB l) && (decide (1 ≤ nodes) && decide (nodes ≤ 5))) && sd.all (fun s => decide (s.2.2.2 < nodes))
def nodesC (ep nx : Int) (sd : List Sd) (l : List Sp) (nodes : Int) : List Int × Int := if mayB ep nx sd l nodes = true then (nodesB (itsB l sd) nodes.toNat, 0) else ([], 1)
/-- Numbers and an error. -/
def IntsErr (r : List Int × Int) (w : World) (e : Ending) (w' : World) : Prop := ∃ v, e = .returned (.tuple #[v, .int .i64 r.2]) ∧ OwnsI w' w.heap.size v r.1 ∧ Below w.heap.size w w'
theorem made1 (n : Nat) : (madeCells #[.int .i64 0] n).toList = (List.replicate n (0 : Int)).map (Value.int .i64) := by
  apply List.ext_getElem?
  intro j
  by_cases hj : j < n
  · simp [madeCells, hj, Nat.mod_one]
  · simp [madeCells, hj]
theorem shards_own {w : World} {g n : Nat} {xs : List Int} (h : w.ownsRow g 3 1 (.slice (some ⟨g, 0, none⟩) n n) n (xs.map (Value.int .i64))) (hl : xs.length = n) : OwnsI w g (.slice (some ⟨g, 0, none⟩) n n) xs := by
  unfold OwnsI
  rw [hl]
  exact h
theorem OwnsI.grownP {W W' : World} {base B : Nat} {v : Value} {l : List Int} (h : OwnsI W base v l) (hg : W.grownBy W' (some B)) (hB : v.ownBlock ≠ some B) : OwnsI W' base v l := by
  refine ⟨h.1, ?_⟩
  rcases h.2 with hn | ⟨g, cap, cur, rfl, hbb, hgg, rest⟩
  · exact .inl hn
  · exact .inr ⟨g, cap, cur, rfl, hbb, (hg.block g (World.ownsRow.lt h g rfl).2 (fun e => hB (by rw [← e]; rfl))).trans hgg, rest⟩
theorem set_pre {A : List Int} {n k : Nat} {x : Int} (hA : A.length = k) (hk : k < n) : (A ++ List.replicate (n - k) (0 : Int)).set k x = (A ++ [x]) ++ List.replicate (n - (k + 1)) 0 := by
  subst hA
  rw [show n - A.length = (n - (A.length + 1)) + 1 by omega, List.replicate_succ, List.set_append_right _ _ (Nat.le_refl _), Nat.sub_self, List.set_cons_zero, List.append_assoc]
  rfl
theorem RArg.grownG {α : Type} [Inhabited α] {enc : α → List Value} {k : Nat} {W W' : World} {row : Option Nat} {a : Option Addr} {n c : Nat} {l : List α} (h : RArg enc k W a n c l) (hg : W.grownBy W' row) (ho : ∀ p, a = some p → some p.block ≠ row) : RArg enc k W' a n c l :=
  ⟨h.1, h.2.1, h.2.2.1, h.2.2.2.1, fun j hj => by
    obtain ⟨b, off, e, hb, hc⟩ := h.2.2.2.2 j hj
    exact ⟨b, off, e, Nat.lt_of_lt_of_le hb hg.size, fun i v hi => World.grownBy.cell hg (a := ⟨b, off + j * k + i, none⟩) (hc i v hi) (show some b ≠ row from ho ⟨b, off, none⟩ e)⟩⟩
theorem OwnsR.fresh {α : Type} [Inhabited α] {enc : α → List Value} {k : Nat} (hk : ∀ x, (enc x).length = k) {t : TypeId} {W : World} {base : Nat} {v : Value} {l : List α} (h : OwnsR enc k t W base v l) : ∃ a c, v = .slice a l.length c ∧ RArg enc k W a l.length c l ∧ ∀ p, a = some p → base ≤ p.block ∧ p.block < W.heap.size := by
  obtain ⟨a, c, rfl, hA⟩ := h.arg hk
  exact ⟨a, c, rfl, hA, fun p hp => by subst hp; exact World.ownsRow.lt h p.block rfl⟩
theorem set_ints (l : List Int) (k : Nat) (x : Int) : (l.map (Value.int .i64)).set k (.int .i64 x) = (l.set k x).map (Value.int .i64) := List.map_set.symm
theorem ie_bad {r : List Int × Int} {w w' : World} (h : r = ([], 1)) (hb : Below w.heap.size w w') : IntsErr r w (.returned (.tuple #[.slice none 0 0, .int .i64 1])) w' := by
  subst h
  exact ⟨_, rfl, OwnsI.nil _ _, hb⟩
theorem its_loads {l : List Sp} {sd : List Sd} {ps : List Pt} (h : DivOk l sd sd.length ps) : ps.map (fun x => x.v) = (itsB l sd).map fun x => x.2 := by
  have := h.its
  rw [List.take_length] at this
  rw [← this, List.map_map]
  rfl
theorem map_take_more {α β : Type} [Inhabited α] (f : α → β) {l : List α} {k : Nat} (h : k < l.length) : (l.take (k + 1)).map f = (l.take k).map f ++ [f l[k]!] := by
  rw [take_moreG h, List.map_append]
  rfl
set_option maxRecDepth 100000 in
set_option maxHeartbeats 4000000 in
theorem shards_any (ep nx : Int) (a : Option Addr) (n c : Nat) (sd : List Sd) (a2 : Option Addr) (n2 cp2 : Nat) (l : List Sp) (w : World) (h : RArg encS 4 w a n c sd) (hL : Arg w a2 n2 cp2 l) :
    Calls Try.prog 41 #[.agg #[.int .i64 ep, .int .i64 nx, .slice a n c], .slice a2 n2 cp2] w (IntsErr (shardsC ep nx sd l) w) := by
  obtain ⟨i0, hi0, hz0, hz1, hz2⟩ := info_parts Try.infoInt
  obtain ⟨R, hR⟩ : ∃ R, shardsC ep nx sd l = R := ⟨_, rfl⟩
  rw [hR]
  obtain ⟨W1, hW1⟩ : ∃ W1, w.alloc (.cells #[.int .i64 ep, .int .i64 nx, .slice a n c] 24) = W1 := ⟨_, rfl⟩
  have bw : Below w.heap.size w W1 := by rw [← hW1]; exact (Below.refl _ _).alloc (Nat.le_refl _) _
  have g1 : w.heap.size < W1.heap.size := by rw [← hW1]; simp
  have KX := Lib.hid (fun W (h : Below W1.heap.size W1 W) => box3D (w := w) (t := 24) (x := .int .i64 ep) (y := .int .i64 nx) (z := .slice a n c) (w' := W) (by rw [hW1]; exact h))
  have HP := Lib.hid (h.below bw)
  have HL := Lib.hid (hL.below bw)
  obtain ⟨q0, q1, q2⟩ := KX.out _ (Below.refl _ _)
  obtain ⟨x1, h1⟩ : ∃ x, chkC ep nx sd = x := ⟨_, rfl⟩
  obtain ⟨x2, h2⟩ : ∃ x, loadB l = x := ⟨_, rfl⟩
  have C1 := Lib.hid (fun W hh => h1 ▸ chk_any ep nx a n c sd W hh)
  have C2 := Lib.hid (fun W hh => h2 ▸ areLoads_any a2 n2 cp2 l W hh)
  have HE := Lib.hid (show R = if (x1 && x2) = true then ((itsB l sd).map fun x => x.2, 0) else ([], 1) by rw [← hR, ← h1, ← h2]; rfl)
  clear hR
  cases x1
  · clear h1 h2 h hL
    go_enter Try.func41, Try.ntmps41
    go_wp2_with (first | (go_at_call 33; (with_reducible refine (C1.out _ HP.out).mono ?_); rintro e w' ⟨rfl, hb⟩))
    go_ret2
    exact ie_bad HE.out (below_next bw hb)
  · cases x2
    · clear h1 h2 h hL
      go_enter Try.func41, Try.ntmps41
      go_wp2_with (first | (go_at_call 33; (with_reducible refine (C1.out _ HP.out).mono ?_); rintro e w' ⟨rfl, hb⟩) | (go_at_call 59; (with_reducible refine (C2.out _ (HL.out.below hb)).mono ?_); rintro e w2 ⟨rfl, hb2⟩))
      go_ret2
      exact ie_bad HE.out (below_next bw (below_next hb hb2))
    · have HC := Lib.hid h1
      have HLD := Lib.hid h2
      have HR := Lib.hid (show R = ((itsB l sd).map fun x => x.2, 0) from HE.out)
      have hn24 := (chkC_parts h1).2.2.1
      have hn := h.1
      have h1n : 1 ≤ n := by omega
      have h24 : n ≤ 24 := by omega
      have hnl := Lib.hid hn
      clear h1 h2 h hL HE hn hn24
      go_enter Try.func41, Try.ntmps41
      go_wp2_with (first | (go_at_call 33; (with_reducible refine (C1.out _ HP.out).mono ?_); rintro e w' ⟨rfl, hb⟩) | (go_at_call 59; (with_reducible refine (C2.out _ (HL.out.below hb)).mono ?_); rintro e w2 ⟨rfl, hb2⟩; have hb02 := below_next hb hb2; obtain ⟨q0, q1, q2⟩ := KX.out _ hb02) | (at_make; refine wpList_make_full _ rfl (.tmp 19) (.tmp 19) 56 rfl w2.heap.size 3 i0 (.int .i64 0) 1 Try.underlying56 hi0 hz0 hz1 .i64 .i64 n n n rfl rfl rfl rfl (by rw [hz2]; omega) (by unfold maxLen; omega) (Nat.le_refl _) ?_))
      intro w3 hrow hg3
      have b23 : Below w2.heap.size w2 w3 := (Below.refl _ _).grown hg3 (Nat.le_refl _) (fun _ h => by cases h)
      have HR3 := Lib.hid (shards_own (xs := List.replicate n 0) (by rw [← made1]; exact hrow) (by simp))
      have G3 := hrow.lt w2.heap.size rfl
      have hb03 := below_next hb02 b23
      obtain ⟨q0, q1, q2⟩ := KX.out _ hb03
      clear hrow hg3
      go_wp2_with (go_at_call 23; (with_reducible refine (divide_any ep nx a n c sd a2 n2 cp2 l _ (HP.out.below hb03) (HL.out.below hb03) HC.out HLD.out).mono ?_); rintro e w4 ⟨v, ps, rfl, hv, _, hd, hb4⟩; obtain ⟨a5, c5, rfl, hA5, hN5⟩ := hv.fresh encPt_len; replace hA5 := Lib.hid hA5; replace hN5 := Lib.hid hN5; replace hd := Lib.hid hd; clear hv)
      have hpl : ps.length = n := by rw [hd.out.len, hnl.out]
      have hpz : (ps.length : Int) ≤ 9223372036854775807 := by omega
      have HR4 := Lib.hid (HR3.out.below hb4)
      have hb04 := below_next hb03 hb4
      have g34 : w3.heap.size ≤ w4.heap.size := hb4.size
      have hG4 : w2.heap.size < w4.heap.size := by omega
      have g12 : W1.heap.size ≤ w2.heap.size := hb02.size
      replace hW1 := Lib.hid hW1
      replace hpl := Lib.hid hpl
      go_loopw [25] (fun i wr => ∃ (k : Nat), i = .int .i64 (k : Int) ∧ k ≤ ps.length ∧ Hid (OwnsI wr w2.heap.size (.slice (some ⟨w2.heap.size, 0, none⟩) n n) ((ps.take k).map (fun x => x.v) ++ List.replicate (n - k) 0)) ∧ Hid (w4.grownBy wr (some w2.heap.size)))
        (fun i _ => ps.length - (intOf i).toNat)
      case atStart => exact ⟨0, rfl, Nat.zero_le _, HR4, Lib.hid (World.grownBy.refl _ _)⟩
      case round =>
        obtain ⟨k, rfl, hk, HO, HG⟩ := hrel
        by_cases hlt : k < ps.length
        · have hkz : (k : Int) < (ps.length : Int) := by omega
          have hkn : k < n := by rw [← hpl.out]; exact hlt
          have h24p := HG.out.size
          have hg4 : w2.heap.size < wr.heap.size := by omega
          have hA6 := hA5.out.grownG HG.out (fun p hp e => by have := (hN5.out p hp).1; injection e with e; omega)
          obtain ⟨bb, off, e, hb9, hcs⟩ := hA6.2.2.2.2 k hlt
          have hmore := map_take_more (fun x : Pt => x.v) hlt
          obtain ⟨y, hy⟩ : ∃ y, ps[k]! = y := ⟨_, rfl⟩
          rw [hy] at hcs hmore
          clear hy
          obtain ⟨⟨i1, i2, i3, i4⟩, a9, n9, c9, ps9, v9⟩ := y
          subst e
          have c0 := hcs 0 (.int .i64 i1) rfl
          rw [show off + k * 6 + 0 = off + k * 6 by omega] at c0
          have c1 := hcs 1 (.int .i64 i2) rfl
          have c2 := hcs 2 (.int .i64 i3) rfl
          have c3 := hcs 3 (.int .i64 i4) rfl
          have c4 := hcs 4 (.slice a9 n9 c9) rfl
          have c5 := hcs 5 (.int .i64 v9) rfl
          obtain ⟨W5, hW5⟩ : ∃ W5, wr.alloc (.cells #[.int .i64 i1, .int .i64 i2, .int .i64 i3, .int .i64 i4, .slice a9 n9 c9, .int .i64 v9] 101) = W5 := ⟨_, rfl⟩
          have b5 : Below wr.heap.size wr W5 := by rw [← hW5]; exact (Below.refl _ _).alloc (Nat.le_refl _) _
          have p5 : W5.cell? ⟨wr.heap.size, 5, none⟩ = some (.int .i64 v9) := by rw [← hW5]; exact cell_of_row _ _ 5 _ _ _ (heap_alloc_new _ _)
          have hro := HO.out.below b5
          have hpre : ((ps.take k).map (fun x => x.v)).length = k := by rw [List.length_map, List.length_take]; omega
          have hset := set_pre (x := v9) hpre hkn
          rw [← hmore] at hset
          have hlen : ((ps.take k).map (fun x => x.v) ++ List.replicate (n - k) (0 : Int)).length = n := by rw [List.length_append, hpre, List.length_replicate]; omega
          have hlen2 : ((ps.take (k + 1)).map (fun x => x.v) ++ List.replicate (n - (k + 1)) (0 : Int)).length = n := by rw [← hset, List.length_set]; exact hlen
          have HRO := Lib.hid (show W5.ownsRow w2.heap.size 3 1 (.slice (some ⟨w2.heap.size, 0, none⟩) n n) n (((ps.take k).map (fun x => x.v) ++ List.replicate (n - k) (0 : Int)).map (Value.int .i64)) by have := hro; unfold OwnsI at this; rwa [hlen] at this)
          have e0 := World.ownsRow.frozenAt HRO.out k
          obtain ⟨v0, r0⟩ : ∃ v, W5.cell? ⟨w2.heap.size, k, none⟩ = some v := ⟨_, (World.ownsRow.cellAt HRO.out k (by omega)).trans (List.getElem?_eq_getElem (by rw [List.length_map, hlen]; exact hkn))⟩
          have HSET := Lib.hid (show OwnsI (W5.setCell ⟨w2.heap.size, k, none⟩ (.int .i64 v9)) w2.heap.size (.slice (some ⟨w2.heap.size, 0, none⟩) n n) ((ps.take (k + 1)).map (fun x => x.v) ++ List.replicate (n - (k + 1)) 0) by
            refine shards_own ?_ hlen2
            rw [← hset, ← set_ints]
            exact (World.ownsRow.stored HRO.out k _).1)
          have HG5 := Lib.hid (show w4.grownBy W5 (some w2.heap.size) by rw [← hW5]; exact grown_trans HG.out (World.grownBy_alloc _ _ _))
          clear hcs hmore hset hlen hlen2 hpre hro hA6 b5
          go_wp2_with fail
          go_roundw
          case rel => exact ⟨k + 1, by go_num, by omega, HSET, Lib.hid (grown_trans HG5.out (grown_setCell _ ⟨w2.heap.size, k, none⟩ _))⟩
          case measure => simp [intOf]; omega
        · have hkz : ¬ (k : Int) < (ps.length : Int) := by omega
          have HF := Lib.hid (show OwnsI wr w2.heap.size (.slice (some ⟨w2.heap.size, 0, none⟩) n n) R.1 by
            have := HO.out
            rw [List.take_of_length_le (by omega), show n - k = 0 by have := hpl.out; omega] at this
            rw [HR.out]
            dsimp only
            rw [← its_loads hd.out]
            simpa using this)
          have HR2 := Lib.hid (show R.2 = 0 by rw [HR.out])
          have hblf : Below W1.heap.size W1 wr := hb04.grown HG.out (by have := hb04.size; omega) (fun q hq => by injection hq with hq; omega)
          go_wp2_with fail
          go_ret2
          unfold IntsErr
          rw [HR2.out]
          exact ⟨_, rfl, ⟨HF.out.1, HF.out.2.imp id (fun ⟨g, cap, cur, e1, e2, e3⟩ => ⟨g, cap, cur, e1, Nat.le_trans (by omega) e2, e3⟩)⟩, below_next bw hblf⟩
theorem nodes1 (z : Int) (g : Nat) (w : World) (hg : g < w.heap.size) (hc : w.cell? ⟨g, 0, none⟩ = some (.int .i64 z)) : PredBelow Try.prog 43 #[.pointer (some ⟨g, 0, none⟩)] (fun x => .agg (encS x).toArray) (fun x => decide (z ≤ x.2.2.2)) w := fun W x hb => by
  obtain ⟨i, lo, hi, nd⟩ := x
  show Calls Try.prog 43 #[.agg #[.int .i64 i, .int .i64 lo, .int .i64 hi, .int .i64 nd], .pointer (some ⟨g, 0, none⟩)] W fun e w' => e = .returned (.bool (decide (z ≤ nd))) ∧ Below w.heap.size w w'
  have hgW : g < W.heap.size := Nat.lt_of_lt_of_le hg hb.size
  have hcW : W.cell? ⟨g, 0, none⟩ = some (.int .i64 z) := (hb.cell (p := ⟨g, 0, none⟩) hg).trans hc
  have b1 : Below w.heap.size w (W.alloc (.cells #[.int .i64 i, .int .i64 lo, .int .i64 hi, .int .i64 nd] 61)) := hb.alloc hb.size _
  obtain ⟨r, hr⟩ : ∃ r, decide (z ≤ nd) = r := ⟨_, rfl⟩
  rw [hr]
  cases r
  all_goals
    go_enter Try.func43, Try.ntmps43
    go_wp2
    go_ret
    exact ⟨rfl, b1⟩
theorem nodes_set {X : List It} {n k : Nat} (hk : k < n) {x : It} (hx : x.1.2.2.2 = (k : Int)) : (nodesB X n).set k ((nodesB X n)[k]! + x.2) = nodesB (X ++ [x]) n := by
  apply List.ext_getElem
  · rw [List.length_set, nodesB_len, nodesB_len]
  · intro j h1 h2
    have hj : j < n := by rw [nodesB_len] at h2; exact h2
    have e : (nodesB (X ++ [x]) n)[j]'h2 = nodeS (j : Int) X + (if x.1.2.2.2 = (j : Int) then x.2 else 0) := by
      rw [← getElem!_pos, nodesB_get hj, nodeS_append]
      simp [nodeS]
    rw [e, List.getElem_set]
    by_cases hjk : k = j
    · subst hjk
      rw [if_pos rfl, nodesB_get hk, if_pos hx]
    · rw [if_neg hjk, if_neg (by rw [hx]; omega), Int.add_zero, ← getElem!_pos (nodesB X n) j (by rw [nodesB_len]; exact hj), nodesB_get hj]
theorem nodes_zero (n : Nat) : nodesB [] n = List.replicate n 0 := by
  apply List.ext_getElem
  · rw [nodesB_len, List.length_replicate]
  · intro j h1 h2
    rw [← getElem!_pos, nodesB_get (by rw [nodesB_len] at h1; exact h1), List.getElem_replicate]
    rfl
theorem nodeS_bd {M : Int} (k : Int) : ∀ (X : List It), (∀ x ∈ X, 0 ≤ x.2 ∧ x.2 ≤ M) → 0 ≤ M → 0 ≤ nodeS k X ∧ nodeS k X ≤ X.length * M
  | [], _, hM => by simp [nodeS]
  | x :: t, h, hM => by
    have h1 := h x (by simp)
    have h2 := nodeS_bd k t (fun y hy => h y (by simp [hy])) hM
    have e : ((x :: t).length : Int) * M = t.length * M + M := by rw [List.length_cons]; push_cast; rw [Int.add_mul, Int.one_mul]
    simp only [nodeS]
    rw [e]
    split <;> omega
end Go.Proofs.Ytihpojllalnmcaa
