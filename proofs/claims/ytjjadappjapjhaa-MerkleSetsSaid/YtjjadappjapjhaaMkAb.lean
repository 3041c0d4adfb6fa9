/-
  CONTRACTS of the document: Refs, Same of spans, Diff.
-/
import Derived.Test.YtjjadappjapjhaaMkAa
import Derived.Laws.StructEq
import Derived.WalkSmall
namespace Go.Proofs.Ytjjadappjapjhaa
open Go.RowKit Go.Deep

theorem eqRSpanIn (x y p q : Int) (w : World) : (Op.equalIn 10000 77 (.agg #[.int .i64 x, .int .i64 y]) (.agg #[.int .i64 p, .int .i64 q])).run Try.prog w = .ok (x == p && y == q) w := by
  have u3 := Try.underlying3
  have a3 := Try.isAgg3
  have z3 := Try.sizeOf3
  have hS : Try.prog.underlying 77 = some (.struct (Try.prog.fieldsOf 77)) := by kernel_rfl
  have hp : Try.prog.stoodInHeld 77 = false := by kernel_rfl
  rw [show (10000 : Nat) = 9999 + 1 from rfl, run_equalIn_agg w 9999 77 _ _ hS hp]
  simp only [Program.fieldsOf, Try.underlying77]
  go_simp
  by_cases h1 : x = p <;> by_cases h2 : y = q <;> simp [h1, h2]
theorem eqRSpan (x y p q : Int) (w : World) : (binOp .eql 77 (.agg #[.int .i64 x, .int .i64 y]) (.agg #[.int .i64 p, .int .i64 q])).run Try.prog w = .ok (.bool (x == p && y == q)) w := by
  rw [run_eql_struct, eqRSpanIn]; rfl

theorem neqRSpan (x y : Int) (w : World) : (binOp .neq 77 (.agg #[.int .i64 x, .int .i64 y]) (.agg #[.int .i64 x, .int .i64 y])).run Try.prog w = .ok (.bool false) w := by
  rw [run_neq_struct, eqRSpanIn, beq_self_eq_true, beq_self_eq_true]; rfl
theorem Try.infoRSpan20 : (Try.prog.info? 77).map (fun i => (i.zero, i.size, i.bytes)) = some (some (.agg #[.int .i64 0, .int .i64 0]), 2, 16) := by kernel_rfl
theorem RArg.sks {w : World} {a : Option Addr} {n c : Nat} {l : List Sk} (h : RArg encS 2 w a n c l) {k : Nat} (hk : k < l.length) :
    ∃ b off, a = some ⟨b, off, none⟩ ∧ b < w.heap.size ∧ w.cell? ⟨b, off + k * 2, none⟩ = some (.int .i64 (l[k]!.1 : Nat)) ∧ w.cell? ⟨b, off + k * 2 + 1, none⟩ = some (.int .i64 (l[k]!.2 : Nat)) := by
  obtain ⟨b, off, e, hb, hc⟩ := h.2.2.2.2 k hk
  exact ⟨b, off, e, hb, hc 0 _ rfl, hc 1 _ rfl⟩
def RowSk (l : List Sk) (w : World) (e : Ending) (w' : World) : Prop := ∃ a n c, e = .returned (.slice a n c) ∧ RArg encS 2 w' a n c l ∧ Below w.heap.size w w'
set_option maxRecDepth 100000 in
set_option maxHeartbeats 2000000 in
theorem refs3_any (a : Option Addr) (n c : Nat) (l : List Sk) (w : World) (hz : l.length ≤ 100000) (h : RArg encS 2 w a n c l) :
    Calls Try.prog 30 #[.slice a n c] w (RowSk l w) := by
  obtain ⟨i0, hi, hz0, hz1, hz2⟩ := info_parts Try.infoRSpan20
  have hA := h
  obtain ⟨rfl, _, hc1, hc2, _⟩ := h
  replace hA := Lib.hid hA
  go_enter Try.func30, Try.ntmps30
  go_wp2_with fail
  go_loopw [3, 4] (fun v i wr => ∃ (k : Nat) (q : List Sk), i = .int .i64 (k : Int) ∧ k ≤ l.length ∧ q.length = k ∧ Hid (q = l.take k) ∧ Hid (OwnsR encS 2 77 wr w.heap.size v q) ∧ Below w.heap.size w wr)
    (fun _ i _ => l.length - (intOf i).toNat)
  case atStart => exact ⟨0, [], rfl, Nat.zero_le _, rfl, Lib.hid rfl, Lib.hid (OwnsR.nil _ _ _ _ _), Below.refl _ _⟩
  case round =>
    obtain ⟨k, q, rfl, hk, hqk, hq, HO, hbl⟩ := hrel
    have hsz := hbl.size
    by_cases hlt : k < l.length
    · have hkz : (k : Int) < (l.length : Int) := by omega
      obtain ⟨b, off, e, hb, d0, d1⟩ := (hA.out.below hbl).sks hlt
      subst e
      have hq2 := Lib.hid (show q ++ [l[k]!] = l.take (k + 1) by rw [take_moreG hlt, hq.out])
      generalize l[k]! = s at d0 d1 hq2
      obtain ⟨x, y⟩ := s
      dsimp only at d0 d1
      go_wp2_with (first | (at_builtin; refine wpList_append_own _ rfl _ _ 68 rfl w.heap.size 77 i0 (.agg #[.int .i64 0, .int .i64 0]) 2 16 Try.underlying68 hi hz0 hz1 hz2 rfl (by decide) _ _ _ rfl (World.ownsRow.alloc HO.out _) ⟨wr.heap.size, 0, none⟩ 1 1 [.int .i64 (x : Int), .int .i64 (y : Int)] rfl rfl ?c1 ?c2 ?c3 ?c4 ?c5 ?_) | fail)
      case c1 => exact cells_two _ _ _ _
      case c2 => intro u hu; simp at hu; rcases hu with rfl | rfl <;> rfl
      case c3 => unfold maxLen; omega
      case c4 => omega
      case c5 => simp; omega
      · intro v' w1 hown' hgrow _
        have hb1 := (hbl.alloc hsz (.cells #[.int .i64 (x : Int), .int .i64 (y : Int)] 77)).grown hgrow (by simp; omega) (fun j hj => (World.ownsRow.lt HO.out j hj).1)
        have HO2 := Lib.hid (OwnsR.snoc (enc := encS) (l := q) (x := (x, y)) hqk hown')
        clear hown' hgrow HO
        go_wp2_with fail
        go_roundw
        case rel => exact ⟨k + 1, q ++ [(x, y)], by go_num, by omega, by simp [hqk], hq2, HO2, hb1⟩
        case measure => simp [intOf]; omega
    · have hkn : k = l.length := by omega
      subst hkn
      have hqe : q = l := by rw [hq.out, List.take_length]
      subst hqe
      obtain ⟨a6, c6, rfl, hR⟩ := OwnsR.arg encS_len HO.out
      have hkz : ¬ (q.length : Int) < (q.length : Int) := by omega
      replace hR := Lib.hid hR
      clear HO
      go_wp2_with fail
      go_ret
      exact ⟨_, _, _, rfl, hR.out, hbl⟩
/-- Both the same. -/
theorem same3_any (a b : Option Addr) (n m c d : Nat) (l : List Sk) (w : World) (hA : RArg encS 2 w a n c l) (hB : RArg encS 2 w b m d l) :
    Calls Try.prog 29 #[.slice a n c, .slice b m d] w (Gives w (.bool true)) := by
  have HA := Lib.hid hA
  have HB := Lib.hid hB
  obtain ⟨rfl, hz, _, _, _⟩ := hA
  obtain ⟨rfl, _, _, _, _⟩ := hB
  have hnn : ((l.length : Int) != (l.length : Int)) = false := by simp
  go_enter Try.func29, Try.ntmps29
  go_wp2_with fail
  go_loopw [5] (fun i wr => ∃ k : Nat, i = .int .i64 (k : Int) ∧ k ≤ l.length ∧ Hid (Below w.heap.size w wr))
    (fun i _ => l.length - (intOf i).toNat)
  case atStart => exact ⟨0, rfl, by omega, Lib.hid (Below.refl _ _)⟩
  case round =>
    obtain ⟨k, rfl, hk, HC⟩ := hrel
    by_cases hlt : k < l.length
    · have hkz : (k : Int) < (l.length : Int) := by omega
      have hk0 : 0 ≤ (k : Int) := by omega
      obtain ⟨b1, o1, e1, _, d0, d1⟩ := (HA.out.below HC.out).sks hlt
      obtain ⟨b2, o2, e2, _, d2, d3⟩ := (HB.out.below HC.out).sks hlt
      subst e1 e2
      generalize l[k]! = s at d0 d1 d2 d3
      obtain ⟨x, y⟩ := s
      dsimp only at d0 d1 d2 d3
      have NE := fun w => neqRSpan (x : Int) (y : Int) w
      go_wp2_with fail
      go_quiet (fail)
      have HBn := Lib.hid (show Below w.heap.size w (wr.drewN nq) from ⟨HC.out.os, HC.out.tape, HC.out.output, HC.out.size, HC.out.block⟩)
      clear d0 d1 d2 d3
      generalize wr.drewN nq = wn at HBn ⊢
      go_wp2_with fail
      go_roundw
      case rel => exact ⟨k + 1, by go_num, by omega, HBn⟩
      case measure => simp [intOf]; omega
    · have hkn : k = l.length := by omega
      subst hkn
      have hkz : ¬ (l.length : Int) < (l.length : Int) := by omega
      go_wp2_with fail
      go_ret
      exact ⟨rfl, HC.out⟩

def lenV : Value → Nat
  | .slice _ n _ => n
  | _ => 0
theorem OwnsR.drewN {α : Type} {enc : α → List Value} {k : Nat} {t : TypeId} {w : World} {b : Nat} {v : Value} {l : List α} (h : OwnsR enc k t w b v l) (q : Nat) : OwnsR enc k t (w.drewN q) b v l := h
theorem popS {w : World} {base g cap m : Nat} {t : TypeId} (p : List Sk) (x y : Sk) (hm : p.length = m)
    (h : w.ownsRow base t 2 (.slice (some ⟨g, 0, none⟩) (m + 2) cap) (m + 2) (flatR encS (p ++ [x] ++ [y]))) :
    OwnsR encS 2 t (w.setCell ⟨g, m * 2 + 1, none⟩ (.int .i64 (y.2 : Int))) base (.slice (some ⟨g, 0, none⟩) (m + 1) cap) (p ++ [(x.1, y.2)]) := by
  have h1 := (World.ownsRow.stored h (m * 2 + 1) (.int .i64 (y.2 : Int))).1
  rw [flatR_append, List.set_append, if_pos (by rw [flatR_length (k := 2) encS_len, List.length_append, List.length_singleton]; omega), ← hm, flat_set] at h1
  unfold OwnsR
  rw [List.length_append, List.length_singleton, ← hm]
  exact ownsRow_pop (n := p.length + 1) (by rw [flatR_length (k := 2) encS_len, List.length_append, List.length_singleton]) h1
theorem difK_snoc (C1 C2 : Nat → Option Int) (k : Nat) : (List.range (k + 1)).filter (difK C1 C2) = if difK C1 C2 k = true then (List.range k).filter (difK C1 C2) ++ [k] else (List.range k).filter (difK C1 C2) := by
  rw [List.range_succ, List.filter_append]
  by_cases h : difK C1 C2 k = true
  · rw [if_pos h]; simp [h]
  · rw [if_neg h]; simp [h]
set_option maxRecDepth 100000 in
set_option maxHeartbeats 8000000 in
theorem rdiff_any (g1 g2 : Nat) (C1 C2 : Nat → Option Int) (w : World) (h1 : AllA w g1 C1) (h2 : AllA w g2 C2) :
    Calls Try.prog 31 #[.slice (some ⟨g1, 0, none⟩) 4 4, .slice (some ⟨g2, 0, none⟩) 4 4] w (RowSk (spansL (difL C1 C2 3)) w) := by
  obtain ⟨i0, hi, hz0, hz1, hz2⟩ := info_parts Try.infoRSpan20
  have H1 := Lib.hid h1
  have H2 := Lib.hid h2
  have HD := Lib.hid (difL_all C1 C2)
  clear h1 h2
  go_enter Try.func31, Try.ntmps31
  go_wp2_with fail
  go_loopw [5, 6] (fun v i wr => ∃ k : Nat, i = .int .i64 (k : Int) ∧ k ≤ 4096 ∧ Hid (OwnsR encS 2 77 wr w.heap.size v (spansU ((List.range k).filter (difK C1 C2)))) ∧ Hid (Below w.heap.size w wr))
    (fun _ i _ => 4096 - (intOf i).toNat)
  case atStart => exact ⟨0, rfl, by omega, Lib.hid (OwnsR.nil _ _ _ _ _), Lib.hid (Below.refl _ _)⟩
  case round =>
    obtain ⟨k, rfl, hk, HO, HB⟩ := hrel
    by_cases hlt : k < 4096
    · have hsn := difK_snoc C1 C2 k
      have hdk : difK C1 C2 k = (difB C1 C2 3 0 && difB C1 C2 2 (k / 256) && difB C1 C2 1 (k / 16) && difB C1 C2 0 k) := by
        unfold difK
        rw [show k / 16 / 16 / 16 = 0 by omega, show k / 16 / 16 = k / 256 by omega]
      obtain ⟨p3, q3, c3, s3, _, l3⟩ := (H1.out.below HB.out).at (m := 3) (k := 0) (by decide) (by decide)
      obtain ⟨P3, Q3, d3, t3, _, m3⟩ := (H2.out.below HB.out).at (m := 3) (k := 0) (by decide) (by decide)
      obtain ⟨p2, q2, c2, s2, _, l2⟩ := (H1.out.below HB.out).at (m := 2) (k := k / 256) (by decide) (by show k / 256 < 16; omega)
      obtain ⟨P2, Q2, d2, t2, _, m2⟩ := (H2.out.below HB.out).at (m := 2) (k := k / 256) (by decide) (by show k / 256 < 16; omega)
      obtain ⟨p1, q1, c1, s1, _, l1⟩ := (H1.out.below HB.out).at (m := 1) (k := k / 16) (by decide) (by show k / 16 < 256; omega)
      obtain ⟨P1, Q1, d1, t1, _, m1⟩ := (H2.out.below HB.out).at (m := 1) (k := k / 16) (by decide) (by show k / 16 < 256; omega)
      obtain ⟨p0, q0, c0, s0, _, l0⟩ := (H1.out.below HB.out).at (m := 0) (k := k) (by decide) hlt
      obtain ⟨P0, Q0, d0, t0, _, m0⟩ := (H2.out.below HB.out).at (m := 0) (k := k) (by decide) hlt
      have e3 := regI_eq (lvN C1 3 0) (lvN C2 3 0)
      have e2 := regI_eq (lvN C1 2 (k / 256)) (lvN C2 2 (k / 256))
      have e1 := regI_eq (lvN C1 1 (k / 16)) (lvN C2 1 (k / 16))
      have e0 := regI_eq (lvN C1 0 k) (lvN C2 0 k)
      have f3 : difB C1 C2 3 0 = !(lvN C1 3 0 == lvN C2 3 0) := rfl
      have f2 : difB C1 C2 2 (k / 256) = !(lvN C1 2 (k / 256) == lvN C2 2 (k / 256)) := rfl
      have f1 : difB C1 C2 1 (k / 16) = !(lvN C1 1 (k / 16) == lvN C2 1 (k / 16)) := rfl
      have f0 : difB C1 C2 0 k = !(lvN C1 0 k == lvN C2 0 k) := rfl
      rw [f3, f2, f1, f0] at hdk
      generalize (lvN C1 3 0 == lvN C2 3 0) = b3 at e3 hdk
      generalize (lvN C1 2 (k / 256) == lvN C2 2 (k / 256)) = b2 at e2 hdk
      generalize (lvN C1 1 (k / 16) == lvN C2 1 (k / 16)) = b1 at e1 hdk
      generalize (lvN C1 0 k == lvN C2 0 k) = b0 at e0 hdk
      generalize regI (lvN C1 3 0) = x3 at e3 l3
      generalize regI (lvN C2 3 0) = y3 at e3 m3
      generalize regI (lvN C1 2 (k / 256)) = x2 at e2 l2
      generalize regI (lvN C2 2 (k / 256)) = y2 at e2 m2
      generalize regI (lvN C1 1 (k / 16)) = x1 at e1 l1
      generalize regI (lvN C2 1 (k / 16)) = y1 at e1 m1
      generalize regI (lvN C1 0 k) = x0 at e0 l0
      generalize regI (lvN C2 0 k) = y0 at e0 m0
      rw [Nat.add_zero] at l3 m3
      replace s3 : wr.cell? ⟨g1, 3, none⟩ = some (.slice (some ⟨p3, q3, none⟩) 1 c3) := s3
      replace t3 : wr.cell? ⟨g2, 3, none⟩ = some (.slice (some ⟨P3, Q3, none⟩) 1 d3) := t3
      replace s2 : wr.cell? ⟨g1, 2, none⟩ = some (.slice (some ⟨p2, q2, none⟩) 16 c2) := s2
      replace t2 : wr.cell? ⟨g2, 2, none⟩ = some (.slice (some ⟨P2, Q2, none⟩) 16 d2) := t2
      replace s1 : wr.cell? ⟨g1, 1, none⟩ = some (.slice (some ⟨p1, q1, none⟩) 256 c1) := s1
      replace t1 : wr.cell? ⟨g2, 1, none⟩ = some (.slice (some ⟨P1, Q1, none⟩) 256 d1) := t1
      replace s0 : wr.cell? ⟨g1, 0, none⟩ = some (.slice (some ⟨p0, q0, none⟩) 4096 c0) := s0
      replace t0 : wr.cell? ⟨g2, 0, none⟩ = some (.slice (some ⟨P0, Q0, none⟩) 4096 d0) := t0
      have hk0 : 0 ≤ (k : Int) := by omega
      have hki : (k : Int) < 4096 := by omega
      have hd256 : (k : Int).tdiv 256 = ((k / 256 : Nat) : Int) := by rw [Int.tdiv_eq_ediv_of_nonneg hk0]; omega
      have hd16 : (k : Int).tdiv 16 = ((k / 16 : Nat) : Int) := by rw [Int.tdiv_eq_ediv_of_nonneg hk0]; omega
      have h256 : (k : Int) / 256 = ((k / 256 : Nat) : Int) := by omega
      have h16 : (k : Int) / 16 = ((k / 16 : Nat) : Int) := by omega
      obtain ⟨K2, hK2⟩ : ∃ K2, k / 256 = K2 := ⟨_, rfl⟩
      obtain ⟨K1, hK1⟩ : ∃ K1, k / 16 = K1 := ⟨_, rfl⟩
      rw [hK2] at l2 m2 hd256 h256
      rw [hK1] at l1 m1 hd16 h16
      have hK2i : (K2 : Int) < 16 := by omega
      have hK1i : (K1 : Int) < 256 := by omega
      have hK20 : 0 ≤ (K2 : Int) := by omega
      have hK10 : 0 ≤ (K1 : Int) := by omega
      have HSN := Lib.hid hsn
      have HDK := Lib.hid hdk
      clear hsn hdk f3 f2 f1 f0 hK2 hK1
      go_wp2_with fail
      rcases b3 with _ | _
      · rcases b2 with _ | _
        · rcases b1 with _ | _
          · rcases b0 with _ | _
            · go_quiet (fail)
              have HBn := Lib.hid (below_drewN HB.out nq)
              have HOn := Lib.hid (HO.out.drewN nq)
              have hsp : spansU ((List.range (k + 1)).filter (difK C1 C2)) = spanU (spansU ((List.range k).filter (difK C1 C2))) k := by rw [HSN.out, if_pos (by rw [HDK.out]; rfl), spansU_snoc]
              have hlen := Nat.le_trans (spansU_len ((List.range k).filter (difK C1 C2))) (Nat.le_trans (List.length_filter_le _ _) (by rw [List.length_range]; exact Nat.le_refl k))
              clear HSN HDK HO HB s3 t3 s2 t2 s1 t1 s0 t0 l3 m3 l2 m2 l1 m1 l0 m0 e3 e2 e1 e0
              generalize wr.drewN nq = wn at HBn HOn ⊢
              generalize spansU ((List.range k).filter (difK C1 C2)) = S at HOn hsp hlen
              have hsz := HBn.out.size
              rcases nil_or_snoc S with rfl | ⟨p, x, rfl⟩
              · rw [spanU_nil] at hsp
                have HSP := Lib.hid hsp
                clear hsp
                obtain ⟨a1, c1, rfl, _⟩ := OwnsR.arg encS_len HOn.out
                have HO2 := Lib.hid (show wn.ownsRow w.heap.size 77 2 (.slice a1 0 c1) 0 [] from HOn.out)
                go_wp2_with (first | (at_builtin; refine wpList_append_own _ rfl _ _ 68 rfl w.heap.size 77 i0 (.agg #[.int .i64 0, .int .i64 0]) 2 16 Try.underlying68 hi hz0 hz1 hz2 rfl (by decide) _ _ _ rfl (World.ownsRow.alloc HO2.out _) ⟨wn.heap.size, 0, none⟩ 1 1 [.int .i64 (k : Int), .int .i64 ((k : Int) + 1)] rfl rfl ?c1 ?c2 ?c3 ?c4 ?c5 ?_) | fail)
                case c1 => exact cells_two _ _ _ _
                case c2 => intro u hu; simp at hu; rcases hu with rfl | rfl <;> rfl
                case c3 => unfold maxLen; omega
                case c4 => omega
                case c5 => simp; omega
                intro v1 w1 hown1 hg1 _
                have ho := Lib.hid (OwnsR.snoc (enc := encS) (l := []) (x := (k, k + 1)) rfl (by simpa [encS, flatR] using hown1))
                have hb1 := Lib.hid (show Below w.heap.size w w1 from (HBn.out.alloc hsz _).grown hg1 (by simp; omega) (fun g hg => (World.ownsRow.lt HO2.out g hg).1))
                clear hown1 hg1 hsz
                go_wp2_with fail
                go_roundw
                case rel => exact ⟨k + 1, by go_num, by omega, Lib.hid (by rw [HSP.out]; exact ho.out), hb1⟩
                case measure => simp [intOf]; omega
              · obtain ⟨m, hm⟩ : ∃ m, p.length = m := ⟨_, rfl⟩
                rcases HOn.out.2 with ⟨_, hn0⟩ | ⟨g, cap, cur, hv, _⟩
                · simp at hn0
                rw [List.length_append, List.length_singleton, hm] at hv hlen
                subst hv
                have ho2 : wn.ownsRow w.heap.size 77 2 (.slice (some ⟨g, 0, none⟩) (m + 1) cap) (m + 1) (flatR encS (p ++ [x])) := by
                  have := HOn.out
                  unfold OwnsR at this
                  rwa [List.length_append, List.length_singleton, hm] at this
                have hc1 : wn.cell? ⟨g, m * 2 + 1, none⟩ = some (.int .i64 (x.2 : Int)) := by
                  rw [World.ownsRow.cellAt ho2 (m * 2 + 1) (by omega), ← hm]
                  exact flat_last p x
                have hf1 := World.ownsRow.frozenAt ho2 (m * 2 + 1)
                rw [spanU_snoc] at hsp
                have HO2 := Lib.hid ho2
                have HM := Lib.hid hm
                clear ho2 hm HOn
                by_cases hx : x.2 = k
                · rw [if_pos hx] at hsp
                  have HSP := Lib.hid hsp
                  clear hsp
                  have d2 : ((x.2 : Int) == (k : Int)) = true := by simp; omega
                  go_wp2_with fail
                  have ho := (World.ownsRow.stored HO2.out (m * 2 + 1) (.int .i64 ((k + 1 : Nat) : Int)))
                  rw [← HM.out, flat_set, HM.out] at ho
                  have ho1 := Lib.hid (show OwnsR encS 2 77 (wn.setCell ⟨g, m * 2 + 1, none⟩ (.int .i64 ((k + 1 : Nat) : Int))) w.heap.size (.slice (some ⟨g, 0, none⟩) (m + 1) cap) (p ++ [(x.1, k + 1)]) from (by
                    unfold OwnsR
                    rw [List.length_append, List.length_singleton, HM.out]
                    exact ho.1))
                  have hb1 := Lib.hid (show Below w.heap.size w (wn.setCell ⟨g, m * 2 + 1, none⟩ (.int .i64 ((k + 1 : Nat) : Int))) from HBn.out.setCell (World.ownsRow.lt HO2.out g rfl).1 _)
                  clear ho hc1 hf1
                  go_roundw
                  case rel => exact ⟨k + 1, by go_num, by omega, Lib.hid (by rw [HSP.out]; exact ho1.out), hb1⟩
                  case measure => simp [intOf]; omega
                · rw [if_neg hx] at hsp
                  have HSP := Lib.hid hsp
                  clear hsp
                  have d2 : ((x.2 : Int) == (k : Int)) = false := by simp; omega
                  go_wp2_with (first | (at_builtin; refine wpList_append_own _ rfl _ _ 68 rfl w.heap.size 77 i0 (.agg #[.int .i64 0, .int .i64 0]) 2 16 Try.underlying68 hi hz0 hz1 hz2 rfl (by decide) _ _ _ rfl (World.ownsRow.alloc HO2.out _) ⟨wn.heap.size, 0, none⟩ 1 1 [.int .i64 (k : Int), .int .i64 ((k : Int) + 1)] rfl rfl ?d1 ?d2 ?d3 ?d4 ?d5 ?_) | fail)
                  case d1 => exact cells_two _ _ _ _
                  case d2 => intro u hu; simp at hu; rcases hu with rfl | rfl <;> rfl
                  case d3 => unfold maxLen; omega
                  case d4 => omega
                  case d5 => simp; omega
                  intro v1 w1 hown1 hg1 _
                  have ho := Lib.hid (OwnsR.snoc (enc := encS) (l := p ++ [x]) (n := m + 1) (x := (k, k + 1)) (by simp [HM.out]) hown1)
                  have hb1 := Lib.hid (show Below w.heap.size w w1 from (HBn.out.alloc hsz _).grown hg1 (by simp; omega) (fun g hg => (World.ownsRow.lt HO2.out g hg).1))
                  clear hown1 hg1 hsz
                  go_wp2_with fail
                  go_roundw
                  case rel => exact ⟨k + 1, by go_num, by omega, Lib.hid (by rw [HSP.out]; exact ho.out), hb1⟩
                  case measure => simp [intOf]; omega
            · go_quiet (fail)
              have HBn := Lib.hid (below_drewN HB.out nq)
              have HOn := Lib.hid (HO.out.drewN nq)
              have hsu : spansU ((List.range (k + 1)).filter (difK C1 C2)) = spansU ((List.range k).filter (difK C1 C2)) := by rw [HSN.out, if_neg (by rw [HDK.out]; simp)]
              have HSU := Lib.hid hsu
              clear hsu HSN HDK HO HB s3 t3 s2 t2 s1 t1 s0 t0 l3 m3 l2 m2 l1 m1 l0 m0 e3 e2 e1 e0
              generalize wr.drewN nq = wn at HBn HOn ⊢
              go_wp2_with fail
              go_roundw
              case rel => exact ⟨k + 1, by go_num, by omega, Lib.hid (by rw [HSU.out]; exact HOn.out), HBn⟩
              case measure => simp [intOf]; omega
          · go_quiet (fail)
            have HBn := Lib.hid (below_drewN HB.out nq)
            have HOn := Lib.hid (HO.out.drewN nq)
            have hsu : spansU ((List.range (k + 1)).filter (difK C1 C2)) = spansU ((List.range k).filter (difK C1 C2)) := by rw [HSN.out, if_neg (by rw [HDK.out]; simp)]
            have HSU := Lib.hid hsu
            clear hsu HSN HDK HO HB s3 t3 s2 t2 s1 t1 s0 t0 l3 m3 l2 m2 l1 m1 l0 m0 e3 e2 e1 e0
            generalize wr.drewN nq = wn at HBn HOn ⊢
            go_wp2_with fail
            go_roundw
            case rel => exact ⟨k + 1, by go_num, by omega, Lib.hid (by rw [HSU.out]; exact HOn.out), HBn⟩
            case measure => simp [intOf]; omega
        · go_quiet (fail)
          have HBn := Lib.hid (below_drewN HB.out nq)
          have HOn := Lib.hid (HO.out.drewN nq)
          have hsu : spansU ((List.range (k + 1)).filter (difK C1 C2)) = spansU ((List.range k).filter (difK C1 C2)) := by rw [HSN.out, if_neg (by rw [HDK.out]; simp)]
          have HSU := Lib.hid hsu
          clear hsu HSN HDK HO HB s3 t3 s2 t2 s1 t1 s0 t0 l3 m3 l2 m2 l1 m1 l0 m0 e3 e2 e1 e0
          generalize wr.drewN nq = wn at HBn HOn ⊢
          go_wp2_with fail
          go_roundw
          case rel => exact ⟨k + 1, by go_num, by omega, Lib.hid (by rw [HSU.out]; exact HOn.out), HBn⟩
          case measure => simp [intOf]; omega
      · go_quiet (fail)
        have HBn := Lib.hid (below_drewN HB.out nq)
        have HOn := Lib.hid (HO.out.drewN nq)
        have hsu : spansU ((List.range (k + 1)).filter (difK C1 C2)) = spansU ((List.range k).filter (difK C1 C2)) := by rw [HSN.out, if_neg (by rw [HDK.out]; simp)]
        have HSU := Lib.hid hsu
        clear hsu HSN HDK HO HB s3 t3 s2 t2 s1 t1 s0 t0 l3 m3 l2 m2 l1 m1 l0 m0 e3 e2 e1 e0
        generalize wr.drewN nq = wn at HBn HOn ⊢
        go_wp2_with fail
        go_roundw
        case rel => exact ⟨k + 1, by go_num, by omega, Lib.hid (by rw [HSU.out]; exact HOn.out), HBn⟩
        case measure => simp [intOf]; omega
    · have hk4 : k = 4096 := by omega
      subst hk4
      replace HO := Lib.hid (HO.out)
      have hl0 := Nat.le_trans (spansU_len ((List.range 4096).filter (difK C1 C2))) (Nat.le_trans (List.length_filter_le _ _) (by rw [List.length_range]; exact Nat.le_refl 4096))
      have HT := Lib.hid (show trimS (spansU ((List.range 4096).filter (difK C1 C2))) = spansL (difL C1 C2 3) by rw [trim_all, HD.out])
      generalize spansU ((List.range 4096).filter (difK C1 C2)) = S0 at HO hl0 HT
      go_wp2_with fail
      go_loopw [5] (fun v wr => ∃ S : List Sk, S.length ≤ 4096 ∧ Hid (OwnsR encS 2 77 wr w.heap.size v S) ∧ Hid (trimS S = spansL (difL C1 C2 3)) ∧ Hid (Below w.heap.size w wr))
        (fun v _ => lenV v)
      case atStart => exact ⟨S0, hl0, HO, HT, HB⟩
      case round =>
        clear HO HB HT hl0
        obtain ⟨S, hl, HO, HT, HB⟩ := hrel
        by_cases h64 : S.length ≤ 64
        · obtain ⟨a1, c1, rfl, hR⟩ := OwnsR.arg encS_len HO.out
          have HRE := Lib.hid (show spansL (difL C1 C2 3) = S by rw [← HT.out, trimS_small h64])
          replace hR := Lib.hid hR
          have hgt : ¬ ((64 : Int) < (S.length : Int)) := by omega
          clear HO
          go_wp2_with fail
          go_ret
          exact ⟨_, _, _, rfl, by rw [HRE.out]; exact hR.out, HB.out⟩
        · obtain ⟨p, x, y, rfl⟩ : ∃ p x y, S = p ++ [x] ++ [y] := by
            rcases nil_or_snoc S with rfl | ⟨q, y, rfl⟩
            · simp at h64
            · rcases nil_or_snoc q with rfl | ⟨p, x, rfl⟩
              · simp at h64
              · exact ⟨p, x, y, rfl⟩
          obtain ⟨m, hm⟩ : ∃ m, p.length = m := ⟨_, rfl⟩
          have hl2 : (p ++ [x] ++ [y]).length = m + 2 := by simp [hm]
          rw [hl2] at hl h64
          rcases HO.out.2 with ⟨_, hn0⟩ | ⟨g, cap, cur, hv, _, _, hcap, hcapm, _⟩
          · rw [hl2] at hn0; omega
          rw [hl2] at hv hcap
          subst hv
          have ho2 : wr.ownsRow w.heap.size 77 2 (.slice (some ⟨g, 0, none⟩) (m + 2) cap) (m + 2) (flatR encS (p ++ [x] ++ [y])) := by
            have := HO.out
            unfold OwnsR at this
            rwa [hl2] at this
          have hc1 : wr.cell? ⟨g, (m + 1) * 2 + 1, none⟩ = some (.int .i64 (y.2 : Int)) := by
            rw [World.ownsRow.cellAt ho2 ((m + 1) * 2 + 1) (by omega), show m + 1 = (p ++ [x]).length by simp [hm]]
            exact flat_last (p ++ [x]) y
          have hc0 : wr.cell? ⟨g, m * 2 + 1, none⟩ = some (.int .i64 (x.2 : Int)) := by
            rw [World.ownsRow.cellAt ho2 (m * 2 + 1) (by omega), flatR_append, List.getElem?_append_left (by rw [flatR_length (k := 2) encS_len, List.length_append, List.length_singleton]; omega), ← hm]
            exact flat_last p x
          have hf1 := World.ownsRow.frozenAt ho2 (m * 2 + 1)
          have HP := Lib.hid (popS p x y hm ho2)
          have HTT := Lib.hid (show trimS (p ++ [(x.1, y.2)]) = spansL (difL C1 C2 3) by rw [← trim1_same (by omega : 63 ≤ p.length)]; exact HT.out)
          have HBB := Lib.hid (show Below w.heap.size w (wr.setCell ⟨g, m * 2 + 1, none⟩ (.int .i64 (y.2 : Int))) from HB.out.setCell (World.ownsRow.lt ho2 g rfl).1 _)
          have HM := Lib.hid hm
          have hgt : (64 : Int) < (m : Int) + 2 := by omega
          have hw1 : IntKind.i64.wrap ((m : Int) + 2 - 1) = (m : Int) + 1 := by rw [IntWalk.i64_in _ (by omega)]; omega
          have hw2 : IntKind.i64.wrap ((m : Int) + 2 - 2) = (m : Int) := by rw [IntWalk.i64_in _ (by omega)]; omega
          have hw3 : IntKind.i64.wrap (m : Int) = (m : Int) := IntWalk.i64_in _ (by omega)
          have hw4 : IntKind.i64.wrap ((m : Int) + 1) = (m : Int) + 1 := IntWalk.i64_in _ (by omega)
          clear ho2 hm hl2 HO HT HB
          go_wp2_with fail
          go_roundw
          case rel => exact ⟨p ++ [(x.1, y.2)], by rw [List.length_append, List.length_singleton, HM.out]; omega, HP, HTT, HBB⟩
          case measure => simp [lenV]
end Go.Proofs.Ytjjadappjapjhaa
