/-
  DELTA: the document's Check and Get (as template TabR); the statements' own Refs, of pairs and of turns; the document's Same.
-/
import Derived.Test.YtnjlbgnojlmmlaaDlW
import Derived.Deep.RegionLaw
import Derived.Deep.AppendLies
namespace Go.Proofs.Ytnjlbgnojlmmlaa
open Go.RowKit Go.Deep Go.Shelf

theorem below_drewN2 {B : Nat} {a w : World} (h : Below B a w) (n : Nat) : Below B a (w.drewN n) := ⟨h.os, h.tape, h.output, h.size, h.block⟩
theorem drop_moreD {l : List Pr} {k : Nat} (h : k < l.length) : l.drop k = l.getD k (0, 0) :: l.drop (k + 1) := by
  rw [List.drop_eq_getElem_cons h]; simp [List.getD, List.getElem?_eq_getElem h]
theorem RIn.g2 {w : World} {B : Nat} {a : Option Addr} {l : List Pr} (h : RIn encP 2 w B a l) (k : Nat) (hk : k < l.length) :
    ∃ b off, a = some ⟨b, off, none⟩ ∧ b < B ∧ w.cell? ⟨b, off + k * 2, none⟩ = some (.int .i64 (l.getD k (0, 0)).1) ∧ w.cell? ⟨b, off + k * 2 + 1, none⟩ = some (.int .i64 (l.getD k (0, 0)).2) := by
  obtain ⟨b, off, e, hb, hc⟩ := h k hk
  have hg : l[k]! = l.getD k (0, 0) := by rw [getElem!_pos l k hk]; simp [List.getD, List.getElem?_eq_getElem hk]
  rw [hg] at hc
  exact ⟨b, off, e, hb, hc 0 _ rfl, hc 1 _ rfl⟩
def getT : List Pr → Int → Option Int
  | [], _ => none
  | p :: t, k => if p.1 = k then some p.2 else getT t k
theorem Try.infoRTurn : (Try.prog.info? 57).map (fun i => (i.zero, i.size, i.bytes)) = some (some (.agg #[.int .i64 0, .int .i64 0, .bool false, .int .i64 0, .bool false]), 5, 40) := by kernel_rfl
theorem cells_one_new2 (w : World) (x0 x1 : Value) (t : TypeId) : ∀ j u, [x0, x1][j]? = some u → (w.alloc (.cells #[x0, x1] t)).cell? ((⟨w.heap.size, 0, none⟩ : Addr).add j) = some u := by
  intro j u hj
  have h := heap_alloc_new w (.cells #[x0, x1] t)
  rw [addr_add, Nat.zero_add]
  match j, hj with
  | 0, hj => cases hj; exact cell_of_row _ _ 0 _ _ _ h
  | 1, hj => cases hj; exact cell_of_row _ _ 1 _ _ _ h
  | j + 2, hj => simp at hj
theorem cellD5 (w : World) (x0 x1 x2 x3 x4 : Value) (t : TypeId) : ∀ j u, [x0, x1, x2, x3, x4][j]? = some u → ((w.alloc (.cells #[x0, x1, x2, x3, x4] t)).drew).cell? ((⟨w.heap.size, 0, none⟩ : Addr).add j) = some u := cells_one_new5 w x0 x1 x2 x3 x4 t _ rfl
theorem five_one (x y u : Int) (s1 s2 : Bool) : ∀ v ∈ [Value.int .i64 x, .int .i64 y, .bool s1, .int .i64 u, .bool s2], v.oneCell' = true := by
  intro u hu; simp at hu; rcases hu with rfl | rfl | rfl | rfl | rfl <;> rfl
set_option maxRecDepth 100000 in
set_option maxHeartbeats 2000000 in
theorem refsT_any (a : Option Addr) (n c : Nat) (l : List Tn) (w : World) (hz : l.length ≤ 100000) (h : RArg encT 5 w a n c l) :
    Calls Try.prog 10 #[.slice a n c] w (RowArg encT 5 w l) := by
  obtain ⟨i0, hi0, hz0, hz1, hz2⟩ := info_parts Try.infoRTurn
  have hA := h
  obtain ⟨rfl, _, hc1, hc2, _⟩ := h
  replace hA := Lib.hid hA
  go_enter Try.func10, Try.ntmps10
  go_wp2_with fail
  go_loopw [3, 4] (fun vo i wr => ∃ (k : Nat) (v : Value), v = vo ∧ i = .int .i64 (k : Int) ∧ k ≤ l.length ∧ Hid (OwnsR encT 5 57 wr w.heap.size v (l.take k)) ∧ Below w.heap.size w wr)
    (fun _ i _ => l.length - (intOf i).toNat)
  case atStart => exact ⟨0, _, rfl, rfl, by omega, Lib.hid (OwnsR.nil _ _ _ _ _), Below.refl _ _⟩
  case round =>
    obtain ⟨k, v, rfl, rfl, hk, HO, hbl⟩ := hrel
    have hsz := hbl.size
    by_cases hkl : k < l.length
    · have hkz : (k : Int) < (l.length : Int) := by omega
      obtain ⟨b, off, e, hb, d0, d1, d2, d3, d4⟩ := (hA.out.below hbl).tns hkl
      subst e
      have HT := Lib.hid (take_moreG hkl)
      generalize l[k]! = s at d0 d1 d2 d3 d4 HT
      obtain ⟨x, ⟨y, s1⟩, ⟨u, s2⟩⟩ := s
      dsimp only at d0 d1 d2 d3 d4
      have hlen : (l.take k).length = k := by rw [List.length_take]; omega
      have ho : wr.ownsRow w.heap.size 57 5 v k (flatR encT (l.take k)) := by
        have := HO.out
        unfold OwnsR at this
        rwa [hlen] at this
      have HD := Lib.hid (fun o => (ho.alloc o).drew)
      have HG := Lib.hid (fun o w1 (hg : ((wr.alloc o).drew).grownBy w1 v.ownBlock) => (show Below w.heap.size w w1 from by
        have hlt2 := ho.lt
        exact ((hbl.alloc hsz o).drew).grown hg (by simp; omega) (fun g e => (hlt2 g e).1)))
      have B63 := Lib.hid (show k + 1 ≤ maxLen by unfold maxLen; omega)
      have BBY := Lib.hid (show (k + 1) * 40 ≤ 140737488355328 by omega)
      have HBS := Lib.hid (fun o => (show w.heap.size ≤ ((wr.alloc o).drew).heap.size from by simp; omega))
      have HH := Lib.hid (fun o => (show ((wr.alloc o).drew).heap.size = wr.heap.size + 1 from by simp))
      clear ho
      go_wp2_with fail
      go_region_law (first | (refine step_append_lies _ rfl (.tmp 11) (.tmp 28) 28 rfl w.heap.size 57 i0 (.agg #[.int .i64 0, .int .i64 0, .bool false, .int .i64 0, .bool false]) 5 40 Try.underlying28 hi0 hz0 hz1 hz2 rfl (by decide) _ _ _ rfl (HD.out _) ⟨wr.heap.size, 0, none⟩ 1 1 [.int .i64 x, .int .i64 y, .bool s1, .int .i64 u, .bool s2] rfl rfl (cellD5 wr _ _ _ _ _ _) (five_one _ _ _ _ _) (by decide) B63.out BBY.out (HBS.out _) (wr.heap.size + 1) (HH.out _) ?_; intro g cap w1 hown1 hgrow1 _ _; have g1 := HG.out _ _ hgrow1; replace hown1 := Lib.hid hown1; clear hgrow1))
      all_goals
        go_wp2
        go_roundw
        case rel =>
          refine ⟨k + 1, _, rfl, by go_num, by omega, Lib.hid ?_, g1⟩
          rw [HT.out]
          exact OwnsR.snoc (x := ((x, (y, s1), (u, s2)) : Tn)) hlen hown1.out
        case measure => simp [intOf]; omega
    · have hk' : l.take k = l := List.take_of_length_le (by omega)
      have hkz : ¬ (k : Int) < (l.length : Int) := by omega
      have ho := HO.out
      rw [hk'] at ho
      obtain ⟨a6, c6, rfl, hR⟩ := OwnsR.arg encT_len ho
      replace hR := Lib.hid hR
      replace hk' := Lib.hid hk'
      clear ho HO
      go_wp2
      go_ret
      exact ⟨_, _, _, rfl, hR.out, hbl⟩
def prevK (l : List Pr) (k : Nat) : Int := if k = 0 then -1 else (l.getD (k - 1) (0, 0)).1
def cellA (g : Option Int) : Value := .agg #[.int .i64 (g.getD 0), .bool g.isSome]
end Go.Proofs.Ytnjlbgnojlmmlaa
