/-
  CONTRACTS of spans and Diff.
-/
import Derived.Test.YtjjadappjapjhaaMkG
namespace Go.Proofs.Ytjjadappjapjhaa
open Go.RowKit Go.Deep

abbrev Sk := Nat × Nat
def encS (p : Sk) : List Value := [.int .i64 (p.1 : Int), .int .i64 (p.2 : Int)]
theorem encS_len (p : Sk) : (encS p).length = 2 := rfl
/-- One key more, as keys rise. -/
def spanS (set : List Sk) (key : Nat) : List Sk := match set.getLast? with
  | none => [(key, key + 1)]
  | some x => if set.length = 64 ∨ x.2 = key then set.dropLast ++ [(x.1, key + 1)] else set ++ [(key, key + 1)]
def spansL (keys : List Nat) : List Sk := keys.foldl spanS []
theorem spanS_nil (key : Nat) : spanS [] key = [(key, key + 1)] := rfl
theorem spanS_snoc (p : List Sk) (x : Sk) (key : Nat) : spanS (p ++ [x]) key = if p.length = 63 ∨ x.2 = key then p ++ [(x.1, key + 1)] else p ++ [x] ++ [(key, key + 1)] := by
  unfold spanS
  rw [List.getLast?_concat]
  dsimp only
  rw [List.dropLast_concat, List.length_append, List.length_singleton]
  by_cases h : p.length = 63 ∨ x.2 = key
  · rw [if_pos (by omega), if_pos h]
  · rw [if_neg (by omega), if_neg h]
theorem spansL_snoc (l : List Nat) (k : Nat) : spansL (l ++ [k]) = spanS (spansL l) k := by unfold spansL; rw [List.foldl_append]; rfl
theorem nil_or_snoc {α : Type} (l : List α) : l = [] ∨ ∃ p x, l = p ++ [x] := by
  rcases List.eq_nil_or_concat l with h | ⟨p, x, h⟩
  · exact .inl h
  · exact .inr ⟨p, x, by rw [h, List.concat_eq_append]⟩
theorem spanS_len (set : List Sk) (key : Nat) (h : set.length ≤ 64) : (spanS set key).length ≤ 64 := by
  rcases nil_or_snoc set with rfl | ⟨p, x, rfl⟩
  · simp [spanS_nil]
  · rw [spanS_snoc]
    simp at h
    split <;> simp <;> omega
theorem spansL_len (l : List Nat) : (spansL l).length ≤ 64 := by
  unfold spansL
  suffices h : ∀ (l : List Nat) (s : List Sk), s.length ≤ 64 → (l.foldl spanS s).length ≤ 64 from h l [] (by simp)
  intro l
  induction l with
  | nil => intro s h; exact h
  | cons a l ih => intro s h; exact ih _ (spanS_len s a h)
theorem flat_last (p : List Sk) (x : Sk) : (flatR encS (p ++ [x]))[p.length * 2 + 1]? = some (.int .i64 (x.2 : Int)) := by
  refine flatR_get (k := 2) encS_len _ p.length 1 _ (by simp) ?_
  simp [encS]
theorem flat_set (p : List Sk) (x : Sk) (y : Nat) : (flatR encS (p ++ [x])).set (p.length * 2 + 1) (.int .i64 (y : Int)) = flatR encS (p ++ [(x.1, y)]) := by
  rw [flatR_append, flatR_append, List.set_append, if_neg (by rw [flatR_length (k := 2) encS_len]; omega), flatR_length (k := 2) encS_len]
  rw [show p.length * 2 + 1 - p.length * 2 = 1 by omega]
  rfl
theorem Try.infoSpan20 : (Try.prog.info? 73).map (fun i => (i.zero, i.size, i.bytes)) = some (some (.agg #[.int .i64 0, .int .i64 0]), 2, 16) := by kernel_rfl
theorem cells_two (w : World) (x0 x1 : Value) (t : TypeId) : ∀ j u, [x0, x1][j]? = some u → (w.alloc (.cells #[x0, x1] t)).cell? ((⟨w.heap.size, 0, none⟩ : Addr).add j) = some u := by
  intro j u h
  exact cells_newM w #[x0, x1] t j u h
def RowS (l : List Sk) (w : World) (e : Ending) (w' : World) : Prop := ∃ v, e = .returned v ∧ OwnsR encS 2 73 w' w.heap.size v l ∧ Below w.heap.size w w'
set_option maxRecDepth 100000 in
set_option maxHeartbeats 1000000 in
theorem spans_any (a : Option Addr) (n c : Nat) (ks : List Nat) (w : World) (hR : RArg encK 1 w a n c ks) (hks : ∀ k ∈ ks, k < 4096) :
    Calls Try.prog 46 #[.slice a n c] w (RowS (spansL ks) w) := by
  obtain ⟨i0, hi, hz0, hz1, hz2⟩ := info_parts Try.infoSpan20
  have hn : n = ks.length := hR.1
  have hz : (n : Int) ≤ 9223372036854775807 := by have := hR.2.1; omega
  have HR := Lib.hid hR
  have HN := Lib.hid hn
  have HKS := Lib.hid hks
  clear hR hn hks
  go_enter Try.func46, Try.ntmps46
  go_wp2_with fail
  go_loopw [3, 9] (fun v i wr => ∃ k : Nat, i = .int .i64 (k : Int) ∧ k ≤ n ∧ Hid (OwnsR encS 2 73 wr w.heap.size v (spansL (ks.take k))) ∧ Hid (Below w.heap.size w wr))
    (fun _ i _ => n - (intOf i).toNat)
  case atStart => exact ⟨0, rfl, by omega, Lib.hid (OwnsR.nil _ _ _ _ _), Lib.hid (Below.refl _ _)⟩
  case round =>
    obtain ⟨k, rfl, hk, HO, HB⟩ := hrel
    by_cases hlt : k < n
    · have hkl : k < ks.length := by rw [← HN.out]; exact hlt
      have hT := take_moreG hkl
      have hmem := HKS.out ks[k]! (by rw [getElem!_pos ks k hkl]; exact List.getElem_mem hkl)
      obtain ⟨b, off, e, hbb, c0⟩ := (HR.out.below HB.out).ks hkl
      subst e
      generalize ks[k]! = q at c0 hT hmem
      have hsp : spansL (ks.take (k + 1)) = spanS (spansL (ks.take k)) q := by rw [hT, spansL_snoc]
      have hlen := spansL_len (ks.take k)
      generalize spansL (ks.take k) = S at HO hsp hlen
      clear hkl hT
      have hsz := HB.out.size
      rcases nil_or_snoc S with rfl | ⟨p, x, rfl⟩
      · rw [spanS_nil] at hsp
        have HSP := Lib.hid hsp
        clear hsp
        obtain ⟨a1, c1, rfl, _⟩ := OwnsR.arg encS_len HO.out
        have HO2 := Lib.hid (show wr.ownsRow w.heap.size 73 2 (.slice a1 0 c1) 0 [] from HO.out)
        go_wp2_with (first | (at_builtin; refine wpList_append_own _ rfl _ _ 53 rfl w.heap.size 73 i0 (.agg #[.int .i64 0, .int .i64 0]) 2 16 Try.underlying53 hi hz0 hz1 hz2 rfl (by decide) _ _ _ rfl (World.ownsRow.alloc HO2.out _) ⟨wr.heap.size, 0, none⟩ 1 1 [.int .i64 (q : Int), .int .i64 ((q : Int) + 1)] rfl rfl ?c1 ?c2 ?c3 ?c4 ?c5 ?_) | fail)
        case c1 => exact cells_two _ _ _ _
        case c2 => intro u hu; simp at hu; rcases hu with rfl | rfl <;> rfl
        case c3 => unfold maxLen; omega
        case c4 => omega
        case c5 => simp; omega
        intro v1 w1 hown1 hg1 _
        have ho := Lib.hid (OwnsR.snoc (enc := encS) (l := []) (x := (q, q + 1)) rfl (by simpa [encS, flatR] using hown1))
        have hb1 := Lib.hid (show Below w.heap.size w w1 from (HB.out.alloc hsz _).grown hg1 (by simp; omega) (fun g hg => (World.ownsRow.lt HO2.out g hg).1))
        clear hown1 hg1 hsz
        go_wp2_with fail
        go_roundw
        case rel => exact ⟨k + 1, by go_num, by omega, Lib.hid (by rw [HSP.out]; exact ho.out), hb1⟩
        case measure => simp [intOf]; omega
      · obtain ⟨m, hm⟩ : ∃ m, p.length = m := ⟨_, rfl⟩
        rcases HO.out.2 with ⟨_, hn0⟩ | ⟨g, cap, cur, hv, _⟩
        · simp at hn0
        rw [List.length_append, List.length_singleton, hm] at hv
        subst hv
        have ho2 : wr.ownsRow w.heap.size 73 2 (.slice (some ⟨g, 0, none⟩) (m + 1) cap) (m + 1) (flatR encS (p ++ [x])) := by
          have := HO.out
          unfold OwnsR at this
          rwa [List.length_append, List.length_singleton, hm] at this
        have hc1 : wr.cell? ⟨g, m * 2 + 1, none⟩ = some (.int .i64 (x.2 : Int)) := by
          rw [World.ownsRow.cellAt ho2 (m * 2 + 1) (by omega), ← hm]
          exact flat_last p x
        have hf1 := World.ownsRow.frozenAt ho2 (m * 2 + 1)
        have hlen2 : m ≤ 63 := by simp at hlen; omega
        rw [spanS_snoc, hm] at hsp
        have HO2 := Lib.hid ho2
        have HM := Lib.hid hm
        clear ho2 hm hlen HO
        by_cases h63 : m = 63
        · rw [if_pos (.inl h63)] at hsp
          have HSP := Lib.hid hsp
          clear hsp
          subst h63
          go_wp2_with fail
          have ho := (World.ownsRow.stored HO2.out 127 (.int .i64 ((q + 1 : Nat) : Int)))
          rw [show (flatR encS (p ++ [x])).set 127 (.int .i64 ((q + 1 : Nat) : Int)) = flatR encS (p ++ [(x.1, q + 1)]) by rw [← flat_set p x (q + 1), HM.out]] at ho
          have ho1 := Lib.hid (show OwnsR encS 2 73 (wr.setCell ⟨g, 127, none⟩ (.int .i64 ((q + 1 : Nat) : Int))) w.heap.size (.slice (some ⟨g, 0, none⟩) 64 cap) (p ++ [(x.1, q + 1)]) from (by
            unfold OwnsR
            rw [List.length_append, List.length_singleton, HM.out]
            exact ho.1))
          have hb1 := Lib.hid (show Below w.heap.size w (wr.setCell ⟨g, 127, none⟩ (.int .i64 ((q + 1 : Nat) : Int))) from HB.out.setCell (World.ownsRow.lt HO2.out g rfl).1 _)
          clear ho hc1 hf1
          go_roundw
          case rel => exact ⟨k + 1, by go_num, by omega, Lib.hid (by rw [HSP.out]; exact ho1.out), hb1⟩
          case measure => simp [intOf]; omega
        · have d1 : ((m : Int) + 1 == 64) = false := by simp; omega
          by_cases hx : x.2 = q
          · rw [if_pos (.inr hx)] at hsp
            have HSP := Lib.hid hsp
            clear hsp
            have d2 : ((x.2 : Int) == (q : Int)) = true := by simp; omega
            go_wp2_with fail
            have ho := (World.ownsRow.stored HO2.out (m * 2 + 1) (.int .i64 ((q + 1 : Nat) : Int)))
            rw [← HM.out, flat_set, HM.out] at ho
            have ho1 := Lib.hid (show OwnsR encS 2 73 (wr.setCell ⟨g, m * 2 + 1, none⟩ (.int .i64 ((q + 1 : Nat) : Int))) w.heap.size (.slice (some ⟨g, 0, none⟩) (m + 1) cap) (p ++ [(x.1, q + 1)]) from (by
              unfold OwnsR
              rw [List.length_append, List.length_singleton, HM.out]
              exact ho.1))
            have hb1 := Lib.hid (show Below w.heap.size w (wr.setCell ⟨g, m * 2 + 1, none⟩ (.int .i64 ((q + 1 : Nat) : Int))) from HB.out.setCell (World.ownsRow.lt HO2.out g rfl).1 _)
            clear ho hc1 hf1
            go_roundw
            case rel => exact ⟨k + 1, by go_num, by omega, Lib.hid (by rw [HSP.out]; exact ho1.out), hb1⟩
            case measure => simp [intOf]; omega
          · rw [if_neg (by omega)] at hsp
            have HSP := Lib.hid hsp
            clear hsp
            have d2 : ((x.2 : Int) == (q : Int)) = false := by simp; omega
            go_wp2_with (first | (at_builtin; refine wpList_append_own _ rfl _ _ 53 rfl w.heap.size 73 i0 (.agg #[.int .i64 0, .int .i64 0]) 2 16 Try.underlying53 hi hz0 hz1 hz2 rfl (by decide) _ _ _ rfl (World.ownsRow.alloc HO2.out _) ⟨wr.heap.size, 0, none⟩ 1 1 [.int .i64 (q : Int), .int .i64 ((q : Int) + 1)] rfl rfl ?d1 ?d2 ?d3 ?d4 ?d5 ?_) | fail)
            case d1 => exact cells_two _ _ _ _
            case d2 => intro u hu; simp at hu; rcases hu with rfl | rfl <;> rfl
            case d3 => unfold maxLen; omega
            case d4 => omega
            case d5 => simp; omega
            intro v1 w1 hown1 hg1 _
            have ho := Lib.hid (OwnsR.snoc (enc := encS) (l := p ++ [x]) (n := m + 1) (x := (q, q + 1)) (by simp [HM.out]) hown1)
            have hb1 := Lib.hid (show Below w.heap.size w w1 from (HB.out.alloc hsz _).grown hg1 (by simp; omega) (fun g hg => (World.ownsRow.lt HO2.out g hg).1))
            clear hown1 hg1 hsz
            go_wp2_with fail
            go_roundw
            case rel => exact ⟨k + 1, by go_num, by omega, Lib.hid (by rw [HSP.out]; exact ho.out), hb1⟩
            case measure => simp [intOf]; omega
    · obtain rfl : k = n := by omega
      have ho := HO.out
      rw [HN.out, List.take_length] at ho
      replace ho := Lib.hid ho
      go_wp2_with fail
      go_ret
      exact ⟨_, rfl, ho.out, HB.out⟩
/-- The keys (or nodes) that differ, level by level. -/
def difL (C1 C2 : Nat → Option Int) : Nat → List Nat
  | 0 => [0].filter (difB C1 C2 3)
  | d + 1 => ((difL C1 C2 d).flatMap kidsL).filter (difB C1 C2 (2 - d))
theorem difL_lt (C1 C2 : Nat → Option Int) : ∀ d, d ≤ 3 → ∀ k ∈ difL C1 C2 d, k < szA (3 - d)
  | 0, _, k, hk => by
    have := (List.mem_filter.1 hk).1
    simp at this
    subst this
    decide
  | d + 1, hd, k, hk => by
    obtain ⟨q, hq, hk⟩ := List.mem_flatMap.1 (List.mem_filter.1 hk).1
    have hq := difL_lt C1 C2 d (by omega) q hq
    obtain ⟨i, hi, rfl⟩ := List.mem_map.1 hk
    have hi := List.mem_range.1 hi
    have hd3 : d = 0 ∨ d = 1 ∨ d = 2 := by omega
    rcases hd3 with rfl | rfl | rfl <;> simp only [szA] at hq ⊢ <;> omega
theorem kidsL_lt {d : Nat} (hd : d ≤ 2) {l : List Nat} (h : ∀ k ∈ l, k < szA (3 - d)) : ∀ k ∈ l.flatMap kidsL, k < szA (2 - d) := by
  intro k hk
  obtain ⟨q, hq, hk⟩ := List.mem_flatMap.1 hk
  have hq := h q hq
  obtain ⟨i, hi, rfl⟩ := List.mem_map.1 hk
  have hi := List.mem_range.1 hi
  have hd3 : d = 0 ∨ d = 1 ∨ d = 2 := by omega
  rcases hd3 with rfl | rfl | rfl <;> simp only [szA] at hq ⊢ <;> omega
theorem difL_len (C1 C2 : Nat → Option Int) : ∀ d, (difL C1 C2 d).length ≤ 16 ^ d
  | 0 => List.length_filter_le _ _
  | d + 1 => by
    have := difL_len C1 C2 d
    refine Nat.le_trans (List.length_filter_le _ _) ?_
    rw [kids_flat, Nat.pow_succ]
    omega
end Go.Proofs.Ytjjadappjapjhaa
