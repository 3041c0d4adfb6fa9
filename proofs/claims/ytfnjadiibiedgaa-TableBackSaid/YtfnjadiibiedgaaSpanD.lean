/-
  CONTRACT of extend: a span behind the set, or joined to its last one, in a row of the call's own.
-/
import Derived.Test.YtfnjadiibiedgaaSpanC
import Derived.RegionTactic
import Derived.IntWalk
namespace Go.Proofs.Ytfnjadiibiedgaa
open Go.RowKit

theorem Try.infoSpan : (Try.prog.info? 24).map (fun i => (i.zero, i.size, i.bytes)) = some (some (.agg #[.int .i64 0, .int .i64 0]), 2, 16) := by kernel_rfl

theorem flatP_set (m : List Sp) (x y z : Int) : (flatP (m ++ [(x, y)])).set (m.length * 2 + 1) (.int .i64 z) = flatP (m ++ [(x, z)]) := by
  rw [flatP_append, flatP_append, List.set_append_right _ _ (by rw [flatP_length]; omega), flatP_length, show m.length * 2 + 1 - m.length * 2 = 1 from by omega]
  rfl
theorem OwnsP.last {t : TypeId} {w : World} {base g k cap : Nat} {m : List Sp} {x y : Int} (hk : m.length = k) (h : OwnsP t w base (.slice (some ⟨g, 0, none⟩) (k + 1) cap) (m ++ [(x, y)])) (z : Int) :
    OwnsP t (w.setCell ⟨g, k * 2 + 1, none⟩ (.int .i64 z)) base (.slice (some ⟨g, 0, none⟩) (k + 1) cap) (m ++ [(x, z)]) := by
  subst hk
  have hl : ∀ q, (m ++ [(x, q)]).length = m.length + 1 := fun q => by simp
  unfold OwnsP at h ⊢
  rw [hl] at h ⊢
  have := (World.ownsRow.stored h (m.length * 2 + 1) (.int .i64 z)).1
  rw [flatP_set] at this
  exact this
theorem OwnsP.form {t : TypeId} {w : World} {base : Nat} {v : Value} {l : List Sp} (h : OwnsP t w base v l) (hl : l ≠ []) : ∃ g cap, v = .slice (some ⟨g, 0, none⟩) l.length cap ∧ base ≤ g ∧ g < w.heap.size ∧ cap ≤ maxLen ∧ l.length ≤ cap := by
  obtain ⟨a, cap, hv, hc, hm, _, hn⟩ := h.arg
  obtain ⟨g, rfl, h1, h2⟩ := hn hl
  exact ⟨g, cap, hv, h1, h2, hm, hc⟩

def ExtPost (base : Nat) (l : List Sp) (s : Sp) (w : World) (e : Ending) (w' : World) : Prop :=
  ∃ v', e = .returned v' ∧ OwnsP 24 w' base v' (ext l s) ∧ Below base w w'

set_option maxRecDepth 100000 in
set_option maxHeartbeats 2000000 in
theorem extend_join (g k cap base : Nat) (m : List Sp) (x y : Int) (s : Sp) (w : World) (hk : m.length = k) (hlen : k ≤ 100000) (hb : base ≤ g) (hg : g < w.heap.size) (hbase : base ≤ w.heap.size)
    (hle : s.1 ≤ y) (ho : OwnsP 24 w base (.slice (some ⟨g, 0, none⟩) (k + 1) cap) (m ++ [(x, y)])) :
    Calls Try.prog 100 #[.slice (some ⟨g, 0, none⟩) (k + 1) cap, .agg #[.int .i64 s.1, .int .i64 s.2]] w (ExtPost base (m ++ [(x, y)]) s w) := by
  obtain ⟨p, q⟩ := s
  dsimp only at hle ⊢
  have HE := Lib.hid (show ext (m ++ [(x, y)]) (p, q) = m ++ [(x, max y q)] by rw [ext_snoc, if_pos hle])
  have hl : (m ++ [(x, y)]).length = k + 1 := by rw [List.length_append, hk]; rfl
  have hc : w.cell? ⟨g, k * 2, none⟩ = some (.int .i64 x) ∧ w.cell? ⟨g, k * 2 + 1, none⟩ = some (.int .i64 y) := by
    obtain ⟨a, cap', hv, _, _, hp, _⟩ := ho.arg
    rw [hl] at hv
    cases hv
    obtain ⟨b, off, ha, _, c0, c1⟩ := hp k (by omega)
    cases ha
    have : (m ++ [(x, y)]).getD k (0, 0) = (x, y) := by rw [← hk]; simp [List.getD]
    rw [this] at c0 c1
    rw [Nat.zero_add] at c0 c1
    exact ⟨c0, c1⟩
  obtain ⟨c0, c1⟩ := hc
  have hf : ∀ i, w.frozen? ⟨g, i, none⟩ = false := by
    unfold OwnsP at ho
    rw [hl] at ho
    exact fun i => World.ownsRow.frozenAt ho i
  have f1 := hf (k * 2 + 1)
  have HO := Lib.hid ho
  replace hk := Lib.hid hk
  clear hf ho hl
  have hpos : (0 : Int) < (k : Int) + 1 := by omega
  have hks : (k : Int) + 1 - 1 = k := by omega
  have hkw : IntKind.i64.wrap ((k : Int) + 1 - 1) = k := by rw [hks]; exact IntWalk.i64_in _ (by omega)
  obtain ⟨W, hW⟩ : ∃ W, w.alloc (.cells #[.int .i64 p, .int .i64 q] 24) = W := ⟨_, rfl⟩
  have e0 : W.cell? ⟨g, k * 2 + 1, none⟩ = some (.int .i64 y) := by rw [← hW]; exact (World.cell?_alloc_lt w _ ⟨g, k * 2 + 1, none⟩ hg).trans c1
  have e1 : W.cell? ⟨w.heap.size, 0, none⟩ = some (.int .i64 p) := by rw [← hW]; simp
  have e2 : W.cell? ⟨w.heap.size, 1, none⟩ = some (.int .i64 q) := by rw [← hW]; simp
  have e3 : W.frozen? ⟨g, k * 2 + 1, none⟩ = false := by rw [← hW]; exact (((Below.refl w.heap.size w).alloc (Nat.le_refl _) _).frozen (p := ⟨g, k * 2 + 1, none⟩) hg).trans f1
  have HO1 := Lib.hid ((show OwnsP 24 W base _ _ by rw [← hW]; exact World.ownsRow.alloc HO.out _).last hk.out)
  have HB1 := Lib.hid (show Below base w W by rw [← hW]; exact (Below.refl _ _).alloc hbase _)
  have hks := Lib.hid hks
  clear c0 c1
  go_enter Try.func100, Try.ntmps100
  go_wp2
  replace hW := Lib.hid hW
  go_quiet (fail)
  go_wp2
  go_region
  all_goals go_wp2
  all_goals
    go_ret
    refine ⟨_, rfl, ?_, (below_drewN HB1.out _).setCell hb _⟩
    rw [HE.out]
    first
      | (rw [show max y q = q by omega]; exact HO1.out q)
      | (rw [show max y q = y by omega]; exact HO1.out y)

theorem OwnsP.snoc {t : TypeId} {w : World} {base n : Nat} {v : Value} {l : List Sp} {p q : Int} (hn : l.length = n) (h : w.ownsRow base t 2 v (n + 1) (flatP l ++ [.int .i64 p, .int .i64 q])) : OwnsP t w base v (l ++ [(p, q)]) := by
  unfold OwnsP
  rw [List.length_append, hn, flatP_append]
  exact h

set_option maxRecDepth 100000 in
set_option maxHeartbeats 2000000 in
theorem extend_new (a : Option Addr) (cap base : Nat) (s : Sp) (w : World) (hbase : base ≤ w.heap.size) (ho : OwnsP 24 w base (.slice a 0 cap) []) :
    Calls Try.prog 100 #[.slice a 0 cap, .agg #[.int .i64 s.1, .int .i64 s.2]] w (ExtPost base [] s w) := by
  obtain ⟨i0, hi, hz0, hz1, hz2⟩ := info_parts Try.infoSpan
  obtain ⟨p, q⟩ := s
  dsimp only
  obtain ⟨W, hW⟩ : ∃ W, w.alloc (.cells #[.int .i64 p, .int .i64 q] 24) = W := ⟨_, rfl⟩
  have e1 : W.cell? ⟨w.heap.size, 0, none⟩ = some (.int .i64 p) := by rw [← hW]; simp
  have e2 : W.cell? ⟨w.heap.size, 1, none⟩ = some (.int .i64 q) := by rw [← hW]; simp
  have HO1 : W.ownsRow base 24 2 (.slice a 0 cap) 0 [] := by rw [← hW]; exact World.ownsRow.alloc ho _
  have HB1 := Lib.hid (show Below base w W by rw [← hW]; exact (Below.refl _ _).alloc hbase _)
  have hsz : base ≤ W.heap.size := by rw [← hW]; simp; omega
  go_enter Try.func100, Try.ntmps100
  go_wp2
  replace hW := Lib.hid hW
  go_quiet (fail)
  generalize hW2 : W.drewN _ = W2
  have f1 : W2.cell? ⟨w.heap.size, 0, none⟩ = some (.int .i64 p) := by rw [← hW2]; exact e1
  have f2 : W2.cell? ⟨w.heap.size, 1, none⟩ = some (.int .i64 q) := by rw [← hW2]; exact e2
  have HO2 : W2.ownsRow base 24 2 (.slice a 0 cap) 0 [] := by rw [← hW2]; exact HO1
  have HB2 : Below base w W2 := by rw [← hW2]; exact below_drewN HB1.out _
  have hsz2 : base ≤ W2.heap.size := by rw [← hW2]; exact hsz
  replace hW2 := Lib.hid hW2
  go_wp2_with (at_builtin; refine wpList_append_own _ rfl _ _ 29 rfl base 24 i0 (.agg #[.int .i64 0, .int .i64 0]) 2 16 Try.underlying29 hi hz0 hz1 hz2 rfl (by decide) _ _ _ rfl (HO2.alloc _) ⟨W2.heap.size, 0, none⟩ 1 1 [.int .i64 p, .int .i64 q] rfl rfl ?c1 ?c2 ?c3 ?c4 ?c5 ?_)
  case c1 =>
    intro j u hj
    match j, hj with
    | 0, hj => simp at hj; subst hj; simp [Addr.add]
    | 1, hj => simp at hj; subst hj; simp [Addr.add]
  case c2 => intro u hu; simp at hu; rcases hu with rfl | rfl <;> rfl
  case c3 => unfold maxLen; omega
  case c4 => omega
  case c5 => simp; omega
  · intro v' w1 hown' hgrow _
    go_wp2
    go_ret
    exact ⟨_, rfl, OwnsP.snoc (l := []) rfl hown', (HB2.alloc hsz2 _).grown hgrow (by simp; omega) (fun k hk => (HO2.lt k hk).1)⟩

set_option maxRecDepth 100000 in
set_option maxHeartbeats 2000000 in
theorem extend_more (g k cap base : Nat) (m : List Sp) (x y : Int) (s : Sp) (w : World) (hk : m.length = k) (hlen : k ≤ 100000) (hg : g < w.heap.size) (hbase : base ≤ w.heap.size)
    (hle : y < s.1) (ho : OwnsP 24 w base (.slice (some ⟨g, 0, none⟩) (k + 1) cap) (m ++ [(x, y)])) :
    Calls Try.prog 100 #[.slice (some ⟨g, 0, none⟩) (k + 1) cap, .agg #[.int .i64 s.1, .int .i64 s.2]] w (ExtPost base (m ++ [(x, y)]) s w) := by
  obtain ⟨i0, hi, hz0, hz1, hz2⟩ := info_parts Try.infoSpan
  obtain ⟨p, q⟩ := s
  dsimp only at hle ⊢
  have HE := Lib.hid (show ext (m ++ [(x, y)]) (p, q) = m ++ [(x, y)] ++ [(p, q)] by rw [ext_snoc, if_neg (by dsimp only; omega)])
  have hl : (m ++ [(x, y)]).length = k + 1 := by rw [List.length_append, hk]; rfl
  have hc : w.cell? ⟨g, k * 2, none⟩ = some (.int .i64 x) ∧ w.cell? ⟨g, k * 2 + 1, none⟩ = some (.int .i64 y) := by
    obtain ⟨a, cap', hv, _, _, hp, _⟩ := ho.arg
    rw [hl] at hv
    cases hv
    obtain ⟨b, off, ha, _, c0, c1⟩ := hp k (by omega)
    cases ha
    have : (m ++ [(x, y)]).getD k (0, 0) = (x, y) := by rw [← hk]; simp [List.getD]
    rw [this] at c0 c1
    rw [Nat.zero_add] at c0 c1
    exact ⟨c0, c1⟩
  obtain ⟨c0, c1⟩ := hc
  have hpos : (0 : Int) < (k : Int) + 1 := by omega
  have hks : (k : Int) + 1 - 1 = k := by omega
  have hkw : IntKind.i64.wrap ((k : Int) + 1 - 1) = k := by rw [hks]; exact IntWalk.i64_in _ (by omega)
  obtain ⟨W, hW⟩ : ∃ W, w.alloc (.cells #[.int .i64 p, .int .i64 q] 24) = W := ⟨_, rfl⟩
  have e0 : W.cell? ⟨g, k * 2 + 1, none⟩ = some (.int .i64 y) := by rw [← hW]; exact (World.cell?_alloc_lt w _ ⟨g, k * 2 + 1, none⟩ hg).trans c1
  have e1 : W.cell? ⟨w.heap.size, 0, none⟩ = some (.int .i64 p) := by rw [← hW]; simp
  have e2 : W.cell? ⟨w.heap.size, 1, none⟩ = some (.int .i64 q) := by rw [← hW]; simp
  have HO1 := Lib.hid (show W.ownsRow base 24 2 (.slice (some ⟨g, 0, none⟩) (k + 1) cap) (k + 1) (flatP (m ++ [(x, y)])) by rw [← hW]; unfold OwnsP at ho; rw [hl] at ho; exact World.ownsRow.alloc ho _)
  have HB1 := Lib.hid (show Below base w W by rw [← hW]; exact (Below.refl _ _).alloc hbase _)
  have hsz : base ≤ W.heap.size := by rw [← hW]; simp; omega
  have hd : decide (p ≤ y) = false := decide_eq_false (by omega)
  replace hks := Lib.hid hks
  replace hl := Lib.hid hl
  replace hk := Lib.hid hk
  clear c0 c1 ho
  go_enter Try.func100, Try.ntmps100
  go_wp2
  replace hW := Lib.hid hW
  go_quiet (fail)
  generalize hW2 : W.drewN _ = W2
  have f1 : W2.cell? ⟨w.heap.size, 0, none⟩ = some (.int .i64 p) := by rw [← hW2]; exact e1
  have f2 : W2.cell? ⟨w.heap.size, 1, none⟩ = some (.int .i64 q) := by rw [← hW2]; exact e2
  have HO2 : W2.ownsRow base 24 2 (.slice (some ⟨g, 0, none⟩) (k + 1) cap) (k + 1) (flatP (m ++ [(x, y)])) := by rw [← hW2]; exact HO1.out
  have HB2 : Below base w W2 := by rw [← hW2]; exact below_drewN HB1.out _
  have hsz2 : base ≤ W2.heap.size := by rw [← hW2]; exact hsz
  replace hW2 := Lib.hid hW2
  go_wp2_with (at_builtin; refine wpList_append_own _ rfl _ _ 29 rfl base 24 i0 (.agg #[.int .i64 0, .int .i64 0]) 2 16 Try.underlying29 hi hz0 hz1 hz2 rfl (by decide) _ _ _ rfl (HO2.alloc _) ⟨W2.heap.size, 0, none⟩ 1 1 [.int .i64 p, .int .i64 q] rfl rfl ?c1 ?c2 ?c3 ?c4 ?c5 ?_)
  case c1 =>
    intro j u hj
    match j, hj with
    | 0, hj => simp at hj; subst hj; simp [Addr.add]
    | 1, hj => simp at hj; subst hj; simp [Addr.add]
  case c2 => intro u hu; simp at hu; rcases hu with rfl | rfl <;> rfl
  case c3 => unfold maxLen; omega
  case c4 => omega
  case c5 => simp; omega
  · intro v' w1 hown' hgrow _
    go_wp2
    go_ret
    exact ⟨_, rfl, by rw [HE.out]; exact OwnsP.snoc hl.out hown', (HB2.alloc hsz2 _).grown hgrow (by simp; omega) (fun k hk => (HO2.lt k hk).1)⟩

/-- extend, whatever the set. -/
theorem extend_any (v : Value) (base : Nat) (l : List Sp) (s : Sp) (w : World) (hlen : l.length ≤ 100000) (hbase : base ≤ w.heap.size) (ho : OwnsP 24 w base v l) :
    Calls Try.prog 100 #[v, .agg #[.int .i64 s.1, .int .i64 s.2]] w (ExtPost base l s w) := by
  rcases List.eq_nil_or_concat l with rfl | ⟨m, x, rfl⟩
  · obtain ⟨a, cap, rfl, _⟩ := ho.arg
    exact extend_new a cap base s w hbase ho
  · rw [List.concat_eq_append] at *
    obtain ⟨g, cap, hv, h1, h2, h3, h4⟩ := ho.form (by simp)
    obtain ⟨x, y⟩ := x
    have hl : (m ++ [(x, y)]).length = m.length + 1 := by simp
    rw [hl] at hv hlen
    subst hv
    by_cases hle : s.1 ≤ y
    · exact extend_join g m.length cap base m x y s w rfl (by omega) h1 h2 hbase hle ho
    · exact extend_more g m.length cap base m x y s w rfl (by omega) h2 hbase (by omega) ho
end Go.Proofs.Ytfnjadiibiedgaa
