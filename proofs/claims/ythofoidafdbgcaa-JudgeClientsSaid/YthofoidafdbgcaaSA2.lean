/-
  SpanD, SpanE, SpanF: one text.
-/
import Derived.Test.YthofoidafdbgcaaSA1
import Derived.RegionTactic
import Derived.IntWalk
/-
  CONTRACT of extend: a span behind the set, or joined to its last one, in a row of the call's own.
-/
namespace Go.Proofs.Ythofoidafdbgcaa
open Go.RowKit

theorem Try.infoSpan : (Try.prog.info? 40).map (fun i => (i.zero, i.size, i.bytes)) = some (some (.agg #[.int .i64 0, .int .i64 0]), 2, 16) := by kernel_rfl

theorem flatP_set (m : List Sp) (x y z : Int) : (flatP (m ++ [(x, y)])).set (m.length * 2 + 1) (.int .i64 z) = flatP (m ++ [(x, z)]) := by
  rw [flatP_append, flatP_append, List.set_append_right _ _ (by rw [flatP_length]; omega), flatP_length, show m.length * 2 + 1 - m.length * 2 = 1 from by omega]
  rfl
theorem OwnsP.last {t : TypeId} {w : World} {base g k cap : Nat} {m : List Sp} {x y : Int} (hk : m.length = k) (h : OwnsP t w base (.slice (some ⟨g, 0, none⟩) (k + 1) cap) (m ++ [(x, y)])) (z : Int) :
    OwnsP t (w.setCell ⟨g, k * 2 + 1, none⟩ (.int .i64 z)) base (.slice (some ⟨g, 0, none⟩) (k + 1) cap) (m ++ [(x, z)]) := by
  subst hk
  have hl : ∀ q, (m ++ [(x, q)]).length = m.length + 1 := fun q => by simp
  unfold OwnsP at h ⊢
  rw [hl] at h ⊢
  have := (World.ownsRow.stored h (m.length * 2 + 1) (.int .i64 z)).1
  rw [flatP_set] at this
  exact this
theorem OwnsP.form {t : TypeId} {w : World} {base : Nat} {v : Value} {l : List Sp} (h : OwnsP t w base v l) (hl : l ≠ []) : ∃ g cap, v = .slice (some ⟨g, 0, none⟩) l.length cap ∧ base ≤ g ∧ g < w.heap.size ∧ cap ≤ maxLen ∧ l.length ≤ cap := by
  obtain ⟨a, cap, hv, hc, hm, _, hn⟩ := h.arg
  obtain ⟨g, rfl, h1, h2⟩ := hn hl
  exact ⟨g, cap, hv, h1, h2, hm, hc⟩

def ExtPost (base : Nat) (l : List Sp) (s : Sp) (w : World) (e : Ending) (w' : World) : Prop :=
  ∃ v', e = .returned v' ∧ OwnsP 40 w' base v' (ext l s) ∧ Below base w w'

set_option maxRecDepth 100000 in
set_option maxHeartbeats 2000000 in
theorem extend_join (g k cap base : Nat) (m : List Sp) (x y : Int) (s : Sp) (w : World) (hk : m.length = k) (hlen : k ≤ 100000) (hb : base ≤ g) (hg : g < w.heap.size) (hbase : base ≤ w.heap.size)
    (hle : s.1 ≤ y) (ho : OwnsP 40 w base (.slice (some ⟨g, 0, none⟩) (k + 1) cap) (m ++ [(x, y)])) :
    Calls Try.prog 63 #[.slice (some ⟨g, 0, none⟩) (k + 1) cap, .agg #[.int .i64 s.1, .int .i64 s.2]] w (ExtPost base (m ++ [(x, y)]) s w) := by
  obtain ⟨p, q⟩ := s
  dsimp only at hle ⊢
  have HE := Lib.hid (show ext (m ++ [(x, y)]) (p, q) = m ++ [(x, max y q)] by rw [ext_snoc, if_pos hle])
  have hl : (m ++ [(x, y)]).length = k + 1 := by rw [List.length_append, hk]; rfl
  have hc : w.cell? ⟨g, k * 2, none⟩ = some (.int .i64 x) ∧ w.cell? ⟨g, k * 2 + 1, none⟩ = some (.int .i64 y) := by
    obtain ⟨a, cap', hv, _, _, hp, _⟩ := ho.arg
    rw [hl] at hv
    cases hv
    obtain ⟨b, off, ha, _, c0, c1⟩ := hp k (by omega)
    cases ha
    have : (m ++ [(x, y)]).getD k (0, 0) = (x, y) := by rw [← hk]; simp [List.getD]
    rw [this] at c0 c1
    rw [Nat.zero_add] at c0 c1
    exact ⟨c0, c1⟩
  obtain ⟨c0, c1⟩ := hc
  have hf : ∀ i, w.frozen? ⟨g, i, none⟩ = false := by
    unfold OwnsP at ho
    rw [hl] at ho
    exact fun i => World.ownsRow.frozenAt ho i
  have f1 := hf (k * 2 + 1)
  have HO := Lib.hid ho
  replace hk := Lib.hid hk
  clear hf ho hl
  have hpos : (0 : Int) < (k : Int) + 1 := by omega
  have hks : (k : Int) + 1 - 1 = k := by omega
  have hkw : IntKind.i64.wrap ((k : Int) + 1 - 1) = k := by rw [hks]; exact IntWalk.i64_in _ (by omega)
  obtain ⟨W, hW⟩ : ∃ W, w.alloc (.cells #[.int .i64 p, .int .i64 q] 40) = W := ⟨_, rfl⟩
  have e0 : W.cell? ⟨g, k * 2 + 1, none⟩ = some (.int .i64 y) := by rw [← hW]; exact (World.cell?_alloc_lt w _ ⟨g, k * 2 + 1, none⟩ hg).trans c1
  have e1 : W.cell? ⟨w.heap.size, 0, none⟩ = some (.int .i64 p) := by rw [← hW]; simp
  have e2 : W.cell? ⟨w.heap.size, 1, none⟩ = some (.int .i64 q) := by rw [← hW]; simp
  have e3 : W.frozen? ⟨g, k * 2 + 1, none⟩ = false := by rw [← hW]; exact (((Below.refl w.heap.size w).alloc (Nat.le_refl _) _).frozen (p := ⟨g, k * 2 + 1, none⟩) hg).trans f1
  have HO1 := Lib.hid ((show OwnsP 40 W base _ _ by rw [← hW]; exact World.ownsRow.alloc HO.out _).last hk.out)
  have HB1 := Lib.hid (show Below base w W by rw [← hW]; exact (Below.refl _ _).alloc hbase _)
  have hks := Lib.hid hks
  clear c0 c1
  go_enter Try.func63, Try.ntmps63
  go_wp2
  replace hW := Lib.hid hW
  go_quiet (fail)
  go_wp2
  go_region
  all_goals go_wp2
  all_goals
    go_ret
    refine ⟨_, rfl, ?_, (below_drewN HB1.out _).setCell hb _⟩
    rw [HE.out]
    first
      | (rw [show max y q = q by omega]; exact HO1.out q)
      | (rw [show max y q = y by omega]; exact HO1.out y)

theorem OwnsP.snoc {t : TypeId} {w : World} {base n : Nat} {v : Value} {l : List Sp} {p q : Int} (hn : l.length = n) (h : w.ownsRow base t 2 v (n + 1) (flatP l ++ [.int .i64 p, .int .i64 q])) : OwnsP t w base v (l ++ [(p, q)]) := by
  unfold OwnsP
  rw [List.length_append, hn, flatP_append]
  exact h

set_option maxRecDepth 100000 in
set_option maxHeartbeats 2000000 in
theorem extend_new (a : Option Addr) (cap base : Nat) (s : Sp) (w : World) (hbase : base ≤ w.heap.size) (ho : OwnsP 40 w base (.slice a 0 cap) []) :
    Calls Try.prog 63 #[.slice a 0 cap, .agg #[.int .i64 s.1, .int .i64 s.2]] w (ExtPost base [] s w) := by
  obtain ⟨i0, hi, hz0, hz1, hz2⟩ := info_parts Try.infoSpan
  obtain ⟨p, q⟩ := s
  dsimp only
  obtain ⟨W, hW⟩ : ∃ W, w.alloc (.cells #[.int .i64 p, .int .i64 q] 40) = W := ⟨_, rfl⟩
  have e1 : W.cell? ⟨w.heap.size, 0, none⟩ = some (.int .i64 p) := by rw [← hW]; simp
  have e2 : W.cell? ⟨w.heap.size, 1, none⟩ = some (.int .i64 q) := by rw [← hW]; simp
  have HO1 : W.ownsRow base 40 2 (.slice a 0 cap) 0 [] := by rw [← hW]; exact World.ownsRow.alloc ho _
  have HB1 := Lib.hid (show Below base w W by rw [← hW]; exact (Below.refl _ _).alloc hbase _)
  have hsz : base ≤ W.heap.size := by rw [← hW]; simp; omega
  go_enter Try.func63, Try.ntmps63
  go_wp2
  replace hW := Lib.hid hW
  go_quiet (fail)
  generalize hW2 : W.drewN _ = W2
  have f1 : W2.cell? ⟨w.heap.size, 0, none⟩ = some (.int .i64 p) := by rw [← hW2]; exact e1
  have f2 : W2.cell? ⟨w.heap.size, 1, none⟩ = some (.int .i64 q) := by rw [← hW2]; exact e2
  have HO2 : W2.ownsRow base 40 2 (.slice a 0 cap) 0 [] := by rw [← hW2]; exact HO1
  have HB2 : Below base w W2 := by rw [← hW2]; exact below_drewN HB1.out _
  have hsz2 : base ≤ W2.heap.size := by rw [← hW2]; exact hsz
  replace hW2 := Lib.hid hW2
  go_wp2_with (at_builtin; refine wpList_append_own _ rfl _ _ 23 rfl base 40 i0 (.agg #[.int .i64 0, .int .i64 0]) 2 16 Try.underlying23 hi hz0 hz1 hz2 rfl (by decide) _ _ _ rfl (HO2.alloc _) ⟨W2.heap.size, 0, none⟩ 1 1 [.int .i64 p, .int .i64 q] rfl rfl ?c1 ?c2 ?c3 ?c4 ?c5 ?_)
  case c1 =>
    intro j u hj
    match j, hj with
    | 0, hj => simp at hj; subst hj; simp [Addr.add]
    | 1, hj => simp at hj; subst hj; simp [Addr.add]
  case c2 => intro u hu; simp at hu; rcases hu with rfl | rfl <;> rfl
  case c3 => unfold maxLen; omega
  case c4 => omega
  case c5 => simp; omega
  · intro v' w1 hown' hgrow _
    go_wp2
    go_ret
    exact ⟨_, rfl, OwnsP.snoc (l := []) rfl hown', (HB2.alloc hsz2 _).grown hgrow (by simp; omega) (fun k hk => (HO2.lt k hk).1)⟩

set_option maxRecDepth 100000 in
set_option maxHeartbeats 2000000 in
theorem extend_more (g k cap base : Nat) (m : List Sp) (x y : Int) (s : Sp) (w : World) (hk : m.length = k) (hlen : k ≤ 100000) (hg : g < w.heap.size) (hbase : base ≤ w.heap.size)
    (hle : y < s.1) (ho : OwnsP 40 w base (.slice (some ⟨g, 0, none⟩) (k + 1) cap) (m ++ [(x, y)])) :
    Calls Try.prog 63 #[.slice (some ⟨g, 0, none⟩) (k + 1) cap, .agg #[.int .i64 s.1, .int .i64 s.2]] w (ExtPost base (m ++ [(x, y)]) s w) := by
  obtain ⟨i0, hi, hz0, hz1, hz2⟩ := info_parts Try.infoSpan
  obtain ⟨p, q⟩ := s
  dsimp only at hle ⊢
  have HE := Lib.hid (show ext (m ++ [(x, y)]) (p, q) = m ++ [(x, y)] ++ [(p, q)] by rw [ext_snoc, if_neg (by dsimp only; omega)])
  have hl : (m ++ [(x, y)]).length = k + 1 := by rw [List.length_append, hk]; rfl
  have hc : w.cell? ⟨g, k * 2, none⟩ = some (.int .i64 x) ∧ w.cell? ⟨g, k * 2 + 1, none⟩ = some (.int .i64 y) := by
    obtain ⟨a, cap', hv, _, _, hp, _⟩ := ho.arg
    rw [hl] at hv
    cases hv
    obtain ⟨b, off, ha, _, c0, c1⟩ := hp k (by omega)
    cases ha
    have : (m ++ [(x, y)]).getD k (0, 0) = (x, y) := by rw [← hk]; simp [List.getD]
    rw [this] at c0 c1
    rw [Nat.zero_add] at c0 c1
    exact ⟨c0, c1⟩
  obtain ⟨c0, c1⟩ := hc
  have hpos : (0 : Int) < (k : Int) + 1 := by omega
  have hks : (k : Int) + 1 - 1 = k := by omega
  have hkw : IntKind.i64.wrap ((k : Int) + 1 - 1) = k := by rw [hks]; exact IntWalk.i64_in _ (by omega)
  obtain ⟨W, hW⟩ : ∃ W, w.alloc (.cells #[.int .i64 p, .int .i64 q] 40) = W := ⟨_, rfl⟩
  have e0 : W.cell? ⟨g, k * 2 + 1, none⟩ = some (.int .i64 y) := by rw [← hW]; exact (World.cell?_alloc_lt w _ ⟨g, k * 2 + 1, none⟩ hg).trans c1
  have e1 : W.cell? ⟨w.heap.size, 0, none⟩ = some (.int .i64 p) := by rw [← hW]; simp
  have e2 : W.cell? ⟨w.heap.size, 1, none⟩ = some (.int .i64 q) := by rw [← hW]; simp
  have HO1 := Lib.hid (show W.ownsRow base 40 2 (.slice (some ⟨g, 0, none⟩) (k + 1) cap) (k + 1) (flatP (m ++ [(x, y)])) by rw [← hW]; unfold OwnsP at ho; rw [hl] at ho; exact World.ownsRow.alloc ho _)
  have HB1 := Lib.hid (show Below base w W by rw [← hW]; exact (Below.refl _ _).alloc hbase _)
  have hsz : base ≤ W.heap.size := by rw [← hW]; simp; omega
  have hd : decide (p ≤ y) = false := decide_eq_false (by omega)
  replace hks := Lib.hid hks
  replace hl := Lib.hid hl
  replace hk := Lib.hid hk
  clear c0 c1 ho
  go_enter Try.func63, Try.ntmps63
  go_wp2
  replace hW := Lib.hid hW
  go_quiet (fail)
  generalize hW2 : W.drewN _ = W2
  have f1 : W2.cell? ⟨w.heap.size, 0, none⟩ = some (.int .i64 p) := by rw [← hW2]; exact e1
  have f2 : W2.cell? ⟨w.heap.size, 1, none⟩ = some (.int .i64 q) := by rw [← hW2]; exact e2
  have HO2 : W2.ownsRow base 40 2 (.slice (some ⟨g, 0, none⟩) (k + 1) cap) (k + 1) (flatP (m ++ [(x, y)])) := by rw [← hW2]; exact HO1.out
  have HB2 : Below base w W2 := by rw [← hW2]; exact below_drewN HB1.out _
  have hsz2 : base ≤ W2.heap.size := by rw [← hW2]; exact hsz
  replace hW2 := Lib.hid hW2
  go_wp2_with (at_builtin; refine wpList_append_own _ rfl _ _ 23 rfl base 40 i0 (.agg #[.int .i64 0, .int .i64 0]) 2 16 Try.underlying23 hi hz0 hz1 hz2 rfl (by decide) _ _ _ rfl (HO2.alloc _) ⟨W2.heap.size, 0, none⟩ 1 1 [.int .i64 p, .int .i64 q] rfl rfl ?c1 ?c2 ?c3 ?c4 ?c5 ?_)
  case c1 =>
    intro j u hj
    match j, hj with
    | 0, hj => simp at hj; subst hj; simp [Addr.add]
    | 1, hj => simp at hj; subst hj; simp [Addr.add]
  case c2 => intro u hu; simp at hu; rcases hu with rfl | rfl <;> rfl
  case c3 => unfold maxLen; omega
  case c4 => omega
  case c5 => simp; omega
  · intro v' w1 hown' hgrow _
    go_wp2
    go_ret
    exact ⟨_, rfl, by rw [HE.out]; exact OwnsP.snoc hl.out hown', (HB2.alloc hsz2 _).grown hgrow (by simp; omega) (fun k hk => (HO2.lt k hk).1)⟩

/-- extend, whatever the set. -/
theorem extend_any (v : Value) (base : Nat) (l : List Sp) (s : Sp) (w : World) (hlen : l.length ≤ 100000) (hbase : base ≤ w.heap.size) (ho : OwnsP 40 w base v l) :
    Calls Try.prog 63 #[v, .agg #[.int .i64 s.1, .int .i64 s.2]] w (ExtPost base l s w) := by
  rcases List.eq_nil_or_concat l with rfl | ⟨m, x, rfl⟩
  · obtain ⟨a, cap, rfl, _⟩ := ho.arg
    exact extend_new a cap base s w hbase ho
  · rw [List.concat_eq_append] at *
    obtain ⟨g, cap, hv, h1, h2, h3, h4⟩ := ho.form (by simp)
    obtain ⟨x, y⟩ := x
    have hl : (m ++ [(x, y)]).length = m.length + 1 := by simp
    rw [hl] at hv hlen
    subst hv
    by_cases hle : s.1 ≤ y
    · exact extend_join g m.length cap base m x y s w rfl (by omega) h1 h2 hbase hle ho
    · exact extend_more g m.length cap base m x y s w rfl (by omega) h2 hbase (by omega) ho
end Go.Proofs.Ythofoidafdbgcaa


/-
  CONTRACTS of combine and its closure; Join, Meet, Less, Touch.
-/
namespace Go.Proofs.Ythofoidafdbgcaa
open Go.RowKit Go.Shelf

/-- A test that is handed to combine. -/
def Keeps (gk : Nat) (f : Bool → Bool → Bool) : Prop :=
  ∀ (x y : Bool) (w : World), Calls Try.prog gk #[.bool x, .bool y] w fun e w' => e = .returned (.bool (f x y)) ∧ w = w'
theorem meet1 : Keeps 99 (fun x y => x && y) := fun x y w => by
  cases x <;> cases y
  all_goals
    go_enter Try.func99, Try.ntmps99
    go_wp2
    go_ret
    exact ⟨rfl, rfl⟩
theorem less1 : Keeps 41 (fun x y => x && !y) := fun x y w => by
  cases x <;> cases y
  all_goals
    go_enter Try.func41, Try.ntmps41
    go_wp2
    go_ret
    exact ⟨rfl, rfl⟩

/-- The set as combine has built it, below the key lo. -/
def Built (A B : List Sp) (f : Bool → Bool → Bool) (lo : Int) (l : List Sp) : Prop :=
  canB (-1) l = true ∧ loOf l ≤ lo ∧ ∀ j, hasB l j = (decide (0 ≤ j ∧ j < lo) && f (hasB A j) (hasB B j))
theorem Built.start (A B : List Sp) (f : Bool → Bool → Bool) : Built A B f 0 [] := ⟨rfl, Int.le_refl _, fun j => by rw [hasB_nil, decide_eq_false (by omega)]; rfl⟩
theorem Built.skip {A B l : List Sp} {f : Bool → Bool → Bool} {lo hi : Int} {x y : Bool} (h : Built A B f lo l) (h1 : lo < hi) (hs : ∀ j, lo ≤ j → j < hi → hasB A j = x ∧ hasB B j = y) (hf : f x y = false) : Built A B f hi l := by
  refine ⟨h.1, by have := h.2.1; omega, fun j => ?_⟩
  rw [h.2.2 j]
  by_cases hj : lo ≤ j ∧ j < hi
  · obtain ⟨e1, e2⟩ := hs j hj.1 hj.2
    rw [e1, e2, hf, Bool.and_false, Bool.and_false]
  · rw [show decide (0 ≤ j ∧ j < lo) = decide (0 ≤ j ∧ j < hi) from decide_eq_decide.2 (by omega)]
theorem Built.add {A B l : List Sp} {f : Bool → Bool → Bool} {lo hi : Int} {x y : Bool} (h : Built A B f lo l) (h0 : 0 ≤ lo) (h1 : lo < hi) (h2 : hi ≤ 4096) (hs : ∀ j, lo ≤ j → j < hi → hasB A j = x ∧ hasB B j = y) (hf : f x y = true) : Built A B f hi (ext l (lo, hi)) := by
  obtain ⟨e1, e2, e3⟩ := ext_can (s := (lo, hi)) h.1 ((oneB_iff _).2 ⟨h0, h1, h2⟩) h.2.1
  refine ⟨e1, by dsimp only at e3; omega, fun j => ?_⟩
  rw [e2, h.2.2 j]
  by_cases hj : lo ≤ j ∧ j < hi
  · obtain ⟨g1, g2⟩ := hs j hj.1 hj.2
    rw [g1, g2, hf, (inB_iff (lo, hi) j).2 (by dsimp only; omega), Bool.or_true, decide_eq_true (by omega)]; rfl
  · have : inB (lo, hi) j = false := by
      cases hi' : inB (lo, hi) j
      · rfl
      · rw [inB_iff] at hi'; dsimp only at hi'; omega
    rw [this, Bool.or_false, show decide (0 ≤ j ∧ j < lo) = decide (0 ≤ j ∧ j < hi) from decide_eq_decide.2 (by omega)]
theorem Built.len {A B l : List Sp} {f : Bool → Bool → Bool} {lo : Int} (h : Built A B f lo l) : l.length ≤ 4097 := by
  by_cases hl : l = []
  · subst hl; simp
  · have := canB_len l _ h.1 hl; omega
theorem Built.len' {A B l : List Sp} {f : Bool → Bool → Bool} {lo : Int} (h : Built A B f lo l) : l.length ≤ 5000 := by have := h.len; omega
theorem Built.done {A B l : List Sp} {f : Bool → Bool → Bool} {lo : Int} (h : Built A B f lo l) (hf : f false false = false) (hd : ∀ j, lo ≤ j → hasB A j = false ∧ hasB B j = false) : l = setOf fun j => f (hasB A j) (hasB B j) :=
  setOf_eq h.1 fun j h0 _ => by
    rw [h.2.2 j]
    by_cases hj : j < lo
    · rw [decide_eq_true ⟨h0, hj⟩, Bool.true_and]
    · obtain ⟨e1, e2⟩ := hd j (by omega)
      rw [e1, e2, hf, Bool.and_false]

/-- The worlds between combine's visits: the set in its box, the test in its own. -/
def CInv (A B : List Sp) (f : Bool → Bool → Bool) (gk bk bs base : Nat) (w0 : World) (lo : Int) (W : World) : Prop :=
  ∃ a cap l, OwnsP 40 W base (.slice a l.length cap) l ∧ W.cell? ⟨bs, 0, none⟩ = some (.slice a l.length cap) ∧ W.frozen? ⟨bs, 0, none⟩ = false ∧ W.cell? ⟨bk, 0, none⟩ = some (.func (.func gk) #[] #[]) ∧
    Built A B f lo l ∧ Below w0.heap.size w0 W ∧ base ≤ W.heap.size

set_option maxRecDepth 100000 in
set_option maxHeartbeats 2000000 in
theorem combine1 (A B : List Sp) (f : Bool → Bool → Bool) (gk bk bs base : Nat) (w0 : World) (eg : ∀ args w, (callFunc gk args).run Try.prog w = .ok (.enter gk args) w) (hk : Keeps gk f)
    (k1 : w0.heap.size ≤ bk) (k2 : w0.heap.size ≤ bs) (k3 : bk < base) (k4 : bs < base) (k5 : bk ≠ bs) :
    Vis 62 #[.pointer (some ⟨bk, 0, none⟩), .pointer (some ⟨bs, 0, none⟩)] A B w0.heap.size (CInv A B f gk bk bs base w0) (fun _ => False) := by
  intro W lo hi x y h0 h1 h2 hs ⟨a, cap, l, ho, cs, fs, ck, hb, hbl, hsz⟩
  have HK := fun w => hk x y w
  have hlen := hb.len
  have hbW : W.heap.size ≤ (W.alloc (.cells #[.int .i64 lo, .int .i64 hi] 40)).heap.size := by simp
  have hbs : bs < W.heap.size := World.block_lt_of_cell? _ _ cs
  have hbk : bk < W.heap.size := World.block_lt_of_cell? _ _ ck
  obtain ⟨W1, hW1⟩ : ∃ W1, W.alloc (.cells #[.int .i64 lo, .int .i64 hi] 40) = W1 := ⟨_, rfl⟩
  have cs1 : W1.cell? ⟨bs, 0, none⟩ = some (.slice a l.length cap) := by rw [← hW1]; exact (World.cell?_alloc_lt W _ ⟨bs, 0, none⟩ hbs).trans cs
  have ck1 : W1.cell? ⟨bk, 0, none⟩ = some (.func (.func gk) #[] #[]) := by rw [← hW1]; exact (World.cell?_alloc_lt W _ ⟨bk, 0, none⟩ hbk).trans ck
  have fs1 : W1.frozen? ⟨bs, 0, none⟩ = false := by rw [← hW1]; exact (((Below.refl W.heap.size W).alloc (Nat.le_refl _) _).frozen (p := ⟨bs, 0, none⟩) hbs).trans fs
  have c0 : W1.cell? ⟨W.heap.size, 0, none⟩ = some (.int .i64 lo) := by rw [← hW1]; simp
  have c1 : W1.cell? ⟨W.heap.size, 1, none⟩ = some (.int .i64 hi) := by rw [← hW1]; simp
  have ho1 : OwnsP 40 W1 base (.slice a l.length cap) l := by rw [← hW1]; exact World.ownsRow.alloc ho _
  have hbl1 : Below w0.heap.size w0 W1 := by rw [← hW1]; exact hbl.alloc hbl.size _
  have hbW1 : Below w0.heap.size W W1 := by rw [← hW1]; exact (Below.refl _ _).alloc hbl.size _
  have hsz1 : base ≤ W1.heap.size := by rw [← hW1]; simp; omega
  have EX := fun s => extend_any (.slice a l.length cap) base l s W1 (by omega) hsz1 ho1
  obtain ⟨n, hn⟩ : ∃ n, l.length = n := ⟨_, rfl⟩
  rw [hn] at cs1 EX ho1 hlen
  replace hn := Lib.hid hn
  replace EX := Lib.hid EX
  replace ho1 := Lib.hid ho1
  replace hb := Lib.hid hb
  replace hs := Lib.hid hs
  clear ho cs fs ck
  cases hxy : f x y
  · simp only [hxy] at HK
    replace hxy := Lib.hid hxy
    replace HK := Lib.hid HK
    go_enter Try.func62, Try.ntmps62
    go_wp2_with (go_at_fn gk; (with_reducible refine (HK.out _).mono ?_); rintro e w' ⟨rfl, rfl⟩)
    go_ret
    refine ⟨true, rfl, ⟨fun _ => ⟨a, cap, l, by rw [hn.out]; exact ho1.out, by rw [hn.out]; exact cs1, fs1, ck1, hb.out.skip h1 hs.out hxy.out, hbl1, hsz1⟩, fun h => by cases h⟩, hbW1⟩
  · simp only [hxy] at HK
    replace hxy := Lib.hid hxy
    replace HK := Lib.hid HK
    go_enter Try.func62, Try.ntmps62
    go_wp2_with (first | (go_at_fn gk; (with_reducible refine (HK.out _).mono ?_); rintro e w' ⟨rfl, rfl⟩) | (go_at_call 63; refine (EX.out (lo, hi)).mono ?_; rintro e w2 ⟨v2, rfl, ho2, hb2⟩; obtain ⟨a2, cap2, rfl, hcap2, hmax2, hp2, hform⟩ := ho2.arg; have cs2 := (hb2.cell (p := ⟨bs, 0, none⟩) k4).trans cs1; have fs2 := (hb2.frozen (p := ⟨bs, 0, none⟩) k4).trans fs1; have ck2 := (hb2.cell (p := ⟨bk, 0, none⟩) k3).trans ck1))
    go_ret
    refine ⟨true, rfl, ⟨fun _ => ⟨a2, cap2, ext l (lo, hi), ?_, ?_, ?_, ?_, hb.out.add h0 h1 h2 hs.out hxy.out, ?_, ?_⟩, fun h => by cases h⟩, ?_⟩
    · exact ownsRow_setCell_below ho2 (a := ⟨bs, 0, none⟩) k4 _
    · exact World.cell?_setCell_same _ _ _ cs2
    · rw [World.frozen?_setCell]; exact fs2
    · exact (World.cell?_setCell_other _ _ ⟨bk, 0, none⟩ _ (fun e => k5 (by cases e; rfl))).trans ck2
    · exact (hbl1.trans (hb2.mono (by omega))).setCell k2 _
    · exact Nat.le_trans (Nat.le_trans hsz1 hb2.size) ((Below.refl 0 w2).setCell (Nat.zero_le _) _).size
    · exact (hbW1.trans (hb2.mono (by omega))).setCell k2 _

def limP (L : List Sp) : List Sp × Int := if L.length ≤ 64 then (L, 0) else ([], 2)
def mixP (f : Bool → Bool → Bool) (A B : List Sp) : List Sp × Int := if chkB A = true ∧ chkB B = true then limP (setOf fun j => f (hasB A j) (hasB B j)) else ([], 1)
/-- A set, and its error. -/
def SetPost (w : World) (r : List Sp × Int) (e : Ending) (w' : World) : Prop :=
  ∃ a cap, e = .returned (.tuple #[.slice a r.1.length cap, .int .i64 r.2]) ∧ r.1.length ≤ cap ∧ cap ≤ maxLen ∧ PIn w' w'.heap.size a r.1 ∧ Below w.heap.size w w'
theorem SetPost.nil {w w' : World} {x : Int} (hb : Below w.heap.size w w') : SetPost w ([], x) (.returned (.tuple #[.slice none 0 0, .int .i64 x])) w' := ⟨none, 0, rfl, Nat.le_refl _, Nat.zero_le _, PIn.nil _ _ _, hb⟩

theorem limit_yes (a : Option Addr) (n cap : Nat) (w : World) (h : n ≤ 64) : Calls Try.prog 64 #[.slice a n cap] w fun e w' => e = .returned (.tuple #[.slice a n cap, .int .i64 0]) ∧ w = w' :=
  (limit_any a n cap w (by omega)).mono fun _ _ ⟨he, hw⟩ => ⟨by rw [he, if_pos h], hw⟩
theorem limit_no (a : Option Addr) (n cap : Nat) (w : World) (h : ¬ n ≤ 64) (hz : n ≤ 5000) : Calls Try.prog 64 #[.slice a n cap] w fun e w' => e = .returned (.tuple #[.slice none 0 0, .int .i64 2]) ∧ w = w' :=
  (limit_any a n cap w (by omega)).mono fun _ _ ⟨he, hw⟩ => ⟨by rw [he, if_neg h], hw⟩

theorem combine_call (gk : Nat) (f : Bool → Bool → Bool) (eg : ∀ args w, (callFunc gk args).run Try.prog w = .ok (.enter gk args) w) (hk : Keeps gk f)
    (A B : List Sp) (aA aB : Option Addr) (cA cB : Nat) (w w3 : World) (kA : A.length ≤ cA) (kB : B.length ≤ cB) (mA : cA ≤ maxLen) (mB : cB ≤ maxLen)
    (pA : PIn w w.heap.size aA A) (pB : PIn w w.heap.size aB B) (hA : chkB A = true) (hB : chkB B = true) (b13 : Below w.heap.size w w3) (hlt : w.heap.size < w3.heap.size) (k3 : w3.cell? ⟨w.heap.size, 0, none⟩ = some (.func (.func gk) #[] #[])) :
    Calls Try.prog 61 #[.slice aA A.length cA, .slice aB B.length cB, .func (.func 62) #[] #[.pointer (some ⟨w.heap.size, 0, none⟩), .pointer (some ⟨w3.heap.size, 0, none⟩)]] (w3.alloc (.cells #[.slice none 0 0] 23))
      (PcPost A B (CInv A B f gk w.heap.size w3.heap.size (w3.heap.size + 1) w) (fun _ => False)) := by
  have b4 : Below w.heap.size w (w3.alloc (.cells #[.slice none 0 0] 23)) := b13.alloc b13.size _
  refine pieces_any _ _ A B aA aB cA cB w.heap.size _ _ _ (enters_of Try.func62 (by kernel_rfl) rfl) (chkB_can hA).1 (chkB_can hB).1 kA kB mA mB (pA.below b4) (pB.below b4)
    (combine1 A B f gk w.heap.size w3.heap.size (w3.heap.size + 1) w eg hk (Nat.le_refl _) b13.size (by omega) (by omega) (by omega)) ?_
  refine ⟨none, 0, [], OwnsP.nil _ _ _, by simp, by simp, ?_, Built.start _ _ _, b4, by simp⟩
  exact (World.cell?_alloc_lt w3 _ ⟨w.heap.size, 0, none⟩ hlt).trans k3

set_option maxRecDepth 100000 in
set_option maxHeartbeats 2000000 in
theorem combine_ok (gk : Nat) (f : Bool → Bool → Bool) (eg : ∀ args w, (callFunc gk args).run Try.prog w = .ok (.enter gk args) w) (hk : Keeps gk f) (hf : f false false = false)
    (A B : List Sp) (aA aB : Option Addr) (cA cB : Nat) (w : World) (zA : (A.length : Int) ≤ 9223372036854775807) (zB : (B.length : Int) ≤ 9223372036854775807) (kA : A.length ≤ cA) (kB : B.length ≤ cB) (mA : cA ≤ maxLen) (mB : cB ≤ maxLen)
    (pA : PIn w w.heap.size aA A) (pB : PIn w w.heap.size aB B) (hA : chkB A = true) (hB : chkB B = true) :
    Calls Try.prog 40 #[.slice aA A.length cA, .slice aB B.length cB, .func (.func gk) #[] #[]] w (SetPost w (limP (setOf fun j => f (hasB A j) (hasB B j)))) := by
  have HA := Lib.hid hA
  have HB := Lib.hid hB
  have HPA := Lib.hid pA
  have HPB := Lib.hid pB
  have HK := Lib.hid hk
  have HF := Lib.hid hf
  have HE := Lib.hid eg
  obtain ⟨W1, hW1⟩ : ∃ W1, w.alloc (.cells #[.func (.func gk) #[] #[]] 94) = W1 := ⟨_, rfl⟩
  have b1 : Below w.heap.size w W1 := by rw [← hW1]; exact (Below.refl _ _).alloc (Nat.le_refl _) _
  have s1 : w.heap.size < W1.heap.size := by rw [← hW1]; simp
  have k1 : W1.cell? ⟨w.heap.size, 0, none⟩ = some (.func (.func gk) #[] #[]) := by rw [← hW1]; simp
  replace k1 := Lib.hid k1
  clear hA hB pA pB hk hf eg
  obtain ⟨S, hS⟩ : ∃ S, (setOf fun j => f (hasB A j) (hasB B j)) = S := ⟨_, rfl⟩
  rw [hS]
  have HS := Lib.hid hS
  clear hS
  by_cases hL : S.length ≤ 64
  · rw [show limP S = (S, 0) from if_pos hL]
    go_enter Try.func40, Try.ntmps40
    go_wp2_with (first | (go_at_call 31; (with_reducible refine (check_any aA cA A _ zA (HPA.out.belowMore b1)).mono ?_); rw [HA.out]; rintro e w2 ⟨rfl, b2⟩; have b12 := below_next b1 b2) | (go_at_call 31; (with_reducible refine (check_any aB cB B _ zB (HPB.out.belowMore b12)).mono ?_); rw [HB.out]; rintro e w3 ⟨rfl, b3⟩; have b13 := below_next b12 b3; have k3 := Lib.hid ((b3.cell (p := ⟨w.heap.size, 0, none⟩) (Nat.lt_of_lt_of_le s1 b2.size)).trans ((b2.cell (p := ⟨w.heap.size, 0, none⟩) s1).trans k1.out)); have s3 := Nat.lt_of_lt_of_le s1 (Nat.le_trans b2.size b3.size)) | (go_at_call 61; refine (combine_call gk f HE.out HK.out A B aA aB cA cB w w3 kA kB mA mB HPA.out HPB.out HA.out HB.out b13 s3 k3.out).mono ?_; rintro e w4 ⟨rfl, hF⟩; obtain ⟨lo, ⟨a4, c4, l4, o4, cs4, fs4, ck4, bt4, bl4, sz4⟩, hd4⟩ := hF.resolve_left id; have hl4 := (bt4.done HF.out hd4).trans HS.out; subst hl4; replace hL := Lib.hid hL) | (go_at_call 64; refine (limit_yes _ _ _ _ hL.out).mono ?_; rintro e w5 ⟨rfl, rfl⟩))
    go_ret2
    obtain ⟨a', c', hv, h1, h2, h3, _⟩ := o4.arg
    cases hv
    exact ⟨_, _, rfl, h1, h2, h3, bl4⟩
  · rw [show limP S = ([], 2) from if_neg hL]
    go_enter Try.func40, Try.ntmps40
    go_wp2_with (first | (go_at_call 31; (with_reducible refine (check_any aA cA A _ zA (HPA.out.belowMore b1)).mono ?_); rw [HA.out]; rintro e w2 ⟨rfl, b2⟩; have b12 := below_next b1 b2) | (go_at_call 31; (with_reducible refine (check_any aB cB B _ zB (HPB.out.belowMore b12)).mono ?_); rw [HB.out]; rintro e w3 ⟨rfl, b3⟩; have b13 := below_next b12 b3; have k3 := Lib.hid ((b3.cell (p := ⟨w.heap.size, 0, none⟩) (Nat.lt_of_lt_of_le s1 b2.size)).trans ((b2.cell (p := ⟨w.heap.size, 0, none⟩) s1).trans k1.out)); have s3 := Nat.lt_of_lt_of_le s1 (Nat.le_trans b2.size b3.size)) | (go_at_call 61; refine (combine_call gk f HE.out HK.out A B aA aB cA cB w w3 kA kB mA mB HPA.out HPB.out HA.out HB.out b13 s3 k3.out).mono ?_; rintro e w4 ⟨rfl, hF⟩; obtain ⟨lo, ⟨a4, c4, l4, o4, cs4, fs4, ck4, bt4, bl4, sz4⟩, hd4⟩ := hF.resolve_left id; have hl4 := (bt4.done HF.out hd4).trans HS.out; subst hl4; replace hL := Lib.hid hL) | (go_at_call 64; refine (limit_no _ _ _ _ hL.out bt4.len').mono ?_; rintro e w5 ⟨rfl, rfl⟩))
    go_ret2
    exact SetPost.nil bl4
end Go.Proofs.Ythofoidafdbgcaa


/-
  CONTRACTS of Join, Meet, Less; of Touch and its closure.
-/
namespace Go.Proofs.Ythofoidafdbgcaa
open Go.RowKit Go.Shelf

set_option maxRecDepth 100000 in
set_option maxHeartbeats 1000000 in
theorem combine_bad (gk : Nat) (A B : List Sp) (aA aB : Option Addr) (cA cB : Nat) (w : World) (zA : (A.length : Int) ≤ 9223372036854775807) (zB : (B.length : Int) ≤ 9223372036854775807)
    (pA : PIn w w.heap.size aA A) (pB : PIn w w.heap.size aB B) (hbad : chkB A = false ∨ (chkB A = true ∧ chkB B = false)) :
    Calls Try.prog 40 #[.slice aA A.length cA, .slice aB B.length cB, .func (.func gk) #[] #[]] w (SetPost w ([], 1)) := by
  have HPA := Lib.hid pA
  have HPB := Lib.hid pB
  obtain ⟨W1, hW1⟩ : ∃ W1, w.alloc (.cells #[.func (.func gk) #[] #[]] 94) = W1 := ⟨_, rfl⟩
  have b1 : Below w.heap.size w W1 := by rw [← hW1]; exact (Below.refl _ _).alloc (Nat.le_refl _) _
  clear pA pB
  rcases hbad with hA | ⟨hA, hB⟩
  · replace hA := Lib.hid hA
    go_enter Try.func40, Try.ntmps40
    go_wp2_with (first | (go_at_call 31; (with_reducible refine (check_any aA cA A _ zA (HPA.out.belowMore b1)).mono ?_); rw [hA.out]; rintro e w2 ⟨rfl, b2⟩; have b12 := below_next b1 b2))
    go_ret2
    exact SetPost.nil b12
  · replace hA := Lib.hid hA
    replace hB := Lib.hid hB
    go_enter Try.func40, Try.ntmps40
    go_wp2_with (first | (go_at_call 31; (with_reducible refine (check_any aA cA A _ zA (HPA.out.belowMore b1)).mono ?_); rw [hA.out]; rintro e w2 ⟨rfl, b2⟩; have b12 := below_next b1 b2) | (go_at_call 31; (with_reducible refine (check_any aB cB B _ zB (HPB.out.belowMore b12)).mono ?_); rw [hB.out]; rintro e w3 ⟨rfl, b3⟩; have b13 := below_next b12 b3))
    go_ret2
    exact SetPost.nil b13

/-- A slice of spans that a call may be given. -/
def Arg (w : World) (a : Option Addr) (n c : Nat) (l : List Sp) : Prop := n = l.length ∧ (l.length : Int) ≤ 9223372036854775807 ∧ l.length ≤ c ∧ c ≤ maxLen ∧ PIn w w.heap.size a l
theorem Arg.below {w w' : World} {a : Option Addr} {n c : Nat} {l : List Sp} (h : Arg w a n c l) (hb : Below w.heap.size w w') : Arg w' a n c l := ⟨h.1, h.2.1, h.2.2.1, h.2.2.2.1, h.2.2.2.2.belowMore hb⟩
/-- A set that was given, and its error, as arguments show it. -/
def SetArg (w : World) (r : List Sp × Int) (e : Ending) (w' : World) : Prop := ∃ a n c, e = .returned (.tuple #[.slice a n c, .int .i64 r.2]) ∧ Arg w' a n c r.1 ∧ Below w.heap.size w w'
theorem SetPost.arg {w w' : World} {r : List Sp × Int} {e : Ending} (h : SetPost w r e w') : SetArg w r e w' := by
  obtain ⟨a, c, he, h1, h2, h3, h4⟩ := h
  exact ⟨a, _, c, he, ⟨rfl, by unfold maxLen at h2; omega, h1, h2, h3⟩, h4⟩

theorem combine_any (gk : Nat) (f : Bool → Bool → Bool) (eg : ∀ args w, (callFunc gk args).run Try.prog w = .ok (.enter gk args) w) (hk : Keeps gk f) (hf : f false false = false)
    (A B : List Sp) (aA aB : Option Addr) (nA nB cA cB : Nat) (w : World) (hA : Arg w aA nA cA A) (hB : Arg w aB nB cB B) :
    Calls Try.prog 40 #[.slice aA nA cA, .slice aB nB cB, .func (.func gk) #[] #[]] w (SetArg w (mixP f A B)) := by
  obtain ⟨rfl, zA, kA, mA, pA⟩ := hA
  obtain ⟨rfl, zB, kB, mB, pB⟩ := hB
  refine Calls.mono ?_ fun _ _ h => SetPost.arg h
  cases hA : chkB A
  · rw [show mixP f A B = ([], 1) from if_neg (by rw [hA]; simp)]
    exact combine_bad gk A B aA aB cA cB w zA zB pA pB (.inl hA)
  · cases hB : chkB B
    · rw [show mixP f A B = ([], 1) from if_neg (by rw [hB]; simp)]
      exact combine_bad gk A B aA aB cA cB w zA zB pA pB (.inr ⟨hA, hB⟩)
    · rw [show mixP f A B = limP (setOf fun j => f (hasB A j) (hasB B j)) from if_pos ⟨hA, hB⟩]
      exact combine_ok gk f eg hk hf A B aA aB cA cB w zA zB kA kB mA mB pA pB hA hB

def joinP (A B : List Sp) : List Sp × Int := mixP (fun x y => x || y) A B
def meetP (A B : List Sp) : List Sp × Int := mixP (fun x y => x && y) A B
def lessP (A B : List Sp) : List Sp × Int := mixP (fun x y => x && !y) A B

theorem meet_any (A B : List Sp) (aA aB : Option Addr) (nA nB cA cB : Nat) (w : World) (hA : Arg w aA nA cA A) (hB : Arg w aB nB cB B) :
    Calls Try.prog 77 #[.slice aA nA cA, .slice aB nB cB] w (SetArg w (meetP A B)) := by
  have C := Lib.hid (combine_any 99 _ (enters_of Try.func99 (by kernel_rfl) rfl) meet1 rfl A B aA aB nA nB cA cB w hA hB)
  clear hA hB
  go_enter Try.func77, Try.ntmps77
  go_wp2_with (go_at_call 40; (with_reducible refine C.out.mono ?_); rintro e w' ⟨a, n, c, rfl, h1, h2⟩)
  go_ret2
  exact ⟨a, n, c, rfl, h1, h2⟩
theorem less_any (A B : List Sp) (aA aB : Option Addr) (nA nB cA cB : Nat) (w : World) (hA : Arg w aA nA cA A) (hB : Arg w aB nB cB B) :
    Calls Try.prog 22 #[.slice aA nA cA, .slice aB nB cB] w (SetArg w (lessP A B)) := by
  have C := Lib.hid (combine_any 41 _ (enters_of Try.func41 (by kernel_rfl) rfl) less1 rfl A B aA aB nA nB cA cB w hA hB)
  clear hA hB
  go_enter Try.func22, Try.ntmps22
  go_wp2_with (go_at_call 40; (with_reducible refine C.out.mono ?_); rintro e w' ⟨a, n, c, rfl, h1, h2⟩)
  go_ret2
  exact ⟨a, n, c, rfl, h1, h2⟩

/-- The worlds between Touch's visits: nothing in common was found below lo. -/
def TInv (A B : List Sp) (bf : Nat) (w0 : World) (lo : Int) (W : World) : Prop :=
  W.cell? ⟨bf, 0, none⟩ = some (.bool false) ∧ W.frozen? ⟨bf, 0, none⟩ = false ∧ (∀ j, j < lo → (hasB A j && hasB B j) = false) ∧ Below w0.heap.size w0 W
def TFin (A B : List Sp) (bf : Nat) (w0 : World) (W : World) : Prop :=
  W.cell? ⟨bf, 0, none⟩ = some (.bool true) ∧ (∃ j, (hasB A j && hasB B j) = true) ∧ Below w0.heap.size w0 W

/-- Have two sets a key in common? -/
def meets (A B : List Sp) : Bool := decide (∃ k : Nat, k < 4096 ∧ (hasB A k && hasB B k) = true)
def touchB (A B : List Sp) : Bool := chkB A && chkB B && meets A B
theorem meets_yes {A B : List Sp} {j : Int} (h : (hasB A j && hasB B j) = true) : meets A B = true := by
  have h' := hasB_range (Bool.and_eq_true _ _ ▸ h).1
  exact decide_eq_true ⟨j.toNat, by omega, by rw [show ((j.toNat : Nat) : Int) = j by omega]; exact h⟩
theorem meets_no {A B : List Sp} (h : ∀ j, (hasB A j && hasB B j) = false) : meets A B = false :=
  decide_eq_false fun ⟨k, _, hk⟩ => by rw [h] at hk; cases hk

theorem touch_end {A B : List Sp} {b : Nat} {w w4 : World} {r : Bool} (hr : meets A B = r) (h : TFin A B b w w4 ∨ ∃ lo, TInv A B b w lo w4 ∧ ∀ j, lo ≤ j → hasB A j = false ∧ hasB B j = false) :
    ∃ c, w4.cell? ⟨b, 0, none⟩ = some (.bool c) ∧ Hid (c = r) ∧ Below w.heap.size w w4 := by
  rcases h with ⟨h1, ⟨j, hj⟩, h3⟩ | ⟨lo, ⟨h1, _, h3, h4⟩, h5⟩
  · exact ⟨true, h1, Lib.hid ((meets_yes hj).symm.trans hr), h3⟩
  · refine ⟨false, h1, Lib.hid ((meets_no fun j => ?_).symm.trans hr), h4⟩
    by_cases hj : j < lo
    · exact h3 j hj
    · rw [(h5 j (by omega)).1]; rfl

theorem check_arg (A : List Sp) (aA : Option Addr) (nA cA : Nat) (w : World) (hA : Arg w aA nA cA A) : Calls Try.prog 31 #[.slice aA nA cA] w (Gives w (.bool (chkB A))) := by
  obtain ⟨rfl, zA, kA, mA, pA⟩ := hA
  exact check_any aA cA A w zA pA
end Go.Proofs.Ythofoidafdbgcaa
