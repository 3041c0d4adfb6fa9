/-
  CONTRACTS of with; of slices.IndexFunc, slices.DeleteFunc on pairs, in a row of the call's own.
-/
import Derived.Test.YtfnjadiibiedgaaTabD
namespace Go.Proofs.Ytfnjadiibiedgaa
open Go.RowKit Go.Shelf Go.Lib

theorem flatP_set1 : ∀ (l : List Sp) (k : Nat) (z : Int), k < l.length → (flatP l).set (k * 2 + 1) (.int .i64 z) = flatP (l.set k ((l.getD k (0, 0)).1, z))
  | [], _, _, h => absurd h (Nat.not_lt_zero _)
  | s :: t, 0, z, _ => rfl
  | s :: t, k + 1, z, h => by
    show ((.int .i64 s.1) :: (.int .i64 s.2) :: flatP t).set ((k + 1) * 2 + 1) _ = (.int .i64 s.1) :: (.int .i64 s.2) :: flatP (t.set k _)
    rw [show (k + 1) * 2 + 1 = (k * 2 + 1) + 1 + 1 by omega, List.set_cons_succ, List.set_cons_succ, flatP_set1 t k z (by simpa using h)]
    rfl

set_option maxRecDepth 100000 in
set_option maxHeartbeats 2000000 in
theorem with_any (v : Value) (base : Nat) (l : List Sp) (key val : Int) (w : World) (ht : tblB l = true) (hbase : base ≤ w.heap.size) (ho : OwnsP 90 w base v l) :
    Calls Try.prog 85 #[v, .int .i64 key, .int .i64 val] w (InsPost base (putT l key val) w) := by
  have hle := tbl_le ht
  obtain ⟨a, cap, rfl, hc, hm, hp, hs⟩ := ho.arg
  have hA : Arg w a l.length cap l := ⟨rfl, by omega, hc, hm, hp⟩
  have C := place_any a l.length cap l key w hA ht
  unfold PlacePost at C
  obtain ⟨n, hn⟩ : ∃ n, l.length = n := ⟨_, rfl⟩
  have hn1 : n ≤ 4096 := by omega
  have hPle := plc_le l key
  cases hi : isT l key
  · rw [hi] at C
    have hput := put_new l (-1) key val ht (by unfold isT at hi; exact of_decide_eq_false hi)
    rw [hput]
    have ho' : OwnsP 90 w base (.slice a n cap) l := by rw [← hn]; exact ho
    have HI := Lib.hid (fun w2 (b2 : Below w.heap.size w w2) => insert_any (.slice a n cap) base (plc l key) l key val w2.heap.size (w2.alloc (.cells #[.int .i64 key, .int .i64 val] 90)) (by omega) hPle (by have := b2.size; simp; omega)
      (World.ownsRow.alloc (ho'.below b2) _) (fun g hg => by
        have := (World.ownsRow.lt ho' g hg).2
        have := b2.size
        omega) (heap_alloc_new w2 _))
    rw [hn] at C ⊢
    replace C := Lib.hid C
    have HB := Lib.hid (fun w2 (b2 : Below w.heap.size w w2) => (show Below base w (w2.alloc (.cells #[.int .i64 key, .int .i64 val] 90)) from (b2.mono hbase).alloc (by have := b2.size; omega) _))
    generalize plc l key = P at *
    clear hput hi ho ho' hA hs hp
    go_enter Try.func85, Try.ntmps85
    go_wp2_with (first | (go_at_call 94; (with_reducible refine C.out.mono ?_); rintro e w2 ⟨rfl, b2⟩) | (go_at_call 122; (with_reducible refine (HI.out _ b2).mono ?_); rintro e w3 ⟨v3, rfl, o3, b3⟩))
    go_ret
    exact ⟨_, rfl, o3, (HB.out _ b2).trans b3⟩
  · rw [hi] at C
    have hP : plc l key < l.length ∧ (l.getD (plc l key) (0, 0)).1 = key := by unfold isT at hi; exact of_decide_eq_true hi
    have hput := put_there l (-1) key val ht hP.1 hP.2
    rw [hput]
    obtain ⟨g, rfl, hbg, hgw⟩ := hs (by intro e; rw [e] at hP; exact absurd hP.1 (Nat.not_lt_zero _))
    have hcell := (hp (plc l key) hP.1)
    obtain ⟨b, off, e, hb, c0, c1⟩ := hcell
    cases e
    have hfz : w.frozen? ⟨g, plc l key * 2 + 1, none⟩ = false := by unfold OwnsP at ho; exact World.ownsRow.frozenAt ho _
    have HO := Lib.hid (fun w2 (b2 : Below w.heap.size w w2) => (show OwnsP 90 (w2.setCell ⟨g, plc l key * 2 + 1, none⟩ (.int .i64 val)) base (.slice (some ⟨g, 0, none⟩) n cap) (l.set (plc l key) (key, val)) by
      have h2 := ho.below b2
      unfold OwnsP at h2 ⊢
      rw [hn] at h2
      have h3 := (World.ownsRow.stored h2 (plc l key * 2 + 1) (.int .i64 val)).1
      rw [flatP_set1 l _ val hP.1, hP.2] at h3
      rw [List.length_set, hn]
      exact h3))
    rw [Nat.zero_add] at c1
    have hPn : (plc l key : Int) < (n : Int) := by omega
    rw [hn] at C ⊢
    replace C := Lib.hid C
    generalize plc l key = P at *
    clear hput hi ho hA hs hp c0 hP
    go_enter Try.func85, Try.ntmps85
    go_wp2_with (first | (go_at_call 94; (with_reducible refine C.out.mono ?_); rintro e w2 ⟨rfl, b2⟩; have d1 := (b2.cell (p := ⟨g, P * 2 + 1, none⟩) hgw).trans c1; have f1 := (b2.frozen (p := ⟨g, P * 2 + 1, none⟩) hgw).trans hfz))
    go_ret
    exact ⟨_, rfl, HO.out _ b2, (b2.mono hbase).setCell hbg _⟩

/-- A predicate of pairs that makes memory of its own, in whatever world that is grown from w, as of block base. -/
def PredG (g : Nat) (lb : Array Value) (p : Sp → Bool) (base : Nat) (w : World) : Prop :=
  ∀ (W : World) (x : Sp), Below base w W → Calls Try.prog g (#[.agg #[.int .i64 x.1, .int .i64 x.2]] ++ lb) W (Gives W (.bool (p x)))
def fstP (p : Sp → Bool) : List Sp → Nat
  | [] => 0
  | x :: t => if p x = true then 0 else fstP p t + 1
theorem fstP_le (p : Sp → Bool) : ∀ l : List Sp, fstP p l ≤ l.length
  | [] => Nat.le_refl _
  | x :: t => by unfold fstP; have := fstP_le p t; split <;> simp; omega
theorem fstP_take (p : Sp → Bool) : ∀ l : List Sp, (l.take (fstP p l)).filter (fun x => !p x) = l.take (fstP p l)
  | [] => rfl
  | x :: t => by
    unfold fstP
    by_cases h : p x = true
    · rw [if_pos h]; rfl
    · rw [if_neg h, List.take_succ_cons, List.filter_cons_of_pos (by simp [h]), fstP_take p t]
theorem fstP_hit (p : Sp → Bool) : ∀ l : List Sp, fstP p l < l.length → p (l.getD (fstP p l) (0, 0)) = true
  | [], h => absurd h (Nat.not_lt_zero _)
  | x :: t, h => by
    unfold fstP at h ⊢
    by_cases hx : p x = true
    · rw [if_pos hx]; exact hx
    · rw [if_neg hx] at h ⊢
      exact fstP_hit p t (by simpa using h)
def idxV (p : Sp → Bool) (l : List Sp) : Int := if fstP p l < l.length then (fstP p l : Int) else -1

set_option maxRecDepth 100000 in
set_option maxHeartbeats 1000000 in
theorem idxF_any (g : Nat) (lb : Array Value) (p : Sp → Bool) (base : Nat) (a : Option Addr) (n c : Nat) (l : List Sp) (w : World) (eg : ∀ args w, (callFunc g args).run Try.prog w = .ok (.enter g args) w)
    (hA : Arg w a n c l) (hbase : base ≤ w.heap.size) (hp : PredG g lb p base w) :
    Calls Try.prog 137 #[.slice a n c, .func (.func g) #[] lb] w (Gives w (.int .i64 (idxV p l))) := by
  obtain ⟨hn, hz, _, _, hq⟩ := hA
  have hnz : (n : Int) ≤ 9223372036854775807 := by omega
  obtain ⟨r, hr⟩ : ∃ r, idxV p l = r := ⟨_, rfl⟩
  rw [hr]
  have H0 := Lib.hid (show fstP p l = 0 + fstP p (l.drop 0) by simp)
  have HR := Lib.hid (show r = if fstP p l < n then (fstP p l : Int) else -1 by rw [← hr, hn]; rfl)
  replace hn := Lib.hid hn
  replace hq := Lib.hid hq
  replace hp := Lib.hid hp
  clear hr
  go_enter Try.func137, Try.ntmps137
  go_wp2_with fail
  go_loopw [5, 8] (fun _ i wr => ∃ (k : Nat), i = .int .i64 (k : Int) ∧ k ≤ n ∧ Hid (fstP p l = k + fstP p (l.drop k)) ∧ Below w.heap.size w wr)
    (fun _ i _ => n - (intOf i).toNat)
  case atStart => exact ⟨0, rfl, Nat.zero_le _, H0, Below.refl _ _⟩
  case round =>
    obtain ⟨k, rfl, hk, HK, hbl⟩ := hrel
    by_cases hlt : k < n
    · have hkl : k < l.length := by rw [← hn.out]; exact hlt
      have hkz : (k : Int) < (n : Int) := by omega
      obtain ⟨b, off, e, hb, c0, c1⟩ := (hq.out.below hbl) k hkl
      subst e
      obtain ⟨s, hs⟩ : ∃ s, l.getD k (0, 0) = s := ⟨_, rfl⟩
      rw [hs] at c0 c1
      have hd := drop_more hkl
      rw [hs] at hd
      have hnext := HK.out
      rw [hd] at hnext
      replace hs := Lib.hid hs
      replace hd := Lib.hid hd
      obtain ⟨x, y⟩ := s
      dsimp only at c0 c1
      have C := hp.out wr (x, y) (hbl.mono hbase)
      dsimp only at C
      cases hx : p (x, y)
      · rw [hx] at C
        have hN := Lib.hid (show fstP p l = (k + 1) + fstP p (l.drop (k + 1)) by
          rw [hnext]; show k + (if p (x, y) = true then 0 else fstP p (l.drop (k + 1)) + 1) = _; rw [hx, if_neg (by simp)]; omega)
        replace C := Lib.hid C
        clear hnext hx
        go_wp2_with (go_at_fn g; (with_reducible refine C.out.mono ?_); rintro e w2 ⟨rfl, b2⟩)
        go_roundw
        case rel => exact ⟨k + 1, by go_num, by omega, hN, below_next hbl b2⟩
        case measure => simp [intOf]; omega
      · rw [hx] at C
        have hr := Lib.hid (show r = (k : Int) by
          have : fstP p l = k := by rw [hnext]; show k + (if p (x, y) = true then 0 else fstP p (l.drop (k + 1)) + 1) = _; rw [hx, if_pos rfl]; omega
          rw [HR.out, this, if_pos hlt])
        replace C := Lib.hid C
        clear hnext hx
        go_wp2_with (go_at_fn g; (with_reducible refine C.out.mono ?_); rintro e w2 ⟨rfl, b2⟩)
        go_ret
        exact ⟨ret_int hr.out.symm, below_next hbl b2⟩
    · have hkz : ¬ (k : Int) < (n : Int) := by omega
      have hr := Lib.hid (show r = -1 by
        rw [HR.out, if_neg]
        have := HK.out
        omega)
      go_wp2
      go_ret
      exact ⟨ret_int hr.out.symm, hbl⟩

/-- clear, of elements that are pairs. -/
theorem run_clear2 (w : World) (t e ty : TypeId) (ht : Try.prog.underlying t = some (.slice e)) (hv : ∀ w, (zeroValue e).run Try.prog w = .ok (.agg #[.int .i64 0, .int .i64 0]) w) (b o n c : Nat) (hn : 0 < n)
    (hc : ∀ j, j < n * 2 → (w.cell? ⟨b, o + j, none⟩).isSome = true) (hf : ∀ j, j < n * 2 → w.frozen? ⟨b, o + j, none⟩ = false) :
    (Builtin.clear_ #[t] ty #[.slice (some ⟨b, o, none⟩) n c]).run Try.prog w = .ok (.tuple #[]) (w.setCells b o (List.replicate (n * 2) (.int .i64 0))) := by
  have hzc : (Builtin.zeroCells #[Value.int .i64 0, .int .i64 0] n).toList = List.replicate (n * 2) (.int .i64 0) := by
    simp [Builtin.zeroCells]
    apply List.ext_getElem
    · simp
    · intro i h1 h2
      rcases Nat.mod_two_eq_zero_or_one i with hm | hm <;> simp [hm]
  have hst := run_storeCells_cells (P := Try.prog) b o (List.replicate (n * 2) (.int .i64 0)) 0 w (by simpa using hc) (by simpa using hf) (by intro v hv'; rw [List.eq_of_mem_replicate hv']; rfl)
  simp only [Nat.add_zero] at hst
  obtain ⟨m, rfl⟩ : ∃ m, n = m + 1 := ⟨n - 1, by omega⟩
  simp [Builtin.clear_, run_underlying ht, hv, Value.cells, hzc, hst]
theorem setL_take : ∀ (X l : List Value) (o k : Nat), k ≤ o → (setL l o X).take k = l.take k
  | [], _, _, _, _ => rfl
  | v :: r, l, o, k, h => by
    show (setL (l.set o v) (o + 1) r).take k = _
    rw [setL_take r (l.set o v) (o + 1) k (by omega), List.take_set]
    exact List.set_eq_of_length_le (by rw [List.length_take]; omega)
end Go.Proofs.Ytfnjadiibiedgaa
