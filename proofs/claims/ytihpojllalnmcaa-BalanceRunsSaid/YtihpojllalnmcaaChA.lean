/-
  CHARTS: plain; contracts of between, isNode, cover, distinct.
-/
import Derived.Test.YtihpojllalnmcaaGen
namespace Go.Proofs.Ytihpojllalnmcaa
open Go.RowKit Go.Shelf

/-- A shard: its number, its keys, its node. -/
abbrev Sd := Int × Int × Int × Int
def encS (s : Sd) : List Value := [.int .i64 s.1, .int .i64 s.2.1, .int .i64 s.2.2.1, .int .i64 s.2.2.2]
theorem encS_len (s : Sd) : (encS s).length = 4 := rfl
def btwC (a n b : Int) : Bool := decide (a ≤ n) && decide (n ≤ b)
theorem btwC_iff (a n b : Int) : btwC a n b = true ↔ a ≤ n ∧ n ≤ b := by unfold btwC; rw [Bool.and_eq_true, decide_eq_true_iff, decide_eq_true_iff]
def covF (e : Int) : List Sd → Bool
  | [] => decide (e = 4096)
  | s :: t => (decide (s.2.1 = e) && oneB (s.2.1, s.2.2.1)) && covF s.2.2.1 t
def hasN (l : List Sd) (n : Int) : Bool := l.any fun t => t.1 == n
def distF (l : List Sd) : Nat → Bool
  | 0 => true
  | k + 1 => distF l k && !hasN (l.take k) l[k]!.1
def okS (nx : Int) (s : Sd) : Bool := btwC 1 s.1 (nx - 1) && btwC 0 s.2.2.2 4
def chkC (ep nx : Int) (l : List Sd) : Bool :=
  ((((btwC 1 ep 1073741824 && btwC 1 nx 65537) && btwC 1 (l.length : Int) 24) && covF 0 l) && distF l l.length) && l.all (okS nx)

theorem betweenC_any (a n b : Int) (w : World) : Calls Try.prog 44 #[.int .i64 a, .int .i64 n, .int .i64 b] w fun e w' => e = .returned (.bool (btwC a n b)) ∧ w = w' := by
  have H := Lib.hid (show btwC a n b = (decide (a ≤ n) && decide (n ≤ b)) from rfl)
  obtain ⟨x, hx⟩ : ∃ x, decide (a ≤ n) = x := ⟨_, rfl⟩
  obtain ⟨y, hy⟩ : ∃ y, decide (n ≤ b) = y := ⟨_, rfl⟩
  generalize btwC a n b = r at H
  rw [hx, hy] at H
  cases x <;> cases y
  all_goals
    go_enter Try.func44, Try.ntmps44
    go_wp2
    go_ret
    exact ⟨ret_bool H.out.symm, rfl⟩
theorem isNode_any (n : Int) (w : World) : Calls Try.prog 58 #[.int .i64 n] w fun e w' => e = .returned (.bool (btwC 0 n 4)) ∧ w = w' := by
  go_enter Try.func58, Try.ntmps58
  go_wp2_with (go_at_call 44; (with_reducible refine (betweenC_any _ _ _ _).mono ?_); rintro e w' ⟨rfl, rfl⟩)
  go_ret
  exact ⟨rfl, rfl⟩
/-- The cells of the j-th shard of a row. -/
theorem RIn.shard {w : World} {B : Nat} {a : Option Addr} {l : List Sd} (h : RIn encS 4 w B a l) (j : Nat) (hj : j < l.length) :
    ∃ b off, a = some ⟨b, off, none⟩ ∧ b < B ∧ w.cell? ⟨b, off + j * 4, none⟩ = some (.int .i64 l[j]!.1) ∧ w.cell? ⟨b, off + j * 4 + 1, none⟩ = some (.int .i64 l[j]!.2.1) ∧ w.cell? ⟨b, off + j * 4 + 2, none⟩ = some (.int .i64 l[j]!.2.2.1) ∧ w.cell? ⟨b, off + j * 4 + 3, none⟩ = some (.int .i64 l[j]!.2.2.2) := by
  obtain ⟨b, off, e, hb, hc⟩ := h j hj
  exact ⟨b, off, e, hb, hc 0 _ rfl, hc 1 _ rfl, hc 2 _ rfl, hc 3 _ rfl⟩

set_option maxRecDepth 100000 in
set_option maxHeartbeats 2000000 in
theorem cover_any (a : Option Addr) (n c : Nat) (l : List Sd) (w : World) (h : RArg encS 4 w a n c l) :
    Calls Try.prog 55 #[.slice a n c] w (Gives w (.bool (covF 0 l))) := by
  obtain ⟨hn, hz, _, _, hp⟩ := h
  have hnz : (n : Int) ≤ 9223372036854775807 := by omega
  obtain ⟨r, hr⟩ : ∃ r, covF 0 l = r := ⟨_, rfl⟩
  rw [hr]
  have H0 := Lib.hid (show covF 0 (l.drop 0) = r from hr)
  clear hr
  replace hn := Lib.hid hn
  replace hp := Lib.hid hp
  go_enter Try.func55, Try.ntmps55
  go_wp2_with fail
  go_loopw [3, 8] (fun z i wr => ∃ (k : Nat) (e : Int), i = .int .i64 (k : Int) ∧ z = .int .i64 e ∧ k ≤ n ∧ Hid (covF e (l.drop k) = r) ∧ Below w.heap.size w wr)
    (fun _ i _ => n - (intOf i).toNat)
  case atStart => exact ⟨0, 0, rfl, rfl, by omega, H0, Below.refl _ _⟩
  case round =>
    obtain ⟨k, z, rfl, rfl, hk, HC, hbl⟩ := hrel
    by_cases hlt : k < n
    · have hkl : k < l.length := by rw [← hn.out]; exact hlt
      have hkz : (k : Int) < (n : Int) := by omega
      obtain ⟨b, off, e, hb, c0, c1, c2, c3⟩ := (hp.out.below hbl).shard k hkl
      subst e
      obtain ⟨s, hs⟩ : ∃ s, l[k]! = s := ⟨_, rfl⟩
      have hnext := HC.out
      rw [drop_moreG hkl, hs] at hnext
      rw [hs] at c0 c1 c2 c3
      replace hs := Lib.hid hs
      obtain ⟨i, lo, hi, nd⟩ := s
      dsimp only at c0 c1 c2 c3
      have hd : covF z ((i, lo, hi, nd) :: l.drop (k + 1)) = ((decide (lo = z) && oneB (lo, hi)) && covF hi (l.drop (k + 1))) := rfl
      rw [hd] at hnext
      clear hd
      have b1 : Below w.heap.size w (wr.alloc (.cells #[.int .i64 i, .int .i64 lo, .int .i64 hi, .int .i64 nd] 61)) := hbl.alloc hbl.size _
      by_cases he : lo = z
      · have hb1 : (lo != z) = false := by simpa using he
        rw [decide_eq_true he, Bool.true_and] at hnext
        cases ho : oneB (lo, hi)
        · have HR := Lib.hid (show r = false by rw [← hnext, ho]; rfl)
          have O1 := Lib.hid (fun W => ho ▸ one_any (lo, hi) W)
          clear hnext he ho
          go_wp2_with (go_at_call 84; (with_reducible refine (O1.out _).mono ?_); rintro e w' ⟨rfl, hb⟩)
          go_ret
          exact ⟨ret_bool HR.out.symm, below_next b1 hb⟩
        · have HN := Lib.hid (show covF hi (l.drop (k + 1)) = r by rw [← hnext, ho]; rfl)
          have O1 := Lib.hid (fun W => ho ▸ one_any (lo, hi) W)
          clear hnext he ho
          have sh : wr.heap.size < (wr.alloc (.cells #[.int .i64 i, .int .i64 lo, .int .i64 hi, .int .i64 nd] 61)).heap.size := by simp
          go_wp2_with (go_at_call 84; (with_reducible refine (O1.out _).mono ?_); rintro e w' ⟨rfl, hb⟩; have e2 := (hb.cell (p := ⟨wr.heap.size, 2, none⟩) (by simp)).trans (show (wr.alloc (.cells #[.int .i64 i, .int .i64 lo, .int .i64 hi, .int .i64 nd] 61)).cell? ⟨wr.heap.size, 2, none⟩ = some (.int .i64 hi) from cell_of_row _ _ 2 _ _ _ (heap_alloc_new _ _)))
          go_roundw
          case rel => exact ⟨k + 1, hi, by go_num, rfl, by omega, HN, below_next b1 hb⟩
          case measure => simp [intOf]; omega
      · have hb1 : (lo != z) = true := by simpa using he
        rw [decide_eq_false he] at hnext
        have HR := Lib.hid (show r = false by rw [← hnext]; rfl)
        clear hnext he
        go_wp2_with fail
        go_ret
        exact ⟨ret_bool HR.out.symm, b1⟩
    · have hkz : ¬ (k : Int) < (n : Int) := by omega
      have hfin := HC.out
      rw [List.drop_eq_nil_of_le (by rw [← hn.out]; omega)] at hfin
      have HR := Lib.hid (show r = decide (z = 4096) from hfin.symm)
      clear hfin
      by_cases he : z = 4096
      · have hb1 : (z == 4096) = true := by simpa using he
        have HR2 := Lib.hid (show r = true by rw [HR.out]; exact decide_eq_true he)
        clear he
        go_wp2
        go_ret
        exact ⟨ret_bool HR2.out.symm, hbl⟩
      · have hb1 : (z == 4096) = false := by simpa using he
        have HR2 := Lib.hid (show r = false by rw [HR.out]; exact decide_eq_false he)
        clear he
        go_wp2
        go_ret
        exact ⟨ret_bool HR2.out.symm, hbl⟩
theorem indexShard_none (a : Option Addr) (c : Nat) (fv : Value) (w : World) : Calls Try.prog 35 #[.slice a 0 c, fv] w fun e w' => e = .returned (.int .i64 (-1)) ∧ w = w' := by
  go_enter Try.func35, Try.ntmps35
  go_wp2
  refine wp_loop_rounds 1 ?_
  rw [rounds_succ]
  go_wp2
  go_ret
  exact ⟨rfl, rfl⟩
theorem containsShard_none (a : Option Addr) (c : Nat) (fv : Value) (w : World) : Calls Try.prog 42 #[.slice a 0 c, fv] w (Gives w (.bool false)) := by
  go_enter Try.func42, Try.ntmps42
  go_wp2_with (go_at_call 35; refine (indexShard_none _ _ _ _).mono ?_; rintro e w' ⟨rfl, rfl⟩)
  go_ret
  exact ⟨rfl, Below.refl _ _⟩
theorem containsShard_any (p : Sd → Bool) (g : Nat) (lb : Array Value) (eg : ∀ args w, (callFunc g args).run Try.prog w = .ok (.enter g args) w) (a : Option Addr) (n c : Nat) (l : List Sd) (w : World)
    (hp : PredBelow Try.prog g lb (fun x => .agg (encS x).toArray) p w) (hn : n = l.length) (hz : (l.length : Int) ≤ 9223372036854775807) (h : RIn encS 4 w w.heap.size a l) :
    Calls Try.prog 42 #[.slice a n c, .func (.func g) #[] lb] w (Gives w (.bool (l.any p))) := by
  subst hn
  by_cases hl : l = []
  · subst hl; exact containsShard_none a c _ w
  · obtain ⟨b, off, rfl, hb, hc⟩ := h.spot hl
    have := AnyQ.slices_ContainsFunc Try.lContainsShard 4 Try.isAgg61 Try.sizeOf61 encS (fun _ => rfl) p g lb eg b off l.length c l w hp (Nat.le_refl _) (by omega) hb (fun j hj i v hi => hc j hj i v hi)
    rw [List.take_length] at this
    exact this
/-- slices.IndexFunc on a row of shards. -/
def idxC (p : Sd → Bool) (l : List Sd) : Int := Lib.idxBy (fun _ y => p y) l default
theorem indexShard_any (p : Sd → Bool) (g : Nat) (lb : Array Value) (eg : ∀ args w, (callFunc g args).run Try.prog w = .ok (.enter g args) w) (a : Option Addr) (n c : Nat) (l : List Sd) (w : World)
    (hp : PredBelow Try.prog g lb (fun x => .agg (encS x).toArray) p w) (hn : n = l.length) (hz : (l.length : Int) ≤ 9223372036854775807) (hl : l ≠ []) (h : RIn encS 4 w w.heap.size a l) :
    Calls Try.prog 35 #[.slice a n c, .func (.func g) #[] lb] w (Gives w (.int .i64 (idxC p l))) := by
  subst hn
  obtain ⟨b, off, rfl, hb, hc⟩ := h.spot hl
  have := AnyQ.slices_IndexFunc (P := Try.prog) (ρ := Try.lContainsShard_ren) { Try.lContainsShard with } 4 Try.isAgg61 Try.sizeOf61 encS (fun _ => rfl) p g lb eg b off l.length c l w hp (Nat.le_refl _) (by omega) hb (fun j hj i v hi => hc j hj i v hi)
  rw [List.take_length] at this
  exact this
end Go.Proofs.Ytihpojllalnmcaa
