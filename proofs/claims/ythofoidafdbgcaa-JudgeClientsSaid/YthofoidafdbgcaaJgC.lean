/-
  CONTRACTS of judge: Clients.
-/
import Derived.Test.YthofoidafdbgcaaJgB
import Derived.Test.YthofoidafdbgcaaMpI
namespace Go.Proofs.Ythofoidafdbgcaa
open Go.RowKit Go.Shelf Go.ChangeShapes Go.WideShapes Go.Deep

/-- The entries of each client stand by their numbers. -/
def clB (l : List Ev) : Bool := decide (l.Pairwise fun x y => x.m.c = y.m.c → x.m.s < y.m.s)
/-- The last number of each client. -/
def LastG (G : Int → Option Int) (l : List Ev) : Prop := ∀ c, (G c = none → ∀ x ∈ l, x.m.c ≠ c) ∧ ∀ q, G c = some q → (∃ x ∈ l, x.m.c = c ∧ x.m.s = q) ∧ ∀ x ∈ l, x.m.c = c → x.m.s ≤ q
theorem LastG.nil : LastG noGI [] := fun c => ⟨fun _ => by simp, fun q h => by cases h⟩
theorem LastG.snoc {G : Int → Option Int} {l : List Ev} {e : Ev} (h : LastG G l) (hn : ∀ x ∈ l, x.m.c = e.m.c → x.m.s < e.m.s) : LastG (putGI G e.m.c (some e.m.s)) (l ++ [e]) := fun c => by
  unfold putGI
  by_cases hc : c = e.m.c
  · subst hc
    rw [if_pos rfl]
    refine ⟨(fun h => by cases h), fun q hq => ?_⟩
    cases hq
    refine ⟨⟨e, by simp, rfl, rfl⟩, fun x hx hxc => ?_⟩
    rcases List.mem_append.1 hx with hx | hx
    · exact Int.le_of_lt (hn x hx hxc)
    · obtain rfl : x = e := by simpa using hx
      exact Int.le_refl _
  · rw [if_neg hc]
    refine ⟨fun hg x hx => ?_, fun q hq => ?_⟩
    · rcases List.mem_append.1 hx with hx | hx
      · exact (h c).1 hg x hx
      · obtain rfl : x = e := by simpa using hx
        exact fun e2 => hc e2.symm
    · obtain ⟨⟨x, hx, hxc, hxs⟩, hall⟩ := (h c).2 q hq
      refine ⟨⟨x, List.mem_append_left _ hx, hxc, hxs⟩, fun y hy hyc => ?_⟩
      rcases List.mem_append.1 hy with hy | hy
      · exact hall y hy hyc
      · obtain rfl : y = e := by simpa using hy
        exact absurd hyc.symm hc
theorem LastG.no {G : Int → Option Int} {l : List Ev} {e : Ev} (h : LastG G l) (hg : G e.m.c = none) : ∀ x ∈ l, x.m.c = e.m.c → x.m.s < e.m.s := fun x hx hc => absurd hc ((h _).1 hg x hx)
theorem LastG.yes {G : Int → Option Int} {l : List Ev} {e : Ev} {q : Int} (h : LastG G l) (hg : G e.m.c = some q) (hq : q < e.m.s) : ∀ x ∈ l, x.m.c = e.m.c → x.m.s < e.m.s := fun x hx hc => by
  have := ((h _).2 q hg).2 x hx hc
  omega
theorem LastG.bad {G : Int → Option Int} {l : List Ev} {e : Ev} {q : Int} (h : LastG G l) (hg : G e.m.c = some q) (hq : e.m.s ≤ q) : ∃ x ∈ l, x.m.c = e.m.c ∧ ¬ x.m.s < e.m.s := by
  obtain ⟨x, hx, hc, hs⟩ := ((h _).2 q hg).1
  exact ⟨x, hx, hc, by omega⟩
theorem pw_snoc {l : List Ev} {e : Ev} (h : l.Pairwise fun x y => x.m.c = y.m.c → x.m.s < y.m.s) (hn : ∀ x ∈ l, x.m.c = e.m.c → x.m.s < e.m.s) : (l ++ [e]).Pairwise fun x y => x.m.c = y.m.c → x.m.s < y.m.s := by
  rw [List.pairwise_append]
  refine ⟨h, List.pairwise_singleton _ _, fun x hx y hy => ?_⟩
  obtain rfl : y = e := by simpa using hy
  exact hn x hx
theorem clB_bad {l : List Ev} {j : Nat} (hj : j < l.length) (h : ∃ x ∈ l.take j, x.m.c = l[j]!.m.c ∧ ¬ x.m.s < l[j]!.m.s) : clB l = false := by
  unfold clB
  rw [decide_eq_false_iff_not]
  intro hp
  obtain ⟨x, hx, hc, hs⟩ := h
  obtain ⟨i, hi, rfl⟩ := List.mem_iff_getElem.1 hx
  have hi' : i < j := by rw [List.length_take] at hi; omega
  rw [List.getElem_take] at hc hs
  rw [getElem!_pos l j hj] at hc hs
  exact hs (List.pairwise_iff_getElem.1 hp i j (by omega) hj hi' hc)
theorem clB_good {l : List Ev} (h : l.Pairwise fun x y => x.m.c = y.m.c → x.m.s < y.m.s) : clB l = true := decide_eq_true h
set_option maxRecDepth 100000 in
set_option maxHeartbeats 4000000 in
theorem jclients_any (a : Option Addr) (n cp : Nat) (l : List Ev) (w : World) (hL : EArg w a n cp l) (hz : l.length ≤ 100000) :
    Calls Try.prog 19 #[.slice a n cp] w (Gives w (.bool (clB l))) := by
  have hmm := @run_makeMap Try.prog
  have HL := Lib.hid hL
  obtain rfl : n = l.length := hL.row.1
  clear hL
  go_enter Try.func19, Try.ntmps19
  go_wp2_with fail
  go_loopw [2, 5, 6, 7, 11] (fun v2 _ _ _ i wr => ∃ (j : Nat) (G : Int → Option Int), i = .int .i64 (j : Int) ∧ j ≤ l.length ∧ v2 = .bool false ∧ Hid ((l.take j).Pairwise fun x y => x.m.c = y.m.c → x.m.s < y.m.s) ∧ Hid (LastG G (l.take j)) ∧ Hid (MpI wr w.heap.size G j) ∧ Below w.heap.size w wr) (fun _ _ _ _ i _ => l.length - (intOf i).toNat)
  case atStart => exact ⟨0, noGI, rfl, Nat.zero_le _, rfl, Lib.hid List.Pairwise.nil, Lib.hid LastG.nil, Lib.hid (MpI.made w), (Below.refl _ _).alloc (Nat.le_refl _) _⟩
  case round =>
    obtain ⟨j, G, rfl, hj, rfl, HP, HG, HMp, hbl⟩ := hrel
    by_cases hlt : j < l.length
    · have hjz : (j : Int) < (l.length : Int) := by omega
      have HT := Lib.hid (show l.take (j + 1) = l.take j ++ [l[j]!] from take_moreG hlt)
      have HB := Lib.hid (fun h => clB_bad hlt h)
      obtain ⟨b, off, e, hb, q0, q1, q2, q3, q4, q5, q6, q7, q8⟩ := HL.out.cells hbl hlt
      subst e
      have ok := HL.out.ok _ (mem_get! hlt)
      generalize l[j]! = ev at q0 q1 q2 q3 q4 q5 q6 q7 q8 ok HT HB
      obtain ⟨⟨c, s, k, am, nm, cm, ps, lo, hi2, old⟩, t, d⟩ := ev
      dsimp only at q0 q1 q2 q3 q4 q5 q6 q7 q8
      have wc : (Lit.int .i64 c).wf = true := ok.m.c
      have ba : Below wr.heap.size wr (wr.alloc (.cells #[.int .i64 c, .int .i64 s, .int .i64 k, .slice am nm cm, .int .i64 lo, .int .i64 hi2, .int .i64 old, .int .i64 t, .bool d] 54)) := (Below.refl _ _).alloc (Nat.le_refl _) _
      have bb := below_next hbl ba
      have hbx := heap_alloc_new wr (.cells #[.int .i64 c, .int .i64 s, .int .i64 k, .slice am nm cm, .int .i64 lo, .int .i64 hi2, .int .i64 old, .int .i64 t, .bool d] 54)
      have HM1 := HMp.out.below ba
      have hmb : w.heap.size < wr.heap.size := HMp.out.lt
      clear ok
      generalize hW1 : wr.alloc (.cells #[.int .i64 c, .int .i64 s, .int .i64 k, .slice am nm cm, .int .i64 lo, .int .i64 hi2, .int .i64 old, .int .i64 t, .bool d] 54) = W1 at ba bb hbx HM1
      have y0 : W1.cell? ⟨wr.heap.size, 0, none⟩ = some (.int .i64 c) := cell_of_row _ _ 0 _ _ _ hbx
      have y1 : W1.cell? ⟨wr.heap.size, 1, none⟩ = some (.int .i64 s) := cell_of_row _ _ 1 _ _ _ hbx
      obtain ⟨W2, hrun, hm2, ht2⟩ := HM1.store (by omega) wc s
      have b2 : Below w.heap.size w W2 := bb.grown ht2.grown bb.size (fun j hj => by cases hj; exact Nat.le_refl _)
      cases hg : G c with
      | none =>
        have hlk := HM1.look0 wc hg
        have hn := LastG.no (e := ⟨⟨c, s, k, am, nm, cm, ps, lo, hi2, old⟩, t, d⟩) HG.out hg
        have HP2 := Lib.hid (pw_snoc HP.out hn)
        have HG2 := Lib.hid (LastG.snoc HG.out hn)
        replace hg := Lib.hid hg
        replace hm2 := Lib.hid hm2
        clear hn HB hbx HM1 ht2
        go_wp2_with fail
        go_roundw
        case rel => exact ⟨j + 1, _, by go_num, by omega, rfl, Lib.hid (by rw [HT.out]; exact HP2.out), Lib.hid (by rw [HT.out]; exact HG2.out), hm2, b2⟩
        case measure => simp [intOf]; omega
      | some q =>
        have hlk := HM1.look wc hg
        by_cases hq : s ≤ q
        · have HR := Lib.hid (HB.out (LastG.bad (e := ⟨⟨c, s, k, am, nm, cm, ps, lo, hi2, old⟩, t, d⟩) HG.out hg hq))
          replace hg := Lib.hid hg
          clear HB hbx HM1 ht2 hrun hm2
          go_wp2_with fail
          go_ret
          exact ⟨ret_bool (by rw [HR.out]), bb⟩
        · have hn := LastG.yes (e := ⟨⟨c, s, k, am, nm, cm, ps, lo, hi2, old⟩, t, d⟩) HG.out hg (show q < s by omega)
          have HP2 := Lib.hid (pw_snoc HP.out hn)
          have HG2 := Lib.hid (LastG.snoc HG.out hn)
          replace hg := Lib.hid hg
          replace hm2 := Lib.hid hm2
          clear hn HB hbx HM1 ht2
          go_wp2_with fail
          go_roundw
          case rel => exact ⟨j + 1, _, by go_num, by omega, rfl, Lib.hid (by rw [HT.out]; exact HP2.out), Lib.hid (by rw [HT.out]; exact HG2.out), hm2, b2⟩
          case measure => simp [intOf]; omega
    · have hjz : ¬ (j : Int) < (l.length : Int) := by omega
      have HR := Lib.hid (show clB l = true by have h := HP.out; rw [List.take_of_length_le (by omega)] at h; exact clB_good h)
      clear HP HG HMp
      go_wp2_with fail
      go_ret
      exact ⟨ret_bool HR.out.symm, hbl⟩
end Go.Proofs.Ythofoidafdbgcaa
