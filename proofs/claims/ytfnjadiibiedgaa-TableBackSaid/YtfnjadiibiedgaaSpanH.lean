/-
  CONTRACTS: a copy of spans, sorted; Make.
-/
import Derived.Test.YtfnjadiibiedgaaSpanG
import Derived.Test.YtfnjadiibiedgaaSpanF
namespace Go.Proofs.Ytfnjadiibiedgaa
open Go.RowKit Go.Shelf
open Go.Sort (HoldsK PermIn SortedIn SWO grow putRowK putRow)

theorem flatP_one (l : List Sp) : ∀ u ∈ flatP l, u.oneCell' = true := by
  induction l with
  | nil => simp [flatP]
  | cons s t ih =>
    intro u hu
    rw [show flatP (s :: t) = spC s ++ flatP t from rfl] at hu
    rcases List.mem_append.1 hu with h | h
    · simp [spC] at h; rcases h with rfl | rfl <;> rfl
    · exact ih u h
theorem flatP_hc {w : World} {B b off : Nat} {l : List Sp} (h : PIn w B (some ⟨b, off, none⟩) l) (j : Nat) (u : Value) (hj : (flatP l)[j]? = some u) : w.cell? ⟨b, off + j, none⟩ = some u := by
  have hlt : j < (flatP l).length := (List.getElem?_eq_some_iff.1 hj).1
  rw [flatP_length] at hlt
  have hk : j / 2 < l.length := by omega
  obtain ⟨b', off', e, _, c0, c1⟩ := h (j / 2) hk
  cases e
  obtain ⟨g0, g1⟩ := flatP_get l (j / 2) hk
  rcases Nat.mod_two_eq_zero_or_one j with hm | hm
  · have he : j / 2 * 2 = j := by omega
    rw [he] at g0 c0
    rw [g0] at hj; cases hj; exact c0
  · have he : j / 2 * 2 + 1 = j := by omega
    rw [he] at g1
    rw [Nat.add_assoc, he] at c1
    rw [g1] at hj; cases hj; exact c1

def ClonePost (w : World) (l : List Sp) (e : Ending) (w' : World) : Prop := ∃ v, e = .returned v ∧ OwnsP 24 w' w.heap.size v l ∧ Below w.heap.size w w'
theorem clone_none (x : Addr) (c : Nat) (w : World) : Calls Try.prog 97 #[.slice (some x) 0 c] w (ClonePost w []) := by
  obtain ⟨i0, hi, hz0, hz1, hz2⟩ := info_parts Try.infoSpan
  have q22 : ∀ (w : World) (a : Option Addr) (n c n' c' : Nat), (binOp .eql 29 (.slice a n c) (.slice none n' c')).run Try.prog w = .ok (.bool a.isNone) w := fun w a n c n' c' => Lib.run_eql_slice_nil w _ _ a n c n' c' Try.underlying29
  go_enter Try.func97, Try.ntmps97
  go_wp2_with (at_builtin; refine wpList_append_own _ rfl _ _ 29 rfl w.heap.size 24 i0 (.agg #[.int .i64 0, .int .i64 0]) 2 16 Try.underlying29 hi hz0 hz1 hz2 rfl (by decide) _ _ _ rfl (World.ownsRow_made w #[] 0 (Nat.le_refl _) (Nat.zero_le _) (by simp)) x 0 c [] rfl ?c1 ?c2 ?c3 ?c4 ?c5 ?c6 ?_)
  case c1 => rfl
  case c2 => intro j u hj; simp at hj
  case c3 => intro u hu; cases hu
  case c4 => unfold maxLen; omega
  case c5 => omega
  case c6 => simp
  · intro v' w1 hown hg _
    go_wp2
    go_ret
    refine ⟨_, rfl, by simpa [OwnsP, flatP] using hown, ((Below.refl _ w).alloc (Nat.le_refl _) _).grown hg (by simp) ?_⟩
    intro k hk
    simp [Value.ownBlock] at hk
    omega
theorem clone_any (a : Option Addr) (c : Nat) (l : List Sp) (w : World) (hz : l.length ≤ 100000) (h : PIn w w.heap.size a l) :
    Calls Try.prog 97 #[.slice a l.length c] w (ClonePost w l) := by
  by_cases hl : l = []
  · subst hl
    cases a with
    | none => exact (AnyE.slices_Clone_nil Try.lCloneSpan 0 c w).mono fun _ _ ⟨he, hw⟩ => ⟨_, he, OwnsP.nil _ _ _, by rw [hw]; exact Below.refl _ _⟩
    | some x => exact clone_none x c w
  · obtain ⟨b, off, rfl, hb⟩ := h.some' hl
    obtain ⟨i0, hi, hz0, hz1, hz2⟩ := info_parts Try.infoSpan
    exact (AnyE.slices_Clone Try.lCloneSpan i0 (.agg #[.int .i64 0, .int .i64 0]) 2 16 hi hz0 hz1 hz2 rfl (by decide) Try.sizeOf24 b off l.length c (flatP l) w (flatP_length l) (by unfold maxLen; omega) (by omega) (fun j u hj => flatP_hc h j u hj) (flatP_one l)).mono
      fun _ _ ⟨v, he, ho, _, hb⟩ => ⟨v, he, ho, hb⟩

theorem below_sorted {w : World} {B g n : Nat} {os : Array Obj} (d : Array Sp) (hg : B ≤ g) (hB : B ≤ w.heap.size) : Below B w (sortWorldK spC 2 w g 0 n d os) := by
  refine ⟨rfl, rfl, rfl, by simp [sortWorldK, grow, putRowK, putRow, Go.Sort.mapBlock, Go.Sort.ahead], fun k hk => ?_⟩
  have : g ≠ k := by omega
  unfold sortWorldK
  rw [Go.Sort.heap_grow_old _ _ (by simp [putRowK, putRow, Go.Sort.mapBlock, Go.Sort.ahead]; omega)]
  simp [putRowK, putRow, Go.Sort.mapBlock, Go.Sort.ahead, Array.getElem?_modify, this]
/-- The spans, sorted by their starts. -/
def SortPost (base : Nat) (a : Option Addr) (l : List Sp) (w : World) (e : Ending) (w' : World) : Prop :=
  e = .returned (.tuple #[]) ∧ ∃ d : List Sp, d.Perm l ∧ d.Pairwise (fun x y => x.1 ≤ y.1) ∧ PIn w' w'.heap.size a d ∧ Below base w w'
theorem pairwise_of {d : Array Sp} (h : SortedIn (ltOf fun x y : Sp => Lib.compareInt x.1 y.1) 0 d.size d) : d.toList.Pairwise (fun x y => x.1 ≤ y.1) := by
  rw [List.pairwise_iff_getElem]
  intro i j hi hj hij
  have := h i j (Nat.zero_le _) hij (by simpa using hj)
  rw [ltLo, decide_eq_false_iff_not, getElem!_pos d i (by simpa using hi), getElem!_pos d j (by simpa using hj)] at this
  simpa using this
theorem pIn_of_holds {w : World} {g : Nat} {d : Array Sp} (hg : g < w.heap.size) (h : HoldsK spC 2 w g 0 d) : PIn w w.heap.size (some ⟨g, 0, none⟩) d.toList := fun k hk => by
  have hk' : k < d.size := by simpa using hk
  have c0 := (Go.Sort.HoldsK.cell h (i := k) (c := 0) hk' (by omega)).1
  have c1 := (Go.Sort.HoldsK.cell h (i := k) (c := 1) hk' (by omega)).1
  have e : d[k]! = d.toList.getD k (0, 0) := by rw [getElem!_pos d k hk']; simp [List.getD, hk']
  rw [e] at c0 c1
  exact ⟨g, 0, rfl, hg, c0, c1⟩
theorem holds_of_pIn {w : World} {g : Nat} {l : List Sp} (h : ∀ j u, (flatP l)[j]? = some u → w.cell? ⟨g, 0 + j, none⟩ = some u) (hf : ∀ i, w.frozen? ⟨g, i, none⟩ = false) : HoldsK spC 2 w g 0 l.toArray := by
  intro j hj
  refine ⟨?_, hf _⟩
  rw [Go.Sort.size_flatK] at hj
  have hj' : j < l.length * 2 := by simpa using hj
  rw [id, Go.Sort.get_flatK _ _ _ _ hj]
  have hk : j / 2 < l.length := by omega
  obtain ⟨g0, g1⟩ := flatP_get l (j / 2) hk
  have e : l.toArray[j / 2]! = l.getD (j / 2) (0, 0) := by rw [getElem!_pos l.toArray (j / 2) (by simpa using hk)]; simp [List.getD, List.getElem?_eq_getElem hk]
  rw [e]
  rcases Nat.mod_two_eq_zero_or_one j with hm | hm
  · rw [hm]
    have he : j / 2 * 2 = j := by omega
    rw [he] at g0
    exact h j _ g0
  · rw [hm]
    have he : j / 2 * 2 + 1 = j := by omega
    rw [he] at g1
    exact h j _ g1
theorem sort_any (a : Option Addr) (cap base : Nat) (l : List Sp) (w : World) (hlen : l.length ≤ 100000) (hbase : base ≤ w.heap.size) (ho : OwnsP 24 w base (.slice a l.length cap) l) :
    Calls Try.prog 98 #[.slice a l.length cap, .func (.func 99) #[] #[]] w (SortPost base a l w) := by
  by_cases hl : l = []
  · subst hl
    exact (AnyF.slices_SortFunc_none Try.lSortSpan a cap _ w).mono fun _ _ ⟨he, hw⟩ => ⟨he, [], List.Perm.refl _, List.Pairwise.nil, PIn.nil _ _ _, by rw [hw]; exact Below.refl _ _⟩
  · obtain ⟨g, cap', hv, h1, h2, _, _⟩ := ho.form hl
    cases hv
    have hf : ∀ i, w.frozen? ⟨g, i, none⟩ = false := fun i => World.ownsRow.frozenAt ho i
    have hp : PIn w w.heap.size (some ⟨g, 0, none⟩) l := by
      obtain ⟨a', c', hv, _, _, hp, _⟩ := ho.arg
      cases hv; exact hp
    have hH : HoldsK spC 2 w g 0 l.toArray := holds_of_pIn (fun j u hj => flatP_hc hp j u hj) hf
    have hs : l.length = l.toArray.size := by simp
    rw [hs]
    refine (AnyQ.slices_SortFunc Try.lSortSpan 2 Try.isAgg24 Try.sizeOf24 spC (fun _ => rfl) (fun x v hv => by simp [spC] at hv; rcases hv with rfl | rfl <;> rfl) (fun x y => Lib.compareInt x.1 y.1) swoLo 99 #[] g 0 cap l.toArray w
      (enters_of Try.func99 (by kernel_rfl) rfl) (fun _ _ _ _ x y => make2 x y _) hH h2 (by simp; omega)).mono ?_
    rintro e w' ⟨he, d', n, os, hpm, hso, rfl⟩
    obtain ⟨q1, _, q3⟩ := hpm
    refine ⟨he, d'.toList, ?_, pairwise_of (by rw [q1]; exact hso), ?_, below_sorted d' h1 hbase⟩
    · have e1 : d'.extract 0 l.toArray.size = d' := by rw [← q1]; exact Array.extract_size
      have e2 : l.toArray.extract 0 l.toArray.size = l.toArray := Array.extract_size
      rw [e1, e2] at q3
      exact q3
    · have hh := holdsK_sortWorldK_c spC 2 w g 0 l.toArray d' n os hH h2 q1
      refine pIn_of_holds (Nat.lt_of_lt_of_le h2 ?_) hh
      exact (below_sorted (B := 0) d' (Nat.zero_le _) (Nat.zero_le _)).size

theorem fold_len : ∀ (d l : List Sp), (d.foldl ext l).length ≤ l.length + d.length
  | [], l => by simp
  | s :: d, l => by
    have h1 := fold_len d (ext l s)
    have h2 := ext_len l s
    simp only [List.foldl_cons, List.length_cons]; omega
theorem fold_take {d : List Sp} {k : Nat} (h : k < d.length) : (d.take (k + 1)).foldl ext [] = ext ((d.take k).foldl ext []) (d.getD k (0, 0)) := by
  rw [take_more h, List.foldl_append]; rfl
theorem made {l d : List Sp} (hall : ∀ s ∈ l, oneB s = true) (hp : d.Perm l) (hs : d.Pairwise (fun x y => x.1 ≤ y.1)) : d.foldl ext [] = setOf (hasB l) := by
  obtain ⟨h1, h2⟩ := fold_ext d [] rfl (fun s h => hall s (hp.mem_iff.1 h)) (fun s h => by
    have := (oneB_iff s).1 (hall s (hp.mem_iff.1 h)); show (0 : Int) ≤ s.1; omega) hs
  exact setOf_eq h1 fun k _ _ => by rw [h2, hasB_nil, Bool.false_or, hasB_perm hp]
def makeP (l : List Sp) : List Sp × Int := if l.all oneB = true then limP (setOf (hasB l)) else ([], 1)

set_option maxRecDepth 100000 in
set_option maxHeartbeats 1000000 in
theorem make_bad (a : Option Addr) (c : Nat) (l : List Sp) (w : World) (hz : l.length ≤ 100000) (h : PIn w w.heap.size a l) (hbad : l.all oneB = false) :
    Calls Try.prog 54 #[.slice a l.length c] w (SetPost w ([], 1)) := by
  have C := contains_any (fun x => !oneB x) 96 #[] (enters_of Try.func96 (by kernel_rfl) rfl) a c l w (make1 w) (by omega) h
  rw [show l.any (fun x => !oneB x) = true by rw [← List.not_all_eq_any_not, hbad]; rfl] at C
  replace C := Lib.hid C
  clear h hbad
  go_enter Try.func54, Try.ntmps54
  go_wp2_with (go_at_call 59; (with_reducible refine C.out.mono ?_); rintro e w2 ⟨rfl, b2⟩)
  go_ret2
  exact SetPost.nil b2

set_option maxRecDepth 100000 in
set_option maxHeartbeats 2000000 in
theorem make_ok (a : Option Addr) (c : Nat) (l : List Sp) (w : World) (hz : l.length ≤ 100000) (h : PIn w w.heap.size a l) (hall : l.all oneB = true) :
    Calls Try.prog 54 #[.slice a l.length c] w (SetPost w (limP (setOf (hasB l)))) := by
  have C := contains_any (fun x => !oneB x) 96 #[] (enters_of Try.func96 (by kernel_rfl) rfl) a c l w (make1 w) (by omega) h
  rw [show l.any (fun x => !oneB x) = false by rw [← List.not_all_eq_any_not, hall]; rfl] at C
  replace C := Lib.hid C
  have HP := Lib.hid h
  have HM := Lib.hid (show ∀ d : List Sp, d.Perm l → d.Pairwise (fun x y => x.1 ≤ y.1) → d.foldl ext [] = setOf (hasB l) from fun d hp hs => made (by simpa using hall) hp hs)
  obtain ⟨S, hS⟩ : ∃ S, setOf (hasB l) = S := ⟨_, rfl⟩
  have hSl : S.length ≤ 5000 := by
    rw [← hS]
    by_cases he : setOf (hasB l) = []
    · rw [he]; simp
    · have := canB_len _ _ (setOf_can (hasB l)) he; omega
  rw [hS] at HM ⊢
  have HN := Lib.hid (show ∀ d : List Sp, d.Perm l → d.length = l.length from fun d hp => hp.length_eq)
  clear h hall hS
  go_enter Try.func54, Try.ntmps54
  go_wp2_with (first | (go_at_call 59; (with_reducible refine C.out.mono ?_); rintro e w2 ⟨rfl, b2⟩) | (go_at_call 97; refine (clone_any a c l w2 hz (HP.out.belowMore b2)).mono ?_; rintro e w3 ⟨v3, rfl, o3, b3⟩; have b13 := below_next b2 b3; obtain ⟨a3, c3, rfl, _⟩ := o3.arg) | (go_at_call 98; refine (sort_any a3 c3 w2.heap.size l w3 hz b3.size o3).mono ?_; rintro e w4 ⟨rfl, d, hd1, hd2, p4, b4⟩; have b14 := b13.trans (b4.mono b2.size)))
  have hld := HN.out d hd1
  have HD := Lib.hid (HM.out d hd1 hd2)
  rw [← hld]
  obtain ⟨n, hn⟩ : ∃ n, d.length = n := ⟨_, rfl⟩
  rw [hn]
  have hn1 : n ≤ 100000 := by omega
  replace hn := Lib.hid hn
  replace p4 := Lib.hid p4
  clear hd1 hd2 hld o3 HN
  go_wp2_with fail
  go_loopw [5, 7, 16] (fun v _ i wr => ∃ (k : Nat), i = .int .i64 (k : Int) ∧ k ≤ n ∧ Hid (OwnsP 24 wr w4.heap.size v ((d.take k).foldl ext [])) ∧ Below w4.heap.size w4 wr)
    (fun _ _ i _ => n - (intOf i).toNat)
  case atStart => exact ⟨0, rfl, by omega, Lib.hid (OwnsP.nil _ _ _), Below.refl _ _⟩
  case round =>
    obtain ⟨k, rfl, hk, HO, hbl⟩ := hrel
    by_cases hlt : k < n
    · obtain ⟨b, off, e, hb, c0, c1⟩ := (p4.out.below hbl) k (by rw [hn.out]; exact hlt)
      subst e
      obtain ⟨s, hs⟩ : ∃ s, d.getD k (0, 0) = s := ⟨_, rfl⟩
      rw [hs] at c0 c1
      have EX := extend_any _ w4.heap.size _ s (wr.alloc (.cells #[.int .i64 s.1, .int .i64 s.2] 24)) (by have := fold_len (d.take k) []; simp at this ⊢; omega) (by have := hbl.size; simp; omega) (World.ownsRow.alloc HO.out _)
      replace hs := Lib.hid hs
      obtain ⟨x, y⟩ := s
      dsimp only at c0 c1 EX
      replace EX := Lib.hid EX
      go_wp2_with (go_at_call 100; refine EX.out.mono ?_; rintro e w5 ⟨v5, rfl, o5, b5⟩)
      go_roundw
      case rel =>
        refine ⟨k + 1, by go_num, by omega, Lib.hid ?_, (hbl.alloc hbl.size _).trans b5⟩
        rw [fold_take (by rw [hn.out]; exact hlt), hs.out]
        exact o5
      case measure => simp [intOf]; omega
    · have hk' : d.take k = d := List.take_of_length_le (by rw [hn.out]; omega)
      have ho := HO.out
      rw [hk', HD.out] at ho
      obtain ⟨a6, c6, rfl, q1, q2, q3, _⟩ := ho.arg
      have hbw := b14.trans (hbl.mono b14.size)
      replace hk' := Lib.hid hk'
      clear HO
      replace ho := Lib.hid ho
      by_cases hL : S.length ≤ 64
      · replace hL := Lib.hid hL
        go_wp2_with (go_at_call 101; refine (limit_yes _ _ _ _ hL.out).mono ?_; rintro e w7 ⟨rfl, rfl⟩)
        go_ret2
        rw [show limP S = (S, 0) from if_pos hL.out]
        exact ⟨_, _, rfl, q1, q2, q3, hbw⟩
      · replace hL := Lib.hid hL
        go_wp2_with (go_at_call 101; refine (limit_no _ _ _ _ hL.out hSl).mono ?_; rintro e w7 ⟨rfl, rfl⟩)
        go_ret2
        rw [show limP S = ([], 2) from if_neg hL.out]
        exact SetPost.nil hbw

theorem make_any (a : Option Addr) (n c : Nat) (l : List Sp) (w : World) (hz : l.length ≤ 100000) (h : Arg w a n c l) : Calls Try.prog 54 #[.slice a n c] w (SetArg w (makeP l)) := by
  obtain ⟨rfl, _, _, _, h⟩ := h
  refine Calls.mono ?_ fun _ _ h => SetPost.arg h
  cases hall : l.all oneB
  · rw [show makeP l = ([], 1) from if_neg (by rw [hall]; simp)]
    exact make_bad a c l w hz h hall
  · rw [show makeP l = limP (setOf (hasB l)) from if_pos hall]
    exact make_ok a c l w hz h hall
theorem has_arg (l : List Sp) (key : Int) (a : Option Addr) (n c : Nat) (w : World) (h : Arg w a n c l) : Calls Try.prog 20 #[.slice a n c, .int .i64 key] w (Gives w (.bool (hasB l key))) := by
  obtain ⟨rfl, hz, _, _, h⟩ := h
  exact has_any a c l key w hz h
end Go.Proofs.Ytfnjadiibiedgaa
