/-
  SLABS: which blocks are loose: the map's keys, sorted.
-/
import Derived.Test.YthcebcpippbhfaaSlN
import Derived.Test.YthcebcpippbhfaaIter
import Derived.Sort.KeysCollected
namespace Go.Proofs.Ythcebcpippbhfaa
open Go.RowKit Go.Maps Go.ChangeMaps Go.ChangeShapes Go.WideShapes Go.Deep Go.Sort Go.Shelf

theorem Try.sortsI (m : Nat) : AnyZI.SortsIn Try.prog Try.sortedI_ren Fence.wide m :=
  ⟨fun blk off cap ss W hH hblk hsz => callsIn_wide.2 (AnyM.slices_Sort_int Try.sortI blk off cap ss W hH hblk hsz),
   fun p cap W => callsIn_wide.2 (AnyM.slices_Sort_int_none Try.sortI p cap W)⟩
theorem keys_any (mb : Option Nat) (W : World) : Calls Try.prog 36 #[.map mb] W fun e w' => e = .returned (.func (.func 44) #[] #[.pointer (some ⟨W.heap.size, 0, none⟩)]) ∧ w' = W.alloc (.cells #[.map mb] 60) :=
  callsIn_wide.1 (AnyZI.keys_in Try.keysI Fence.wide 5 trivial rfl mb W)
set_option maxHeartbeats 1000000 in
theorem sorted_any {H : Type} (b nn : Nat) (D0 : DataW H) (R : Value → Option (DataW H × List MemPlace)) (w : World) (hown : w.ownsMap Try.prog 3 R b nn D0) (hmax : Maps.size D0 ≤ maxLen) (hbytes : Maps.size D0 * 8 ≤ 140737488355328) :
    Calls Try.prog 35 #[.func (.func 44) #[] #[.pointer (some ⟨w.heap.size, 0, none⟩)]] (w.alloc (.cells #[.map (some b)] 60)) fun e w' => ∃ (v : Value) (ss : List Int), e = .returned v ∧ ss.Perm (intKeys D0) ∧
      w'.ownsRow (w.alloc (.cells #[.map (some b)] 60)).heap.size 3 1 v ss.length ((ss.mergeSort (fun x y => decide (x ≤ y))).map encZ) ∧ (v = .slice none 0 0 ↔ ss = []) ∧ Below (w.alloc (.cells #[.map (some b)] 60)).heap.size (w.alloc (.cells #[.map (some b)] 60)) w' := by
  have hbl := hown.lt
  have hseq : SeqGives Fence.wide 2 Try.prog 44 #[.pointer (some ⟨w.heap.size, 0, none⟩)] encZ (fun ss => ss.Perm (intKeys D0)) (Maps.size D0) (w.alloc (.cells #[.map (some b)] 60)) :=
    AnyZI.keys_gives (ρ := Try.keysI_ren) { Try.keysI with } Fence.wide _ trivial rfl (by omega) w.heap.size b nn D0 _ (by simp) (by simp) (by
      obtain ⟨es, clock, hb, Ft, hs, hD⟩ := hown
      exact ⟨es, clock, (Below.heap_alloc _ _ b hbl).trans hb, Ft, hs, hD⟩)
  exact callsIn_wide.1 (AnyZI.sorted_in Try.sortedI Fence.wide 5 trivial trivial trivial trivial rfl (by omega) (Try.sortsI _) (enters_of Try.func43 (by kernel_rfl) rfl) 44 #[.pointer (some ⟨w.heap.size, 0, none⟩)] trivial (enters_of Try.func44 (by kernel_rfl) rfl) _ _ hmax hbytes _ hseq)
/-- The loose blocks, in order. -/
def looseL (bs : List Bk) : List Int := ((List.range bs.length).filter fun i => (atB bs i).2.isSome).map fun i : Nat => (i : Int)
theorem looseL_mem {bs : List Bk} {x : Int} : x ∈ looseL bs ↔ (looseAt bs x).isSome = true := by
  unfold looseL
  simp only [List.mem_map, List.mem_filter, List.mem_range]
  constructor
  · rintro ⟨i, ⟨hi, hs⟩, rfl⟩
    rw [looseAt_atB]; exact hs
  · intro h
    obtain ⟨t, ht⟩ := Option.isSome_iff_exists.1 h
    obtain ⟨i, rfl, hi, e⟩ := looseAt_some ht
    exact ⟨i, ⟨hi, by rw [atB_in hi, e]; rfl⟩, rfl⟩
theorem looseL_rises (bs : List Bk) : (looseL bs).Pairwise (fun a b => a < b) := by
  unfold looseL
  rw [List.pairwise_map]
  exact (List.pairwise_lt_range.filter _).imp (fun h => by omega)
theorem looseL_calm {bs : List Bk} (h : Calm bs) : looseL bs = [] := by
  apply List.eq_nil_iff_forall_not_mem.2
  intro x hx
  rw [looseL_mem, h.at x] at hx
  cases hx
theorem looseL_sorted {D : DataW Unit} {bs : List Bk} {w : World} {b n : Nat} (hown : w.ownsMap Try.prog 3 rdW b n D) (hS : Says D bs) (hl : bs.length ≤ 4096) {ss : List Int} (hp : ss.Perm (intKeys D)) : ss.mergeSort (fun x y => decide (x ≤ y)) = looseL bs ∧ ss.length = (looseL bs).length := by
  have hrs := looseL_rises bs
  obtain ⟨es, hD, hk⟩ := World.ownsMap.keysOf hown
  obtain ⟨es', hD', hpw, _⟩ := hown.entries kInt
  have ees : es' = es := by rw [hD] at hD'; cases hD'; rfl
  subst ees
  have hk' : ∀ q ∈ es', ∃ x, q.1 = .int .i64 x ∧ (Lit.int .i64 x).wf = true := fun q hq => by
    obtain ⟨v, hv⟩ := hk q hq
    obtain ⟨x, _, e, hw⟩ := Maps.keyOf_i64 Try.underlying3 hv
    exact ⟨x, e, hw⟩
  have hq : (looseL bs).Perm (intKeys D) := by
    rw [hD]
    refine perm_intKeys hpw (fun q hq => let ⟨x, e, _⟩ := hk' q hq; ⟨x, e⟩) (hrs.imp (fun h => by omega)) (fun x => ?_)
    rw [← hD, looseL_mem]
    by_cases hw : (Lit.int .i64 x).wf = true
    · rw [(hS x hw).1]
    · constructor
      · intro h
        obtain ⟨t, ht⟩ := Option.isSome_iff_exists.1 h
        obtain ⟨i, rfl, hi, _⟩ := looseAt_some ht
        exact absurd (wf_i64 (by omega) (by omega)) hw
      · intro h
        rw [hD, Maps.has_eq, List.any_eq_true] at h
        obtain ⟨q, hq, e⟩ := h
        have e2 := WideAt.sameKey_eq e
        obtain ⟨y, e3, hy⟩ := hk' q hq
        rw [e2] at e3
        cases e3
        exact absurd hy hw
  have hps : ss.Perm (looseL bs) := hp.trans hq.symm
  refine ⟨(mergeSort_of_perm_i hps).trans ?_, hps.length_eq⟩
  exact List.mergeSort_of_pairwise (hrs.imp (fun h => by simp only [decide_eq_true_eq]; omega))
def LPost (base : Nat) (l : List Int) (w : World) (e : Ending) (w' : World) : Prop := ∃ v, e = .returned v ∧ OwnsI w' base v l ∧ (l = [] → v = .slice none 0 0) ∧ Below base w w'
set_option maxHeartbeats 1000000 in
theorem loose_any {w : World} {p db mb : Nat} {s : St} (h : Sl w p db mb s) :
    Calls Try.prog 18 #[.pointer (some ⟨p, 0, none⟩)] w (LPost w.heap.size (looseL s.bs) w) := by
  obtain ⟨ka, kn, kc, h⟩ := h
  obtain ⟨c0, c1, _⟩ := h.cells
  obtain ⟨D, hown, hsz, hsay⟩ := h.hm
  have hcl := cntL_le s.bs
  have hll := h.len.2
  have HS := sorted_any mb _ D rdW w hown (by unfold maxLen; omega) (by omega)
  have HL := fun ss hp => looseL_sorted hown hsay hll (ss := ss) hp
  have bw : Below w.heap.size w (w.alloc (.cells #[.map (some mb)] 60)) := (Below.refl _ _).alloc (Nat.le_refl _) _
  replace HL := Lib.hid HL
  go_enter Try.func18, Try.ntmps18
  go_wp2_with (first
    | (go_at_call 36; refine (keys_any _ _).mono ?_; rintro e w1 ⟨rfl, hw1⟩; subst w1)
    | (go_at_call 35; refine HS.mono ?_; rintro e w2 ⟨v, ss, rfl, hp, hrow, hnil, hb⟩))
  go_ret
  obtain ⟨e1, e2⟩ := HL.out ss hp
  refine ⟨v, rfl, ?_, fun q => hnil.2 (by rw [q] at e2; exact List.eq_nil_of_length_eq_zero e2), bw.trans (hb.mono bw.size)⟩
  unfold OwnsI
  rw [← e2, ← e1]
  exact ownsRow_base_a hrow (by simp)
theorem loose_calm {w : World} {p db mb : Nat} {s : St} (h : Sl w p db mb s) (hc : Calm s.bs) :
    Calls Try.prog 18 #[.pointer (some ⟨p, 0, none⟩)] w (RPost (.slice none 0 0) w) := by
  refine (loose_any h).mono ?_
  rintro e w' ⟨v, rfl, _, hn, hb⟩
  rw [hn (looseL_calm hc)]
  exact ⟨rfl, hb⟩
end Go.Proofs.Ythcebcpippbhfaa
