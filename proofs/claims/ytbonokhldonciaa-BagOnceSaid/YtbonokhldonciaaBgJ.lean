/-
  BAGS: the numbers of all mails: the map's keys, sorted.
-/
import Derived.Test.YtbonokhldonciaaBgI
import Derived.Test.YtbonokhldonciaaIter
import Derived.Sort.KeysCollected
namespace Go.Proofs.Ytbonokhldonciaa
open Go.RowKit Go.Maps Go.ChangeMaps Go.ChangeShapes Go.WideShapes Go.Deep Go.Sort Go.Shelf

theorem Try.sortsI (m : Nat) : AnyZI.SortsIn Try.prog Try.sortedI_ren Fence.wide m :=
  ⟨fun blk off cap ss W hH hblk hsz => callsIn_wide.2 (AnyM.slices_Sort_int Try.sortI blk off cap ss W hH hblk hsz),
   fun p cap W => callsIn_wide.2 (AnyM.slices_Sort_int_none Try.sortI p cap W)⟩
theorem keys_any (mb : Option Nat) (W : World) : Calls Try.prog 34 #[.map mb] W fun e w' => e = .returned (.func (.func 45) #[] #[.pointer (some ⟨W.heap.size, 0, none⟩)]) ∧ w' = W.alloc (.cells #[.map mb] 58) :=
  callsIn_wide.1 (AnyZI.keys_in Try.keysI Fence.wide 5 trivial rfl mb W)
set_option maxHeartbeats 1000000 in
theorem sorted_any {H : Type} (b nn : Nat) (D0 : DataW H) (R : Value → Option (DataW H × List MemPlace)) (w : World) (hown : w.ownsMap Try.prog 3 R b nn D0) (hmax : Maps.size D0 ≤ maxLen) (hbytes : Maps.size D0 * 8 ≤ 140737488355328) :
    Calls Try.prog 33 #[.func (.func 45) #[] #[.pointer (some ⟨w.heap.size, 0, none⟩)]] (w.alloc (.cells #[.map (some b)] 58)) fun e w' => ∃ (v : Value) (ss : List Int), e = .returned v ∧ ss.Perm (intKeys D0) ∧
      w'.ownsRow (w.alloc (.cells #[.map (some b)] 58)).heap.size 3 1 v ss.length ((ss.mergeSort (fun x y => decide (x ≤ y))).map encZ) ∧ (v = .slice none 0 0 ↔ ss = []) ∧ Below (w.alloc (.cells #[.map (some b)] 58)).heap.size (w.alloc (.cells #[.map (some b)] 58)) w' := by
  have hbl := hown.lt
  have hseq : SeqGives Fence.wide 2 Try.prog 45 #[.pointer (some ⟨w.heap.size, 0, none⟩)] encZ (fun ss => ss.Perm (intKeys D0)) (Maps.size D0) (w.alloc (.cells #[.map (some b)] 58)) :=
    AnyZI.keys_gives (ρ := Try.keysI_ren) { Try.keysI with } Fence.wide _ trivial rfl (by omega) w.heap.size b nn D0 _ (by simp) (by simp) (by
      obtain ⟨es, clock, hb, Ft, hs, hD⟩ := hown
      exact ⟨es, clock, (Below.heap_alloc _ _ b hbl).trans hb, Ft, hs, hD⟩)
  exact callsIn_wide.1 (AnyZI.sorted_in Try.sortedI Fence.wide 5 trivial trivial trivial trivial rfl (by omega) (Try.sortsI _) (enters_of Try.func44 (by kernel_rfl) rfl) 45 #[.pointer (some ⟨w.heap.size, 0, none⟩)] trivial (enters_of Try.func45 (by kernel_rfl) rfl) _ _ hmax hbytes _ hseq)
theorem has_mem {l : List Int} {G : Int → Option Ml} {D : DataW Unit} {w : World} {b n : Nat} (hown : w.ownsMap Try.prog 3 rdM b n D) (hS : Says D G) (hl : ∀ x, x ∈ l ↔ (G x).isSome = true) (hw : ∀ x ∈ l, (Lit.int .i64 x).wf = true)
    (hrs : l.Pairwise (fun a b => a < b)) {ss : List Int} (hp : ss.Perm (intKeys D)) : ss.mergeSort (fun x y => decide (x ≤ y)) = l ∧ ss.length = l.length := by
  obtain ⟨es, hD, hk⟩ := World.ownsMap.keysOf hown
  obtain ⟨es', hD', hpw, _⟩ := hown.entries kInt
  have ees : es' = es := by rw [hD] at hD'; cases hD'; rfl
  subst ees
  have hk' : ∀ q ∈ es', ∃ x, q.1 = .int .i64 x ∧ (Lit.int .i64 x).wf = true := fun q hq => by
    obtain ⟨v, hv⟩ := hk q hq
    obtain ⟨x, _, e, hw⟩ := Maps.keyOf_i64 Try.underlying3 hv
    exact ⟨x, e, hw⟩
  have hq : l.Perm (intKeys D) := by
    rw [hD]
    refine perm_intKeys hpw (fun q hq => let ⟨x, e, _⟩ := hk' q hq; ⟨x, e⟩) (hrs.imp (fun h => by omega)) (fun x => ?_)
    rw [← hD, hl]
    by_cases hwx : (Lit.int .i64 x).wf = true
    · rw [(hS x hwx).1]
    · constructor
      · intro h
        exact absurd (hw x ((hl x).2 h)) hwx
      · intro h
        rw [hD, Maps.has_eq, List.any_eq_true] at h
        obtain ⟨q, hq, e⟩ := h
        have e2 := WideAt.sameKey_eq e
        obtain ⟨y, e3, hy⟩ := hk' q hq
        rw [e2] at e3
        cases e3
        exact absurd hy hwx
  have hps : ss.Perm l := hp.trans hq.symm
  refine ⟨(mergeSort_of_perm_i hps).trans ?_, hps.length_eq⟩
  exact List.mergeSort_of_pairwise (hrs.imp (fun h => by simp only [decide_eq_true_eq]; omega))
/-- The numbers of the mails in a bag, in order. -/
def idsL (G : Int → Option Ml) (last : Int) : List Int := ((List.range (last.toNat + 1)).map fun i : Nat => (i : Int)).filter fun i => (G i).isSome
theorem idsL_mem {G : Int → Option Ml} {last x : Int} (hk : ∀ k m, G k = some m → 1 ≤ k ∧ k ≤ last) : x ∈ idsL G last ↔ (G x).isSome = true := by
  unfold idsL
  simp only [List.mem_filter, List.mem_map, List.mem_range]
  constructor
  · exact fun h => h.2
  · intro h
    obtain ⟨m, hm⟩ := Option.isSome_iff_exists.1 h
    have := hk x m hm
    exact ⟨⟨x.toNat, by omega, by omega⟩, h⟩
theorem idsL_rises (G : Int → Option Ml) (last : Int) : (idsL G last).Pairwise (fun a b => a < b) := by
  unfold idsL
  refine List.Pairwise.filter _ ?_
  rw [List.pairwise_map]
  exact List.pairwise_lt_range.imp (fun h => by omega)
theorem size_intKeys {H : Type} (es : List (Lit × DataW H)) : (intKeys (DataW.map es)).length = es.length := by simp [intKeys]
def LPost (base : Nat) (l : List Int) (w : World) (e : Ending) (w' : World) : Prop := ∃ a c, e = .returned (.slice a l.length c) ∧ w'.ownsRow base 3 1 (.slice a l.length c) l.length (l.map (Value.int .i64)) ∧ Below base w w'
set_option maxHeartbeats 1000000 in
theorem ids_any {w : World} {p mb ab : Nat} {s : Bs} (h : Bg w p mb ab s) :
    Calls Try.prog 17 #[.pointer (some ⟨p, 0, none⟩)] w (LPost w.heap.size (idsL s.G s.last) w) ∧ (idsL s.G s.last).length = s.n := by
  obtain ⟨c0, c1, _⟩ := h.cells
  obtain ⟨D, hown, hsz, hsay⟩ := h.hm
  have hkk := fun k m hk => let q := h.keys k m hk; (⟨q.1, q.2.1⟩ : 1 ≤ k ∧ k ≤ s.last)
  have hl0 := h.last
  have hn4 := h.n4
  have HS := sorted_any mb _ D rdM w hown (by unfold maxLen; omega) (by omega)
  have HL := fun ss hp => has_mem hown hsay (fun x => idsL_mem (G := s.G) (last := s.last) (x := x) hkk) (fun x hx => by
    obtain ⟨m, hm⟩ := Option.isSome_iff_exists.1 ((idsL_mem hkk).1 hx)
    have := hkk x m hm
    exact wf_i64 (by omega) (by omega)) (idsL_rises _ _) (ss := ss) hp
  refine ⟨?_, ?_⟩
  · have bw : Below w.heap.size w (w.alloc (.cells #[.map (some mb)] 58)) := (Below.refl _ _).alloc (Nat.le_refl _) _
    replace HL := Lib.hid HL
    clear hl0 hn4 hkk hsz hsay hown
    go_enter Try.func17, Try.ntmps17
    go_wp2_with (first
      | (go_at_call 34; refine (keys_any _ _).mono ?_; rintro e w1 ⟨rfl, hw1⟩; subst w1)
      | (go_at_call 33; refine HS.mono ?_; rintro e w2 ⟨v, ss, rfl, hp, hrow, hnil, hb⟩))
    go_ret
    obtain ⟨e1, e2⟩ := HL.out ss hp
    rw [e1, e2] at hrow
    have hrow' := ownsRow_base_a hrow (show w.heap.size ≤ _ by simp)
    have hsl : ∃ a c, v = .slice a (idsL s.G s.last).length c := by
      rcases hrow.2 with ⟨hv, h0⟩ | ⟨g, cap, cur, hv, _⟩
      · exact ⟨none, 0, by rw [hv, h0]⟩
      · exact ⟨_, _, hv⟩
    obtain ⟨a, c, rfl⟩ := hsl
    exact ⟨a, c, rfl, hrow', bw.trans (hb.mono bw.size)⟩
  · have hp := HL (intKeys D) (List.Perm.refl _)
    rw [← hp.2, ← hsz]
    obtain ⟨es, hD, _⟩ := World.ownsMap.keysOf hown
    rw [hD, size_intKeys]
    rfl
end Go.Proofs.Ytbonokhldonciaa
