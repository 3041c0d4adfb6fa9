/-
  PLAIN: frames one behind the other; where each ends; what a cut leaves of them. Rows of texts of the call's own, and slices of texts that came in.
-/
import Derived.Test.YtjeeplacolbihabLawD
import Derived.SliceStrings
namespace Go.Proofs.Ytjeeplacolbihab
open Go.RowKit

/-! ## Frames, one behind the other -/
def framesL : List ByteArray → List UInt8
  | [] => []
  | b :: r => (frameS b).data.toList ++ framesL r
def framesS (l : List ByteArray) : ByteArray := ⟨(framesL l).toArray⟩
theorem framesS_nil : framesS [] = ByteArray.empty := rfl
theorem framesS_data (l : List ByteArray) : (framesS l).data.toList = framesL l := rfl
theorem framesS_cons (b : ByteArray) (l : List ByteArray) : framesS (b :: l) = frameS b ++ framesS l := by
  apply ba_ext; rw [ba_app]; rfl
theorem framesL_app (l m : List ByteArray) : framesL (l ++ m) = framesL l ++ framesL m := by
  induction l with
  | nil => rfl
  | cons a r ih => simp [framesL, ih]
theorem framesS_snoc (l : List ByteArray) (b : ByteArray) : framesS (l ++ [b]) = framesS l ++ frameS b := by
  apply ba_ext; rw [ba_app, framesS_data, framesL_app]; simp [framesL, framesS_data]
theorem frame_size_ge (b : ByteArray) : 5 ≤ (frameS b).size := by
  unfold frameS textS
  rw [size_app', size_app', fourS_size]
  have := numL_len_pos b.size
  rw [numS_len (by omega), Int.toNat_natCast]
  omega
theorem frame_size_le {b : ByteArray} (h : (b.size : Int) ≤ 9000000000000000000) : (frameS b).size ≤ b.size + 13 := by
  have := textS_size h
  unfold frameS
  rw [size_app', fourS_size]
  omega

/-! ## What Open says of them -/
theorem rText_most {s : ByteArray} {e most : Int} (hm : 0 ≤ most) : ((rText s e most).1.size : Int) ≤ most := by
  unfold rText
  by_cases h1 : (rLen s e most).2.2 = 0
  · obtain ⟨a, b⟩ := rLen_once h1
    rw [if_pos h1]
    split
    · simpa using hm
    · have hv := (rNum_val s e).1
      dsimp only
      rw [ba_size, ba_take, List.length_take, a]
      omega
  · rw [if_neg h1]
    simpa using hm
theorem openR_once {s : ByteArray} (h : (openR s).2.2 = 0) : frameS (openR s).1 ++ (openR s).2.1 = s ∧ (openR s).1.size ≤ 1048576 := by
  unfold openR at h ⊢
  by_cases h0 : (rText s 0 1048576).2.2 = 0
  · have ho := rText_once h0
    have hm := rText_most (s := s) (e := 0) (most := 1048576) (by decide)
    obtain ⟨t, u, e1, hT⟩ : ∃ t u e1, rText s 0 1048576 = (t, u, e1) := ⟨_, _, _, rfl⟩
    rw [hT] at h0 h ho hm ⊢
    dsimp only at h0 h ho hm ⊢
    rw [if_pos h0] at h ⊢
    by_cases h4 : u.size < 4
    · rw [if_pos h4] at h; cases h
    · rw [if_neg h4] at h ⊢
      by_cases hq : (u.extract 0 4).data.toList = fourL (sumL (s.extract 0 (s.size - u.size)).data.toList)
      · rw [if_pos hq] at h ⊢
        dsimp only
        refine ⟨?_, by omega⟩
        have hx : s.extract 0 (s.size - u.size) = textS t := by rw [← ho, size_app', Nat.add_sub_cancel, ba_head]
        rw [hx] at hq
        have hu : fourS (sumL (textS t).data.toList) ++ u.extract 4 u.size = u := by
          apply ba_ext
          rw [ba_app]
          show fourL _ ++ _ = _
          rw [← hq, ba_take, ba_drop, List.take_append_drop]
        unfold frameS
        rw [ba_assoc, hu, ho]
      · rw [if_neg hq] at h; cases h
  · rw [if_neg h0] at h
    exact absurd h h0

/-- A beginning of a frame that is not all of it is no frame. -/
theorem openR_cut {b : ByteArray} (hb : b.size ≤ 1048576) {j : Nat} (hj : j < (frameS b).size) : (openR ((frameS b).extract 0 j)).2.2 ≠ 0 := by
  intro h
  obtain ⟨h1, h2⟩ := openR_once h
  have h3 := ba_split (frameS b) j
  have h4 := openR_back ((openR ((frameS b).extract 0 j)).2.1 ++ (frameS b).extract j (frameS b).size) h2
  rw [← ba_assoc, h1, h3] at h4
  have h5 := openR_back ByteArray.empty hb
  rw [show frameS b ++ ByteArray.empty = frameS b from by apply ba_ext; rw [ba_app]; simp] at h5
  rw [h5] at h4
  have h6 : ByteArray.empty = (openR ((frameS b).extract 0 j)).2.1 ++ (frameS b).extract j (frameS b).size := congrArg (fun x => x.2.1) h4
  have h7 := congrArg ByteArray.size h6
  rw [size_app', ba_size ((frameS b).extract j _), ba_drop, List.length_drop, ← ba_size] at h7
  simp at h7
  omega
theorem openR_none : (openR ByteArray.empty).2.2 ≠ 0 := by
  intro h
  have h1 := (openR_once h).1
  have h2 := congrArg ByteArray.size h1
  have h3 := frame_size_ge (openR ByteArray.empty).1
  have h4 : ByteArray.empty.size = 0 := rfl
  rw [size_app', h4] at h2
  omega

/-! ## Cut off anywhere -/
/-- Where each frame ends. -/
def endsOf (l : List ByteArray) : List Int := (List.range l.length).map fun i => ((framesS (l.take (i + 1))).size : Int)
theorem endsOf_len (l : List ByteArray) : (endsOf l).length = l.length := by simp [endsOf]
theorem endsOf_snoc (l : List ByteArray) (b : ByteArray) : endsOf (l ++ [b]) = endsOf l ++ [((framesS (l ++ [b])).size : Int)] := by
  unfold endsOf
  rw [List.length_append, List.length_singleton, List.range_succ, List.map_append]
  congr 1
  · apply List.map_congr_left
    intro i hi
    rw [List.mem_range] at hi
    rw [List.take_append_of_le_length (by omega)]
  · simp only [List.map_cons, List.map_nil]
    rw [List.take_of_length_le (by simp)]
theorem endsOf_get {l : List ByteArray} {i : Nat} (h : i < l.length) : (endsOf l).getD i 0 = ((framesS (l.take (i + 1))).size : Int) := by
  unfold endsOf
  simp [List.getD, h]
theorem framesS_cut {l : List ByteArray} {n at_ : Nat} (hl : ∀ b ∈ l, b.size ≤ 1048576) (hn : n ≤ l.length) (h1 : (framesS (l.take n)).size ≤ at_)
    (h3 : n = l.length ∨ at_ < (framesS (l.take (n + 1))).size) :
    ∃ r, (framesS l).extract 0 at_ = framesS (l.take n) ++ r ∧ (openR r).2.2 ≠ 0 := by
  rcases h3 with h3 | h3
  · subst h3
    rw [List.take_length] at h1 ⊢
    refine ⟨ByteArray.empty, ?_, openR_none⟩
    apply ba_ext
    rw [ba_take, ba_app, List.take_of_length_le (by rw [← ba_size]; omega)]
    simp
  · rcases Nat.lt_or_ge n l.length with hlt | hge
    · refine ⟨(frameS l[n]).extract 0 (at_ - (framesS (l.take n)).size), ?_, openR_cut (hl _ (List.getElem_mem _)) ?_⟩
      · have e1 : l.take (n + 1) = l.take n ++ [l[n]] := by rw [List.take_succ_eq_append_getElem hlt]
        rw [e1, framesS_snoc, size_app'] at h3
        have e2 : framesL l = framesL (l.take n) ++ ((frameS l[n]).data.toList ++ framesL (l.drop (n + 1))) := by
          conv => lhs; rw [← List.take_append_drop n l, framesL_app, List.drop_eq_getElem_cons hlt]
          rfl
        have e3 : (framesL (l.take n)).length = (framesS (l.take n)).size := by rw [ba_size, framesS_data]
        apply ba_ext
        rw [ba_take, ba_app, ba_take, framesS_data, framesS_data, e2, List.take_append, List.take_append, e3]
        have e4 : ((frameS l[n]).data.toList).length = (frameS l[n]).size := (ba_size _).symm
        rw [List.take_of_length_le (by omega), e4, show at_ - (framesS (l.take n)).size - (frameS l[n]).size = 0 by omega, List.take_zero, List.append_nil]
      · have e1 : l.take (n + 1) = l.take n ++ [l[n]] := by rw [List.take_succ_eq_append_getElem hlt]
        rw [e1, framesS_snoc, size_app'] at h3
        omega
    · have : l.take (n + 1) = l.take n := by rw [List.take_of_length_le (by omega), List.take_of_length_le (by omega)]
      rw [this] at h3
      omega

/-! ## The bodies that are kept -/
/-- Those of at most 1,000 bytes among the first k. -/
def keepK (l : List ByteArray) (k : Nat) : List ByteArray := (l.take k).filter fun b => decide (b.size ≤ 1000)
theorem keepK_zero (l : List ByteArray) : keepK l 0 = [] := rfl
theorem take_moreS {l : List ByteArray} {k : Nat} (h : k < l.length) : l.take (k + 1) = l.take k ++ [l.getD k ByteArray.empty] := by
  rw [List.take_succ_eq_append_getElem h]; simp [List.getD, List.getElem?_eq_getElem h]
theorem keepK_yes {l : List ByteArray} {k : Nat} (h : k < l.length) (h0 : (l.getD k ByteArray.empty).size ≤ 1000) : keepK l (k + 1) = keepK l k ++ [l.getD k ByteArray.empty] := by
  unfold keepK
  rw [take_moreS h, List.filter_append]
  simp only [List.filter_cons, List.filter_nil]
  rw [if_pos (by simpa using h0)]
theorem keepK_no {l : List ByteArray} {k : Nat} (h : k < l.length) (h0 : 1000 < (l.getD k ByteArray.empty).size) : keepK l (k + 1) = keepK l k := by
  unfold keepK
  rw [take_moreS h, List.filter_append]
  simp only [List.filter_cons, List.filter_nil]
  rw [if_neg (by simpa using h0), List.append_nil]
theorem keepK_mem {l : List ByteArray} {k : Nat} : ∀ b ∈ keepK l k, b.size ≤ 1000 := by
  intro b hb
  unfold keepK at hb
  rw [List.mem_filter] at hb
  simpa using hb.2
theorem framesS_small {l : List ByteArray} (h : ∀ b ∈ l, b.size ≤ 1000) : (framesS l).size ≤ 1013 * l.length := by
  induction l with
  | nil => simp [framesS_nil]
  | cons a r ih =>
    have h1 := ih (fun b hb => h b (by simp [hb]))
    have h2 := h a (by simp)
    have h3 := frame_size_le (b := a) (by omega)
    rw [framesS_cons, size_app', List.length_cons]
    omega

/-! ## Rows of texts -/
theorem Try.infoStr : (Try.prog.info? 9).map (fun i => (i.zero, i.size, i.bytes)) = some (some (.string ByteArray.empty), 1, 16) := by kernel_rfl
/-- The texts ss lie where the slice value leads. -/
def StrsIn (w : World) (a : Option Addr) (ss : List ByteArray) : Prop :=
  ss = [] ∨ ∃ b off, a = some ⟨b, off, none⟩ ∧ b < w.heap.size ∧ ∀ k, k < ss.length → w.cell? ⟨b, off + k, none⟩ = some (.string (ss.getD k ByteArray.empty))
/-- What a walk is told of a slice of texts that came in. -/
def StrsArg (w : World) (a : Option Addr) (len : Nat) (ss : List ByteArray) : Prop :=
  ss.length = len ∧ StrsIn w a ss ∧ (∀ s ∈ ss, s.size ≤ maxLen) ∧ (ss.length : Int) ≤ 9223372036854775807
theorem StrsArg.nil (w : World) (a : Option Addr) : StrsArg w a 0 [] := ⟨rfl, .inl rfl, by simp, by simp⟩
theorem StrsArg.of_row {w : World} {x : Addr} {len cap : Nat} {ss : List ByteArray} (hl : len ≤ cap) (hm : cap ≤ maxLen) (hz : ss.length = cap)
    (hcell : ∀ i, i < ss.length → w.cell? (x.add i) = some (.string (ss.getD i ByteArray.empty))) (hws : ∀ s ∈ ss, s.size ≤ maxLen) : StrsArg w (some x) len (ss.take len) := by
  refine ⟨by rw [List.length_take]; omega, ?_, fun z h => hws z (List.mem_of_mem_take h), by rw [List.length_take]; unfold maxLen at hm; omega⟩
  by_cases h0 : len = 0
  · subst h0; exact .inl (by simp)
  · refine .inr ?_
    obtain ⟨b, off, spot⟩ := x
    have hc := hcell 0 (by omega)
    have hspot : spot = none := by simpa [Addr.add] using World.cell?_spot hc
    subst hspot
    refine ⟨b, off, rfl, World.block_lt_of_cell? w _ (by simpa [Addr.add] using hc), fun k hk => ?_⟩
    rw [List.length_take] at hk
    have h1 := hcell k (by omega)
    have h2 : (ss.take len).getD k ByteArray.empty = ss.getD k ByteArray.empty := by
      simp only [List.getD, List.getElem?_take]
      rw [if_pos (by omega)]
    rw [h2, ← h1]
    by_cases hk0 : k = 0
    · subst hk0; simp [Addr.add]
    · simp [Addr.add, hk0]
theorem StrsIn.below {w w' : World} {a : Option Addr} {ss : List ByteArray} (h : StrsIn w a ss) (hb : Below w.heap.size w w') : StrsIn w' a ss := by
  rcases h with h | ⟨b, off, ha, hlt, hc⟩
  · exact .inl h
  · exact .inr ⟨b, off, ha, Nat.lt_of_lt_of_le hlt hb.size, fun k hk => (hb.cell (by exact hlt)).trans (hc k hk)⟩
theorem StrsIn.take {w : World} {a : Option Addr} {ss : List ByteArray} (h : StrsIn w a ss) (n : Nat) : StrsIn w a (ss.take n) := by
  rcases h with h | ⟨b, off, ha, hlt, hc⟩
  · exact .inl (by rw [h]; simp)
  · refine .inr ⟨b, off, ha, hlt, fun k hk => ?_⟩
    rw [List.length_take] at hk
    rw [hc k (by omega)]
    simp only [List.getD, List.getElem?_take]
    rw [if_pos (by omega)]
/-- The value v is a row of texts of the call's own. -/
def OwnsS (w : World) (base : Nat) (v : Value) (l : List ByteArray) : Prop := w.ownsRow base 9 1 v l.length (l.map Value.string)
theorem OwnsS.nil (w : World) (base : Nat) : OwnsS w base (.slice none 0 0) [] := World.ownsRow_nil w base _ 1
theorem OwnsS.push {w : World} {base : Nat} {v : Value} {l : List ByteArray} {x : ByteArray} (h : w.ownsRow base 9 1 v (l.length + 1) (l.map Value.string ++ [.string x])) : OwnsS w base v (l ++ [x]) := by
  unfold OwnsS
  rw [List.length_append, List.map_append]
  exact h
theorem OwnsS.arg {w : World} {base : Nat} {v : Value} {l : List ByteArray} (h : OwnsS w base v l) : ∃ a cap, v = .slice a l.length cap ∧ StrsIn w a l ∧ l.length ≤ cap := by
  rcases h.2 with ⟨rfl, hn⟩ | ⟨g, cap, cur, rfl, _⟩
  · have : l = [] := List.eq_nil_of_length_eq_zero hn
    subst this
    exact ⟨none, 0, rfl, .inl rfl, Nat.le_refl _⟩
  · rename_i hh
    refine ⟨some ⟨g, 0, none⟩, cap, rfl, .inr ⟨g, 0, rfl, (h.lt g rfl).2, fun k hk => ?_⟩, hh.2.2.1⟩
    have := World.ownsRow.cells (g := g) h rfl k (.string (l.getD k ByteArray.empty)) (by simp [List.getElem?_eq_getElem hk])
    rw [← this]
    by_cases hk0 : k = 0
    · subst hk0; simp [Addr.add]
    · simp [Addr.add, hk0]
theorem OwnsS.below {w w' : World} {base : Nat} {v : Value} {l : List ByteArray} (h : OwnsS w base v l) (hb : Below w.heap.size w w') : OwnsS w' base v l :=
  World.ownsRow.kept h (row := none) ⟨hb.os, hb.tape, hb.output, hb.size, fun k hk _ => hb.block k hk⟩ (by cases hv : v.ownBlock <;> simp)
end Go.Proofs.Ytjeeplacolbihab
