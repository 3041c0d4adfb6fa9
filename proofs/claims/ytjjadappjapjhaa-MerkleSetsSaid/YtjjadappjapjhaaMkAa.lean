/-
  PLAIN: the document's way to the keys that differ is the program's.
-/
import Derived.Test.YtjjadappjapjhaaMkY
namespace Go.Proofs.Ytjjadappjapjhaa

theorem flat_range (p : Nat → Bool) : ∀ n, ((List.range n).filter p).flatMap kidsL = (List.range (n * 16)).filter fun k => p (k / 16)
  | 0 => rfl
  | n + 1 => by
    rw [List.range_succ, List.filter_append, List.flatMap_append, flat_range p n, show (n + 1) * 16 = n * 16 + 16 by omega, List.range_add, List.filter_append]
    congr 1
    have e : ((List.range 16).map (n * 16 + ·)).filter (fun k => p (k / 16)) = if p n = true then (List.range 16).map (n * 16 + ·) else [] := by
      by_cases h : p n = true
      · rw [if_pos h, List.filter_eq_self]
        intro k hk
        obtain ⟨i, hi, rfl⟩ := List.mem_map.1 hk
        have := List.mem_range.1 hi
        rw [show (n * 16 + i) / 16 = n by omega]
        exact h
      · rw [if_neg h, List.filter_eq_nil_iff]
        intro k hk
        obtain ⟨i, hi, rfl⟩ := List.mem_map.1 hk
        have := List.mem_range.1 hi
        rw [show (n * 16 + i) / 16 = n by omega]
        exact h
    rw [e]
    by_cases h : p n = true
    · rw [if_pos h]
      simp [h, kidsL]
    · rw [if_neg h]
      simp [h]
/-- A key that differs, and all above it. -/
def difK (C1 C2 : Nat → Option Int) (k : Nat) : Bool := difB C1 C2 3 (k / 16 / 16 / 16) && difB C1 C2 2 (k / 16 / 16) && difB C1 C2 1 (k / 16) && difB C1 C2 0 k
theorem difL_all (C1 C2 : Nat → Option Int) : difL C1 C2 3 = (List.range 4096).filter (difK C1 C2) := by
  have h0 : difL C1 C2 0 = (List.range 1).filter (difB C1 C2 3) := rfl
  have h1 : difL C1 C2 1 = (List.range 16).filter fun k => difB C1 C2 3 (k / 16) && difB C1 C2 2 k := by
    show ((difL C1 C2 0).flatMap kidsL).filter (difB C1 C2 2) = _
    rw [h0, flat_range, List.filter_filter]
    congr 1
    funext k
    exact Bool.and_comm _ _
  have h2 : difL C1 C2 2 = (List.range 256).filter fun k => difB C1 C2 3 (k / 16 / 16) && difB C1 C2 2 (k / 16) && difB C1 C2 1 k := by
    show ((difL C1 C2 1).flatMap kidsL).filter (difB C1 C2 1) = _
    rw [h1, flat_range, List.filter_filter]
    congr 1
    funext k
    exact Bool.and_comm _ _
  show ((difL C1 C2 2).flatMap kidsL).filter (difB C1 C2 0) = _
  rw [h2, flat_range, List.filter_filter]
  congr 1
  funext k
  exact Bool.and_comm _ _
/-- One key more, however many spans there are. -/
def spanU (set : List Sk) (key : Nat) : List Sk := match set.getLast? with
  | none => [(key, key + 1)]
  | some x => if x.2 = key then set.dropLast ++ [(x.1, key + 1)] else set ++ [(key, key + 1)]
theorem spanU_nil (key : Nat) : spanU [] key = [(key, key + 1)] := rfl
theorem spanU_snoc (p : List Sk) (x : Sk) (key : Nat) : spanU (p ++ [x]) key = if x.2 = key then p ++ [(x.1, key + 1)] else p ++ [x] ++ [(key, key + 1)] := by
  unfold spanU
  rw [List.getLast?_concat]
  dsimp only
  rw [List.dropLast_concat]
/-- What is too much goes to the last one. -/
def trimS (S : List Sk) : List Sk := if S.length ≤ 64 then S else S.take 63 ++ [((S[63]!).1, (S.getLast?.getD (0, 0)).2)]
theorem trimS_small {S : List Sk} (h : S.length ≤ 64) : trimS S = S := if_pos h
theorem trimS_big {p : List Sk} {x : Sk} (h : 64 ≤ p.length) : trimS (p ++ [x]) = p.take 63 ++ [((p[63]!).1, x.2)] := by
  unfold trimS
  rw [if_neg (by rw [List.length_append, List.length_singleton]; omega), List.getLast?_concat]
  rw [List.take_append_of_le_length (by omega), getElem!_pos (p ++ [x]) 63 (by rw [List.length_append]; omega), List.getElem_append_left (by omega), getElem!_pos p 63 (by omega)]
  rfl
theorem trim_step (S : List Sk) (key : Nat) : trimS (spanU S key) = spanS (trimS S) key := by
  rcases nil_or_snoc S with rfl | ⟨p, x, rfl⟩
  · rfl
  · rw [spanU_snoc]
    by_cases hp : p.length ≤ 63
    · rw [trimS_small (S := p ++ [x]) (by rw [List.length_append, List.length_singleton]; omega), spanS_snoc]
      by_cases hx : x.2 = key
      · rw [if_pos hx, if_pos (.inr hx), trimS_small (by rw [List.length_append, List.length_singleton]; omega)]
      · rw [if_neg hx]
        by_cases h63 : p.length = 63
        · rw [if_pos (.inl h63), trimS_big (by rw [List.length_append, List.length_singleton]; omega)]
          rw [List.take_left' h63, getElem!_pos (p ++ [x]) 63 (by rw [List.length_append, List.length_singleton]; omega), List.getElem_append_right (by omega)]
          simp [h63]
        · rw [if_neg (by omega), trimS_small (by rw [List.length_append, List.length_append, List.length_singleton, List.length_singleton]; omega)]
    · have hp64 : 64 ≤ p.length := by omega
      have hr : spanS (p.take 63 ++ [((p[63]!).1, x.2)]) key = p.take 63 ++ [((p[63]!).1, key + 1)] := by rw [spanS_snoc, if_pos (.inl (by rw [List.length_take]; omega))]
      rw [trimS_big (x := x) hp64, hr]
      by_cases hx : x.2 = key
      · rw [if_pos hx, trimS_big hp64]
      · rw [if_neg hx, trimS_big (by rw [List.length_append]; omega)]
        rw [List.take_append_of_le_length (by omega), getElem!_pos (p ++ [x]) 63 (by rw [List.length_append]; omega), List.getElem_append_left (by omega), getElem!_pos p 63 (by omega)]
def spansU (keys : List Nat) : List Sk := keys.foldl spanU []
theorem spansU_snoc (l : List Nat) (k : Nat) : spansU (l ++ [k]) = spanU (spansU l) k := by unfold spansU; rw [List.foldl_append]; rfl
theorem trim_all (keys : List Nat) : trimS (spansU keys) = spansL keys := by
  suffices h : ∀ (l : List Nat) (S : List Sk), trimS (l.foldl spanU S) = l.foldl spanS (trimS S) from h keys []
  intro l
  induction l with
  | nil => intro S; rfl
  | cons a l ih => intro S; rw [List.foldl_cons, List.foldl_cons, ih, trim_step]
/-- One too many less. -/
def trim1 (S : List Sk) : List Sk := S.dropLast.dropLast ++ [((S.dropLast.getLast?.getD (0, 0)).1, (S.getLast?.getD (0, 0)).2)]
theorem trim1_is (p : List Sk) (x y : Sk) : trim1 (p ++ [x] ++ [y]) = p ++ [(x.1, y.2)] := by
  unfold trim1
  rw [List.dropLast_concat, List.dropLast_concat, List.getLast?_concat, List.getLast?_concat]
  rfl
theorem trim1_same {p : List Sk} {x y : Sk} (h : 63 ≤ p.length) : trimS (p ++ [x] ++ [y]) = trimS (p ++ [(x.1, y.2)]) := by
  rw [trimS_big (by rw [List.length_append, List.length_singleton]; omega)]
  by_cases h63 : p.length = 63
  · rw [trimS_small (by rw [List.length_append, List.length_singleton]; omega), List.take_left' h63, getElem!_pos (p ++ [x]) 63 (by rw [List.length_append, List.length_singleton]; omega), List.getElem_append_right (by omega)]
    simp [h63]
  · rw [trimS_big (by omega)]
    rw [List.take_append_of_le_length (by omega), getElem!_pos (p ++ [x]) 63 (by rw [List.length_append]; omega), List.getElem_append_left (by omega), getElem!_pos p 63 (by omega)]
theorem spanU_len (set : List Sk) (key : Nat) : (spanU set key).length ≤ set.length + 1 := by
  rcases nil_or_snoc set with rfl | ⟨p, x, rfl⟩
  · simp [spanU_nil]
  · rw [spanU_snoc]
    split <;> simp
theorem spansU_len (l : List Nat) : (spansU l).length ≤ l.length := by
  suffices h : ∀ (l : List Nat) (S : List Sk), (l.foldl spanU S).length ≤ S.length + l.length from by unfold spansU; simpa using h l []
  intro l
  induction l with
  | nil => intro S; simp
  | cons a l ih => intro S; rw [List.foldl_cons]; have := ih (spanU S a); have := spanU_len S a; rw [List.length_cons]; omega
end Go.Proofs.Ytjjadappjapjhaa
