/-
  CONTRACT: table.Join, by plain tables: two tables in one.
-/
import Derived.Test.YthofoidafdbgcaaJo
namespace Go.Proofs.Ythofoidafdbgcaa
open Go.RowKit Go.Shelf

theorem tblF_iff : ∀ (l : List Sp) (e : Int), tblF e l = true ↔ (∀ x ∈ l, (e < x.1 ∧ x.1 < 4096) ∧ (-1099511627776 ≤ x.2 ∧ x.2 ≤ 1099511627776)) ∧ l.Pairwise fun x y => x.1 < y.1
  | [], e => by simp [tblF]
  | p :: t, e => by
    rw [tblF_cons, tblF_iff t p.1]
    constructor
    · rintro ⟨h1, h2, h3, h4⟩
      refine ⟨fun x hx => ?_, List.pairwise_cons.2 ⟨fun y hy => (h3 y hy).1.1, h4⟩⟩
      rcases List.mem_cons.1 hx with rfl | hx
      · exact ⟨h1, h2⟩
      · have := h3 x hx; omega
    · rintro ⟨h1, h2⟩
      obtain ⟨h3, h4⟩ := List.pairwise_cons.1 h2
      have hp := h1 p (List.mem_cons_self ..)
      exact ⟨hp.1, hp.2, fun x hx => by have := h1 x (List.mem_cons_of_mem _ hx); have := h3 x hx; omega, h4⟩
theorem getT_mem : ∀ (l : List Sp) (e k v : Int), tblF e l = true → (getT l k = some v ↔ (k, v) ∈ l)
  | [], e, k, v, _ => by simp [getT]
  | p :: t, e, k, v, h => by
    have h3 := ((tblF_iff (p :: t) e).1 h).2
    have h4 := (List.pairwise_cons.1 h3).1
    have ih := getT_mem t p.1 k v ((tblF_cons e p t).1 h).2.2
    unfold getT
    by_cases hk : p.1 = k
    · rw [if_pos hk]
      constructor
      · intro hv
        injection hv with hv
        subst hk; subst hv
        exact List.mem_cons_self ..
      · intro hm
        rcases List.mem_cons.1 hm with hm | hm
        · rw [← hm]
        · have := h4 _ hm; simp only at this; omega
    · rw [if_neg hk, ih]
      constructor
      · exact List.mem_cons_of_mem _
      · intro hm
        rcases List.mem_cons.1 hm with hm | hm
        · exact absurd (by rw [← hm]) hk
        · exact hm
/-- Two tables in one: those of the first put into the second. -/
def jnP (A B : List Sp) : List Sp := A.foldr (fun p l => putT l p.1 p.2) B
def shareB (A B : List Sp) : Bool := A.any fun p => (getT B p.1).isSome
def joinT (A B : List Sp) : List Sp × Int := if tblB A = true ∧ tblB B = true then (if shareB A B = true then ([], 7) else (jnP A B, 0)) else ([], 1)
theorem getT_jn : ∀ (A B : List Sp) (k : Int), getT (jnP A B) k = (getT A k).or (getT B k)
  | [], B, k => by simp [jnP, getT]
  | p :: t, B, k => by
    show getT (putT (jnP t B) p.1 p.2) k = _
    rw [getT_put, getT_jn t B k]
    show _ = Option.or (if p.1 = k then some p.2 else getT t k) (getT B k)
    by_cases hk : k = p.1
    · rw [if_pos hk, if_pos hk.symm]; rfl
    · rw [if_neg hk, if_neg (fun h => hk h.symm)]
theorem tblB_jn : ∀ (A B : List Sp), tblB B = true → (∀ x ∈ A, ((-1 : Int) < x.1 ∧ x.1 < 4096) ∧ (-1099511627776 ≤ x.2 ∧ x.2 ≤ 1099511627776)) → tblB (jnP A B) = true
  | [], _, h, _ => h
  | p :: t, B, h, hA => tblF_put _ _ _ _ (tblB_jn t B h fun x hx => hA x (List.mem_cons_of_mem _ hx)) (hA p (List.mem_cons_self ..)).1.1 (hA p (List.mem_cons_self ..)).1.2 ((isVal_iff _).2 (hA p (List.mem_cons_self ..)).2)
theorem share_iff {A B : List Sp} (hB : tblB B = true) : shareB A B = true ↔ ∃ x ∈ A, ∃ y ∈ B, x.1 = y.1 := by
  unfold shareB
  rw [List.any_eq_true]
  constructor
  · rintro ⟨x, hx, h⟩
    obtain ⟨v, hv⟩ := Option.isSome_iff_exists.1 h
    exact ⟨x, hx, (x.1, v), (getT_mem B (-1) _ _ hB).1 hv, rfl⟩
  · rintro ⟨x, hx, y, hy, hxy⟩
    refine ⟨x, hx, ?_⟩
    rw [(getT_mem B (-1) x.1 y.2 hB).2 (by rw [hxy]; exact hy)]
    rfl
/-- A list that holds what two tables hold, its keys rising, is the two in one, and no key is in both. -/
theorem jn_of {A B L : List Sp} (hA : tblB A = true) (hB : tblB B = true) (hp : L.Perm (A ++ B)) (hL : L.Pairwise fun x y => x.1 < y.1) : tblB L = true ∧ L = jnP A B ∧ shareB A B = false := by
  obtain ⟨a1, a2⟩ := (tblF_iff A (-1)).1 hA
  obtain ⟨b1, b2⟩ := (tblF_iff B (-1)).1 hB
  have hmem : ∀ x, x ∈ L ↔ x ∈ A ∨ x ∈ B := fun x => by rw [hp.mem_iff, List.mem_append]
  have hT : tblB L = true := (tblF_iff L (-1)).2 ⟨fun x hx => by rcases (hmem x).1 hx with h | h <;> (first | exact a1 x h | exact b1 x h), hL⟩
  have hne : ∀ x ∈ A, ∀ y ∈ B, x.1 ≠ y.1 := by
    have hnd : (L.map fun x => x.1).Pairwise (· ≠ ·) := by
      rw [List.pairwise_map]
      exact hL.imp fun h => by omega
    have h2 : ((A ++ B).map fun x => x.1).Pairwise (· ≠ ·) := (hp.map _).pairwise hnd fun h => h.symm
    rw [List.pairwise_map, List.pairwise_append] at h2
    exact h2.2.2
  have hS : shareB A B = false := by
    cases h : shareB A B with
    | false => rfl
    | true =>
      obtain ⟨x, hx, y, hy, e⟩ := (share_iff hB).1 h
      exact absurd e (hne x hx y hy)
  refine ⟨hT, tab_same hT (tblB_jn A B hB a1) fun k => ?_, hS⟩
  rw [getT_jn]
  cases hg : getT A k with
  | some v =>
    have := (getT_mem A (-1) k v hA).1 hg
    rw [(getT_mem L (-1) k v hT).2 ((hmem _).2 (.inl this))]
    rfl
  | none =>
    show _ = getT B k
    cases hb : getT B k with
    | some v =>
      have := (getT_mem B (-1) k v hB).1 hb
      exact (getT_mem L (-1) k v hT).2 ((hmem _).2 (.inr this))
    | none =>
      cases hl : getT L k with
      | none => rfl
      | some v =>
        rcases (hmem _).1 ((getT_mem L (-1) k v hT).1 hl) with h | h
        · rw [(getT_mem A (-1) k v hA).2 h] at hg; cases hg
        · rw [(getT_mem B (-1) k v hB).2 h] at hb; cases hb
theorem jn_sorted {A B L : List Sp} (hA : tblB A = true) (hB : tblB B = true) (hp : L.Perm (A ++ B)) (hL : L.Pairwise fun x y => x.1 ≤ y.1) : (tblB L = true ∧ joinT A B = (L, 0)) ∨ (tblB L = false ∧ joinT A B = ([], 7)) := by
  cases hT : tblB L with
  | true =>
    obtain ⟨_, h1, h2⟩ := jn_of hA hB hp ((tblF_iff L (-1)).1 hT).2
    refine .inl ⟨rfl, ?_⟩
    unfold joinT
    rw [if_pos ⟨hA, hB⟩, h2, if_neg (by simp), h1]
  | false =>
    refine .inr ⟨rfl, ?_⟩
    unfold joinT
    rw [if_pos ⟨hA, hB⟩]
    cases hs : shareB A B with
    | true => rfl
    | false =>
      exfalso
      obtain ⟨a1, a2⟩ := (tblF_iff A (-1)).1 hA
      obtain ⟨b1, b2⟩ := (tblF_iff B (-1)).1 hB
      have hmem : ∀ x, x ∈ L ↔ x ∈ A ∨ x ∈ B := fun x => by rw [hp.mem_iff, List.mem_append]
      have hne : ∀ x ∈ A, ∀ y ∈ B, x.1 ≠ y.1 := fun x hx y hy e => by
        rw [(share_iff hB).2 ⟨x, hx, y, hy, e⟩] at hs; cases hs
      have h2 : ((A ++ B).map fun x => x.1).Pairwise (· ≠ ·) := by
        rw [List.pairwise_map, List.pairwise_append]
        exact ⟨a2.imp fun h => by omega, b2.imp fun h => by omega, hne⟩
      have h3 : (L.map fun x => x.1).Pairwise (· ≠ ·) := (hp.map _).symm.pairwise h2 fun h => h.symm
      rw [List.pairwise_map] at h3
      have h4 : L.Pairwise fun x y => x.1 < y.1 := (hL.and h3).imp fun ⟨p, q⟩ => by omega
      rw [show tblB L = true from (tblF_iff L (-1)).2 ⟨fun x hx => by rcases (hmem x).1 hx with h | h <;> (first | exact a1 x h | exact b1 x h), h4⟩] at hT
      cases hT

set_option maxRecDepth 100000 in
set_option maxHeartbeats 2000000 in
theorem tjoin_any (a : Option Addr) (n c : Nat) (A : List Sp) (b : Option Addr) (m d : Nat) (B : List Sp) (w : World) (hA : Arg w a n c A) (hB : Arg w b m d B) :
    Calls Try.prog 23 #[.slice a n c, .slice b m d] w (SetArg w (joinT A B)) := by
  have CA := Lib.hid (tcheck_any a n c A w hA)
  have CB := Lib.hid (fun W (h : Below w.heap.size w W) => tcheck_any b m d B W (hB.below h))
  cases hta : tblB A
  · rw [show joinT A B = ([], 1) from if_neg (by rw [hta]; simp)]
    have h1 := Lib.hid hta
    clear hA hB
    go_enter Try.func23, Try.ntmps23
    go_wp2_with (go_at_call 30; (with_reducible refine CA.out.mono ?_); rw [h1.out]; rintro e w2 ⟨rfl, b2⟩)
    go_ret2
    exact (SetPost.nil b2).arg
  · cases htb : tblB B
    · rw [show joinT A B = ([], 1) from if_neg (by rw [htb]; simp)]
      have h1 := Lib.hid hta
      have h2 := Lib.hid htb
      clear hA hB
      go_enter Try.func23, Try.ntmps23
      go_wp2_with (first | (go_at_call 30; (with_reducible refine CA.out.mono ?_); rw [h1.out]; rintro e w2 ⟨rfl, b2⟩) | (go_at_call 30; (with_reducible refine (CB.out _ b2).mono ?_); rw [h2.out]; rintro e w3 ⟨rfl, b3⟩))
      go_ret2
      exact (SetPost.nil (below_next b2 b3)).arg
    · have hla := tbl_le hta
      have hlb := tbl_le htb
      have hJ := Lib.hid (fun (L : List Sp) (hp : L.Perm (A ++ B)) hL => jn_sorted hta htb hp hL)
      have hlen := Lib.hid (fun (L : List Sp) (hp : L.Perm (A ++ B)) => show L.length ≤ 100000 by have := hp.length_eq; rw [List.length_append] at this; omega)
      have h1 := Lib.hid hta
      have h2 := Lib.hid htb
      have HAp := Lib.hid hA
      have HBp := Lib.hid hB
      generalize joinT A B = R at hJ ⊢
      obtain ⟨U, hU⟩ : ∃ U, A ++ B = U := ⟨_, rfl⟩
      have CC := Lib.hid (fun q W' hA' hB' h0 h1 hq => hU ▸ concat_any q 2 a n c A b m d B W' hA' hB' hla hlb h0 h1 hq)
      rw [hU] at hJ hlen
      have hUl : U.length ≤ 100000 := hlen.out U (List.Perm.refl _)
      replace hU := Lib.hid hU
      clear hA hB hta htb hla hlb hlen
      go_enter Try.func23, Try.ntmps23
      go_wp2_with (first | (go_at_call 30; (with_reducible refine CA.out.mono ?_); rw [h1.out]; rintro e w2 ⟨rfl, b2⟩) | (go_at_call 30; (with_reducible refine (CB.out _ b2).mono ?_); rw [h2.out]; rintro e w3 ⟨rfl, b3⟩; have b03 := below_next b2 b3))
      have b4 : Below w.heap.size w (w3.alloc (.cells #[.slice a n c, .slice b m d] 29)) := b03.alloc b03.size _
      go_wp2_with (first | (go_at_call 42; (with_reducible refine (CC.out w3.heap.size _ (HAp.out.below b4) (HBp.out.below b4) (by simp) (by simp) (by simp)).mono ?_); rintro e w5 ⟨v5, rfl, o5, b5⟩; obtain ⟨a5, c5, rfl, hc1, hc2, _⟩ := OwnsP.arg o5))
      have b05 := below_next b4 b5
      go_wp2_with (first | (go_at_call 43; refine (sortPair_any a5 c5 _ U _ hUl b5.size o5).mono ?_; rintro e w6 ⟨rfl, L, hp, hs, p6, b6⟩))
      have b06 : Below w.heap.size w w6 := b05.trans (b6.mono b4.size)
      have hLU : U.length = L.length := hp.length_eq.symm
      have HL6 := Lib.hid (show Arg w6 a5 U.length c5 L from ⟨hLU, by omega, by omega, hc2, p6⟩)
      have hj := hJ.out L hp hs
      replace hLU := Lib.hid hLU
      clear o5 hp hs p6 hc1 hc2
      rcases hj with ⟨ht, rfl⟩ | ⟨ht, rfl⟩
      · have CL := Lib.hid (ht ▸ tcheck_any a5 U.length c5 L w6 HL6.out)
        replace ht := Lib.hid ht
        go_wp2_with (go_at_call 30; (with_reducible refine CL.out.mono ?_); rintro e w7 ⟨rfl, b7⟩)
        go_ret2
        exact ⟨_, _, _, rfl, HL6.out.below b7, below_next b06 b7⟩
      · have CL := Lib.hid (ht ▸ tcheck_any a5 U.length c5 L w6 HL6.out)
        replace ht := Lib.hid ht
        go_wp2_with (go_at_call 30; (with_reducible refine CL.out.mono ?_); rintro e w7 ⟨rfl, b7⟩)
        go_ret2
        exact (SetPost.nil (below_next b06 b7)).arg
end Go.Proofs.Ythofoidafdbgcaa
