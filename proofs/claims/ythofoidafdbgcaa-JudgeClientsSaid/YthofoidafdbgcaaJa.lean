/-
  CONTRACTS: the document's more, keys: a table's and a mutation's keys, rising.
-/
import Derived.Test.YthofoidafdbgcaaJq
namespace Go.Proofs.Ythofoidafdbgcaa
open Go.RowKit Go.Shelf

/-- Rising numbers with one more; true: it is in already. -/
def moreF (n : Int) : Bool → List Int → List Int
  | true, [] => []
  | false, [] => [n]
  | true, x :: t => x :: moreF n true t
  | false, x :: t => if x = n then x :: moreF n true t else if n < x then n :: x :: moreF n true t else x :: moreF n false t
theorem moreF_true (n : Int) : ∀ l, moreF n true l = l
  | [] => rfl
  | x :: t => by show x :: moreF n true t = _; rw [moreF_true n t]
theorem moreF_len (n : Int) : ∀ (p : Bool) (l : List Int), (moreF n p l).length ≤ l.length + 1
  | true, l => by rw [moreF_true]; omega
  | false, [] => by simp [moreF]
  | false, x :: t => by
    have h1 := moreF_len n false t
    show (if x = n then x :: moreF n true t else if n < x then n :: x :: moreF n true t else x :: moreF n false t).length ≤ _
    rw [moreF_true]
    split
    · simp
    · split <;> simp <;> omega
theorem moreF_spec (n : Int) : ∀ (l : List Int), l.Pairwise (· < ·) → (moreF n false l).Pairwise (· < ·) ∧ ∀ x, x ∈ moreF n false l ↔ x = n ∨ x ∈ l
  | [], _ => by simp [moreF]
  | y :: t, h => by
    obtain ⟨h1, h2⟩ := List.pairwise_cons.1 h
    obtain ⟨i1, i2⟩ := moreF_spec n t h2
    have e : moreF n false (y :: t) = if y = n then y :: moreF n true t else if n < y then n :: y :: moreF n true t else y :: moreF n false t := rfl
    rw [e, moreF_true]
    by_cases hy : y = n
    · rw [if_pos hy]
      refine ⟨h, fun x => ?_⟩
      rw [List.mem_cons, hy]
      constructor
      · exact fun h => .inr h
      · rintro (h | h)
        · exact .inl h
        · exact h
    · rw [if_neg hy]
      by_cases hn : n < y
      · rw [if_pos hn]
        refine ⟨List.pairwise_cons.2 ⟨fun z hz => ?_, h⟩, fun x => List.mem_cons⟩
        rcases List.mem_cons.1 hz with rfl | hz
        · exact hn
        · have := h1 z hz; omega
      · rw [if_neg hn]
        refine ⟨List.pairwise_cons.2 ⟨fun z hz => ?_, i1⟩, fun x => ?_⟩
        · rcases (i2 z).1 hz with rfl | hz
          · omega
          · exact h1 z hz
        · rw [List.mem_cons, i2, List.mem_cons]
          constructor
          · rintro (h | h | h)
            · exact .inr (.inl h)
            · exact .inl h
            · exact .inr (.inr h)
          · rintro (h | h | h)
            · exact .inr (.inl h)
            · exact .inl h
            · exact .inr (.inr h)
/-- The keys of pairs, put into rising numbers. -/
def keysF (acc : List Int) (l : List Sp) : List Int := l.foldl (fun a p => moreF p.1 false a) acc
theorem keysF_spec : ∀ (l : List Sp) (acc : List Int), acc.Pairwise (· < ·) → (keysF acc l).Pairwise (· < ·) ∧ ∀ x, x ∈ keysF acc l ↔ (∃ p ∈ l, p.1 = x) ∨ x ∈ acc
  | [], acc, h => ⟨h, fun x => by simp [keysF]⟩
  | p :: t, acc, h => by
    obtain ⟨h1, h2⟩ := moreF_spec p.1 acc h
    obtain ⟨i1, i2⟩ := keysF_spec t (moreF p.1 false acc) h1
    refine ⟨i1, fun x => ?_⟩
    show x ∈ keysF (moreF p.1 false acc) t ↔ _
    rw [i2, h2]
    constructor
    · rintro (⟨q, hq, e⟩ | h | h)
      · exact .inl ⟨q, List.mem_cons_of_mem _ hq, e⟩
      · exact .inl ⟨p, List.mem_cons_self .., h.symm⟩
      · exact .inr h
    · rintro (⟨q, hq, e⟩ | h)
      · rcases List.mem_cons.1 hq with rfl | hq
        · exact .inr (.inl e.symm)
        · exact .inl ⟨q, hq, e⟩
      · exact .inr (.inr h)
theorem keysF_len : ∀ (l : List Sp) (acc : List Int), (keysF acc l).length ≤ acc.length + l.length
  | [], acc => by simp [keysF]
  | p :: t, acc => by
    have h1 := keysF_len t (moreF p.1 false acc)
    have h2 := moreF_len p.1 false acc
    show (keysF (moreF p.1 false acc) t).length ≤ _
    simp
    omega
theorem keysF_take {l : List Sp} {k : Nat} (acc : List Int) (h : k < l.length) : keysF acc (l.take (k + 1)) = moreF (l.getD k (0, 0)).1 false (keysF acc (l.take k)) := by
  unfold keysF
  rw [take_more h, List.foldl_append]
  rfl
theorem drop_moreI {l : List Int} {k : Nat} (h : k < l.length) : l.drop k = l.getD k 0 :: l.drop (k + 1) := by
  rw [List.drop_eq_getElem_cons h]
  congr 1
  simp [List.getD, List.getElem?_eq_getElem h]
theorem OwnsI.ready {w : World} {base : Nat} {v : Value} {l : List Int} (h : OwnsI w base v l) : ∃ a n c, v = .slice a n c ∧ n = l.length ∧ IntsIn w a l := by
  rcases h.2 with ⟨rfl, hn⟩ | ⟨g, cap, cur, rfl, _⟩
  · have : l = [] := List.eq_nil_of_length_eq_zero hn
    subst this
    exact ⟨none, 0, 0, rfl, rfl, .inl rfl⟩
  · refine ⟨some ⟨g, 0, none⟩, l.length, cap, rfl, rfl, .inr ⟨g, 0, rfl, (h.lt g rfl).2, fun k hk => ?_⟩⟩
    have := World.ownsRow.cells (g := g) h rfl k (.int .i64 (l.getD k 0)) (by simp [List.getElem?_eq_getElem hk])
    rw [← this]
    by_cases hk0 : k = 0
    · subst hk0; simp [Addr.add]
    · simp [Addr.add, hk0]
theorem IntsIn.belowN {w w' : World} {a : Option Addr} {l : List Int} (h : IntsIn w a l) (hb : Below w.heap.size w w') : IntsIn w' a l := by
  rcases h with rfl | ⟨b, off, rfl, hlt, hc⟩
  · exact .inl rfl
  · exact .inr ⟨b, off, rfl, Nat.lt_of_lt_of_le hlt hb.size, fun k hk => (hb.cell (p := ⟨b, off + k, none⟩) hlt).trans (hc k hk)⟩
def IntPost (base : Nat) (l : List Int) (w : World) (e : Ending) (w' : World) : Prop := ∃ v, e = .returned v ∧ OwnsI w' base v l ∧ Below base w w'

set_option maxRecDepth 100000 in
set_option maxHeartbeats 4000000 in
theorem more_any (a : Option Addr) (n c : Nat) (l : List Int) (x : Int) (w : World) (hn : n = l.length) (hz : l.length ≤ 100000) (h : IntsIn w a l) :
    Calls Try.prog 75 #[.slice a n c, .int .i64 x] w (IntPost w.heap.size (moreF x false l) w) := by
  obtain ⟨i0, hi, hz0, hz1, hz2⟩ := info_parts Try.infoInt
  obtain ⟨R, hR⟩ : ∃ R, moreF x false l = R := ⟨_, rfl⟩
  have hRl := Lib.hid (show R.length ≤ 100001 by rw [← hR]; have := moreF_len x false l; omega)
  rw [hR]
  have hn1 : n ≤ 100000 := by omega
  have H0 := Lib.hid (show [] ++ moreF x false (l.drop 0) = R from hR)
  replace hn := Lib.hid hn
  replace h := Lib.hid h
  clear hR hz
  go_enter Try.func75, Try.ntmps75
  go_wp2_with fail
  go_loopw [5, 6, 7] (fun v p i wr => ∃ (k : Nat) (O : List Int) (pb : Bool), i = .int .i64 (k : Int) ∧ p = .bool pb ∧ k ≤ n ∧ Hid (OwnsI wr w.heap.size v O) ∧ Hid (O ++ moreF x pb (l.drop k) = R) ∧ Below w.heap.size w wr)
    (fun _ _ i _ => n - (intOf i).toNat)
  case atStart => exact ⟨0, [], false, rfl, rfl, Nat.zero_le _, Lib.hid (OwnsI.nil _ _), H0, Below.refl _ _⟩
  case round =>
    obtain ⟨k, O, pb, rfl, rfl, hk, HO, HE, hbl⟩ := hrel
    have HZ := Lib.hid (show O.length ≤ 100001 by have := hRl.out; rw [← HE.out] at this; simp at this; omega)
    by_cases hlt : k < n
    · have hkl : k < l.length := by rw [← hn.out]; exact hlt
      have hkz : (k : Int) < (n : Int) := by omega
      rcases h.out with hl | ⟨b, off, e, hb, hcell⟩
      · rw [hl] at hkl; simp at hkl
      subst e
      have c1 := hcell k hkl
      have c0 := (hbl.cell (p := ⟨b, off + k, none⟩) hb).trans c1
      have he := HE.out
      rw [drop_moreI hkl] at he
      obtain ⟨y, hy⟩ : ∃ y, l.getD k 0 = y := ⟨_, rfl⟩
      rw [hy] at c0 c1 he
      replace c1 := Lib.hid c1
      replace hy := Lib.hid hy
      clear hcell
      cases pb
      · have e2 : moreF x false (y :: l.drop (k + 1)) = if y = x then y :: moreF x true (l.drop (k + 1)) else if x < y then x :: y :: moreF x true (l.drop (k + 1)) else y :: moreF x false (l.drop (k + 1)) := rfl
        rw [e2] at he
        clear e2
        by_cases hyx : y = x
        · have hyb : (y == x) = true := by simpa using hyx
          have HN := Lib.hid (show (O ++ [y]) ++ moreF x true (l.drop (k + 1)) = R by rw [← he, if_pos hyx]; simp)
          clear he hyx
          go_wp2_with ((at_builtin; refine wpList_append_own _ rfl _ _ 101 rfl w.heap.size 3 i0 (.int .i64 0) 1 8 Try.underlying101 hi hz0 hz1 hz2 rfl (by decide) _ _ _ rfl (World.ownsRow.alloc HO.out _) ⟨wr.heap.size, 0, none⟩ 1 1 [.int .i64 y] rfl rfl ?caa ?cab ?cac ?cad ?cae ?_))
          case caa => exact cell_one_new _ _ _
          case cab => intro u hu; simp at hu; subst hu; rfl
          case cac => have := HZ.out; unfold maxLen; omega
          case cad => have := HZ.out; omega
          case cae => have := (hbl).size; simp; omega
          intro v9 w9 hown9 hgrow9 _
          have hb9 := ((hbl).alloc (hbl).size (.cells #[.int .i64 y] 3)).grown hgrow9 (by have := (hbl).size; simp; omega) (fun j hj => (World.ownsRow.lt HO.out j hj).1)
          have ho9 := Lib.hid (OwnsI.push hown9)
          clear hown9 hgrow9
          go_wp2
          go_roundw
          case rel => exact ⟨k + 1, O ++ [y], true, by go_num, rfl, by omega, ho9, HN, hb9⟩
          case measure => simp [intOf]; omega
        · have hyb : (y == x) = false := by simpa using hyx
          rw [if_neg hyx] at he
          by_cases hxy : x < y
          · have hgt : decide (y > x) = true := decide_eq_true hxy
            have HN := Lib.hid (show ((O ++ [x]) ++ [y]) ++ moreF x true (l.drop (k + 1)) = R by rw [← he, if_pos hxy]; simp)
            have HZ2 := Lib.hid (show (O ++ [x]).length ≤ 100002 by have := HZ.out; simp; omega)
            clear he hyx hxy
            go_wp2_with ((at_builtin; refine wpList_append_own _ rfl _ _ 101 rfl w.heap.size 3 i0 (.int .i64 0) 1 8 Try.underlying101 hi hz0 hz1 hz2 rfl (by decide) _ _ _ rfl (World.ownsRow.alloc HO.out _) ⟨wr.heap.size, 0, none⟩ 1 1 [.int .i64 x] rfl rfl ?cba ?cbb ?cbc ?cbd ?cbe ?_))
            case cba => exact cell_one_new _ _ _
            case cbb => intro u hu; simp at hu; subst hu; rfl
            case cbc => have := HZ.out; unfold maxLen; omega
            case cbd => have := HZ.out; omega
            case cbe => have := (hbl).size; simp; omega
            intro v9 w9 hown9 hgrow9 _
            have hb9 := ((hbl).alloc (hbl).size (.cells #[.int .i64 x] 3)).grown hgrow9 (by have := (hbl).size; simp; omega) (fun j hj => (World.ownsRow.lt HO.out j hj).1)
            have ho9 := Lib.hid (OwnsI.push hown9)
            clear hown9 hgrow9
            have c9 := (hb9.cell (p := ⟨b, off + k, none⟩) hb).trans c1.out
            clear c0
            go_wp2_with ((at_builtin; refine wpList_append_own _ rfl _ _ 101 rfl w.heap.size 3 i0 (.int .i64 0) 1 8 Try.underlying101 hi hz0 hz1 hz2 rfl (by decide) _ _ _ rfl (World.ownsRow.alloc ho9.out _) ⟨w9.heap.size, 0, none⟩ 1 1 [.int .i64 y] rfl rfl ?cga ?cgb ?cgc ?cgd ?cge ?_))
            case cga => exact cell_one_new _ _ _
            case cgb => intro u hu; simp at hu; subst hu; rfl
            case cgc => have := HZ2.out; unfold maxLen; omega
            case cgd => have := HZ2.out; omega
            case cge => have := (hb9).size; simp; omega
            intro v8 w8 hown8 hgrow8 _
            have hb8 := ((hb9).alloc (hb9).size (.cells #[.int .i64 y] 3)).grown hgrow8 (by have := (hb9).size; simp; omega) (fun j hj => (World.ownsRow.lt ho9.out j hj).1)
            have ho8 : Hid (OwnsI w8 w.heap.size v8 (O ++ [x] ++ [y])) := Lib.hid (by unfold OwnsI; simpa using hown8)
            clear hown8 hgrow8
            go_wp2
            go_roundw
            case rel => exact ⟨k + 1, O ++ [x] ++ [y], true, by go_num, rfl, by omega, ho8, HN, hb8⟩
            case measure => simp [intOf]; omega
          · have hgt : decide (y > x) = false := decide_eq_false hxy
            have HN := Lib.hid (show (O ++ [y]) ++ moreF x false (l.drop (k + 1)) = R by rw [← he, if_neg hxy]; simp)
            clear he hyx hxy
            go_wp2_with ((at_builtin; refine wpList_append_own _ rfl _ _ 101 rfl w.heap.size 3 i0 (.int .i64 0) 1 8 Try.underlying101 hi hz0 hz1 hz2 rfl (by decide) _ _ _ rfl (World.ownsRow.alloc HO.out _) ⟨wr.heap.size, 0, none⟩ 1 1 [.int .i64 y] rfl rfl ?cda ?cdb ?cdc ?cdd ?cde ?_))
            case cda => exact cell_one_new _ _ _
            case cdb => intro u hu; simp at hu; subst hu; rfl
            case cdc => have := HZ.out; unfold maxLen; omega
            case cdd => have := HZ.out; omega
            case cde => have := (hbl).size; simp; omega
            intro v9 w9 hown9 hgrow9 _
            have hb9 := ((hbl).alloc (hbl).size (.cells #[.int .i64 y] 3)).grown hgrow9 (by have := (hbl).size; simp; omega) (fun j hj => (World.ownsRow.lt HO.out j hj).1)
            have ho9 := Lib.hid (OwnsI.push hown9)
            clear hown9 hgrow9
            go_wp2
            go_roundw
            case rel => exact ⟨k + 1, O ++ [y], false, by go_num, rfl, by omega, ho9, HN, hb9⟩
            case measure => simp [intOf]; omega
      · have HN := Lib.hid (show (O ++ [y]) ++ moreF x true (l.drop (k + 1)) = R by rw [← he]; simp [moreF])
        clear he
        cases hyx : (y == x)
        all_goals
          go_wp2_with ((at_builtin; refine wpList_append_own _ rfl _ _ 101 rfl w.heap.size 3 i0 (.int .i64 0) 1 8 Try.underlying101 hi hz0 hz1 hz2 rfl (by decide) _ _ _ rfl (World.ownsRow.alloc HO.out _) ⟨wr.heap.size, 0, none⟩ 1 1 [.int .i64 y] rfl rfl ?cea ?ceb ?cec ?ced ?cee ?_))
          case cea => exact cell_one_new _ _ _
          case ceb => intro u hu; simp at hu; subst hu; rfl
          case cec => have := HZ.out; unfold maxLen; omega
          case ced => have := HZ.out; omega
          case cee => have := (hbl).size; simp; omega
          intro v9 w9 hown9 hgrow9 _
          have hb9 := ((hbl).alloc (hbl).size (.cells #[.int .i64 y] 3)).grown hgrow9 (by have := (hbl).size; simp; omega) (fun j hj => (World.ownsRow.lt HO.out j hj).1)
          have ho9 := Lib.hid (OwnsI.push hown9)
          clear hown9 hgrow9
          go_wp2
          go_roundw
          case rel => exact ⟨k + 1, O ++ [y], true, by go_num, rfl, by omega, ho9, HN, hb9⟩
          case measure => simp [intOf]; omega
    · have hkz : ¬ (k : Int) < (n : Int) := by omega
      have hd : l.drop k = [] := List.drop_eq_nil_of_le (by rw [← hn.out]; omega)
      have he := HE.out
      rw [hd] at he
      replace hd := Lib.hid hd
      cases pb
      · have he2 := Lib.hid (show O ++ [x] = R from he)
        clear he
        go_wp2_with ((at_builtin; refine wpList_append_own _ rfl _ _ 101 rfl w.heap.size 3 i0 (.int .i64 0) 1 8 Try.underlying101 hi hz0 hz1 hz2 rfl (by decide) _ _ _ rfl (World.ownsRow.alloc HO.out _) ⟨wr.heap.size, 0, none⟩ 1 1 [.int .i64 x] rfl rfl ?cfa ?cfb ?cfc ?cfd ?cfe ?_))
        case cfb => rfl
        case cfc => have := HZ.out; unfold maxLen; omega
        case cfd => have := HZ.out; omega
        case cfe => have := (hbl).size; simp; omega
        intro v9 w9 hown9 hgrow9 _
        have hb9 := ((hbl).alloc (hbl).size (.cells #[.int .i64 x] 3)).grown hgrow9 (by have := (hbl).size; simp; omega) (fun j hj => (World.ownsRow.lt HO.out j hj).1)
        have ho9 := Lib.hid (OwnsI.push hown9)
        clear hown9 hgrow9
        go_wp2
        go_ret
        exact ⟨_, rfl, he2.out ▸ ho9.out, hb9⟩
      · have he2 := Lib.hid (show O = R by rw [← he]; simp [moreF])
        clear he
        go_wp2
        go_ret
        exact ⟨_, rfl, he2.out ▸ HO.out, hbl⟩
def KeyPost (l : List Int) (w : World) (e : Ending) (w' : World) : Prop := ∃ a n c, e = .returned (.slice a n c) ∧ n = l.length ∧ IntsIn w' a l ∧ Below w.heap.size w w'
set_option maxRecDepth 100000 in
set_option maxHeartbeats 4000000 in
theorem rkeys_any (a : Option Addr) (n cp : Nat) (l : List Sp) (c s k : Int) (a2 : Option Addr) (n2 cp2 : Nat) (ps : List Sp) (lo hi old : Int) (w : World) (hL : Arg w a n cp l) (hP : Arg w a2 n2 cp2 ps) (hz : l.length ≤ 4096) (hz2 : ps.length ≤ 4096) :
    Calls Try.prog 50 #[.slice a n cp, .agg #[.int .i64 c, .int .i64 s, .int .i64 k, .slice a2 n2 cp2, .int .i64 lo, .int .i64 hi, .int .i64 old]] w (KeyPost (keysF (keysF [] l) ps) w) := by
  obtain ⟨W1, hW1⟩ : ∃ W1, w.alloc (.cells #[.int .i64 c, .int .i64 s, .int .i64 k, .slice a2 n2 cp2, .int .i64 lo, .int .i64 hi, .int .i64 old] 45) = W1 := ⟨_, rfl⟩
  have bw : Below w.heap.size w W1 := by rw [← hW1]; exact (Below.refl _ _).alloc (Nat.le_refl _) _
  have K := Lib.hid (fun W (h : Below W1.heap.size W1 W) => box7 (w := w) (t := 45) (v0 := .int .i64 c) (v1 := .int .i64 s) (v2 := .int .i64 k) (v3 := .slice a2 n2 cp2) (v4 := .int .i64 lo) (v5 := .int .i64 hi) (v6 := .int .i64 old) (w' := W) (by rw [hW1]; exact h))
  have hn1 : n ≤ 4096 := by have := hL.1; omega
  have hn2 : n2 ≤ 4096 := by have := hP.1; omega
  have hn := Lib.hid hL.1
  have hm := Lib.hid hP.1
  have HL := Lib.hid hL
  have HP := Lib.hid hP
  have HZ := Lib.hid hz
  have HZ2 := Lib.hid hz2
  clear hL hP hz hz2
  go_enter Try.func50, Try.ntmps50
  go_wp2_with fail
  replace hW1 := Lib.hid hW1
  go_loopw [5, 6] (fun v i wr => ∃ (j : Nat) (O : List Int) (a' : Option Addr) (n' c' : Nat), i = .int .i64 (j : Int) ∧ v = .slice a' n' c' ∧ j ≤ n ∧ Hid (keysF [] (l.take j) = O) ∧ Hid (n' = O.length) ∧ Hid (IntsIn wr a' O) ∧ Below W1.heap.size W1 wr)
    (fun _ i _ => n - (intOf i).toNat)
  case atStart => exact ⟨0, [], none, 0, 0, rfl, rfl, Nat.zero_le _, Lib.hid rfl, Lib.hid rfl, Lib.hid (.inl rfl), Below.refl _ _⟩
  case round =>
    obtain ⟨j, O, a', n', c', rfl, rfl, hj, HE, HN, HI, hbl⟩ := hrel
    have bwr := bw.trans (hbl.mono bw.size)
    by_cases hlt : j < n
    · have hjl : j < l.length := by rw [← hn.out]; exact hlt
      have hjz : (j : Int) < (n : Int) := by omega
      obtain ⟨b, off, e, hb, c0, _⟩ := (HL.out.below bwr).2.2.2.2 j hjl
      subst e
      have hO : O.length ≤ 100000 := by rw [← HE.out]; have := keysF_len (l.take j) []; have := HZ.out; simp at *; omega
      have HT := Lib.hid (keysF_take (l := l) [] hjl)
      obtain ⟨t, ht⟩ : ∃ t, l.getD j (0, 0) = t := ⟨_, rfl⟩
      rw [ht] at c0 HT
      replace ht := Lib.hid ht
      obtain ⟨x, y⟩ := t
      dsimp only at c0
      have MO := Lib.hid (more_any a' n' c' O x wr HN.out hO HI.out)
      clear hO
      go_wp2_with (go_at_call 75; (with_reducible refine MO.out.mono ?_); rintro e w5 ⟨v5, rfl, o5, b5⟩; obtain ⟨a5, n5, c5, rfl, hn5, hi5⟩ := o5.ready; replace hn5 := Lib.hid hn5)
      go_roundw
      case rel => exact ⟨j + 1, _, a5, n5, c5, by go_num, rfl, by omega, Lib.hid (by rw [HT.out, HE.out]), hn5, Lib.hid hi5, below_next hbl b5⟩
      case measure => simp [intOf]; omega
    · have hjz : ¬ (j : Int) < (n : Int) := by omega
      have HB := Lib.hid (show keysF [] l = O by rw [← HE.out, List.take_of_length_le (by rw [← hn.out]; omega)])
      have hO := Lib.hid (show O.length ≤ 4096 by rw [← HB.out]; have := keysF_len l []; have := HZ.out; simp at *; omega)
      rw [HB.out]
      clear HE
      go_wp2_with fail
      go_loopw [5, 7] (fun v i wr => ∃ (j : Nat) (O' : List Int) (a' : Option Addr) (n' c' : Nat), i = .int .i64 (j : Int) ∧ v = .slice a' n' c' ∧ j ≤ n2 ∧ Hid (keysF O (ps.take j) = O') ∧ Hid (n' = O'.length) ∧ Hid (IntsIn wr a' O') ∧ Below W1.heap.size W1 wr)
        (fun _ i _ => n2 - (intOf i).toNat)
      case atStart => exact ⟨0, O, a', n', c', rfl, rfl, Nat.zero_le _, Lib.hid rfl, HN, HI, hbl⟩
      case round =>
        clear HN HI hbl bwr
        obtain ⟨i, O', a3, n3, c3, rfl, rfl, hi, HE, HN, HI, hbl⟩ := hrel
        have bwr := bw.trans (hbl.mono bw.size)
        obtain ⟨_, _, _, q3, _⟩ := K.out _ hbl
        by_cases hlt2 : i < n2
        · have hil : i < ps.length := by rw [← hm.out]; exact hlt2
          have hiz : (i : Int) < (n2 : Int) := by omega
          obtain ⟨b, off, e, hb, c0, _⟩ := (HP.out.below bwr).2.2.2.2 i hil
          subst e
          have hO' : O'.length ≤ 100000 := by rw [← HE.out]; have := keysF_len (ps.take i) O; have := hO.out; have := HZ2.out; simp at *; omega
          have HT := Lib.hid (keysF_take (l := ps) O hil)
          obtain ⟨t, ht⟩ : ∃ t, ps.getD i (0, 0) = t := ⟨_, rfl⟩
          rw [ht] at c0 HT
          replace ht := Lib.hid ht
          obtain ⟨x, y⟩ := t
          dsimp only at c0
          have MO := Lib.hid (more_any a3 n3 c3 O' x wr HN.out hO' HI.out)
          clear hO'
          go_wp2_with (go_at_call 75; (with_reducible refine MO.out.mono ?_); rintro e w5 ⟨v5, rfl, o5, b5⟩; obtain ⟨a5, n5, c5, rfl, hn5, hi5⟩ := o5.ready; replace hn5 := Lib.hid hn5)
          go_roundw
          case rel => exact ⟨i + 1, _, a5, n5, c5, by go_num, rfl, by omega, Lib.hid (by rw [HT.out, HE.out]), hn5, Lib.hid hi5, below_next hbl b5⟩
          case measure => simp [intOf]; omega
        · have hiz : ¬ (i : Int) < (n2 : Int) := by omega
          have HB2 := Lib.hid (show keysF O ps = O' by rw [← HE.out, List.take_of_length_le (by rw [← hm.out]; omega)])
          clear HE
          go_wp2_with fail
          go_ret
          exact ⟨_, _, _, rfl, by rw [HB.out, HB2.out]; exact HN.out, by rw [HB.out, HB2.out]; exact HI.out, bwr⟩
end Go.Proofs.Ythofoidafdbgcaa
