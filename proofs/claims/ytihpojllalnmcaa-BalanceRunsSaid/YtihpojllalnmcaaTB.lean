/-
  TabJ, TabL, TabR, TabT, TabV, TabW, TabX: one text.
-/
import Derived.Test.YtihpojllalnmcaaTA2
import Derived.Test.YtihpojllalnmcaaSC
import Derived.Test.YtihpojllalnmcaaMA3
import Derived.Test.YtihpojllalnmcaaVA
/-
  TABLES THAT CAME IN; what lies ready, and answers as arguments show them; THE WALK of TableKeys.
-/
namespace Go.Proofs.Ytihpojllalnmcaa
open Go.RowKit Go.Shelf Go.ChangeShapes Go.WideShapes Go.Deep

theorem tableArg_of {H : Type} {enc : TypeId × Value → H} {w : World} {base : Nat} {spare : Nat → Bool} {held : Bool} {a : Option Addr} {len cap : Nat} {d : DataW H} {p : List MemPlace}
    (h : DataW.Trod enc Try.prog w base spare held 25 (.slice a len cap) d p) : ∃ ps, Arg w a len cap ps := by
  obtain ⟨fuel, hf⟩ := h
  have hf' : DataW.trod enc Try.prog w base spare held fuel 25 [.slice a len cap] = some (d, p) := by simpa [Value.cells] using hf
  obtain ⟨a', n', c', ps, e, hA⟩ := argP_of Try.underlying25 Try.underlying68 (by kernel_rfl) rfl rfl rfl rfl (by kernel_rfl) hf'
  cases e
  exact ⟨ps, hA⟩
theorem OwnsP.ready {t : TypeId} {w : World} {base : Nat} {v : Value} {l : List Sp} (h : OwnsP t w base v l) : ∃ a n c, v = .slice a n c ∧ Arg w a n c l := by
  obtain ⟨a, cap, rfl, _⟩ := h.arg
  exact ⟨a, _, cap, rfl, Arg.of_own h rfl⟩
/-- Two boxes, behind calls. -/
theorem bx2 {w W : World} {ta tb : TypeId} {x y : Array Value} (h : Below ((w.alloc (.cells x ta)).alloc (.cells y tb)).heap.size ((w.alloc (.cells x ta)).alloc (.cells y tb)) W) :
    (∀ i, W.cell? ⟨w.heap.size, i, none⟩ = x[i]?) ∧ (∀ i, W.cell? ⟨w.heap.size + 1, i, none⟩ = y[i]?) := by
  have A := fun i => h.cell (p := ⟨w.heap.size, i, none⟩) (by simp; omega)
  have B := fun i => h.cell (p := ⟨w.heap.size + 1, i, none⟩) (by simp)
  have z1 : (w.alloc (.cells x ta)).heap.size = w.heap.size + 1 := by simp
  refine ⟨fun i => (A i).trans ?_, fun i => (B i).trans ?_⟩
  · rw [World.cell?_alloc_lt _ _ ⟨w.heap.size, i, none⟩ (by rw [z1]; show w.heap.size < _; omega)]
    exact cell_of_row _ _ _ _ _ _ (heap_alloc_new _ _)
  · rw [← z1]
    exact cell_of_row _ _ _ _ _ _ (heap_alloc_new _ _)

/-! What becomes of a key hangs on it alone. -/
theorem has_sing (key j : Int) (h0 : 0 ≤ key) (h1 : key < 4096) : hasB [(key, key + 1)] j = decide (j = key) := by
  rw [hasB_cons, hasB_nil, Bool.or_false, Bool.eq_iff_iff, inB_iff, decide_eq_true_iff]
  dsimp only
  omega
theorem chk_sing (key : Int) (h0 : 0 ≤ key) (h1 : key < 4096) : chkB [(key, key + 1)] = true := by
  have : oneB (key, key + 1) = true := (oneB_iff _).2 (by dsimp only; omega)
  unfold chkB
  rw [canB_sing this]
  rfl
theorem tkeys_math {A B : List Sp} {c s k : Int} {ps : List Sp} {lo hi old key : Int} (hA : tblB A = true) (hB : tblB B = true) (hc : chkM c s k ps lo hi old = true) (h0 : 0 ≤ key) (h1 : key < 4096) (hg : getT A key = getT B key) :
    (applyP A c s k ps lo hi old [(key, key + 1)]).2 = (applyP B c s k ps lo hi old [(key, key + 1)]).2 ∧ getC (applyP A c s k ps lo hi old [(key, key + 1)]).1 key = getC (applyP B c s k ps lo hi old [(key, key + 1)]).1 key := by
  have hon := chk_sing key h0 h1
  have eA : applyP A c s k ps lo hi old [(key, key + 1)] = appT A k ps lo hi old [(key, key + 1)] := if_pos ⟨hA, hc, hon⟩
  have eB : applyP B c s k ps lo hi old [(key, key + 1)] = appT B k ps lo hi old [(key, key + 1)] := if_pos ⟨hB, hc, hon⟩
  rw [eA, eB]
  obtain ⟨tA, dA⟩ := appT_get (on := [(key, key + 1)]) hc hA
  obtain ⟨tB, dB⟩ := appT_get (on := [(key, key + 1)]) hc hB
  unfold getC
  rw [if_pos tA, if_pos tB]
  have hk : hasB [(key, key + 1)] key = true := by rw [has_sing key key h0 h1]; simp
  have no : ∀ {X Y RY : List Sp}, getT X key = getT Y key → Fails X (appT X k ps lo hi old [(key, key + 1)]).1 k ps old [(key, key + 1)] → Does Y RY k ps lo hi old [(key, key + 1)] → False := by
    intro X Y RY e ⟨_, k34, p, hp, hh, hn⟩ hd
    rw [has_sing key p.1 h0 h1] at hh
    have hpk := of_decide_eq_true hh
    have hd' := hd key
    have ht : touchesB k ps lo hi key = true := by unfold touchesB; rw [if_neg (by omega), hp]; simp [hpk]
    rw [ht, hk, Bool.true_and, if_pos rfl] at hd'
    rw [hpk, e, hd'] at hn
    cases hn
  rcases dA with ⟨a1, a2⟩ | ⟨a1, a2⟩ <;> rcases dB with ⟨b1, b2⟩ | ⟨b1, b2⟩
  · refine ⟨by rw [a1, b1], ?_⟩
    have x := a2 key
    have y := b2 key
    rw [hk, Bool.and_true, hg] at x
    rw [hk, Bool.and_true] at y
    by_cases ht : touchesB k ps lo hi key = true
    · rw [if_pos ht] at x y
      rw [x] at y
      simpa using y
    · rw [if_neg ht] at x y
      rw [x, y]
  · exact (no hg.symm b2 a2).elim
  · exact (no hg a2 b2).elim
  · exact ⟨by rw [a1, b1], by rw [a2.1, b2.1]; exact hg⟩
end Go.Proofs.Ytihpojllalnmcaa


/-
  CONTRACTS: the statements' own Refs and the document's Same, on pairs of tables.
-/
namespace Go.Proofs.Ytihpojllalnmcaa
open Go.RowKit Go.Shelf

theorem Try.infoRPair : (Try.prog.info? 82).map (fun i => (i.zero, i.size, i.bytes)) = some (some (.agg #[.int .i64 0, .int .i64 0]), 2, 16) := by kernel_rfl
set_option maxRecDepth 100000 in
set_option maxHeartbeats 1000000 in
theorem refs5_any (a : Option Addr) (n c : Nat) (l : List Sp) (w : World) (hz : l.length ≤ 100000) (h : Arg w a n c l) :
    Calls Try.prog 11 #[.slice a n c] w (ListArg w l) := by
  obtain ⟨i0, hi, hz0, hz1, hz2⟩ := info_parts Try.infoRPair
  obtain ⟨hn, _, hc1, hc2, hp⟩ := h
  have hn1 : n ≤ 100000 := by omega
  replace hn := Lib.hid hn
  replace hp := Lib.hid hp
  go_enter Try.func11, Try.ntmps11
  go_wp2_with fail
  go_loopw [3, 4] (fun v i wr => ∃ (k : Nat), i = .int .i64 (k : Int) ∧ k ≤ n ∧ Hid (wr.ownsRow w.heap.size 82 2 v k (flatP (l.take k))) ∧ Below w.heap.size w wr)
    (fun _ i _ => n - (intOf i).toNat)
  case atStart => exact ⟨0, rfl, by omega, Lib.hid ⟨rfl, .inl ⟨rfl, rfl⟩⟩, Below.refl _ _⟩
  case round =>
    obtain ⟨k, rfl, hk, HO, hbl⟩ := hrel
    have hsz := hbl.size
    by_cases hlt : k < n
    · obtain ⟨b, off, e, hb, d0, d1⟩ := (hp.out.below hbl) k (by rw [← hn.out]; exact hlt)
      subst e
      obtain ⟨s, hs⟩ : ∃ s, l.getD k (0, 0) = s := ⟨_, rfl⟩
      rw [hs] at d0 d1
      replace hs := Lib.hid hs
      obtain ⟨x, y⟩ := s
      dsimp only at d0 d1
      go_wp2_with (at_builtin; refine wpList_append_own _ rfl _ _ 44 rfl w.heap.size 82 i0 (.agg #[.int .i64 0, .int .i64 0]) 2 16 Try.underlying44 hi hz0 hz1 hz2 rfl (by decide) _ _ _ rfl (HO.out.alloc _) ⟨wr.heap.size, 0, none⟩ 1 1 [.int .i64 x, .int .i64 y] rfl rfl ?c1 ?c2 ?c3 ?c4 ?c5 ?_)
      case c1 =>
        intro j u hj
        match j, hj with
        | 0, hj => simp at hj; subst hj; simp [Addr.add]
        | 1, hj => simp at hj; subst hj; simp [Addr.add]
      case c2 => intro u hu; simp at hu; rcases hu with rfl | rfl <;> rfl
      case c3 => unfold maxLen; omega
      case c4 => omega
      case c5 => simp; omega
      · intro v' w1 hown' hgrow _
        have hb1 := (hbl.alloc hsz (.cells #[.int .i64 x, .int .i64 y] 82)).grown hgrow (by simp; omega) (fun j hj => (HO.out.lt j hj).1)
        replace hown' := Lib.hid hown'
        go_wp2
        go_roundw
        case rel =>
          refine ⟨k + 1, by go_num, by omega, Lib.hid ?_, hb1⟩
          rw [take_more (by rw [← hn.out]; exact hlt), flatP_append, hs.out]
          exact hown'.out
        case measure => simp [intOf]; omega
    · have hk' : l.take k = l := List.take_of_length_le (by rw [← hn.out]; omega)
      have hkn : k = n := by omega
      subst hkn
      have ho := HO.out
      rw [hk'] at ho
      have ho' := ownsP_of_row ho hn.out
      obtain ⟨a6, c6, rfl, _⟩ := ho'.arg
      have HA := Lib.hid (Arg.of_own ho' rfl)
      replace hk' := Lib.hid hk'
      clear ho ho' HO
      go_wp2
      go_ret
      exact ⟨_, _, _, rfl, HA.out, hbl⟩

theorem neqRPair (x y p q : Int) (w : World) : (binOp .neq 82 (.agg #[.int .i64 x, .int .i64 y]) (.agg #[.int .i64 p, .int .i64 q])).run Try.prog w = .ok (.bool (!decide ((x, y) = (p, q)))) w := by
  have u3 := Try.underlying3
  have a3 := Try.isAgg3
  have z3 := Try.sizeOf3
  have hS : Try.prog.underlying 82 = some (.struct (Try.prog.fieldsOf 82)) := by kernel_rfl
  have hp : Try.prog.stoodInHeld 82 = false := by kernel_rfl
  rw [run_neq_struct, show (10000 : Nat) = 9999 + 1 from rfl, run_equalIn_agg w 9999 82 _ _ hS hp]
  simp only [Program.fieldsOf, Try.underlying82]
  go_simp
  by_cases h1 : x = p <;> by_cases h2 : y = q <;> simp [h1, h2]

end Go.Proofs.Ytihpojllalnmcaa


/-
  CONTRACTS: the document's Check and Get, of tables; THE WALK of TableChecks.
-/
namespace Go.Proofs.Ytihpojllalnmcaa
open Go.RowKit Go.Shelf Go.ChangeShapes Go.WideShapes Go.Deep

def prevK (l : List Sp) (k : Nat) : Int := if k = 0 then -1 else (l.getD (k - 1) (0, 0)).1
set_option maxRecDepth 100000 in
set_option maxHeartbeats 2000000 in
theorem rtcheck_any (a : Option Addr) (n c : Nat) (l : List Sp) (w : World) (h : Arg w a n c l) :
    Calls Try.prog 82 #[.slice a n c] w (Gives w (.bool (tblB l))) := by
  obtain ⟨hn, hz, _, _, hp⟩ := h
  have hnz : (n : Int) ≤ 9223372036854775807 := by omega
  obtain ⟨r, hr⟩ : ∃ r, tblB l = r := ⟨_, rfl⟩
  rw [hr]
  have H0 := Lib.hid (show tblF (prevK l 0) (l.drop 0) = r ∧ -1 ≤ prevK l 0 from ⟨hr, by unfold prevK; rw [if_pos rfl]; omega⟩)
  clear hr
  replace hn := Lib.hid hn
  replace hp := Lib.hid hp
  go_enter Try.func82, Try.ntmps82
  go_wp2_with fail
  go_loopw [3] (fun i wr => ∃ (k : Nat), i = .int .i64 (k : Int) ∧ k ≤ n ∧ Hid (tblF (prevK l k) (l.drop k) = r ∧ -1 ≤ prevK l k) ∧ Below w.heap.size w wr)
    (fun i _ => n - (intOf i).toNat)
  case atStart => exact ⟨0, rfl, by omega, H0, Below.refl _ _⟩
  case round =>
    obtain ⟨k, rfl, hk, HC, hbl⟩ := hrel
    by_cases hlt : k < n
    · have hkl : k < l.length := by rw [← hn.out]; exact hlt
      have hkz : (k : Int) < (n : Int) := by omega
      obtain ⟨b, off, e, hb, c0, c1⟩ := (hp.out.below hbl) k hkl
      subst e
      obtain ⟨s, hs⟩ : ∃ s, l.getD k (0, 0) = s := ⟨_, rfl⟩
      rw [hs] at c0 c1
      obtain ⟨hnext, hlow⟩ := HC.out
      rw [drop_more hkl, hs] at hnext
      have hprev : prevK l (k + 1) = s.1 := by unfold prevK; rw [if_neg (by omega), Nat.add_sub_cancel, hs]
      obtain ⟨x, y⟩ := s
      dsimp only at c0 c1 hprev
      replace hs := Lib.hid hs
      obtain ⟨z, hzp⟩ : ∃ z, prevK l k = z := ⟨_, rfl⟩
      rw [hzp] at hnext hlow
      have hd : tblF z ((x, y) :: l.drop (k + 1)) = (decide (z < x ∧ x < 4096) && decide (-1099511627776 ≤ y ∧ y ≤ 1099511627776) && tblF x (l.drop (k + 1))) := rfl
      rw [hd] at hnext
      clear hd
      by_cases h1 : x < 0
      · have hr := Lib.hid (show r = false by rw [← hnext, decide_eq_false (by omega)]; rfl)
        have d1 : decide (x < 0) = true := decide_eq_true h1
        clear hnext h1 hlow hprev hzp
        go_wp2_with fail
        go_ret
        exact ⟨ret_bool hr.out.symm, hbl⟩
      · have d1 : decide (x < 0) = false := decide_eq_false h1
        by_cases h2 : 4095 < x
        · have hr := Lib.hid (show r = false by rw [← hnext, decide_eq_false (by omega)]; rfl)
          have d2 : decide (4095 < x) = true := decide_eq_true h2
          clear hnext h1 h2 hlow hprev hzp
          go_wp2_with fail
          go_ret
          exact ⟨ret_bool hr.out.symm, hbl⟩
        · have d2 : decide (4095 < x) = false := decide_eq_false h2
          by_cases h3 : y < -1099511627776
          · have hr := Lib.hid (show r = false by rw [← hnext, decide_eq_false (show ¬ (-1099511627776 ≤ y ∧ y ≤ 1099511627776) by omega)]; simp)
            have d3 : decide (y < -1099511627776) = true := decide_eq_true h3
            clear hnext h1 h2 h3 hlow hprev hzp
            go_wp2_with fail
            go_ret
            exact ⟨ret_bool hr.out.symm, hbl⟩
          · have d3 : decide (y < -1099511627776) = false := decide_eq_false h3
            by_cases h4 : 1099511627776 < y
            · have hr := Lib.hid (show r = false by rw [← hnext, decide_eq_false (show ¬ (-1099511627776 ≤ y ∧ y ≤ 1099511627776) by omega)]; simp)
              have d4 : decide (1099511627776 < y) = true := decide_eq_true h4
              clear hnext h1 h2 h3 h4 hlow hprev hzp
              go_wp2_with fail
              go_ret
              exact ⟨ret_bool hr.out.symm, hbl⟩
            · have d4 : decide (1099511627776 < y) = false := decide_eq_false h4
              rcases Nat.eq_zero_or_pos k with hk0 | hk0
              · have hN := Lib.hid (show tblF (prevK l (k + 1)) (l.drop (k + 1)) = r ∧ -1 ≤ prevK l (k + 1) by
                  have hz1 : z = -1 := by rw [← hzp]; unfold prevK; rw [if_pos hk0]
                  rw [hprev]
                  refine ⟨?_, by omega⟩
                  rw [← hnext, decide_eq_true (show z < x ∧ x < 4096 by omega), decide_eq_true (show -1099511627776 ≤ y ∧ y ≤ 1099511627776 by omega)]; rfl)
                have d5 : decide ((0 : Int) < (k : Int)) = false := decide_eq_false (by omega)
                have d7 : decide (0 < k) = false := decide_eq_false (by omega)
                clear hnext h1 h2 h3 h4 hlow hprev hzp hk0
                go_wp2_with fail
                go_quiet (fail)
                go_wp2
                go_roundw
                case rel => exact ⟨k + 1, by go_num, by omega, hN, below_drewN hbl _⟩
                case measure => simp [intOf]; omega
              · obtain ⟨m, rfl⟩ : ∃ m, k = m + 1 := ⟨k - 1, by omega⟩
                obtain ⟨b', off', e', _, g0, _⟩ := (hp.out.below hbl) m (by rw [← hn.out]; omega)
                cases e'
                obtain ⟨pk, hpk⟩ : ∃ pk, (l.getD m (0, 0)).1 = pk := ⟨_, rfl⟩
                rw [hpk] at g0
                have hzk : z = pk := by rw [← hzp, ← hpk]; unfold prevK; rw [if_neg (by omega), Nat.add_sub_cancel]
                rw [show off + (m + 1) * 2 = off + m * 2 + 2 from by omega] at c0 c1
                have d5 : decide ((0 : Int) < (m : Int) + 1) = true := decide_eq_true (by omega)
                have hks : (m : Int) + 1 - 1 = m := by omega
                have hkw : IntKind.i64.wrap ((m : Int) + 1 - 1) = m := by rw [hks]; exact IntWalk.i64_in _ (by omega)
                have ht : ((m : Int) + 1).toNat = m + 1 := by omega
                have hoff : off + (m + 1) * 2 = off + m * 2 + 2 := by omega
                have hkz' : (m : Int) + 1 < (n : Int) := by omega
                have hmz : (m : Int) < (n : Int) := by omega
                replace hks := Lib.hid hks
                replace hpk := Lib.hid hpk
                by_cases h5 : x ≤ pk
                · have hr := Lib.hid (show r = false by rw [← hnext, decide_eq_false (by omega)]; rfl)
                  have d6 : decide (x ≤ pk) = true := decide_eq_true h5
                  clear hnext h1 h2 h3 h4 h5 hlow hprev hzp hzk
                  go_wp2_with fail
                  go_quiet (fail)
                  go_wp2
                  go_ret
                  exact ⟨ret_bool hr.out.symm, below_drewN hbl _⟩
                · have d6 : decide (x ≤ pk) = false := decide_eq_false h5
                  have hN := Lib.hid (show tblF (prevK l (m + 1 + 1)) (l.drop (m + 1 + 1)) = r ∧ -1 ≤ prevK l (m + 1 + 1) by
                    rw [hprev]
                    refine ⟨?_, by omega⟩
                    rw [← hnext, decide_eq_true (show z < x ∧ x < 4096 by omega), decide_eq_true (show -1099511627776 ≤ y ∧ y ≤ 1099511627776 by omega)]; rfl)
                  clear hnext h1 h2 h3 h4 h5 hlow hprev hzp hzk
                  go_wp2_with fail
                  go_quiet (fail)
                  go_wp2
                  go_roundw
                  case rel => exact ⟨m + 1 + 1, by go_num, by omega, hN, below_drewN hbl _⟩
                  case measure => simp [intOf]; omega
    · have hkl : l.drop k = [] := List.drop_eq_nil_of_le (by rw [← hn.out]; omega)
      have hkz : ¬ (k : Int) < (n : Int) := by omega
      have hfin := HC.out.1
      rw [hkl] at hfin
      have hr := Lib.hid (show r = true from hfin.symm)
      replace hkl := Lib.hid hkl
      clear hfin
      go_wp2
      go_ret
      exact ⟨ret_bool hr.out.symm, hbl⟩

def cellA (g : Option Int) : Value := .agg #[.int .i64 (g.getD 0), .bool g.isSome]
end Go.Proofs.Ytihpojllalnmcaa


/-
  CONTRACT of Clip: the pairs of a table in a set.
-/
namespace Go.Proofs.Ytihpojllalnmcaa
open Go.RowKit Go.Shelf

theorem plc_take : ∀ (l : List Sp) (k : Int), ∀ x ∈ l.take (plc l k), x.1 < k
  | [], _, x, hx => by simp at hx
  | p :: t, k, x, hx => by
    unfold plc at hx
    by_cases hp : p.1 < k
    · rw [if_pos hp, List.take_succ_cons] at hx
      rcases List.mem_cons.1 hx with rfl | hx
      · exact hp
      · exact plc_take t k x hx
    · rw [if_neg hp] at hx
      simp at hx
theorem tbl_mem : ∀ (l : List Sp) (e : Int), tblF e l = true → ∀ x ∈ l, e < x.1
  | [], _, _, x, hx => by cases hx
  | p :: t, e, h, x, hx => by
    rw [tblF_cons] at h
    rcases List.mem_cons.1 hx with rfl | hx
    · exact h.1.1
    · have := tbl_mem t p.1 h.2.2 x hx
      omega
theorem plc_drop : ∀ (l : List Sp) (e k : Int), tblF e l = true → ∀ x ∈ l.drop (plc l k), k ≤ x.1
  | [], _, _, _, x, hx => by simp at hx
  | p :: t, e, k, h, x, hx => by
    rw [tblF_cons] at h
    unfold plc at hx
    by_cases hp : p.1 < k
    · rw [if_pos hp, List.drop_succ_cons] at hx
      exact plc_drop t p.1 k h.2.2 x hx
    · rw [if_neg hp] at hx
      rcases List.mem_cons.1 hx with rfl | hx
      · omega
      · have := tbl_mem t p.1 h.2.2 x hx
        omega
theorem plc_mono : ∀ (l : List Sp) (j k : Int), j ≤ k → plc l j ≤ plc l k
  | [], _, _, _ => Nat.le_refl _
  | p :: t, j, k, h => by
    unfold plc
    have := plc_mono t j k h
    by_cases h1 : p.1 < j
    · rw [if_pos h1, if_pos (by omega)]; omega
    · rw [if_neg h1]; exact Nat.zero_le _
theorem app_zero {P : Program} {w : World} {base : Nat} {e : TypeId} {size : Nat} (t ty : TypeId) (i : TypeInfo) (ht : P.underlying t = some (.slice e)) (hi : P.info? e = some i) (v : Value) (n : Nat) (xs : List Value)
    (hown : w.ownsRow base e size v n xs) (a : Option Addr) (m c : Nat) (hm : m = 0) : (Builtin.append_ #[t, t] ty #[v, .slice a m c]).run P w = .ok v w := by
  subst hm
  rcases hown.2 with ⟨rfl, rfl⟩ | ⟨g, cap, cur, rfl, _, _, hnc, _⟩
  · cases a <;> simp [Builtin.append_, run_underlying ht, sizeOf, typeInfo, hi, Builtin.lenOf, Builtin.firstCells, loadCells, loadCellsFrom]
  · cases a <;> simp [Builtin.append_, run_underlying ht, sizeOf, typeInfo, hi, Builtin.lenOf, Builtin.firstCells, loadCells, loadCellsFrom, hnc, storeCells]
def seg (l : List Sp) (s : Sp) : List Sp := (l.drop (plc l s.1)).take (plc l s.2 - plc l s.1)
theorem filter_none {l : List Sp} {q : Sp → Bool} (h : ∀ x ∈ l, q x = false) : l.filter q = [] := List.filter_eq_nil_iff.2 fun x hx => by rw [h x hx]; simp
theorem filter_all {l : List Sp} {q : Sp → Bool} (h : ∀ x ∈ l, q x = true) : l.filter q = l := List.filter_eq_self.2 h
theorem segs_filter (l : List Sp) (ht : tblB l = true) : ∀ (on : List Sp) (e : Int), canB e on = true → on.flatMap (seg l) = l.filter fun p => hasB on p.1
  | [], _, _ => (filter_none fun _ _ => rfl).symm
  | s :: t, e, h => by
    rw [canB_cons] at h
    obtain ⟨⟨h0, h1, h2⟩, _, hc⟩ := h
    have ih := segs_filter l ht t s.2 hc
    have hm := plc_mono l s.1 s.2 (by omega)
    have hsplit : l = l.take (plc l s.1) ++ seg l s ++ l.drop (plc l s.2) := by
      unfold seg
      rw [List.append_assoc]
      have : (l.drop (plc l s.1)).take (plc l s.2 - plc l s.1) ++ l.drop (plc l s.2) = l.drop (plc l s.1) := by
        conv => lhs; arg 2; rw [show plc l s.2 = plc l s.1 + (plc l s.2 - plc l s.1) by omega, ← List.drop_drop]
        exact List.take_append_drop _ _
      rw [this, List.take_append_drop]
    have hA := plc_take l s.1
    have hC := plc_drop l (-1) s.2 ht
    have hB : ∀ x ∈ seg l s, s.1 ≤ x.1 ∧ x.1 < s.2 := fun x hx => by
      unfold seg at hx
      refine ⟨plc_drop l (-1) s.1 ht x (List.mem_of_mem_take hx), ?_⟩
      rw [← List.drop_take] at hx
      exact plc_take l s.2 x (List.mem_of_mem_drop hx)
    have low : ∀ k, k < s.2 → hasB t k = false := fun k hk => canB_low hc (by omega)
    have in_ : ∀ k, inB s k = true ↔ s.1 ≤ k ∧ k < s.2 := fun k => by rw [inB_iff]; omega
    have nin : ∀ k, ¬ (s.1 ≤ k ∧ k < s.2) → inB s k = false := fun k hk => by
      cases hq : inB s k
      · rfl
      · exact absurd ((in_ k).1 hq) hk
    rw [List.flatMap_cons, ih]
    conv => rhs; rw [hsplit]
    conv => lhs; arg 2; rw [hsplit]
    rw [List.filter_append, List.filter_append, List.filter_append, List.filter_append]
    rw [filter_none (l := l.take (plc l s.1)) (q := fun p => hasB t p.1) (fun x hx => low x.1 (by have := hA x hx; omega)), filter_none (l := seg l s) (q := fun p => hasB t p.1) (fun x hx => low x.1 (hB x hx).2),
      filter_none (l := l.take (plc l s.1)) (q := fun p => hasB (s :: t) p.1) (fun x hx => by rw [hasB_cons, nin x.1 (by have := hA x hx; omega), low x.1 (by have := hA x hx; omega)]; rfl),
      filter_all (l := seg l s) (q := fun p => hasB (s :: t) p.1) (fun x hx => by rw [hasB_cons, (in_ x.1).2 (hB x hx)]; rfl)]
    rw [List.nil_append, List.nil_append, List.nil_append]
    congr 1
    refine List.filter_congr fun x hx => ?_
    rw [hasB_cons, nin x.1 (by have := hC x hx; omega), Bool.false_or]
def clipP (l on : List Sp) : List Sp := if tblB l = true ∧ chkB on = true then l.filter (fun p => hasB on p.1) else []
theorem seg_len (l : List Sp) (s : Sp) : (seg l s).length = plc l s.2 - plc l s.1 := by
  unfold seg
  rw [List.length_take, List.length_drop]
  have := plc_le l s.2
  omega
theorem PIn.seg {w : World} {B b off : Nat} {l : List Sp} (h : PIn w B (some ⟨b, off, none⟩) l) (i m : Nat) (j : Nat) (u : Value) (hj : (flatP ((l.drop i).take m))[j]? = some u) : w.cell? ⟨b, off + i * 2 + j, none⟩ = some u := by
  have hl : j < (flatP ((l.drop i).take m)).length := (List.getElem?_eq_some_iff.1 hj).1
  have hlen : (flatP (l.take i)).length = (l.take i).length * 2 := flatP_length _
  by_cases hi : i ≤ l.length
  · have e : flatP l = flatP (l.take i) ++ flatP ((l.drop i).take m) ++ flatP ((l.drop i).drop m) := by
      rw [← flatP_append, ← flatP_append, List.append_assoc, List.take_append_drop, List.take_append_drop]
    have := flatP_hc h (i * 2 + j) u (by
      rw [e, List.append_assoc, List.getElem?_append_right (by rw [hlen, List.length_take]; omega), hlen, List.length_take, Nat.min_eq_left hi, Nat.add_sub_cancel_left, List.getElem?_append_left hl]
      exact hj)
    rwa [← Nat.add_assoc] at this
  · rw [List.drop_eq_nil_of_le (by omega)] at hl
    simp [flatP] at hl

set_option maxRecDepth 100000 in
set_option maxHeartbeats 4000000 in
theorem clip_any (a : Option Addr) (n c : Nat) (l : List Sp) (a3 : Option Addr) (n3 c3 : Nat) (on : List Sp) (w : World) (hL : Arg w a n c l) (hO : Arg w a3 n3 c3 on) :
    Calls Try.prog 48 #[.slice a n c, .slice a3 n3 c3] w (InsPost w.heap.size (clipP l on) w) := by
  have CT := Lib.hid (fun W (h : Below w.heap.size w W) => tcheck_any a n c l W (hL.below h))
  have CS := Lib.hid (fun W (h : Below w.heap.size w W) => check_arg on a3 n3 c3 W (hO.below h))
  cases ht : tblB l
  · rw [show clipP l on = [] from if_neg (by rw [ht]; simp)]
    have h1 := Lib.hid ht
    clear hL hO
    go_enter Try.func48, Try.ntmps48
    go_wp2_with (go_at_call 78; (with_reducible refine (CT.out _ (Below.refl _ _)).mono ?_); rw [h1.out]; rintro e w2 ⟨rfl, b2⟩)
    go_ret
    exact ⟨_, rfl, OwnsP.nil _ _ _, b2⟩
  · cases ho : chkB on
    · rw [show clipP l on = [] from if_neg (by rw [ho]; simp)]
      have h1 := Lib.hid ht
      have h2 := Lib.hid ho
      clear hL hO
      go_enter Try.func48, Try.ntmps48
      go_wp2_with (first | (go_at_call 78; (with_reducible refine (CT.out _ (Below.refl _ _)).mono ?_); rw [h1.out]; rintro e w2 ⟨rfl, b2⟩) | (go_at_call 79; (with_reducible refine (CS.out _ b2).mono ?_); rw [h2.out]; rintro e w3 ⟨rfl, b3⟩))
      go_ret
      exact ⟨_, rfl, OwnsP.nil _ _ _, below_next b2 b3⟩
    · obtain ⟨i0, hi, hz0, hz1, hz2⟩ := info_parts Try.infoPair
      have hle := tbl_le ht
      obtain ⟨hcan, h64⟩ := chkB_can ho
      have hR : clipP l on = on.flatMap (seg l) := by rw [show clipP l on = l.filter (fun p => hasB on p.1) from if_pos ⟨ht, ho⟩]; exact (segs_filter l ht on (-1) hcan).symm
      rw [hR]
      have hn := hL.1
      have hn1 : n ≤ 4096 := by omega
      have hnc : n ≤ c := by have := hL.2.2.1; omega
      have hc63 : c ≤ 9223372036854775807 := by have := hL.2.2.2.1; unfold maxLen at this; omega
      have hn3 := hO.1
      have hn31 : n3 ≤ 64 := by omega
      have CP := Lib.hid (fun W key (h : Below w.heap.size w W) => place_any a n c l key W (hL.below h) ht)
      have HLp := Lib.hid hL
      have HOp := Lib.hid hO
      have h1 := Lib.hid ht
      have h2 := Lib.hid ho
      have hls : ∀ j, j < on.length → (plc l (on.getD j (0, 0)).1) ≤ (plc l (on.getD j (0, 0)).2) ∧ plc l (on.getD j (0, 0)).2 ≤ n := fun j hj => by
        have := (oneB_iff _).1 (canB_all hcan _ (List.mem_iff_getElem?.2 ⟨j, getD_of hj⟩))
        exact ⟨plc_mono l _ _ (by omega), by rw [hn]; exact plc_le l _⟩
      have HLS := Lib.hid hls
      replace hn3 := Lib.hid hn3
      replace hn := Lib.hid hn
      clear hL hO hls hR
      go_enter Try.func48, Try.ntmps48
      go_wp2_with (first | (go_at_call 78; (with_reducible refine (CT.out _ (Below.refl _ _)).mono ?_); rw [h1.out]; rintro e w2 ⟨rfl, b2⟩) | (go_at_call 79; (with_reducible refine (CS.out _ b2).mono ?_); rw [h2.out]; rintro e w3 ⟨rfl, b3⟩; have b03 := below_next b2 b3))
      go_loopw [5, 7, 8, 9, 10, 11, 22] (fun v _ _ _ _ _ i wr => ∃ (j : Nat), i = .int .i64 (j : Int) ∧ j ≤ n3 ∧ Hid (OwnsP 68 wr w.heap.size v ((on.take j).flatMap (seg l))) ∧ Hid (((on.take j).flatMap (seg l)).length ≤ j * 4096) ∧ Below w.heap.size w wr)
        (fun _ _ _ _ _ _ i _ => n3 - (intOf i).toNat)
      case atStart => exact ⟨0, rfl, Nat.zero_le _, Lib.hid (OwnsP.nil _ _ _), Lib.hid (by simp), b03⟩
      case round =>
        obtain ⟨j, rfl, hj, HO, HZ, hbl⟩ := hrel
        by_cases hlt : j < n3
        · have hjl : j < on.length := by rw [← hn3.out]; exact hlt
          have hjz : (j : Int) < (n3 : Int) := by omega
          obtain ⟨b, off, e, hb, d0, d1⟩ := (HOp.out.2.2.2.2.below hbl) j hjl
          subst e
          obtain ⟨hm, hpn⟩ := HLS.out j hjl
          have htm : (on.take (j + 1)).flatMap (seg l) = (on.take j).flatMap (seg l) ++ seg l (on.getD j (0, 0)) := by rw [take_more hjl]; simp
          have hsl := seg_len l (on.getD j (0, 0))
          have HO' := HO.out
          have HZ' := HZ.out
          obtain ⟨acc, hacc⟩ : ∃ acc, (on.take j).flatMap (seg l) = acc := ⟨_, rfl⟩
          rw [hacc] at htm HO' HZ'
          replace hacc := Lib.hid hacc
          clear HO HZ
          have HO := Lib.hid HO'
          have HZ := Lib.hid HZ'
          clear HO' HZ'
          obtain ⟨s, hs⟩ : ∃ s, on.getD j (0, 0) = s := ⟨_, rfl⟩
          rw [hs] at d0 d1 hm hpn htm hsl
          obtain ⟨x, y⟩ := s
          dsimp only at d0 d1 hm hpn hsl
          obtain ⟨p, hp⟩ : ∃ p, plc l x = p := ⟨_, rfl⟩
          obtain ⟨q, hq⟩ : ∃ p, plc l y = p := ⟨_, rfl⟩
          have C1 := fun W (h : Below w.heap.size w W) => CP.out W x h
          have C2 := fun W (h : Below w.heap.size w W) => CP.out W y h
          unfold PlacePost at C1 C2
          rw [hp] at C1 hm hsl
          rw [hq] at C2 hm hpn hsl
          have hsg : seg l (x, y) = (l.drop p).take (q - p) := by unfold seg; rw [hp, hq]
          generalize isT l x = i1 at C1
          generalize isT l y = i2 at C2
          obtain ⟨Wb, hWb⟩ : ∃ Wb, wr.alloc (.cells #[.int .i64 x, .int .i64 y] 59) = Wb := ⟨_, rfl⟩
          have bb : Below wr.heap.size wr Wb := by rw [← hWb]; exact (Below.refl _ _).alloc (Nat.le_refl _) _
          have g0 : Wb.cell? ⟨wr.heap.size, 1, none⟩ = some (.int .i64 y) := by rw [← hWb]; simp
          have gx : Wb.cell? ⟨wr.heap.size, 0, none⟩ = some (.int .i64 x) := by rw [← hWb]; simp
          have gs : wr.heap.size < Wb.heap.size := by rw [← hWb]; simp
          have bwb := below_next hbl bb
          have hpz : (p : Int) ≤ (q : Int) := by omega
          have hqz : (q : Int) ≤ (n : Int) := by omega
          have hqc : (q : Int) ≤ (c : Int) := by omega
          replace C1 := Lib.hid C1
          replace C2 := Lib.hid C2
          replace hs := Lib.hid hs
          replace htm := Lib.hid htm
          replace hsg := Lib.hid hsg
          replace hsl := Lib.hid hsl
          replace hp := Lib.hid hp
          replace hq := Lib.hid hq
          have hzl := HZ.out
          by_cases hl0 : l = []
          · have hn0 : n = 0 := by rw [hn.out, hl0]; rfl
            have hq0 : q = 0 := by omega
            have hp0 : p = 0 := by omega
            have hseg0 : seg l (x, y) = [] := by rw [hsg.out, hl0]; simp
            have htm0 := Lib.hid (show (on.take (j + 1)).flatMap (seg l) = acc by rw [htm.out, hseg0, List.append_nil])
            have hz := Lib.hid (show q - p = 0 by omega)
            replace hl0 := Lib.hid hl0
            replace hn0 := Lib.hid hn0
            replace hq0 := Lib.hid hq0
            replace hp0 := Lib.hid hp0
            replace hseg0 := Lib.hid hseg0
            rcases a with _ | ⟨b0, off0, p0⟩
            all_goals
              by_cases hcp : c = p
              all_goals
                first
                  | (have hcpT : (c = p) = True := eq_true hcp
                     replace hcp := Lib.hid hcp)
                  | have hcpF := hcp
                go_wp2_with (first | (go_at_call 80; (with_reducible refine (C1.out _ bwb).mono ?_); rintro e w4 ⟨rfl, b4⟩; have g1 := (b4.cell (p := ⟨wr.heap.size, 1, none⟩) gs).trans g0; have bw4 := below_next bwb b4; have br4 := below_next bb b4) | (go_at_call 80; (with_reducible refine (C2.out _ bw4).mono ?_); rintro e w5 ⟨rfl, b5⟩; have b4s := below_next bw4 b5; have HOX : w5.ownsRow w.heap.size 68 2 _ _ _ := HO.out.below (below_next br4 b5)) | (at_builtin; refine Lib.wpList_append_run _ rfl _ _ 25 25 rfl _ _ rfl rfl _ _ (app_zero 25 _ i0 Try.underlying25 hi _ _ _ HOX _ (q - p) _ hz.out) ?_))
                go_wp2
                go_roundw
                case rel =>
                  refine ⟨j + 1, by go_num, by omega, Lib.hid ?_, Lib.hid ?_, b4s⟩
                  · rw [htm0.out]; exact HOX
                  · rw [htm0.out]; omega
                case measure => simp [intOf]; omega
          · obtain ⟨b0, off0, ea, hb0⟩ := HLp.out.2.2.2.2.some' hl0
            subst ea
            have hcell : ∀ W (hW : Below w.heap.size w W) j u, (flatP (seg l (x, y)))[j]? = some u → W.cell? ⟨b0, off0 + p * 2 + j, none⟩ = some u := fun W hW j u hu => by
              rw [hsg.out] at hu
              exact ((HLp.out.below hW).2.2.2.2).seg p (q - p) j u hu
            replace hcell := Lib.hid hcell
            replace hl0 := Lib.hid hl0
            by_cases hcp : c = p
            · have hcpT : (c = p) = True := eq_true hcp
              replace hcp := Lib.hid hcp
              go_wp2_with (first | (go_at_call 80; (with_reducible refine (C1.out _ bwb).mono ?_); rintro e w4 ⟨rfl, b4⟩; have g1 := (b4.cell (p := ⟨wr.heap.size, 1, none⟩) gs).trans g0; have bw4 := below_next bwb b4; have br4 := below_next bb b4) | (go_at_call 80; (with_reducible refine (C2.out _ bw4).mono ?_); rintro e w5 ⟨rfl, b5⟩; have b4s := below_next bw4 b5; have HOX : w5.ownsRow w.heap.size 68 2 _ _ _ := HO.out.below (below_next br4 b5)) | (at_builtin; refine wpList_append_own _ rfl _ _ 25 rfl w.heap.size 68 i0 (.agg #[.int .i64 0, .int .i64 0]) 2 16 Try.underlying25 hi hz0 hz1 hz2 rfl (by decide) _ _ _ rfl HOX ⟨b0, off0, none⟩ (q - p) (c - p) (flatP (seg l (x, y))) rfl ?c1 ?c2 ?c3 ?c4 ?c5 ?c6 ?_))
              all_goals first
                | (rw [flatP_length, hsl.out]; done)
                | (intro j u hu
                   rw [addr_add]
                   first
                     | exact hcell.out _ b4s j u hu
                     | (exfalso
                        have h1 := (List.getElem?_eq_some_iff.1 hu).1
                        rw [flatP_length, hsl.out] at h1
                        try have := hcp.out
                        omega))
                | exact flatP_one _
                | (unfold maxLen; omega)
                | omega
                | (have := b4s.size; omega)
                | (intro v' w1 hown' hgrow _
                   have hb1 := b4s.grown hgrow b4s.size (fun k hk => (World.ownsRow.lt HOX k hk).1)
                   replace hown' := Lib.hid hown'
                   go_wp2
                   go_roundw
                   case rel =>
                     refine ⟨j + 1, by go_num, by omega, Lib.hid ?_, Lib.hid ?_, hb1⟩
                     · rw [htm.out]
                       have := hown'.out
                       rw [← flatP_append] at this
                       refine ownsP_of_row this ?_
                       rw [List.length_append, hsl.out]
                     · rw [htm.out, List.length_append, hsl.out]; omega
                   case measure => simp [intOf]; omega)
            · go_wp2_with (first | (go_at_call 80; (with_reducible refine (C1.out _ bwb).mono ?_); rintro e w4 ⟨rfl, b4⟩; have g1 := (b4.cell (p := ⟨wr.heap.size, 1, none⟩) gs).trans g0; have bw4 := below_next bwb b4; have br4 := below_next bb b4) | (go_at_call 80; (with_reducible refine (C2.out _ bw4).mono ?_); rintro e w5 ⟨rfl, b5⟩; have b4s := below_next bw4 b5; have HOX : w5.ownsRow w.heap.size 68 2 _ _ _ := HO.out.below (below_next br4 b5)) | (at_builtin; refine wpList_append_own _ rfl _ _ 25 rfl w.heap.size 68 i0 (.agg #[.int .i64 0, .int .i64 0]) 2 16 Try.underlying25 hi hz0 hz1 hz2 rfl (by decide) _ _ _ rfl HOX ⟨b0, off0 + p * 2, none⟩ (q - p) (c - p) (flatP (seg l (x, y))) rfl ?d1 ?d2 ?d3 ?d4 ?d5 ?d6 ?_))
              case d1 => rw [flatP_length, hsl.out]
              case d2 =>
                intro j u hu
                rw [addr_add]
                exact hcell.out _ b4s j u hu
              case d3 => exact flatP_one _
              case d4 => unfold maxLen; omega
              case d5 => omega
              case d6 => have := b4s.size; omega
              intro v' w1 hown' hgrow _
              have hb1 := b4s.grown hgrow b4s.size (fun k hk => (World.ownsRow.lt HOX k hk).1)
              replace hown' := Lib.hid hown'
              go_wp2
              go_roundw
              case rel =>
                refine ⟨j + 1, by go_num, by omega, Lib.hid ?_, Lib.hid ?_, hb1⟩
                · rw [htm.out]
                  have := hown'.out
                  rw [← flatP_append] at this
                  refine ownsP_of_row this ?_
                  rw [List.length_append, hsl.out]
                · rw [htm.out, List.length_append, hsl.out]; omega
              case measure => simp [intOf]; omega
        · have hjz : ¬ (j : Int) < (n3 : Int) := by omega
          have hall : on.take j = on := List.take_of_length_le (by rw [← hn3.out]; omega)
          have ho' := HO.out
          rw [hall] at ho'
          obtain ⟨a6, n6, c6, hv6, _⟩ := ho'.ready
          subst hv6
          have ho6 := Lib.hid ho'
          clear ho'
          replace hall := Lib.hid hall
          go_wp2
          go_ret
          exact ⟨_, rfl, ho6.out, hbl⟩
end Go.Proofs.Ytihpojllalnmcaa


/-
  CONTRACT of Text (of a table).
-/
namespace Go.Proofs.Ytihpojllalnmcaa
open Go.RowKit Go.Shelf

def bodyV (l : List Sp) : List UInt8 := bl (numS (l.length : Int)) ++ pairsT l
def textV (l : List Sp) : List UInt8 := if tblB l = true then bodyV l else []

end Go.Proofs.Ytihpojllalnmcaa


/-
  CONTRACT of readPairs and Read (of a table).
-/
namespace Go.Proofs.Ytihpojllalnmcaa
open Go.RowKit Go.Shelf

def rPs : Nat → List Sp → ByteArray → Int → List Sp × ByteArray × Int
  | 0, acc, s, e => (acc, s, e)
  | n + 1, acc, s, e =>
    if (rWhole (rNum s e).2.1 (rNum s e).2.2).2.2 = 0 then rPs n (if acc.length ≤ 4096 then acc ++ [((rNum s e).1, (rWhole (rNum s e).2.1 (rNum s e).2.2).1)] else acc) (rWhole (rNum s e).2.1 (rNum s e).2.2).2.1 (rWhole (rNum s e).2.1 (rNum s e).2.2).2.2
    else ([], (rWhole (rNum s e).2.1 (rNum s e).2.2).2)
def rPairs (s : ByteArray) (e : Int) : List Sp × ByteArray × Int := rPs (rNum s e).1.toNat [] (rNum s e).2.1 (rNum s e).2.2
theorem rPs_go {n : Nat} {acc : List Sp} {s : ByteArray} {e x y : Int} {s1 s2 : ByteArray} {e1 e2 : Int} (h1 : rNum s e = (x, s1, e1)) (h2 : rWhole s1 e1 = (y, s2, e2)) (h : e2 = 0) :
    rPs (n + 1) acc s e = rPs n (if acc.length ≤ 4096 then acc ++ [(x, y)] else acc) s2 e2 := by
  rw [rPs, h1]; dsimp only; rw [h2, if_pos h]
theorem rPs_stop {n : Nat} {acc : List Sp} {s : ByteArray} {e x y : Int} {s1 s2 : ByteArray} {e1 e2 : Int} (h1 : rNum s e = (x, s1, e1)) (h2 : rWhole s1 e1 = (y, s2, e2)) (h : e2 ≠ 0) :
    rPs (n + 1) acc s e = ([], s2, e2) := by
  rw [rPs, h1]; dsimp only; rw [h2, if_neg h]

end Go.Proofs.Ytihpojllalnmcaa


/-
  CONTRACT of Read (of a table); what is written is read, and in one way.
-/
namespace Go.Proofs.Ytihpojllalnmcaa
open Go.RowKit Go.Shelf

theorem pairsT_cons (p : Sp) (l : List Sp) : pairsT (p :: l) = bl (numS p.1) ++ bl (wholeS p.2) ++ pairsT l := by simp [pairsT]
def ofL (l : List UInt8) : ByteArray := ⟨l.toArray⟩
theorem ofL_app (a b : List UInt8) : ofL (a ++ b) = ofL a ++ ofL b := ba_ext (by rw [ba_app]; simp [ofL])
theorem ofL_bl (s : ByteArray) : ofL (bl s) = s := ba_ext (by simp [ofL, bl])
theorem rPs_back : ∀ (m acc : List Sp) (r : ByteArray), (∀ p ∈ m, 0 ≤ p.1 ∧ p.1 ≤ 4096 ∧ mayZ p.2 = true) → acc.length + m.length ≤ 4097 → rPs m.length acc (ofL (pairsT m) ++ r) 0 = (acc ++ m, r, 0)
  | [], acc, r, _, _ => by
    rw [List.append_nil]
    show (acc, ofL [] ++ r, (0 : Int)) = _
    rw [show ofL [] ++ r = r from ba_ext (by rw [ba_app]; simp [ofL])]
  | p :: m, acc, r, h, hl => by
    obtain ⟨h0, h1, h2⟩ := h p (by simp)
    rw [List.length_cons] at hl ⊢
    have e : ofL (pairsT (p :: m)) ++ r = numS p.1 ++ (wholeS p.2 ++ (ofL (pairsT m) ++ r)) := by rw [pairsT_cons, ofL_app, ofL_app, ofL_bl, ofL_bl, ba_assoc, ba_assoc]
    rw [e, rPs_go (rNum_back h0 (by omega) _) (rWhole_back h2 _) rfl, if_pos (by omega)]
    rw [rPs_back m (acc ++ [(p.1, p.2)]) r (fun q hq => h q (by simp [hq])) (by rw [List.length_append]; simp; omega)]
    simp
theorem rPs_once : ∀ (n : Nat) (acc : List Sp) (s : ByteArray) (l : List Sp) (t : ByteArray), rPs n acc s 0 = (l, t, 0) → ∃ m, (acc ++ m).length ≤ l.length ∧ (l.length ≤ 4096 → l = acc ++ m ∧ m.length = n ∧ s = ofL (pairsT m) ++ t)
  | 0, acc, s, l, t, h => by
    rw [rPs] at h
    cases h
    exact ⟨[], by simp, fun _ => ⟨by simp, rfl, ba_ext (by rw [ba_app]; simp [ofL, pairsT])⟩⟩
  | n + 1, acc, s, l, t, h => by
    obtain ⟨x, s1, e3, hA⟩ : ∃ x s1 e3, rNum s 0 = (x, s1, e3) := ⟨_, _, _, rfl⟩
    obtain ⟨y, s2, e4, hB⟩ : ∃ y s2 e4, rWhole s1 e3 = (y, s2, e4) := ⟨_, _, _, rfl⟩
    by_cases he : e4 = 0
    · rw [rPs_go hA hB he] at h
      subst he
      have he3 : e3 = 0 := by
        apply Classical.byContradiction
        intro hne
        unfold rWhole at hB
        rw [rNum_err hne] at hB
        cases hB
        exact hne rfl
      subst he3
      have w1 := rNum_once (s := s) (e := 0) (by rw [hA])
      rw [hA] at w1
      have w2 := rWhole_once (s := s1) (e := 0) (by rw [hB])
      rw [hB] at w2
      dsimp only at w1 w2
      by_cases hl : acc.length ≤ 4096
      · rw [if_pos hl] at h
        obtain ⟨m, h1, h2⟩ := rPs_once n _ _ _ _ h
        refine ⟨(x, y) :: m, by simpa using h1, fun hle => ?_⟩
        obtain ⟨a, b, c⟩ := h2 hle
        refine ⟨by rw [a]; simp, by rw [List.length_cons, b], ?_⟩
        rw [pairsT_cons, ofL_app, ofL_app, ofL_bl, ofL_bl, ba_assoc, ba_assoc, ← c]
        dsimp only
        rw [w2, w1]
      · rw [if_neg hl] at h
        obtain ⟨m, h1, h2⟩ := rPs_once n _ _ _ _ h
        rw [List.length_append] at h1
        exact ⟨m, by rw [List.length_append]; exact h1, fun hle => by omega⟩
    · rw [rPs_stop hA hB he] at h
      cases h
      exact absurd rfl he
def readT (s : ByteArray) : List Sp × Int := if rEnd (rPairs s 0).2.1 (rPairs s 0).2.2 = 0 then (if tblB (rPairs s 0).1 = true then ((rPairs s 0).1, 0) else ([], 3)) else ([], rEnd (rPairs s 0).2.1 (rPairs s 0).2.2)
theorem tbl_item {l : List Sp} (h : tblB l = true) : ∀ p ∈ l, 0 ≤ p.1 ∧ p.1 ≤ 4096 ∧ mayZ p.2 = true := fun p hp => by
  obtain ⟨i, hi⟩ := List.mem_iff_getElem?.1 hp
  obtain ⟨hl, he⟩ := List.getElem?_eq_some_iff.1 hi
  have := tblF_get l (-1) i h hl
  rw [show l.getD i (0, 0) = p by rw [List.getD, hi]; rfl] at this
  exact ⟨by omega, by omega, decide_eq_true (by omega)⟩
theorem readT_back {l : List Sp} (h : tblB l = true) : readT (ofL (textV l)) = (l, 0) := by
  have hl := tbl_le h
  have e : rPairs (ofL (textV l)) 0 = (l, ofL [], 0) := by
    rw [show textV l = bodyV l from if_pos h]
    unfold bodyV
    rw [ofL_app, ofL_bl]
    unfold rPairs
    rw [rNum_back (by omega) (by omega)]
    dsimp only
    have := rPs_back l [] (ofL []) (tbl_item h) (by simp; omega)
    rw [show ofL (pairsT l) ++ ofL [] = ofL (pairsT l) by rw [← ofL_app, List.append_nil]] at this
    rw [Int.toNat_natCast, this]; rfl
  unfold readT
  rw [e]
  rw [if_pos (show rEnd (ofL []) 0 = 0 from rfl), if_pos h]
theorem readT_once {s : ByteArray} (h : (readT s).2 = 0) : tblB (readT s).1 = true ∧ ofL (textV (readT s).1) = s := by
  unfold readT at h ⊢
  by_cases h1 : rEnd (rPairs s 0).2.1 (rPairs s 0).2.2 = 0
  · rw [if_pos h1] at h ⊢
    by_cases h2 : tblB (rPairs s 0).1 = true
    · rw [if_pos h2] at h ⊢
      refine ⟨h2, ?_⟩
      dsimp only
      obtain ⟨l, t, e, hr⟩ : ∃ l t e, rPairs s 0 = (l, t, e) := ⟨_, _, _, rfl⟩
      rw [hr] at h1 h2 ⊢
      dsimp only at h1 h2 ⊢
      have he : e = 0 := by
        unfold rEnd at h1
        by_cases hq : e = 0
        · exact hq
        · rw [if_neg hq] at h1; exact h1
      subst he
      have ht : t.data.toList = [] := by
        unfold rEnd at h1
        rw [if_pos rfl] at h1
        cases hq : t.data.toList with
        | nil => rfl
        | cons a b => rw [hq] at h1; cases h1
      obtain ⟨x, s1, e3, hA⟩ : ∃ x s1 e3, rNum s 0 = (x, s1, e3) := ⟨_, _, _, rfl⟩
      unfold rPairs at hr
      rw [hA] at hr
      dsimp only at hr
      by_cases h3 : e3 = 0
      · subst h3
        have w1 := rNum_once (s := s) (e := 0) (by rw [hA])
        rw [hA] at w1
        have hx := (rNum_val s 0).1
        rw [hA] at hx
        obtain ⟨m, _, hm⟩ := rPs_once _ _ _ _ _ hr
        obtain ⟨a, b, c⟩ := hm (tbl_le h2)
        rw [List.nil_append] at a
        subst a
        rw [show textV l = bodyV l from if_pos h2]
        unfold bodyV
        rw [ofL_app, ofL_bl, b, Int.toNat_of_nonneg hx]
        rw [show ofL (pairsT l) = s1 from ?_]
        · exact w1
        · rw [c]; exact ba_ext (by rw [ba_app, ht, List.append_nil])
      · exfalso
        have hz : x = 0 := by
          cases hs : scanN 0 s.data.toList with
          | error k => rw [rNum_bad rfl hs] at hA; cases hA; rfl
          | ok p => obtain ⟨p, q⟩ := p; rw [rNum_good rfl hs] at hA; cases hA; exact absurd rfl h3
        subst hz
        rw [show (0 : Int).toNat = 0 from rfl, rPs] at hr
        cases hr
        exact h3 rfl
    · rw [if_neg h2] at h; cases h
  · rw [if_neg h1] at h; exact absurd h h1

end Go.Proofs.Ytihpojllalnmcaa
