/-
  DELTA: DeltaThen's walk.
-/
import Derived.Test.YtmifjippdlmpiaaDeJ
import Derived.Test.YtmifjippdlmpiaaDeF
namespace Go.Proofs.Ytmifjippdlmpiaa
open Go.RowKit Go.Deep Go.Shelf Go.ChangeShapes Go.WideShapes Go.ChangeAt

theorem fewN_any (aa ab : Option Addr) (na nb ca cb : Nat) (w : World) (ha : (na : Int) ≤ 9223372036854775807) (hb : (nb : Int) ≤ 9223372036854775807) :
    Calls Try.prog 11 #[.slice none 0 0, .slice none 0 0, .slice aa na ca, .slice ab nb cb] w (Gives w (.bool (decide (na ≤ 100) && decide (nb ≤ 100)))) := by
  by_cases h1 : na ≤ 100
  · have z1 : (na : Int) ≤ 100 := by omega
    by_cases h2 : nb ≤ 100
    · have z2 : (nb : Int) ≤ 100 := by omega
      go_enter Try.func11, Try.ntmps11
      go_wp2
      go_ret
      exact ⟨by simp [h1, h2], Below.refl _ _⟩
    · have z2 : ¬ (nb : Int) ≤ 100 := by omega
      go_enter Try.func11, Try.ntmps11
      go_wp2
      go_ret
      exact ⟨by simp, Below.refl _ _⟩
  · have z1 : ¬ (na : Int) ≤ 100 := by omega
    go_enter Try.func11, Try.ntmps11
    go_wp2
    go_ret
    exact ⟨by simp, Below.refl _ _⟩
theorem thenP_len (l m : List Tn) : (thenP l m).1.length ≤ l.length + m.length := by
  unfold thenP
  split
  · split
    · exact Nat.le_trans (thnS_len _) (meets_len _ _ _ _ l m)
    · simp
  · simp
theorem ontP_len (l m : List Tn) : (ontP l m).1.length ≤ l.length + m.length := by
  unfold ontP
  split
  · exact Nat.le_trans (ontL_len _) (meets_len _ _ _ _ l m)
  · simp
set_option maxRecDepth 100000 in
set_option maxHeartbeats 4000000 in
theorem deltaThen_walk (aa : Option Addr) (na ca : Nat) (l : List Tn) (ab : Option Addr) (nb cb : Nat) (m : List Tn) (w : World) (ha : RArg encT 5 w aa na ca l) (hb : RArg encT 5 w ab nb cb m) :
    Calls Try.prog 5 #[.slice aa na ca, .slice ab nb cb] w (TruePost w) := by
  obtain rfl := ha.1
  obtain rfl := hb.1
  have CF := fewN_any aa ab l.length m.length ca cb w ha.2.1 hb.2.1
  by_cases hs : l.length ≤ 100 ∧ m.length ≤ 100
  · obtain ⟨hs1, hs2⟩ := hs
    rw [show (decide (l.length ≤ 100) && decide (m.length ≤ 100)) = true by simp [hs1, hs2]] at CF
    have CT := fun W (h : Below w.heap.size w W) => then_any aa ab l.length m.length ca cb l m W (ha.below h) (hb.below h) (by omega) (by omega)
    have CO := fun W (h : Below w.heap.size w W) => onto_any aa ab l.length m.length ca cb l m W (ha.below h) (hb.below h) (by omega) (by omega)
    have RT := fun W a1 n1 c1 a2 n2 c2 (h1 : RArg encT 5 W a1 n1 c1 l) (h2 : RArg encT 5 W a2 n2 c2 m) => rthen_any a1 a2 n1 n2 c1 c2 l m W h1 h2 (by omega) (by omega)
    have RO := fun W a1 n1 c1 a2 n2 c2 (h1 : RArg encT 5 W a1 n1 c1 l) (h2 : RArg encT 5 W a2 n2 c2 m) => ronto_any a1 a2 n1 n2 c1 c2 l m W h1 h2 (by omega) (by omega)
    have l1 := thenP_len l m
    have l2 := ontP_len l m
    generalize (thenP l m).1 = L at CT RT l1
    generalize (thenP l m).2 = z at CT RT
    generalize (ontP l m).1 = V at CO RO l2
    generalize (ontP l m).2.1 = K at CO RO
    generalize (ontP l m).2.2 = y at CO RO
    replace CT := Lib.hid CT
    replace CO := Lib.hid CO
    replace RT := Lib.hid RT
    replace RO := Lib.hid RO
    have HA := Lib.hid ha
    have HB1 := Lib.hid hb
    clear ha hb
    go_enter Try.func5, Try.ntmps5
    go_wp2_with fail
    refine CF.mono ?_
    rintro e w0 ⟨rfl, b0⟩
    clear CF
    go_wp2_with fail
    refine (CT.out _ b0).mono ?_
    rintro e w1 ⟨v, rfl, hO, b1⟩
    obtain ⟨va, vc, rfl, hT⟩ := OwnsR.arg encT_len hO
    have B1 := below_next b0 b1
    clear hO
    go_wp2_with fail
    refine (refsT_any _ _ _ l _ (by omega) (HA.out.below B1)).mono ?_
    rintro e w2 ⟨ra, rn, rc, rfl, hRa, b2⟩
    have B2 := below_next B1 b2
    go_wp2_with fail
    refine (refsT_any _ _ _ m _ (by omega) (HB1.out.below B2)).mono ?_
    rintro e w3 ⟨sa, sn, sc, rfl, hSa, b3⟩
    have B3 := below_next B2 b3
    go_wp2_with fail
    refine (RT.out _ _ _ _ _ _ _ (hRa.below b3) hSa).mono ?_
    rintro e w4 ⟨v, rfl, hO, b4⟩
    obtain ⟨ua, uc, rfl, hU⟩ := OwnsR.arg encT_len hO
    have B4 := below_next B3 b4
    clear hO hRa hSa
    go_wp2_with fail
    refine (CO.out _ B4).mono ?_
    rintro e w5 ⟨v, u, rfl, hO, hZ, b5⟩
    obtain ⟨oa, oc, rfl, hV⟩ := OwnsR.arg encT_len hO
    obtain ⟨ka, kc, rfl, hK⟩ := OwnsR.arg encI_len hZ
    have B5 := below_next B4 b5
    clear hO hZ
    go_wp2_with fail
    refine (refsT_any _ _ _ l _ (by omega) (HA.out.below B5)).mono ?_
    rintro e w6 ⟨ra, rn, rc, rfl, hRa, b6⟩
    have B6 := below_next B5 b6
    go_wp2_with fail
    refine (refsT_any _ _ _ m _ (by omega) (HB1.out.below B6)).mono ?_
    rintro e w7 ⟨sa, sn, sc, rfl, hSa, b7⟩
    have B7 := below_next B6 b7
    go_wp2_with fail
    refine (RO.out _ _ _ _ _ _ _ (hRa.below b7) hSa).mono ?_
    rintro e w8 ⟨v, u, rfl, hO, hZ, b8⟩
    obtain ⟨pa, pc, rfl, hP⟩ := OwnsR.arg encT_len hO
    obtain ⟨qa, qc, rfl, hQ⟩ := OwnsR.arg encI_len hZ
    have B8 := below_next B7 b8
    clear hO hZ hRa hSa
    obtain ⟨W9, hW9⟩ : ∃ W9, w8.alloc (.cells #[.slice pa V.length pc, .slice qa K.length qc, .int .i64 y] 52) = W9 := ⟨_, rfl⟩
    have b9 : Below w8.heap.size w8 W9 := by rw [← hW9]; exact (Below.refl _ _).alloc (Nat.le_refl _) _
    have hX9 : Hid (XB 52 W9 w8.heap.size [.slice pa V.length pc, .slice qa K.length qc, .int .i64 y]) := Lib.hid (by rw [← hW9]; exact heap_alloc_new w8 _)
    have B9 := below_next B8 b9
    have n69 := below_next b6 (below_next b7 (below_next b8 b9))
    have HT := Lib.hid (hT.below (below_next b2 (below_next b3 (below_next b4 (below_next b5 n69)))))
    have HU := Lib.hid (hU.below (below_next b5 n69))
    have HV := Lib.hid (hV.below n69)
    have HK := Lib.hid (hK.below n69)
    have HP := Lib.hid (hP.below b9)
    have HQ := Lib.hid (hQ.below b9)
    clear hT hU hV hK hP hQ b1 b2 b3 b4 b5 b6 b7 b8 b9 n69 CT CO RT RO
    have KS := Lib.hid (fun W' (h : Below W9.heap.size W9 W') => (show W'.cell? ⟨w8.heap.size, 0, none⟩ = some (.slice pa V.length pc) ∧ W'.cell? ⟨w8.heap.size, 1, none⟩ = some (.slice qa K.length qc) ∧ W'.cell? ⟨w8.heap.size, 2, none⟩ = some (.int .i64 y) from ⟨(XB.below hX9.out h).at 0 _ rfl, (XB.below hX9.out h).at 1 _ rfl, (XB.below hX9.out h).at 2 _ rfl⟩))
    have HB := Lib.hid (Below.refl W9.heap.size W9)
    go_wp2_with fail
    replace hW9 := Lib.hid hW9
    (first | go_region_held3 (fun W => W.cell? ⟨w8.heap.size, 0, none⟩ = some (.slice pa V.length pc) ∧ W.cell? ⟨w8.heap.size, 1, none⟩ = some (.slice qa K.length qc) ∧ W.cell? ⟨w8.heap.size, 2, none⟩ = some (.int .i64 y)) (exact KS.out _ (by repeat (first | with_reducible exact HB.out | with_reducible refine toDr ?_))) ((first
      | (go_at_call 12; (with_reducible refine (awake23_any _).mono ?_); rintro e wa ⟨rfl, ba⟩; replace HB := Lib.hid (below_next (w := W9) (by repeat (first | with_reducible exact HB.out | with_reducible refine toDr ?_)) ba); clear ba)
      | (go_at_call 17; (with_reducible refine (refsT_any va L.length vc L _ (by omega) (HT.out.below (by repeat (first | with_reducible exact HB.out | with_reducible refine toDr ?_)))).mono ?_); rintro e wb ⟨ra, rn, rc, rfl, hR1, bb⟩; replace HB := Lib.hid (below_next (w := W9) (by repeat (first | with_reducible exact HB.out | with_reducible refine toDr ?_)) bb); replace hR1 := Lib.hid hR1; clear bb)
      | (go_at_call 17; (with_reducible refine (refsT_any oa V.length oc V _ (by omega) (HV.out.below (by repeat (first | with_reducible exact HB.out | with_reducible refine toDr ?_)))).mono ?_); rintro e wb ⟨sa, sn, sc, rfl, hR2, bb⟩; replace HB := Lib.hid (below_next (w := W9) (by repeat (first | with_reducible exact HB.out | with_reducible refine toDr ?_)) bb); replace hR2 := Lib.hid hR2; clear bb)
      | (go_at_call 16; (with_reducible refine (sameT_any _ _ _ _ _ _ L _ hR1.out (HU.out.below (by repeat (first | with_reducible exact HB.out | with_reducible refine toDr ?_)))).mono ?_); rintro e wb ⟨rfl, bb⟩; replace HB := Lib.hid (below_next (w := W9) (by repeat (first | with_reducible exact HB.out | with_reducible refine toDr ?_)) bb); clear bb)
      | (go_at_call 16; (with_reducible refine (sameT_any _ _ _ _ _ _ V _ hR2.out (HP.out.below (by repeat (first | with_reducible exact HB.out | with_reducible refine toDr ?_)))).mono ?_); rintro e wb ⟨rfl, bb⟩; replace HB := Lib.hid (below_next (w := W9) (by repeat (first | with_reducible exact HB.out | with_reducible refine toDr ?_)) bb); clear bb)
      | (go_at_call 29; (with_reducible refine (sameZ_any _ _ _ _ _ _ K _ (HK.out.below (by repeat (first | with_reducible exact HB.out | with_reducible refine toDr ?_))) (HQ.out.below (by repeat (first | with_reducible exact HB.out | with_reducible refine toDr ?_)))).mono ?_); rintro e wb ⟨rfl, bb⟩; replace HB := Lib.hid (below_next (w := W9) (by repeat (first | with_reducible exact HB.out | with_reducible refine toDr ?_)) bb); clear bb))) | fail)
    all_goals
      go_wp2_with fail
      go_ret
      exact ⟨by simp, below_next B9 HB.out⟩
  · rw [few_noM hs] at CF
    go_enter Try.func5, Try.ntmps5
    go_wp2_with (first
      | (go_at_call 11; (with_reducible refine CF.mono ?_); rintro e w0 ⟨rfl, b0⟩)
      | (go_at_call 12; (with_reducible refine (awake23_any _).mono ?_); rintro e w5 ⟨rfl, b5⟩))
    go_ret
    exact ⟨rfl, below_next b0 b5⟩
end Go.Proofs.Ytmifjippdlmpiaa
