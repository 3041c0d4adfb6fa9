/-
  JudgeOntos walked.
-/
import Derived.Test.YthofoidafdbgcaaJgE
import Derived.Test.YthofoidafdbgcaaMb3
namespace Go.Proofs.Ythofoidafdbgcaa
open Go.RowKit Go.Shelf Go.ChangeShapes Go.WideShapes Go.Deep

/-- What a mutation says, wherever its pairs lie. -/
def canM (m : Mv) : Mv := ⟨m.c, m.s, m.k, none, 0, 0, m.ps, m.lo, m.hi, m.old⟩
theorem ontoP_map (B : List Sp) (l : List Mv) (on : List Sp) : ontoP B (l.map canM) on = ontoP B l on := by
  have e1 : (l.map canM).all chkV = l.all chkV := by rw [List.all_map]; rfl
  have e2 : foldM B (l.map canM) on = foldM B l on := by unfold foldM; rw [List.foldl_map]; rfl
  unfold ontoP
  rw [e1, e2]
theorem ontoP_can {B : List Sp} {l k : List Mv} {on : List Sp} (h : k.map canM = l.map canM) : ontoP B k on = ontoP B l on := by
  rw [← ontoP_map B k, h, ontoP_map]
theorem Try.infoRMut : (Try.prog.info? 45).map (fun i => (i.zero, i.size, i.bytes)) = some (some (.agg #[.int .i64 0, .int .i64 0, .int .i64 0, .slice none 0 0, .int .i64 0, .int .i64 0, .int .i64 0]), 7, 72) := by kernel_rfl
theorem OwnsR.lowM {w : World} {base : Nat} {t : TypeId} {v : Value} {l : List Mv} (h : OwnsR encM 7 t w base v l) : ∃ a c, v = .slice a l.length c ∧ RArg encM 7 w a l.length c l := OwnsR.arg encM_len h
set_option maxRecDepth 100000 in
set_option maxHeartbeats 4000000 in
theorem judgeOntos_walk (a : Option Addr) (n cp : Nat) (B : List Sp) (a2 : Option Addr) (n2 c2 : Nat) (l : List Mv) (a3 : Option Addr) (n3 c3 : Nat) (on : List Sp) (w : World) (hB : Arg w a n cp B) (hM : MArg w a2 n2 c2 l) (hO : Arg w a3 n3 c3 on) :
    Calls Try.prog 4 #[.slice a n cp, .slice a2 n2 c2, .slice a3 n3 c3] w (TruePost w) := by
  obtain ⟨i0, hi, hz0, hz1, hz2⟩ := info_parts Try.infoRMut
  have z1 : (n : Int) ≤ 9223372036854775807 := by have := hB.1; have := hB.2.1; omega
  have z2 : (n2 : Int) ≤ 9223372036854775807 := by have := hM.row.1; have := hM.row.2.1; omega
  have z3 : (n3 : Int) ≤ 9223372036854775807 := by have := hO.1; have := hO.2.1; omega
  have HB := Lib.hid hB
  have HM := Lib.hid hM
  have HO3 := Lib.hid hO
  by_cases q1 : n ≤ 100
  · by_cases q2 : n2 ≤ 60
    · by_cases q3 : n3 ≤ 100
      · skip
        have q1z : ¬ (100 : Int) < (n : Int) := by omega
        have q2z : ¬ (60 : Int) < (n2 : Int) := by omega
        have q3z : ¬ (100 : Int) < (n3 : Int) := by omega
        have zB : B.length ≤ 100000 := by have := hB.1; omega
        have zo : on.length ≤ 100000 := by have := hO.1; omega
        have zR : (ontoP B l on).length ≤ 100000 := Nat.le_trans (tbl_le (ontoP_tbl B l on)) (by omega)
        obtain rfl : n2 = l.length := hM.row.1
        clear hB hM hO
        go_enter Try.func4, Try.ntmps4
        go_wp2_with fail
        go_loopw [7, 8] (fun v i wr => ∃ (j : Nat) (K : List Mv), i = .int .i64 (j : Int) ∧ j ≤ l.length ∧ Hid (K.map canM = (l.take j).map canM) ∧ Hid (OwnsR encM 7 45 wr w.heap.size v K) ∧ Hid (∀ m ∈ K, OwnM wr w.heap.size m) ∧ Below w.heap.size w wr) (fun _ i _ => l.length - (intOf i).toNat)
        case atStart => exact ⟨0, [], rfl, Nat.zero_le _, Lib.hid rfl, Lib.hid (OwnsR.nil _ _ _ _ _), Lib.hid (by simp), Below.refl _ _⟩
        case round =>
          obtain ⟨j, K, rfl, hj, HK, HO, HOk, hbl⟩ := hrel
          have hKl : K.length = j := by have h := congrArg List.length HK.out; simpa [Nat.min_eq_left hj] using h
          by_cases hlt : j < l.length
          · have hjz : (j : Int) < (l.length : Int) := by omega
            have HT := Lib.hid (fun (m : Mv) (hm : canM m = canM l[j]!) => (show (K ++ [m]).map canM = (l.take (j + 1)).map canM by rw [take_moreG hlt, List.map_append, List.map_append, HK.out]; simp [hm]))
            have ZK := Lib.hid (show K.length ≤ 60 by omega)
            obtain ⟨b, off, e, hb, q0, q1', q2', q3', q4, q5, q6⟩ := HM.out.cells hbl hlt
            subst e
            have ok := HM.out.ok _ (mem_get! hlt)
            generalize l[j]! = m at q0 q1' q2' q3' q4 q5 q6 ok HT
            obtain ⟨c, s, k, am, nm, cm, ps, lo, hi2, old⟩ := m
            dsimp only at q0 q1' q2' q3' q4 q5 q6
            have hnm : (nm : Int) ≤ 9223372036854775807 := by have h1 := ok.ps.1; have h2 := ok.ps.2.1; dsimp only at h1 h2; omega
            by_cases h20 : nm ≤ 20
            · have h20z : ¬ (20 : Int) < (nm : Int) := by omega
              have CR := Lib.hid (ref4O_any c s k am nm cm ps lo hi2 old wr (by have h1 := ok.ps.1; dsimp only at h1; omega) (ok.ps.below hbl))
              have WF := Lib.hid (And.intro ok.c ok.s)
              have hw := hbl.size
              clear ok hKl HK
              go_wp2_with (first | (go_at_call 16; (with_reducible refine CR.out.mono ?_); rintro e w4 ⟨a4, n4, c4, rfl, e4, h4, b4⟩; have HO4 := Lib.hid (OwnsR.below HO.out b4); have b04 := below_next hbl b4; have M4 := Lib.hid (show OwnM w4 w.heap.size ⟨c, s, k, a4, n4, c4, ps, lo, hi2, old⟩ from ⟨e4, OwnsP.base_le h4 hw, WF.out.1, WF.out.2⟩); have HOk4 := Lib.hid (fun m hm => (HOk.out m hm).below b4); clear h4 e4) | (at_builtin; refine wpList_append_own _ rfl _ _ 38 rfl w.heap.size 45 i0 (.agg #[.int .i64 0, .int .i64 0, .int .i64 0, .slice none 0 0, .int .i64 0, .int .i64 0, .int .i64 0]) 7 72 Try.underlying38 hi hz0 hz1 hz2 rfl (by decide) _ _ _ rfl (World.ownsRow.alloc HO4.out _) ⟨w4.heap.size, 0, none⟩ 1 1 [.int .i64 c, .int .i64 s, .int .i64 k, .slice a4 n4 c4, .int .i64 lo, .int .i64 hi2, .int .i64 old] rfl rfl ?ca ?cb ?cc ?cd ?ce ?_))
              case ca => exact fun jj u hj => by rw [addr_add]; exact (cellG rfl).trans (by simpa using hj)
              case cb => intro u hu; simp at hu; rcases hu with rfl | rfl | rfl | rfl | rfl | rfl | rfl <;> rfl
              case cc => have := ZK.out; unfold maxLen; omega
              case cd => have := ZK.out; omega
              case ce => have := b04.size; simp; omega
              intro v9 w9 hown9 hg9 _
              have ba := (Below.refl w4.heap.size w4).alloc (Nat.le_refl _) (.cells #[.int .i64 c, .int .i64 s, .int .i64 k, .slice a4 n4 c4, .int .i64 lo, .int .i64 hi2, .int .i64 old] 45)
              have oa := OwnsR.below HO4.out ba
              have hb9 := (below_next b04 ba).grown hg9 (below_next b04 ba).size (fun k hk => (World.ownsRow.lt HO4.out k hk).1)
              have ho9 := Lib.hid (OwnsR.snoc (x := (⟨c, s, k, a4, n4, c4, ps, lo, hi2, old⟩ : Mv)) rfl hown9)
              have hk9 := Lib.hid (show ∀ m ∈ K ++ [(⟨c, s, k, a4, n4, c4, ps, lo, hi2, old⟩ : Mv)], OwnM w9 w.heap.size m from fun m hm => by
                rcases List.mem_append.1 hm with hm | hm
                · exact ((HOk4.out m hm).below ba).grown (by decide) oa hg9
                · obtain rfl : m = ⟨c, s, k, a4, n4, c4, ps, lo, hi2, old⟩ := by simpa using hm
                  exact (M4.out.below ba).grown (by decide) oa hg9)
              clear hown9 hg9 oa
              go_wp2_with fail
              go_roundw
              case rel => exact ⟨j + 1, _, by go_num, by omega, Lib.hid (HT.out ⟨c, s, k, a4, n4, c4, ps, lo, hi2, old⟩ rfl), ho9, hk9, hb9⟩
              case measure => simp [intOf]; omega
            · have h20z : (20 : Int) < (nm : Int) := by omega
              clear ok hKl HK HO HOk HT
              go_wp2_with (go_at_call 9; (with_reducible refine (awake15_any _).mono ?_); rintro e wa ⟨rfl, ba⟩)
              go_ret
              exact ⟨rfl, below_next hbl ba⟩
          · have hjz : ¬ (j : Int) < (l.length : Int) := by omega
            have hk := HK.out
            rw [List.take_of_length_le (by omega)] at hk
            obtain ⟨ar, cr, rfl, hr⟩ := HO.out.lowM
            have HR := Lib.hid (show ontoP B K on = ontoP B l on from ontoP_can hk)
            have PO := Lib.hid (fun W h1 h2 h3 => jonto_any a n cp B a2 l.length c2 l a3 n3 c3 on W h1 h2 h3)
            have RO := Lib.hid (fun x xn xc y yn yc W h1 h2 h3 => HR.out ▸ rjonto_any x xn xc B ar K.length cr K y yn yc on W h1 h2 h3)
            have HS := Lib.hid (((((EnvS.start wr).add (Stable.arg a n cp B) (HB.out.below hbl)).add (Stable.arg a3 n3 c3 on) (HO3.out.below hbl)).add (Stable.margs a2 l.length c2 l) (HM.out.below hbl)).add (Stable.margs ar K.length cr K) ⟨hr, fun m hm => (HOk.out m hm).ok⟩)
            clear hk HK HO HOk hr hKl
            generalize K.length = nk at HS RO ⊢
            generalize ontoP B l on = R at zR PO RO
            go_wp2_with (first | (go_at_call 9; (with_reducible refine (awake15_any _).mono ?_); rintro e wba ⟨rfl, ba⟩; replace HS := Lib.hid (HS.out.step ba); clear ba) | (go_at_call 17; (with_reducible refine (PO.out _ (HS.out.get (fun W => Arg W a n cp B) (by repeat (first | exact List.mem_cons_self | apply List.mem_cons_of_mem))) (HS.out.get (fun W => MArg W a2 l.length c2 l) (by repeat (first | exact List.mem_cons_self | apply List.mem_cons_of_mem))) (HS.out.get (fun W => Arg W a3 n3 c3 on) (by repeat (first | exact List.mem_cons_self | apply List.mem_cons_of_mem)))).mono ?_); rintro e w4 ⟨a4, n4, c4, rfl, h4, b4⟩; replace HS := Lib.hid ((HS.out.step b4).add (Stable.arg a4 n4 c4 R) h4); clear b4 h4) | (go_at_call 11; (with_reducible refine (refs5_any a4 n4 c4 R _ zR (HS.out.get (fun W => Arg W a4 n4 c4 R) (by repeat (first | exact List.mem_cons_self | apply List.mem_cons_of_mem)))).mono ?_); rintro e w5 ⟨a5, n5, c5, rfl, h5, b5⟩; replace HS := Lib.hid ((HS.out.step b5).add (Stable.arg a5 n5 c5 R) h5); clear b5 h5) | (go_at_call 11; (with_reducible refine (refs5_any a n cp B _ zB (HS.out.get (fun W => Arg W a n cp B) (by repeat (first | exact List.mem_cons_self | apply List.mem_cons_of_mem)))).mono ?_); rintro e w6 ⟨a6, n6, c6, rfl, h6, b6⟩; replace HS := Lib.hid ((HS.out.step b6).add (Stable.arg a6 n6 c6 B) h6); clear b6 h6) | (go_at_call 15; (with_reducible refine (refs_any a3 n3 c3 on _ zo (HS.out.get (fun W => Arg W a3 n3 c3 on) (by repeat (first | exact List.mem_cons_self | apply List.mem_cons_of_mem)))).mono ?_); rintro e w7 ⟨a7, n7, c7, rfl, h7, b7⟩; replace HS := Lib.hid ((HS.out.step b7).add (Stable.arg a7 n7 c7 on) h7); clear b7 h7) | (go_at_call 18; (with_reducible refine (RO.out a6 n6 c6 a7 n7 c7 _ (HS.out.get (fun W => Arg W a6 n6 c6 B) (by repeat (first | exact List.mem_cons_self | apply List.mem_cons_of_mem))) (HS.out.get (fun W => MArg W ar nk cr K) (by repeat (first | exact List.mem_cons_self | apply List.mem_cons_of_mem))) (HS.out.get (fun W => Arg W a7 n7 c7 on) (by repeat (first | exact List.mem_cons_self | apply List.mem_cons_of_mem)))).mono ?_); rintro e w8 ⟨a8, n8, c8, rfl, h8, b8⟩; replace HS := Lib.hid ((HS.out.step b8).add (Stable.arg a8 n8 c8 R) h8); clear b8 h8) | (go_at_call 10; (with_reducible refine (same5_any a5 a8 n5 n8 c5 c8 R R _ (HS.out.get (fun W => Arg W a5 n5 c5 R) (by repeat (first | exact List.mem_cons_self | apply List.mem_cons_of_mem))) (HS.out.get (fun W => Arg W a8 n8 c8 R) (by repeat (first | exact List.mem_cons_self | apply List.mem_cons_of_mem)))).mono ?_); rintro e wb10 ⟨rfl, b10⟩; replace HS := Lib.hid (HS.out.step b10); clear b10))
            go_ret
            exact ⟨ret_bool (by simp), below_next hbl HS.out.low⟩
      · skip
        have q1z : ¬ (100 : Int) < (n : Int) := by omega
        have q2z : ¬ (60 : Int) < (n2 : Int) := by omega
        have q3z : (100 : Int) < (n3 : Int) := by omega
        clear hB hM hO
        go_enter Try.func4, Try.ntmps4
        go_wp2_with (go_at_call 9; (with_reducible refine (awake15_any _).mono ?_); rintro e wa ⟨rfl, ba⟩)
        go_ret
        exact ⟨rfl, ba⟩
    · skip
      have q1z : ¬ (100 : Int) < (n : Int) := by omega
      have q2z : (60 : Int) < (n2 : Int) := by omega
      clear hB hM hO
      go_enter Try.func4, Try.ntmps4
      go_wp2_with (go_at_call 9; (with_reducible refine (awake15_any _).mono ?_); rintro e wa ⟨rfl, ba⟩)
      go_ret
      exact ⟨rfl, ba⟩
  · skip
    have q1z : (100 : Int) < (n : Int) := by omega
    clear hB hM hO
    go_enter Try.func4, Try.ntmps4
    go_wp2_with (go_at_call 9; (with_reducible refine (awake15_any _).mono ?_); rintro e wa ⟨rfl, ba⟩)
    go_ret
    exact ⟨rfl, ba⟩
end Go.Proofs.Ythofoidafdbgcaa
