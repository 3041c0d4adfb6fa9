/-
  CONTRACTS: the document's Onto, Fold, Clients (of judges).
-/
import Derived.Test.YthofoidafdbgcaaJgD
import Derived.Test.YthofoidafdbgcaaJd
namespace Go.Proofs.Ythofoidafdbgcaa
open Go.RowKit Go.Shelf Go.ChangeShapes Go.WideShapes Go.Deep

theorem chkV_plen {m : Mv} (h : chkV m = true) : m.ps.length ≤ 4096 := by
  rcases fits_cases (chkM_and h).2.2.2 with ⟨_, _, _, _, h8⟩ | ⟨_, h2, _⟩ | ⟨_, p, h2, _⟩ | ⟨_, p, q, h2, _⟩
  · omega
  · rw [h2]; simp
  · rw [h2]; simp
  · rw [h2]; simp
theorem all_get {l : List Mv} (h : l.all chkV = true) {j : Nat} (hj : j < l.length) : chkV l[j]! = true := List.all_eq_true.1 h _ (mem_get! hj)
theorem all_getE {l : List Ev} (h : (l.all fun e => chkV e.m) = true) {j : Nat} (hj : j < l.length) : chkV l[j]!.m = true := List.all_eq_true.1 h _ (mem_get! hj)
theorem foldM_le {T : List Sp} {l : List Mv} {on : List Sp} (h : tblB T = true) (hc : l.all chkV = true) (j : Nat) : (foldM T (l.take j) on).length ≤ 4096 :=
  tbl_le (foldM_tbl _ _ h (by rw [List.all_eq_true]; exact fun x hx => List.all_eq_true.1 hc x (List.mem_of_mem_take hx)))
theorem foldU_le {l : List Ev} {on : List Sp} {mark : Int} (hc : (l.all fun e => chkV e.m) = true) (j : Nat) : (foldM [] (upE (l.take j) mark) on).length ≤ 4096 :=
  tbl_le (foldM_tbl _ _ rfl (upE_chk (by rw [List.all_eq_true]; exact fun x hx => List.all_eq_true.1 hc x (List.mem_of_mem_take hx))))
set_option maxRecDepth 100000 in
set_option maxHeartbeats 4000000 in
theorem rjonto_any (a : Option Addr) (n cp : Nat) (B : List Sp) (a2 : Option Addr) (n2 c2 : Nat) (l : List Mv) (a3 : Option Addr) (n3 c3 : Nat) (on : List Sp) (w : World) (hB : Arg w a n cp B) (hM : MArg w a2 n2 c2 l) (hO : Arg w a3 n3 c3 on) :
    Calls Try.prog 18 #[.slice a n cp, .slice a2 n2 c2, .slice a3 n3 c3] w (ListArg w (ontoP B l on)) := by
  have CT := Lib.hid (rtcheck_any a n cp B w hB)
  have CS := Lib.hid (fun W (h : Below w.heap.size w W) => rcheck_any a3 n3 c3 on W (hO.below h))
  cases ht : tblB B
  · rw [show ontoP B l on = [] from if_neg (by rw [ht]; simp)]
    have h1 := Lib.hid ht
    clear hB hM hO
    go_enter Try.func18, Try.ntmps18
    go_wp2_with (go_at_call 36; (with_reducible refine CT.out.mono ?_); rw [h1.out]; rintro e w2 ⟨rfl, b2⟩)
    go_ret
    exact ⟨_, _, _, rfl, Arg.nilJ _, b2⟩
  · cases ho : chkB on
    · rw [show ontoP B l on = [] from if_neg (by rw [ho]; simp)]
      have h1 := Lib.hid ht
      have h2 := Lib.hid ho
      clear hB hM hO
      go_enter Try.func18, Try.ntmps18
      go_wp2_with (first | (go_at_call 36; (with_reducible refine CT.out.mono ?_); rw [h1.out]; rintro e w2 ⟨rfl, b2⟩) | (go_at_call 25; (with_reducible refine (CS.out _ b2).mono ?_); rw [h2.out]; rintro e w3 ⟨rfl, b3⟩))
      go_ret
      exact ⟨_, _, _, rfl, Arg.nilJ _, below_next b2 b3⟩
    · have h1 := Lib.hid ht
      have h2 := Lib.hid ho
      have HB := Lib.hid hB
      have HM := Lib.hid hM
      have HO := Lib.hid hO
      obtain rfl : n2 = l.length := hM.row.1
      have hz : (l.length : Int) ≤ 9223372036854775807 := hM.row.2.1
      clear hB hM hO ht ho
      go_enter Try.func18, Try.ntmps18
      go_wp2_with (first | (go_at_call 36; (with_reducible refine CT.out.mono ?_); rw [h1.out]; rintro e w2 ⟨rfl, b2⟩) | (go_at_call 25; (with_reducible refine (CS.out _ b2).mono ?_); rw [h2.out]; rintro e w3 ⟨rfl, b3⟩; have b03 := below_next b2 b3))
      go_loopw [6, 7] (fun v6 i wr => ∃ (j : Nat), v6 = .slice none 0 0 ∧ i = .int .i64 (j : Int) ∧ j ≤ l.length ∧ Hid ((l.take j).all chkV = true) ∧ Below w.heap.size w wr) (fun _ i _ => l.length - (intOf i).toNat)
      case atStart => exact ⟨0, rfl, rfl, Nat.zero_le _, Lib.hid rfl, b03⟩
      case round =>
        obtain ⟨j, rfl, rfl, hj, HC, hbl⟩ := hrel
        by_cases hlt : j < l.length
        · have hjz : (j : Int) < (l.length : Int) := by omega
          have HA := Lib.hid (show (l.take (j + 1)).all chkV = chkV l[j]! by rw [take_moreG hlt, List.all_append, HC.out]; simp)
          have HF := Lib.hid (fun (h : chkV l[j]! = false) => (show l.all chkV = false from List.all_eq_false.2 ⟨_, mem_get! hlt, by rw [h]; simp⟩))
          obtain ⟨b, off, e, hb, q0, q1, q2, q3, q4, q5, q6⟩ := HM.out.cells hbl hlt
          subst e
          have ok := HM.out.ok _ (mem_get! hlt)
          generalize l[j]! = m at q0 q1 q2 q3 q4 q5 q6 ok HA HF
          obtain ⟨c, s, k, am, nm, cm, ps, lo, hi2, old⟩ := m
          dsimp only at q0 q1 q2 q3 q4 q5 q6
          have CA := Lib.hid (rcheck4_any c s k am nm cm ps lo hi2 old _ (ok.ps.below hbl))
          have HV := Lib.hid (show chkV ⟨c, s, k, am, nm, cm, ps, lo, hi2, old⟩ = chkM c s k ps lo hi2 old from rfl)
          clear ok HC
          generalize chkM c s k ps lo hi2 old = r at CA HV
          cases r
          · have HR := Lib.hid (show ontoP B l on = [] from if_neg (by rw [HF.out HV.out]; simp))
            clear HA HF HV
            go_wp2_with (go_at_call 21; (with_reducible refine CA.out.mono ?_); rintro e w6 ⟨rfl, b6⟩)
            go_ret
            exact ⟨_, _, _, rfl, by rw [HR.out]; exact Arg.nilJ _, below_next hbl b6⟩
          · have HC2 := Lib.hid (show (l.take (j + 1)).all chkV = true by rw [HA.out]; exact HV.out)
            clear HA HF HV
            go_wp2_with (go_at_call 21; (with_reducible refine CA.out.mono ?_); rintro e w6 ⟨rfl, b6⟩)
            go_roundw
            case rel => exact ⟨j + 1, rfl, by go_num, by omega, HC2, below_next hbl b6⟩
            case measure => simp [intOf]; omega
        · have hjz : ¬ (j : Int) < (l.length : Int) := by omega
          have hall := HC.out
          rw [List.take_of_length_le (by omega)] at hall
          have HR := Lib.hid (show ontoP B l on = foldM B l on from if_pos ⟨h1.out, h2.out, hall⟩)
          have HL := Lib.hid (foldM_le (on := on) h1.out hall)
          have HCH := Lib.hid (fun (j : Nat) (hj : j < l.length) => all_get hall hj)
          clear hall HC
          go_wp2_with fail
          go_loopw [8, 9, 10, 11] (fun v i _ _ wr => ∃ (j : Nat) (a7 : Option Addr) (n7 c7 : Nat), i = .int .i64 (j : Int) ∧ j ≤ l.length ∧ v = .slice a7 n7 c7 ∧ Hid (Arg wr a7 n7 c7 (foldM B (l.take j) on)) ∧ Below w.heap.size w wr) (fun _ i _ _ _ => l.length - (intOf i).toNat)
          case atStart => exact ⟨0, a, n, cp, rfl, Nat.zero_le _, rfl, Lib.hid (HB.out.below hbl), hbl⟩
          case round =>
            obtain ⟨j, a7, n7, c7, rfl, hj, rfl, H7, hbl⟩ := hrel
            by_cases hlt : j < l.length
            · have hjz : (j : Int) < (l.length : Int) := by omega
              have HT := Lib.hid (show foldM B (l.take (j + 1)) on = appM (foldM B (l.take j) on) l[j]! on by rw [take_moreG hlt, foldM_snoc])
              have hle := HL.out j
              obtain ⟨b, off, e, hb, q0, q1, q2, q3, q4, q5, q6⟩ := HM.out.cells hbl hlt
              subst e
              have ok := HM.out.ok _ (mem_get! hlt)
              have hpl := chkV_plen (HCH.out j hlt)
              generalize foldM B (l.take j) on = T at H7 HT hle
              generalize l[j]! = m at q0 q1 q2 q3 q4 q5 q6 ok HT hpl
              obtain ⟨c, s, k, am, nm, cm, ps, lo, hi2, old⟩ := m
              dsimp only at q0 q1 q2 q3 q4 q5 q6 hpl
              have CA := Lib.hid (rtapply_any a7 n7 c7 T c s k am nm cm ps lo hi2 old a3 n3 c3 on _ H7.out (ok.ps.below hbl) (HO.out.below hbl) hle hpl)
              clear ok hle hpl
              go_wp2_with (go_at_call 28; (with_reducible refine CA.out.mono ?_); rintro e w6 ⟨a8, n8, c8, rfl, h8, b6⟩; replace h8 := Lib.hid h8)
              go_roundw
              case rel => exact ⟨j + 1, a8, n8, c8, by go_num, by omega, rfl, Lib.hid (by rw [HT.out]; exact h8.out), below_next hbl b6⟩
              case measure => simp [intOf]; omega
            · have hjz : ¬ (j : Int) < (l.length : Int) := by omega
              rw [List.take_of_length_le (by omega)] at H7
              go_wp2_with fail
              go_ret
              exact ⟨_, _, _, rfl, by rw [HR.out]; exact H7.out, hbl⟩
set_option maxRecDepth 100000 in
set_option maxHeartbeats 4000000 in
theorem rjfold_any (a : Option Addr) (n cp : Nat) (l : List Ev) (a3 : Option Addr) (n3 c3 : Nat) (on : List Sp) (mark : Int) (w : World) (hL : EArg w a n cp l) (hO : Arg w a3 n3 c3 on) :
    Calls Try.prog 13 #[.slice a n cp, .slice a3 n3 c3, .int .i64 mark] w (ListArg w (foldE l on mark)) := by
  have HM := Lib.hid hL
  have HO := Lib.hid hO
  have CS := Lib.hid (fun W (h : Below w.heap.size w W) => rcheck_any a3 n3 c3 on W (hO.below h))
  obtain rfl : n = l.length := hL.row.1
  have hz : (l.length : Int) ≤ 9223372036854775807 := hL.row.2.1
  clear hL hO
  go_enter Try.func13, Try.ntmps13
  go_wp2_with fail
  go_loopw [6, 8] (fun v6 i wr => ∃ (j : Nat), v6 = .slice none 0 0 ∧ i = .int .i64 (j : Int) ∧ j ≤ l.length ∧ Hid (((l.take j).all fun e => chkV e.m) = true) ∧ Below w.heap.size w wr) (fun _ i _ => l.length - (intOf i).toNat)
  case atStart => exact ⟨0, rfl, rfl, Nat.zero_le _, Lib.hid rfl, Below.refl _ _⟩
  case round =>
    obtain ⟨j, rfl, rfl, hj, HC, hbl⟩ := hrel
    by_cases hlt : j < l.length
    · have hjz : (j : Int) < (l.length : Int) := by omega
      have HA := Lib.hid (show ((l.take (j + 1)).all fun e => chkV e.m) = chkV l[j]!.m by rw [take_moreG hlt, List.all_append, HC.out]; simp)
      have HF := Lib.hid (fun (h : chkV l[j]!.m = false) => (show (l.all fun e => chkV e.m) = false from List.all_eq_false.2 ⟨_, mem_get! hlt, by rw [h]; simp⟩))
      obtain ⟨b, off, e, hb, q0, q1, q2, q3, q4, q5, q6, q7, q8⟩ := HM.out.cells hbl hlt
      subst e
      have ok := (HM.out.ok _ (mem_get! hlt)).m
      generalize l[j]! = ev at q0 q1 q2 q3 q4 q5 q6 q7 q8 ok HA HF
      obtain ⟨⟨c, s, k, am, nm, cm, ps, lo, hi2, old⟩, t, d⟩ := ev
      dsimp only at q0 q1 q2 q3 q4 q5 q6 q7 q8 ok
      have CA := Lib.hid (rcheck4_any c s k am nm cm ps lo hi2 old _ (ok.ps.below hbl))
      have HV := Lib.hid (show chkV ⟨c, s, k, am, nm, cm, ps, lo, hi2, old⟩ = chkM c s k ps lo hi2 old from rfl)
      clear ok HC
      generalize chkM c s k ps lo hi2 old = r at CA HV
      cases r
      · have HR := Lib.hid (show foldE l on mark = [] from if_neg (by rw [HF.out HV.out]; simp))
        clear HA HF HV
        go_wp2_with (go_at_call 21; (with_reducible refine CA.out.mono ?_); rintro e w6 ⟨rfl, b6⟩)
        go_ret
        exact ⟨_, _, _, rfl, by rw [HR.out]; exact Arg.nilJ _, below_next hbl b6⟩
      · have HC2 := Lib.hid (show ((l.take (j + 1)).all fun e => chkV e.m) = true by rw [HA.out]; exact HV.out)
        clear HA HF HV
        go_wp2_with (go_at_call 21; (with_reducible refine CA.out.mono ?_); rintro e w6 ⟨rfl, b6⟩)
        go_roundw
        case rel => exact ⟨j + 1, rfl, by go_num, by omega, HC2, below_next hbl b6⟩
        case measure => simp [intOf]; omega
    · have hjz : ¬ (j : Int) < (l.length : Int) := by omega
      have hall := HC.out
      rw [List.take_of_length_le (by omega)] at hall
      have HR := Lib.hid (show foldE l on mark = ontoP [] (upE l mark) on from if_pos hall)
      have HL := Lib.hid (foldU_le (on := on) (mark := mark) hall)
      have HCH := Lib.hid (fun (j : Nat) (hj : j < l.length) => all_getE hall hj)
      have HUC := Lib.hid (upE_chk (mark := mark) hall)
      clear hall HC
      go_wp2_with fail
      go_loopw [7, 9, 10, 11] (fun v i _ _ wr => ∃ (j : Nat) (a7 : Option Addr) (n7 c7 : Nat), i = .int .i64 (j : Int) ∧ j ≤ l.length ∧ v = .slice a7 n7 c7 ∧ Hid (Arg wr a7 n7 c7 (foldM [] (upE (l.take j) mark) on)) ∧ Hid (j = 0 ∨ chkB on = true) ∧ Below w.heap.size w wr) (fun _ i _ _ _ => l.length - (intOf i).toNat)
      case atStart => exact ⟨0, none, 0, 0, rfl, Nat.zero_le _, rfl, Lib.hid (Arg.nilJ _), Lib.hid (.inl rfl), hbl⟩
      case round =>
        obtain ⟨j, a7, n7, c7, rfl, hj, rfl, H7, H0, hbl⟩ := hrel
        by_cases hlt : j < l.length
        · have hjz : (j : Int) < (l.length : Int) := by omega
          cases ho : chkB on
          · have hj0 : j = 0 := H0.out.resolve_right (by rw [ho]; simp)
            have HR2 := Lib.hid (show foldE l on mark = foldM [] (upE (l.take j) mark) on by rw [HR.out, show ontoP [] (upE l mark) on = [] from if_neg (by rw [ho]; simp), hj0]; rfl)
            have h2 := Lib.hid ho
            clear hj0 ho H0
            go_wp2_with (go_at_call 25; (with_reducible refine (CS.out _ hbl).mono ?_); rw [h2.out]; rintro e w3 ⟨rfl, b3⟩)
            go_ret
            exact ⟨_, _, _, rfl, by rw [HR2.out]; exact H7.out.below b3, below_next hbl b3⟩
          · have HT := Lib.hid (show foldM [] (upE (l.take (j + 1)) mark) on = foldM [] (upE (l.take j) mark ++ _) on by rw [take_moreG hlt, upE_snoc])
            have h2 := Lib.hid ho
            have hle := HL.out j
            have ok := (HM.out.ok _ (mem_get! hlt)).m
            have hpl := chkV_plen (HCH.out j hlt)
            have HCl := Lib.hid (fun W (h : Below w.heap.size w W) => HM.out.cells h hlt)
            have HFS := Lib.hid (foldM_snoc [] (upE (l.take j) mark))
            generalize upE (l.take j) mark = U at H7 HT hle HFS
            generalize l[j]! = ev at ok HT hpl HCl
            obtain ⟨⟨c, s, k, am, nm, cm, ps, lo, hi2, old⟩, t, d⟩ := ev
            dsimp only at hpl ok
            have okH := Lib.hid ok.ps
            clear ok ho H0
            cases d
            · have HT2 := Lib.hid (show foldM [] (upE (l.take (j + 1)) mark) on = foldM [] U on by rw [HT.out]; simp)
              clear HT HFS hle hpl
              go_wp2_with (go_at_call 25; (with_reducible refine (CS.out _ hbl).mono ?_); rw [h2.out]; rintro e w3 ⟨rfl, b3⟩; obtain ⟨b, off, e, hb, q0, q1, q2, q3, q4, q5, q6, q7, q8⟩ := HCl.out _ (below_next hbl b3); subst e)
              go_roundw
              case rel => exact ⟨j + 1, a7, n7, c7, by go_num, by omega, rfl, Lib.hid (by rw [HT2.out]; exact H7.out.below b3), Lib.hid (by first | exact .inr h2.out | exact .inr trivial), below_next hbl b3⟩
              case measure => simp [intOf]; omega
            · by_cases hm : t ≤ mark
              · have HT2 := Lib.hid (show foldM [] (upE (l.take (j + 1)) mark) on = appM (foldM [] U on) ⟨c, s, k, am, nm, cm, ps, lo, hi2, old⟩ on by rw [HT.out]; simp [hm]; exact HFS.out _ _)
                have CA := Lib.hid (fun W (h1 : Below w.heap.size w W) (h7 : Arg W a7 n7 c7 (foldM [] U on)) => rtapply_any a7 n7 c7 (foldM [] U on) c s k am nm cm ps lo hi2 old a3 n3 c3 on W h7 (okH.out.below h1) (HO.out.below h1) hle hpl)
                clear HT HFS hle hpl
                go_wp2_with (first | (go_at_call 25; (with_reducible refine (CS.out _ hbl).mono ?_); rw [h2.out]; rintro e w3 ⟨rfl, b3⟩; obtain ⟨b, off, e, hb, q0, q1, q2, q3, q4, q5, q6, q7, q8⟩ := HCl.out _ (below_next hbl b3); subst e; have b03 := below_next hbl b3; have H73 := Lib.hid (H7.out.below b3)) | (go_at_call 28; (with_reducible refine (CA.out _ b03 H73.out).mono ?_); rintro e w6 ⟨a8, n8, c8, rfl, h8, b6⟩; replace h8 := Lib.hid h8))
                go_roundw
                case rel => exact ⟨j + 1, a8, n8, c8, by go_num, by omega, rfl, Lib.hid (by rw [HT2.out]; exact h8.out), Lib.hid (by first | exact .inr h2.out | exact .inr trivial), below_next b03 b6⟩
                case measure => simp [intOf]; omega
              · have HT2 := Lib.hid (show foldM [] (upE (l.take (j + 1)) mark) on = foldM [] U on by rw [HT.out]; simp [hm])
                clear HT HFS hle hpl
                go_wp2_with (go_at_call 25; (with_reducible refine (CS.out _ hbl).mono ?_); rw [h2.out]; rintro e w3 ⟨rfl, b3⟩; obtain ⟨b, off, e, hb, q0, q1, q2, q3, q4, q5, q6, q7, q8⟩ := HCl.out _ (below_next hbl b3); subst e)
                go_roundw
                case rel => exact ⟨j + 1, a7, n7, c7, by go_num, by omega, rfl, Lib.hid (by rw [HT2.out]; exact H7.out.below b3), Lib.hid (by first | exact .inr h2.out | exact .inr trivial), below_next hbl b3⟩
                case measure => simp [intOf]; omega
        · have hjz : ¬ (j : Int) < (l.length : Int) := by omega
          rw [List.take_of_length_le (by omega)] at H7
          have HR2 := Lib.hid (show foldE l on mark = foldM [] (upE l mark) on by
            rw [HR.out]
            rcases H0.out with h | h
            · have hl : l = [] := List.eq_nil_of_length_eq_zero (by omega)
              rw [hl]
              unfold ontoP
              split <;> rfl
            · exact if_pos ⟨rfl, h, HUC.out⟩)
          clear H0
          go_wp2_with fail
          go_ret
          exact ⟨_, _, _, rfl, by rw [HR2.out]; exact H7.out, hbl⟩
end Go.Proofs.Ythofoidafdbgcaa
