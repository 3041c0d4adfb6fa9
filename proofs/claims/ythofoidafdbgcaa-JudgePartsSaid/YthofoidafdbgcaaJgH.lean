/-
  JudgeParts walked.
-/
import Derived.Test.YthofoidafdbgcaaJgE
namespace Go.Proofs.Ythofoidafdbgcaa
open Go.RowKit Go.Shelf Go.ChangeShapes Go.WideShapes Go.Deep

set_option maxRecDepth 100000 in
set_option maxHeartbeats 4000000 in
theorem judgeParts_walk (a : Option Addr) (n cp : Nat) (l : List Ev) (a3 : Option Addr) (n3 c3 : Nat) (on : List Sp) (mark : Int) (w : World) (hL : EArg w a n cp l) (hO : Arg w a3 n3 c3 on) (_ : (Lit.int .i64 mark).wf = true) :
    Calls Try.prog 7 #[.slice a n cp, .slice a3 n3 c3, .int .i64 mark] w (TruePost w) := by
  have z3 : (n3 : Int) ≤ 9223372036854775807 := by have := hO.1; have := hO.2.1; omega
  have hz : (n : Int) ≤ 9223372036854775807 := by have := hL.row.1; have := hL.row.2.1; omega
  have ba := (Below.refl w.heap.size w).alloc (Nat.le_refl _) (.cells #[.int .i64 0, .int .i64 4096] 40)
  have hAll := arg_made w 40 0 4096
  have HS := Lib.hid (((((EnvS.start w).step ba).add (Stable.arg a3 n3 c3 on) (hO.below ba)).add (Stable.eargs a n cp l) (hL.below ba)).add (Stable.arg (some ⟨w.heap.size, 0, none⟩) 1 1 [(0, 4096)]) hAll)
  have CL := Lib.hid (fun W h1 h2 => less_any [(0, 4096)] on (some ⟨w.heap.size, 0, none⟩) a3 1 n3 1 c3 W h1 h2)
  have HL := Lib.hid hL
  obtain rfl : n = l.length := hL.row.1
  obtain ⟨⟨off, er⟩, he⟩ : ∃ r, lessP [(0, 4096)] on = r := ⟨_, rfl⟩
  rw [he] at CL
  have FW := Lib.hid (fun W h => few15_any a l.length cp l W h)
  have zo : n3 ≤ 60 → on.length ≤ 100000 := by have := hO.1; omega
  have hfl : fewE l = true → l.length ≤ 61 := fun h => by unfold fewE at h; simp at h; exact h.1
  have hfp : ∀ j, j < l.length → fewE l = true → l[j]!.m.n ≤ 20 := fun j hj h => by unfold fewE at h; rw [Bool.and_eq_true, List.all_eq_true] at h; exact of_decide_eq_true (h.2 _ (mem_get! hj))
  clear hL hO ba hAll
  obtain ⟨r, hr⟩ : ∃ r, fewE l = r := ⟨_, rfl⟩
  rw [hr] at FW hfl hfp
  cases r
  · clear hfl hfp
    replace hr := Lib.hid hr
    replace he := Lib.hid he
    go_enter Try.func7, Try.ntmps7
    go_wp2_with (first | (go_at_call 22; (with_reducible refine (CL.out _ (HS.out.get (fun W => Arg W (some ⟨w.heap.size, 0, none⟩) 1 1 [(0, 4096)]) (by repeat (first | exact List.mem_cons_self | apply List.mem_cons_of_mem))) (HS.out.get (fun W => Arg W a3 n3 c3 on) (by repeat (first | exact List.mem_cons_self | apply List.mem_cons_of_mem)))).mono ?_); rintro e w4 ⟨a4, n4, c4, rfl, h4, b4⟩; replace HS := Lib.hid ((HS.out.step b4).add (Stable.arg a4 n4 c4 off) h4); clear b4 h4) | (go_at_call 8; (with_reducible refine (FW.out _ (HS.out.get (fun W => EArg W a l.length cp l) (by repeat (first | exact List.mem_cons_self | apply List.mem_cons_of_mem)))).mono ?_); rintro e w5 ⟨rfl, b5⟩; replace HS := Lib.hid (HS.out.step b5); clear b5) | (go_at_call 9; (with_reducible refine (awake15_any _).mono ?_); rintro e wba ⟨rfl, ba⟩; replace HS := Lib.hid (HS.out.step ba); clear ba))
    go_ret
    exact ⟨rfl, HS.out.low⟩
  · have zl61 := hfl rfl
    have HP := Lib.hid (fun j hj => hfp j hj rfl)
    replace hr := Lib.hid hr
    clear hfl hfp
    by_cases q3 : n3 ≤ 60
    · have q3z : ¬ (60 : Int) < (n3 : Int) := by omega
      replace zo := zo q3
      by_cases h0 : er = 0
      · subst h0
        have HE := Lib.hid he
        have zl : l.length ≤ 100000 := by omega
        clear he
        go_enter Try.func7, Try.ntmps7
        go_wp2_with (first | (go_at_call 22; (with_reducible refine (CL.out _ (HS.out.get (fun W => Arg W (some ⟨w.heap.size, 0, none⟩) 1 1 [(0, 4096)]) (by repeat (first | exact List.mem_cons_self | apply List.mem_cons_of_mem))) (HS.out.get (fun W => Arg W a3 n3 c3 on) (by repeat (first | exact List.mem_cons_self | apply List.mem_cons_of_mem)))).mono ?_); rintro e w4 ⟨a4, n4, c4, rfl, h4, b4⟩; replace HS := Lib.hid ((HS.out.step b4).add (Stable.arg a4 n4 c4 off) h4); clear b4 h4) | (go_at_call 8; (with_reducible refine (FW.out _ (HS.out.get (fun W => EArg W a l.length cp l) (by repeat (first | exact List.mem_cons_self | apply List.mem_cons_of_mem)))).mono ?_); rintro e w5 ⟨rfl, b5⟩; replace HS := Lib.hid (HS.out.step b5); clear b5))
        have HS0 := HS
        go_loopw [6, 10] (fun v6 i wr => ∃ (j : Nat), v6 = .bool false ∧ i = .int .i64 (j : Int) ∧ j ≤ l.length ∧ Hid (((l.take j).all fun e => chkV e.m) = true) ∧ Below w5.heap.size w5 wr) (fun _ i _ => l.length - (intOf i).toNat)
        case atStart => exact ⟨0, rfl, rfl, Nat.zero_le _, Lib.hid rfl, Below.refl _ _⟩
        case round =>
          obtain ⟨j, rfl, rfl, hj, HC, hbl⟩ := hrel
          have HS := Lib.hid (HS0.out.step hbl)
          by_cases hlt : j < l.length
          · have hjz : (j : Int) < (l.length : Int) := by omega
            have HA := Lib.hid (show ((l.take (j + 1)).all fun e => chkV e.m) = chkV l[j]!.m by rw [take_moreG hlt, List.all_append, HC.out]; simp)
            have HF := Lib.hid (fun (h : chkV l[j]!.m = false) => (show (l.all fun e => chkV e.m) = false from List.all_eq_false.2 ⟨_, mem_get! hlt, by rw [h]; simp⟩))
            have hp20 := HP.out j hlt
            obtain ⟨b, off9, e, hb, q0, q1, q2, q3', q4, q5, q6, q7, q8⟩ := HL.out.cells HS.out.low hlt
            subst e
            have ok := (HL.out.ok _ (mem_get! hlt)).m
            generalize l[j]! = ev at q0 q1 q2 q3' q4 q5 q6 q7 q8 ok HA HF hp20
            obtain ⟨⟨c, s, k, am, nm, cm, ps, lo, hi2, old⟩, t, d⟩ := ev
            dsimp only at q0 q1 q2 q3' q4 q5 q6 q7 q8 ok hp20
            have CR := Lib.hid (ref4_any c s k am nm cm ps lo hi2 old wr (by have h1 := ok.ps.1; dsimp only at h1; omega) (ok.ps.below HS.out.low))
            have CC := Lib.hid (fun a n cp W h => rcheck4_any c s k a n cp ps lo hi2 old W h)
            have HV := Lib.hid (show chkV ⟨c, s, k, am, nm, cm, ps, lo, hi2, old⟩ = chkM c s k ps lo hi2 old from rfl)
            clear ok HC
            generalize chkM c s k ps lo hi2 old = r at CC HV
            cases r
            · have HR := Lib.hid (show foldE l [(0, 4096)] mark = [] from if_neg (by rw [HF.out HV.out]; simp))
              have PF := Lib.hid (fun W h1 h2 => HR.out ▸ jfold_any (some ⟨b, off9, none⟩) l.length cp l (some ⟨w.heap.size, 0, none⟩) 1 1 [(0, 4096)] mark W h1 h2 zl)
              clear HA HF HV
              go_wp2_with (first | (go_at_call 16; (with_reducible refine (CR.out).mono ?_); rintro e w6 ⟨a6, n6, c6, rfl, h6, b6⟩; have H6 := Lib.hid h6; replace HS := Lib.hid (HS.out.step b6); clear b6; clear h6) | (go_at_call 21; (with_reducible refine (CC.out _ _ _ _ H6.out).mono ?_); rintro e w7 ⟨rfl, b7⟩; replace HS := Lib.hid (HS.out.step b7); clear b7) | (go_at_call 9; (with_reducible refine (awake15_any _).mono ?_); rintro e wba ⟨rfl, ba⟩; replace HS := Lib.hid (HS.out.step ba); clear ba) | (go_at_call 12; (with_reducible refine (PF.out _ (HS.out.get (fun W => EArg W _ l.length cp l) (by repeat (first | exact List.mem_cons_self | apply List.mem_cons_of_mem))) (HS.out.get (fun W => Arg W (some ⟨w.heap.size, 0, none⟩) 1 1 [(0, 4096)]) (by repeat (first | exact List.mem_cons_self | apply List.mem_cons_of_mem)))).mono ?_); rintro e w8 ⟨a8, n8, c8, rfl, h8, b8⟩; obtain rfl : n8 = 0 := h8.1; clear h8; replace HS := Lib.hid (HS.out.step b8); clear b8))
              go_ret
              exact ⟨rfl, HS.out.low⟩
            · have HC2 := Lib.hid (show ((l.take (j + 1)).all fun e => chkV e.m) = true by rw [HA.out]; exact HV.out)
              clear HA HF HV HS
              go_wp2_with (first | (go_at_call 16; (with_reducible refine (CR.out).mono ?_); rintro e w6 ⟨a6, n6, c6, rfl, h6, b6⟩; have H6 := Lib.hid h6; have b06 := below_next hbl b6; clear h6) | (go_at_call 21; (with_reducible refine (CC.out _ _ _ _ H6.out).mono ?_); rintro e w7 ⟨rfl, b7⟩; have b07 := below_next b06 b7))
              go_roundw
              case rel => exact ⟨j + 1, rfl, by go_num, by omega, HC2, b07⟩
              case measure => simp [intOf]; omega
          · have hjz : ¬ (j : Int) < (l.length : Int) := by omega
            have hall := HC.out
            rw [List.take_of_length_le (by omega)] at hall
            obtain ⟨m1, m2⟩ := jparts_math (mark := mark) hall HE.out
            have hchk := (lessP_chk HE.out).2.1
            have PA := Lib.hid (fun W h1 h2 => jfold_any a l.length cp l a3 n3 c3 on mark W h1 h2 zl)
            have PB := Lib.hid (fun W h1 h2 => jfold_any a l.length cp l a4 n4 c4 off mark W h1 h2 zl)
            have PC := Lib.hid (fun W h1 h2 => jfold_any a l.length cp l (some ⟨w.heap.size, 0, none⟩) 1 1 [(0, 4096)] mark W h1 h2 zl)
            have zA : (foldE l on mark).length ≤ 100000 := Nat.le_trans (tbl_le (foldE_tbl _ _ _)) (by omega)
            have zC : (foldE l [(0, 4096)] mark).length ≤ 100000 := Nat.le_trans (tbl_le (foldE_tbl _ _ _)) (by omega)
            generalize foldE l on mark = A at m1 m2 PA zA
            generalize foldE l off mark = B at m1 PB
            generalize foldE l [(0, 4096)] mark = C at m1 m2 PC zC
            have PJ := Lib.hid (fun x xn xc y yn yc W h1 h2 => m1 ▸ tjoin_any x xn xc A y yn yc B W h1 h2)
            have PK := Lib.hid (fun x xn xc W h1 h2 => m2 ▸ clip_any x xn xc C a3 n3 c3 on W h1 h2)
            have SC := Lib.hid (fun x xn xc y yn yc W h1 h2 => (show Calls Try.prog 10 #[.slice x xn xc, .slice y yn yc] W (Gives W (.bool true)) from (show decide (C = C) = true from decide_eq_true rfl) ▸ same5_any x y xn yn xc yc C C W h1 h2))
            have SA := Lib.hid (fun x xn xc y yn yc W h1 h2 => (show Calls Try.prog 10 #[.slice x xn xc, .slice y yn yc] W (Gives W (.bool true)) from (show decide (A = A) = true from decide_eq_true rfl) ▸ same5_any x y xn yn xc yc A A W h1 h2))
            have RC := Lib.hid (fun x xn xc W h1 => hchk ▸ rcheck_any x xn xc on W h1)
            clear m1 m2 hchk hall HC HS0 HE
            go_wp2_with (first | (go_at_call 12; (with_reducible refine (PA.out _ (HS.out.get (fun W => EArg W a l.length cp l) (by repeat (first | exact List.mem_cons_self | apply List.mem_cons_of_mem))) (HS.out.get (fun W => Arg W a3 n3 c3 on) (by repeat (first | exact List.mem_cons_self | apply List.mem_cons_of_mem)))).mono ?_); rintro e w11 ⟨a11, n11, c11, rfl, h11, b11⟩; replace HS := Lib.hid ((HS.out.step b11).add (Stable.arg a11 n11 c11 A) h11); clear b11 h11) | (go_at_call 12; (with_reducible refine (PB.out _ (HS.out.get (fun W => EArg W a l.length cp l) (by repeat (first | exact List.mem_cons_self | apply List.mem_cons_of_mem))) (HS.out.get (fun W => Arg W a4 n4 c4 off) (by repeat (first | exact List.mem_cons_self | apply List.mem_cons_of_mem)))).mono ?_); rintro e w12 ⟨a12, n12, c12, rfl, h12, b12⟩; replace HS := Lib.hid ((HS.out.step b12).add (Stable.arg a12 n12 c12 B) h12); clear b12 h12) | (go_at_call 12; (with_reducible refine (PC.out _ (HS.out.get (fun W => EArg W a l.length cp l) (by repeat (first | exact List.mem_cons_self | apply List.mem_cons_of_mem))) (HS.out.get (fun W => Arg W (some ⟨w.heap.size, 0, none⟩) 1 1 [(0, 4096)]) (by repeat (first | exact List.mem_cons_self | apply List.mem_cons_of_mem)))).mono ?_); rintro e w13 ⟨a13, n13, c13, rfl, h13, b13⟩; replace HS := Lib.hid ((HS.out.step b13).add (Stable.arg a13 n13 c13 C) h13); clear b13 h13) | (go_at_call 23; (with_reducible refine (PJ.out a11 n11 c11 a12 n12 c12 _ (HS.out.get (fun W => Arg W a11 n11 c11 A) (by repeat (first | exact List.mem_cons_self | apply List.mem_cons_of_mem))) (HS.out.get (fun W => Arg W a12 n12 c12 B) (by repeat (first | exact List.mem_cons_self | apply List.mem_cons_of_mem)))).mono ?_); rintro e w14 ⟨a14, n14, c14, rfl, h14, b14⟩; replace HS := Lib.hid ((HS.out.step b14).add (Stable.arg a14 n14 c14 C) h14); clear b14 h14) | (go_at_call 9; (with_reducible refine (awake15_any _).mono ?_); rintro e wba ⟨rfl, ba⟩; replace HS := Lib.hid (HS.out.step ba); clear ba) | (go_at_call 11; (with_reducible refine (refs5_any a14 n14 c14 C _ zC (HS.out.get (fun W => Arg W a14 n14 c14 C) (by repeat (first | exact List.mem_cons_self | apply List.mem_cons_of_mem)))).mono ?_); rintro e w15 ⟨a15, n15, c15, rfl, h15, b15⟩; replace HS := Lib.hid ((HS.out.step b15).add (Stable.arg a15 n15 c15 C) h15); clear b15 h15) | (go_at_call 11; (with_reducible refine (refs5_any a13 n13 c13 C _ zC (HS.out.get (fun W => Arg W a13 n13 c13 C) (by repeat (first | exact List.mem_cons_self | apply List.mem_cons_of_mem)))).mono ?_); rintro e w16 ⟨a16, n16, c16, rfl, h16, b16⟩; replace HS := Lib.hid ((HS.out.step b16).add (Stable.arg a16 n16 c16 C) h16); clear b16 h16) | (go_at_call 10; (with_reducible refine (SC.out a15 n15 c15 a16 n16 c16 _ (HS.out.get (fun W => Arg W a15 n15 c15 C) (by repeat (first | exact List.mem_cons_self | apply List.mem_cons_of_mem))) (HS.out.get (fun W => Arg W a16 n16 c16 C) (by repeat (first | exact List.mem_cons_self | apply List.mem_cons_of_mem)))).mono ?_); rintro e wb17 ⟨rfl, b17⟩; replace HS := Lib.hid (HS.out.step b17); clear b17) | (go_at_call 24; (with_reducible refine (PK.out a13 n13 c13 _ (HS.out.get (fun W => Arg W a13 n13 c13 C) (by repeat (first | exact List.mem_cons_self | apply List.mem_cons_of_mem))) (HS.out.get (fun W => Arg W a3 n3 c3 on) (by repeat (first | exact List.mem_cons_self | apply List.mem_cons_of_mem)))).mono ?_); rintro e w18 ⟨v18, rfl, o18, b18⟩; obtain ⟨a18, n18, c18, rfl, h18⟩ := o18.ready; replace HS := Lib.hid ((HS.out.step b18).add (Stable.arg a18 n18 c18 A) h18); clear b18 h18; clear o18) | (go_at_call 11; (with_reducible refine (refs5_any a18 n18 c18 A _ zA (HS.out.get (fun W => Arg W a18 n18 c18 A) (by repeat (first | exact List.mem_cons_self | apply List.mem_cons_of_mem)))).mono ?_); rintro e w19 ⟨a19, n19, c19, rfl, h19, b19⟩; replace HS := Lib.hid ((HS.out.step b19).add (Stable.arg a19 n19 c19 A) h19); clear b19 h19) | (go_at_call 11; (with_reducible refine (refs5_any a11 n11 c11 A _ zA (HS.out.get (fun W => Arg W a11 n11 c11 A) (by repeat (first | exact List.mem_cons_self | apply List.mem_cons_of_mem)))).mono ?_); rintro e w20 ⟨a20, n20, c20, rfl, h20, b20⟩; replace HS := Lib.hid ((HS.out.step b20).add (Stable.arg a20 n20 c20 A) h20); clear b20 h20) | (go_at_call 10; (with_reducible refine (SA.out a19 n19 c19 a20 n20 c20 _ (HS.out.get (fun W => Arg W a19 n19 c19 A) (by repeat (first | exact List.mem_cons_self | apply List.mem_cons_of_mem))) (HS.out.get (fun W => Arg W a20 n20 c20 A) (by repeat (first | exact List.mem_cons_self | apply List.mem_cons_of_mem)))).mono ?_); rintro e wb21 ⟨rfl, b21⟩; replace HS := Lib.hid (HS.out.step b21); clear b21) | (go_at_call 15; (with_reducible refine (refs_any a3 n3 c3 on _ zo (HS.out.get (fun W => Arg W a3 n3 c3 on) (by repeat (first | exact List.mem_cons_self | apply List.mem_cons_of_mem)))).mono ?_); rintro e w22 ⟨a22, n22, c22, rfl, h22, b22⟩; replace HS := Lib.hid ((HS.out.step b22).add (Stable.arg a22 n22 c22 on) h22); clear b22 h22) | (go_at_call 25; (with_reducible refine (RC.out a22 n22 c22 _ (HS.out.get (fun W => Arg W a22 n22 c22 on) (by repeat (first | exact List.mem_cons_self | apply List.mem_cons_of_mem)))).mono ?_); rintro e wb23 ⟨rfl, b23⟩; replace HS := Lib.hid (HS.out.step b23); clear b23))
            go_ret
            exact ⟨rfl, HS.out.low⟩
      · have hne : (er != 0) = true := by simpa using h0
        replace he := Lib.hid he
        clear h0
        go_enter Try.func7, Try.ntmps7
        go_wp2_with (first | (go_at_call 22; (with_reducible refine (CL.out _ (HS.out.get (fun W => Arg W (some ⟨w.heap.size, 0, none⟩) 1 1 [(0, 4096)]) (by repeat (first | exact List.mem_cons_self | apply List.mem_cons_of_mem))) (HS.out.get (fun W => Arg W a3 n3 c3 on) (by repeat (first | exact List.mem_cons_self | apply List.mem_cons_of_mem)))).mono ?_); rintro e w4 ⟨a4, n4, c4, rfl, h4, b4⟩; replace HS := Lib.hid ((HS.out.step b4).add (Stable.arg a4 n4 c4 off) h4); clear b4 h4) | (go_at_call 8; (with_reducible refine (FW.out _ (HS.out.get (fun W => EArg W a l.length cp l) (by repeat (first | exact List.mem_cons_self | apply List.mem_cons_of_mem)))).mono ?_); rintro e w5 ⟨rfl, b5⟩; replace HS := Lib.hid (HS.out.step b5); clear b5) | (go_at_call 9; (with_reducible refine (awake15_any _).mono ?_); rintro e wba ⟨rfl, ba⟩; replace HS := Lib.hid (HS.out.step ba); clear ba))
        go_ret
        exact ⟨rfl, HS.out.low⟩
    · have q3z : (60 : Int) < (n3 : Int) := by omega
      replace he := Lib.hid he
      clear zo
      go_enter Try.func7, Try.ntmps7
      go_wp2_with (first | (go_at_call 22; (with_reducible refine (CL.out _ (HS.out.get (fun W => Arg W (some ⟨w.heap.size, 0, none⟩) 1 1 [(0, 4096)]) (by repeat (first | exact List.mem_cons_self | apply List.mem_cons_of_mem))) (HS.out.get (fun W => Arg W a3 n3 c3 on) (by repeat (first | exact List.mem_cons_self | apply List.mem_cons_of_mem)))).mono ?_); rintro e w4 ⟨a4, n4, c4, rfl, h4, b4⟩; replace HS := Lib.hid ((HS.out.step b4).add (Stable.arg a4 n4 c4 off) h4); clear b4 h4) | (go_at_call 8; (with_reducible refine (FW.out _ (HS.out.get (fun W => EArg W a l.length cp l) (by repeat (first | exact List.mem_cons_self | apply List.mem_cons_of_mem)))).mono ?_); rintro e w5 ⟨rfl, b5⟩; replace HS := Lib.hid (HS.out.step b5); clear b5) | (go_at_call 9; (with_reducible refine (awake15_any _).mono ?_); rintro e wba ⟨rfl, ba⟩; replace HS := Lib.hid (HS.out.step ba); clear ba))
      go_ret
      exact ⟨rfl, HS.out.low⟩
end Go.Proofs.Ythofoidafdbgcaa
