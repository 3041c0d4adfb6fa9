/-
  JudgeFolds walked.
-/
import Derived.Test.YthofoidafdbgcaaJgR
namespace Go.Proofs.Ythofoidafdbgcaa
open Go.RowKit Go.Shelf Go.ChangeShapes Go.WideShapes Go.Deep

set_option maxRecDepth 100000 in
set_option maxHeartbeats 4000000 in
theorem judgeFolds_walk (a : Option Addr) (n cp : Nat) (l : List Ev) (a3 : Option Addr) (n3 c3 : Nat) (on : List Sp) (mark : Int) (w : World) (hL : EArg w a n cp l) (hO : Arg w a3 n3 c3 on) (_ : (Lit.int .i64 mark).wf = true) :
    Calls Try.prog 3 #[.slice a n cp, .slice a3 n3 c3, .int .i64 mark] w (TruePost w) := by
  have z3 : (n3 : Int) ≤ 9223372036854775807 := by have := hO.1; have := hO.2.1; omega
  have hz : (n : Int) ≤ 9223372036854775807 := by have := hL.row.1; have := hL.row.2.1; omega
  have HS := Lib.hid (((EnvS.start w).add (Stable.arg a3 n3 c3 on) hO).add (Stable.eargs a n cp l) hL)
  obtain rfl : n = l.length := hL.row.1
  have FW := Lib.hid (fun W h => few15_any a l.length cp l W h)
  have zo : n3 ≤ 100 → on.length ≤ 100000 := by have := hO.1; omega
  have hfl : fewE l = true → l.length ≤ 1000 := fun h => (plen_of h).1
  have HE := Lib.hid (fun (h : fewE l = true) W h1 => ents15_any a l.length cp l W h1 h)
  clear hL hO
  obtain ⟨r, hr⟩ : ∃ r, fewE l = r := ⟨_, rfl⟩
  rw [hr] at FW hfl HE
  cases r
  · clear hfl HE zo
    replace hr := Lib.hid hr
    go_enter Try.func3, Try.ntmps3
    go_wp2_with (first | (go_at_call 8; (with_reducible refine (FW.out _ (HS.out.get (fun W => EArg W a l.length cp l) (by repeat (first | exact List.mem_cons_self | apply List.mem_cons_of_mem)))).mono ?_); rintro e w5 ⟨rfl, b5⟩; replace HS := Lib.hid (HS.out.step b5); clear b5) | (go_at_call 9; (with_reducible refine (awake15_any _).mono ?_); rintro e wba ⟨rfl, ba⟩; replace HS := Lib.hid (HS.out.step ba); clear ba))
    go_ret
    exact ⟨rfl, HS.out.low⟩
  · have zl : l.length ≤ 100000 := by have := hfl rfl; omega
    replace hr := Lib.hid hr
    clear hfl
    by_cases q3 : n3 ≤ 100
    · have q3z : ¬ (100 : Int) < (n3 : Int) := by omega
      replace zo := zo q3
      have PF := Lib.hid (fun W h1 h2 => jfold_any a l.length cp l a3 n3 c3 on mark W h1 h2 zl)
      have zB : (foldE l on mark).length ≤ 100000 := Nat.le_trans (tbl_le (foldE_tbl _ _ _)) (by omega)
      have HC := Lib.hid (fun (k : List Ev) (h : k.map canE = l.map canE) => foldE_can h on mark)
      have EN := Lib.hid (HE.out rfl)
      generalize foldE l on mark = B at PF zB HC
      have SB := Lib.hid (fun x xn xc y yn yc W h1 h2 => (show Calls Try.prog 10 #[.slice x xn xc, .slice y yn yc] W (Gives W (.bool true)) from (show decide (B = B) = true from decide_eq_true rfl) ▸ same5_any x y xn yn xc yc B B W h1 h2))
      go_enter Try.func3, Try.ntmps3
      go_wp2_with (first | (go_at_call 8; (with_reducible refine (FW.out _ (HS.out.get (fun W => EArg W a l.length cp l) (by repeat (first | exact List.mem_cons_self | apply List.mem_cons_of_mem)))).mono ?_); rintro e w5 ⟨rfl, b5⟩; replace HS := Lib.hid (HS.out.step b5); clear b5) | (go_at_call 9; (with_reducible refine (awake15_any _).mono ?_); rintro e wba ⟨rfl, ba⟩; replace HS := Lib.hid (HS.out.step ba); clear ba) | (go_at_call 12; (with_reducible refine (PF.out _ (HS.out.get (fun W => EArg W a l.length cp l) (by repeat (first | exact List.mem_cons_self | apply List.mem_cons_of_mem))) (HS.out.get (fun W => Arg W a3 n3 c3 on) (by repeat (first | exact List.mem_cons_self | apply List.mem_cons_of_mem)))).mono ?_); rintro e w11 ⟨a11, n11, c11, rfl, h11, b11⟩; replace HS := Lib.hid ((HS.out.step b11).add (Stable.arg a11 n11 c11 B) h11); clear b11 h11) | (go_at_call 11; (with_reducible refine (refs5_any a11 n11 c11 B _ zB (HS.out.get (fun W => Arg W a11 n11 c11 B) (by repeat (first | exact List.mem_cons_self | apply List.mem_cons_of_mem)))).mono ?_); rintro e w12 ⟨a12, n12, c12, rfl, h12, b12⟩; replace HS := Lib.hid ((HS.out.step b12).add (Stable.arg a12 n12 c12 B) h12); clear b12 h12) | (go_at_call 14; (with_reducible refine (EN.out _ (HS.out.get (fun W => EArg W a l.length cp l) (by repeat (first | exact List.mem_cons_self | apply List.mem_cons_of_mem)))).mono ?_); rintro e w13 ⟨a13, n13, c13, k, rfl, h13, hk, b13⟩; have HK := Lib.hid (HC.out k hk); replace HS := Lib.hid ((HS.out.step b13).add (Stable.eargs a13 n13 c13 k) h13); clear b13 h13; clear hk) | (go_at_call 15; (with_reducible refine (refs_any a3 n3 c3 on _ zo (HS.out.get (fun W => Arg W a3 n3 c3 on) (by repeat (first | exact List.mem_cons_self | apply List.mem_cons_of_mem)))).mono ?_); rintro e w14 ⟨a14, n14, c14, rfl, h14, b14⟩; replace HS := Lib.hid ((HS.out.step b14).add (Stable.arg a14 n14 c14 on) h14); clear b14 h14) | (go_at_call 13; (with_reducible refine (rjfold_any a13 n13 c13 k a14 n14 c14 on mark _ (HS.out.get (fun W => EArg W a13 n13 c13 k) (by repeat (first | exact List.mem_cons_self | apply List.mem_cons_of_mem))) (HS.out.get (fun W => Arg W a14 n14 c14 on) (by repeat (first | exact List.mem_cons_self | apply List.mem_cons_of_mem)))).mono ?_); rw [HK.out]; rintro e w15 ⟨a15, n15, c15, rfl, h15, b15⟩; replace HS := Lib.hid ((HS.out.step b15).add (Stable.arg a15 n15 c15 B) h15); clear b15 h15) | (go_at_call 10; (with_reducible refine (SB.out a12 n12 c12 a15 n15 c15 _ (HS.out.get (fun W => Arg W a12 n12 c12 B) (by repeat (first | exact List.mem_cons_self | apply List.mem_cons_of_mem))) (HS.out.get (fun W => Arg W a15 n15 c15 B) (by repeat (first | exact List.mem_cons_self | apply List.mem_cons_of_mem)))).mono ?_); rintro e wb16 ⟨rfl, b16⟩; replace HS := Lib.hid (HS.out.step b16); clear b16))
      go_ret
      exact ⟨rfl, HS.out.low⟩
    · have q3z : (100 : Int) < (n3 : Int) := by omega
      clear zo HE
      go_enter Try.func3, Try.ntmps3
      go_wp2_with (first | (go_at_call 8; (with_reducible refine (FW.out _ (HS.out.get (fun W => EArg W a l.length cp l) (by repeat (first | exact List.mem_cons_self | apply List.mem_cons_of_mem)))).mono ?_); rintro e w5 ⟨rfl, b5⟩; replace HS := Lib.hid (HS.out.step b5); clear b5) | (go_at_call 9; (with_reducible refine (awake15_any _).mono ?_); rintro e wba ⟨rfl, ba⟩; replace HS := Lib.hid (HS.out.step ba); clear ba))
      go_ret
      exact ⟨rfl, HS.out.low⟩
end Go.Proofs.Ythofoidafdbgcaa
