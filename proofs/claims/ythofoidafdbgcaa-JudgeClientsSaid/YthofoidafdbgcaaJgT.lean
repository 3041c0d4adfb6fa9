/-
  JudgeClients walked.
-/
import Derived.Test.YthofoidafdbgcaaJgR
import Derived.BigQuiet
import Derived.Deep.QuietTactic
namespace Go.Proofs.Ythofoidafdbgcaa
open Go.RowKit Go.Shelf Go.ChangeShapes Go.WideShapes Go.Deep

theorem below_drewNT {B : Nat} {a X : World} (h : Below B a X) (n : Nat) : Below B a (X.drewN n) := ⟨h.os, h.tape, h.output, h.size, h.block⟩
set_option maxRecDepth 100000 in
set_option maxHeartbeats 4000000 in
theorem rjclients_any (a : Option Addr) (n cp : Nat) (l : List Ev) (w : World) (hL : EArg w a n cp l) :
    Calls Try.prog 20 #[.slice a n cp] w (Gives w (.bool (clB l))) := by
  have HL := Lib.hid hL
  obtain rfl : n = l.length := hL.row.1
  have hz : (l.length : Int) ≤ 9223372036854775807 := hL.row.2.1
  clear hL
  go_enter Try.func20, Try.ntmps20
  go_wp2_with fail
  go_loopw [2, 3, 4] (fun v2 i _ wr => ∃ (j : Nat), v2 = .bool false ∧ i = .int .i64 (j : Int) ∧ j ≤ l.length ∧ Hid ((l.take j).Pairwise fun x y => x.m.c = y.m.c → x.m.s < y.m.s) ∧ Below w.heap.size w wr) (fun _ i _ _ => l.length - (intOf i).toNat)
  case atStart => exact ⟨0, rfl, rfl, Nat.zero_le _, Lib.hid List.Pairwise.nil, Below.refl _ _⟩
  case round =>
    obtain ⟨j, rfl, rfl, hj, HP, hbl⟩ := hrel
    by_cases hlt : j < l.length
    · have hjz : (j : Int) < (l.length : Int) := by omega
      have HT := Lib.hid (show l.take (j + 1) = l.take j ++ [l[j]!] from take_moreG hlt)
      have HB := Lib.hid (fun h => clB_bad hlt h)
      have HG := Lib.hid (fun h => pw_snoc (e := l[j]!) HP.out h)
      have KE := Lib.hid (fun W (h : Below w.heap.size w W) => HL.out.cells h hlt)
      have KX := Lib.hid (fun W (h : Below w.heap.size w W) (m : Nat) (hm : m < l.length) => HL.out.cells h hm)
      generalize l[j]! = ev at HT HB HG KE
      obtain ⟨⟨c, s, k, am, nm, cm, ps, lo, hi2, old⟩, t, d⟩ := ev
      dsimp only at HB HG
      go_wp2_with fail
      go_loopw [2, 4] (fun v2 i wr => ∃ (m : Nat), v2 = .bool false ∧ i = .int .i64 (m : Int) ∧ m ≤ j ∧ Hid (∀ x ∈ l.take m, x.m.c = c → x.m.s < s) ∧ Below w.heap.size w wr) (fun _ i _ => j - (intOf i).toNat)
      case atStart => exact ⟨0, rfl, rfl, Nat.zero_le _, Lib.hid (by simp), hbl⟩
      case round =>
        obtain ⟨m, rfl, rfl, hm, HM, hbm⟩ := hrel
        by_cases hmj : m < j
        · have hmz : (m : Int) < (j : Int) := by omega
          have hml : m < l.length := by omega
          have hmlz : (m : Int) < (l.length : Int) := by omega
          have HMT := Lib.hid (show l.take (m + 1) = l.take m ++ [l[m]!] from take_moreG hml)
          have HIN := Lib.hid (show l[m]! ∈ l.take j by rw [getElem!_pos l m hml]; exact List.mem_take_iff_getElem.2 ⟨m, by omega, rfl⟩)
          obtain ⟨b, off, e, hb, q0, q1, _⟩ := KE.out _ hbm
          subst e
          obtain ⟨b', off', e', _, p0, p1, _⟩ := KX.out _ hbm m hml
          cases e'
          generalize l[m]! = x at p0 p1 HMT HIN
          obtain ⟨⟨xc, xs, xk, xa, xn, xcp, xps, xlo, xhi, xold⟩, xt, xd⟩ := x
          dsimp only at p0 p1 q0 q1
          by_cases hc : xc = c
          · have hcb : (xc == c) = true := by simpa using hc
            by_cases hs : s ≤ xs
            · skip
              have hsd : decide (s ≤ xs) = true := decide_eq_true hs
              have HR := Lib.hid (HB.out ⟨_, HIN.out, hc, by dsimp only; omega⟩)
              clear hc
              go_wp2_with fail
              go_quiet (fail)
              generalize HW1 : wr.drewN _ = W1
              have bw : Below wr.heap.size wr W1 := by rw [← HW1]; exact below_drewNT (Below.refl _ _) _
              replace HW1 := Lib.hid HW1
              go_wp2_with fail
              go_ret
              exact ⟨ret_bool HR.out.symm, below_next hbm bw⟩
            · have HN := Lib.hid (show ∀ y ∈ l.take (m + 1), y.m.c = c → y.m.s < s from by rw [HMT.out]; intro y hy hyc; rcases List.mem_append.1 hy with hy | hy; exact HM.out y hy hyc; (obtain rfl : y = _ := by simpa using hy); (dsimp only; omega))
              have hsd : decide (s ≤ xs) = false := decide_eq_false hs
              clear hc
              go_wp2_with fail
              go_quiet (fail)
              generalize HW1 : wr.drewN _ = W1
              have bw : Below wr.heap.size wr W1 := by rw [← HW1]; exact below_drewNT (Below.refl _ _) _
              replace HW1 := Lib.hid HW1
              go_wp2_with fail
              go_roundw
              case rel => exact ⟨m + 1, rfl, by go_num, by omega, HN, below_next hbm bw⟩
              case measure => simp [intOf]; omega
          · have hcb : (xc == c) = false := by simpa using hc
            have HN := Lib.hid (show ∀ y ∈ l.take (m + 1), y.m.c = c → y.m.s < s from by rw [HMT.out]; intro y hy hyc; rcases List.mem_append.1 hy with hy | hy; exact HM.out y hy hyc; (obtain rfl : y = _ := by simpa using hy); exact absurd hyc hc)
            clear hc
            go_wp2_with fail
            go_quiet (fail)
            generalize HW1 : wr.drewN _ = W1
            have bw : Below wr.heap.size wr W1 := by rw [← HW1]; exact below_drewNT (Below.refl _ _) _
            replace HW1 := Lib.hid HW1
            go_wp2_with fail
            go_roundw
            case rel => exact ⟨m + 1, rfl, by go_num, by omega, HN, below_next hbm bw⟩
            case measure => simp [intOf]; omega
        · have hmz : ¬ (m : Int) < (j : Int) := by omega
          obtain rfl : m = j := by omega
          have HN := Lib.hid (show (l.take (m + 1)).Pairwise (fun x y => x.m.c = y.m.c → x.m.s < y.m.s) by rw [HT.out]; exact HG.out HM.out)
          clear HM HP HT HB HG
          go_wp2_with fail
          go_roundw
          case rel => exact ⟨m + 1, rfl, by go_num, by omega, HN, hbm⟩
          case measure => simp [intOf]; omega
    · have hjz : ¬ (j : Int) < (l.length : Int) := by omega
      have HR := Lib.hid (show clB l = true by have h := HP.out; rw [List.take_of_length_le (by omega)] at h; exact clB_good h)
      clear HP
      go_wp2_with fail
      go_ret
      exact ⟨ret_bool HR.out.symm, hbl⟩
set_option maxRecDepth 100000 in
set_option maxHeartbeats 4000000 in
theorem judgeClients_walk (a : Option Addr) (n cp : Nat) (l : List Ev) (w : World) (hL : EArg w a n cp l) :
    Calls Try.prog 5 #[.slice a n cp] w (TruePost w) := by
  have HS := Lib.hid ((EnvS.start w).add (Stable.eargs a n cp l) hL)
  obtain rfl : n = l.length := hL.row.1
  have FW := Lib.hid (fun W h => few15_any a l.length cp l W h)
  have hfl : fewE l = true → l.length ≤ 1000 := fun h => (plen_of h).1
  have HE := Lib.hid (fun (h : fewE l = true) W h1 => ents15_any a l.length cp l W h1 h)
  clear hL
  obtain ⟨r, hr⟩ : ∃ r, fewE l = r := ⟨_, rfl⟩
  rw [hr] at FW hfl HE
  cases r
  · clear hfl HE
    replace hr := Lib.hid hr
    go_enter Try.func5, Try.ntmps5
    go_wp2_with (first | (go_at_call 8; (with_reducible refine (FW.out _ (HS.out.get (fun W => EArg W a l.length cp l) (by repeat (first | exact List.mem_cons_self | apply List.mem_cons_of_mem)))).mono ?_); rintro e w5 ⟨rfl, b5⟩; replace HS := Lib.hid (HS.out.step b5); clear b5) | (go_at_call 9; (with_reducible refine (awake15_any _).mono ?_); rintro e wba ⟨rfl, ba⟩; replace HS := Lib.hid (HS.out.step ba); clear ba))
    go_ret
    exact ⟨rfl, HS.out.low⟩
  · have zl : l.length ≤ 100000 := by have := hfl rfl; omega
    replace hr := Lib.hid hr
    clear hfl
    have PC := Lib.hid (fun W h1 => jclients_any a l.length cp l W h1 zl)
    have HC := Lib.hid (fun (k : List Ev) (h : k.map canE = l.map canE) => clB_can h)
    have EN := Lib.hid (HE.out rfl)
    generalize clB l = B at PC HC
    go_enter Try.func5, Try.ntmps5
    go_wp2_with (first | (go_at_call 8; (with_reducible refine (FW.out _ (HS.out.get (fun W => EArg W a l.length cp l) (by repeat (first | exact List.mem_cons_self | apply List.mem_cons_of_mem)))).mono ?_); rintro e w5 ⟨rfl, b5⟩; replace HS := Lib.hid (HS.out.step b5); clear b5) | (go_at_call 9; (with_reducible refine (awake15_any _).mono ?_); rintro e wba ⟨rfl, ba⟩; replace HS := Lib.hid (HS.out.step ba); clear ba) | (go_at_call 19; (with_reducible refine (PC.out _ (HS.out.get (fun W => EArg W a l.length cp l) (by repeat (first | exact List.mem_cons_self | apply List.mem_cons_of_mem)))).mono ?_); rintro e wb11 ⟨rfl, b11⟩; replace HS := Lib.hid (HS.out.step b11); clear b11) | (go_at_call 14; (with_reducible refine (EN.out _ (HS.out.get (fun W => EArg W a l.length cp l) (by repeat (first | exact List.mem_cons_self | apply List.mem_cons_of_mem)))).mono ?_); rintro e w13 ⟨a13, n13, c13, k, rfl, h13, hk, b13⟩; have HK := Lib.hid (HC.out k hk); replace HS := Lib.hid ((HS.out.step b13).add (Stable.eargs a13 n13 c13 k) h13); clear b13 h13; clear hk) | (go_at_call 20; (with_reducible refine (rjclients_any a13 n13 c13 k _ (HS.out.get (fun W => EArg W a13 n13 c13 k) (by repeat (first | exact List.mem_cons_self | apply List.mem_cons_of_mem)))).mono ?_); rw [HK.out]; rintro e wb15 ⟨rfl, b15⟩; replace HS := Lib.hid (HS.out.step b15); clear b15))
    go_ret
    exact ⟨ret_bool (by simp), HS.out.low⟩
end Go.Proofs.Ythofoidafdbgcaa
