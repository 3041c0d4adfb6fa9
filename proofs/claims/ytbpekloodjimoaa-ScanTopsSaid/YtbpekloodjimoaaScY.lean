/-
  ScanTops, from a contract of the document's Top.
-/
import Derived.Test.YtbpekloodjimoaaScX
import Derived.Test.YtbpekloodjimoaaScR
namespace Go.Proofs.Ytbpekloodjimoaa
open Go.RowKit Go.Shelf Go.ChangeShapes Go.WideShapes Go.Deep

theorem clip_less (l on : List Sp) : (clipP l on).length ≤ l.length := by
  unfold clipP
  split
  · exact List.length_filter_le _ _
  · simp
def RTop : Prop := ∀ (a : Option Addr) (n c : Nat) (l : List Sp) (a3 : Option Addr) (n3 c3 : Nat) (on : List Sp) (k : Int) (w : World), Arg w a n c l → Arg w a3 n3 c3 on → l.length ≤ 60 →
  Calls Try.prog 21 #[.slice a n c, .slice a3 n3 c3, .int .i64 k] w (ListArg w (sortT (outT (clipP l on) k)))
set_option maxRecDepth 100000 in
set_option maxHeartbeats 2000000 in
theorem scanTops_walkOf (RT : RTop) (a : Option Addr) (n c : Nat) (l : List Sp) (a3 : Option Addr) (n3 c3 : Nat) (on : List Sp) (k : Int) (w : World) (hL : Arg w a n c l) (hO : Arg w a3 n3 c3 on) :
    Calls Try.prog 5 #[.slice a n c, .slice a3 n3 c3, .int .i64 k] w (TruePost w) := by
  have hz1 : (n : Int) ≤ 9223372036854775807 := by have := hL.1; have := hL.2.1; omega
  have hz2 : (n3 : Int) ≤ 9223372036854775807 := by have := hO.1; have := hO.2.1; omega
  obtain ⟨r, hr⟩ : ∃ r, decide (n ≤ 100 ∧ n3 ≤ 100) = r := ⟨_, rfl⟩
  have FW := Lib.hid (fun W => few22_any a n c a3 n3 c3 W hz1 hz2 hr)
  have HS := Lib.hid (((Env.mk (L := []) (Below.refl w.heap.size w) (by simp)).add hO).add hL)
  cases r
  · clear hL hO hr
    go_enter Try.func5, Try.ntmps5
    go_wp2_with (first | (go_at_call 6; (with_reducible refine (FW.out _).mono ?_); rintro e wf ⟨rfl, rfl⟩) | (go_at_call 7; (with_reducible refine (awake22_any _).mono ?_); rintro e wa ⟨rfl, hba⟩; replace HS := Lib.hid (HS.out.step hba); clear hba))
    go_ret
    exact ⟨rfl, HS.out.low⟩
  · by_cases h60 : n ≤ 60
    · have h100 := of_decide_eq_true hr
      have zl : l.length ≤ 60 := by have := hL.1; omega
      have zl5 : l.length ≤ 100000 := by omega
      have zo : on.length ≤ 100000 := by have := hO.1; omega
      have hz60 : (n : Int) ≤ 60 := by omega
      have PT := Lib.hid (fun W h1 h2 => top_any a n c l a3 n3 c3 on k W h1 h2)
      have RP := Lib.hid (fun W (x : Option Addr) (xn xc : Nat) (y : Option Addr) (yn yc : Nat) h1 h2 => RT x xn xc l y yn yc on k W h1 h2 zl)
      have zc := clip_less l on
      have ct := Lib.hid (clip_tbl l on)
      generalize clipP l on = M at *
      clear hL hO hr h100
      go_enter Try.func5, Try.ntmps5
      go_wp2_with (first
        | (go_at_call 6; (with_reducible refine (FW.out _).mono ?_); rintro e wf ⟨rfl, rfl⟩)
        | (go_at_call 7; (with_reducible refine (awake22_any _).mono ?_); rintro e wa ⟨rfl, hba⟩; replace HS := Lib.hid (HS.out.step hba); clear hba)
        | (go_at_call 20; (with_reducible refine (PT.out _ (HS.out.get (a := a) (n := n) (c := c) (l := l) (by repeat (first | exact List.mem_cons_self | apply List.mem_cons_of_mem))) (HS.out.get (a := a3) (n := n3) (c := c3) (l := on) (by repeat (first | exact List.mem_cons_self | apply List.mem_cons_of_mem)))).mono ?_); rintro e w5 ⟨d, a5, m5, c5, rfl, hdp, hds, hm5, h5, b5⟩; replace HS := Lib.hid ((HS.out.step b5).add h5); have z5 : (d.take m5).length ≤ 100000 := (by have := hdp.length_eq; have := List.length_take_le m5 d; have := List.length_take_le' m5 d; omega); have HE := Lib.hid (topT_is ct.out hdp hds hm5); clear h5 b5 hdp hds hm5)
        | (go_at_call 10; (with_reducible refine (refs5_any a5 m5 c5 (d.take m5) _ z5 (HS.out.get (a := a5) (n := m5) (c := c5) (l := (d.take m5)) (by repeat (first | exact List.mem_cons_self | apply List.mem_cons_of_mem)))).mono ?_); rintro e w6 ⟨a6, n6, c6, rfl, h6, b6⟩; replace HS := Lib.hid ((HS.out.step b6).add h6); clear h6 b6)
        | (go_at_call 10; (with_reducible refine (refs5_any a n c l _ zl5 (HS.out.get (a := a) (n := n) (c := c) (l := l) (by repeat (first | exact List.mem_cons_self | apply List.mem_cons_of_mem)))).mono ?_); rintro e w7 ⟨a7, n7, c7, rfl, h7, b7⟩; replace HS := Lib.hid ((HS.out.step b7).add h7); clear h7 b7)
        | (go_at_call 16; (with_reducible refine (refs_any a3 n3 c3 on _ zo (HS.out.get (a := a3) (n := n3) (c := c3) (l := on) (by repeat (first | exact List.mem_cons_self | apply List.mem_cons_of_mem)))).mono ?_); rintro e w8 ⟨a8, n8, c8, rfl, h8, b8⟩; replace HS := Lib.hid ((HS.out.step b8).add h8); clear h8 b8)
        | (go_at_call 21; (with_reducible refine (RP.out _ a7 n7 c7 a8 n8 c8 (HS.out.get (a := a7) (n := n7) (c := c7) (l := l) (by repeat (first | exact List.mem_cons_self | apply List.mem_cons_of_mem))) (HS.out.get (a := a8) (n := n8) (c := c8) (l := on) (by repeat (first | exact List.mem_cons_self | apply List.mem_cons_of_mem)))).mono ?_); rw [HE.out]; rintro e w9 ⟨a9, n9, c9, rfl, h9, b9⟩; replace HS := Lib.hid ((HS.out.step b9).add h9); clear h9 b9)
        | (go_at_call 13; (with_reducible refine (same5_any a6 a9 n6 n9 c6 c9 (d.take m5) (d.take m5) _ (HS.out.get (a := a6) (n := n6) (c := c6) (l := (d.take m5)) (by repeat (first | exact List.mem_cons_self | apply List.mem_cons_of_mem))) (HS.out.get (a := a9) (n := n9) (c := c9) (l := (d.take m5)) (by repeat (first | exact List.mem_cons_self | apply List.mem_cons_of_mem)))).mono ?_); rintro e w10 ⟨rfl, b10⟩; replace HS := Lib.hid (HS.out.step b10); clear b10))
      go_ret
      exact ⟨ret_bool (by simp), HS.out.low⟩
    · have hz60 : ¬ (n : Int) ≤ 60 := by omega
      clear hL hO hr
      go_enter Try.func5, Try.ntmps5
      go_wp2_with (first | (go_at_call 6; (with_reducible refine (FW.out _).mono ?_); rintro e wf ⟨rfl, rfl⟩) | (go_at_call 7; (with_reducible refine (awake22_any _).mono ?_); rintro e wa ⟨rfl, hba⟩; replace HS := Lib.hid (HS.out.step hba); clear hba))
      go_ret
      exact ⟨rfl, HS.out.low⟩
end Go.Proofs.Ytbpekloodjimoaa
