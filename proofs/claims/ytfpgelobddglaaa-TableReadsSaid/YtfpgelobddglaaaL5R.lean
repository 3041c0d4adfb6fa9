/-
  TableReads walked.
-/
import Derived.Test.YtfpgelobddglaaaRvB
namespace Go.Proofs.Ytfpgelobddglaaa
open Go.RowKit Go.Shelf Go.ChangeShapes Go.WideShapes Go.Deep

theorem readT_len {s : ByteArray} (_hs : s.size ≤ 8192) : (readT s).1.length ≤ 4096 := by
  unfold readT
  split
  · split
    · rename_i h; exact tbl_le h
    · simp
  · simp
set_option maxRecDepth 100000 in
set_option maxHeartbeats 4000000 in
theorem tableReads_walk (a : Option Addr) (n cp : Nat) (l : List Sp) (s : ByteArray) (w : World) (hL : Arg w a n cp l) (_hs : s.size ≤ maxLen) :
    Calls Try.prog 11 #[.slice a n cp, .string s] w (TruePost w) := by
  have z1 : (n : Int) ≤ 9223372036854775807 := by have := hL.1; have := hL.2.1; omega
  have hsz : (s.size : Int) ≤ 9223372036854775807 := by unfold maxLen at _hs; omega
  clear _hs
  have HS := Lib.hid ((Env.mk (L := []) (Below.refl w.heap.size w) (by simp)).add hL)
  have F1 := Lib.hid (fun W => few5_any a n cp 0 0 0 none 0 0 0 0 0 none 0 0 W z1 (by omega) (by omega))
  cases hf : fewB n 0 0
  · rw [hf] at F1
    clear hL hf
    go_enter Try.func11, Try.ntmps11
    go_wp2_with (first | (go_at_call 36; (with_reducible refine (F1.out _).mono ?_); rintro e w' ⟨rfl, hb⟩; replace HS := Lib.hid (HS.out.step hb); clear hb) | (go_at_call 37; (with_reducible refine (awake5_any _).mono ?_); rintro e w' ⟨rfl, hb⟩; replace HS := Lib.hid (HS.out.step hb); clear hb))
    go_ret
    exact ⟨rfl, HS.out.low⟩
  · rw [hf] at F1
    have zl : l.length ≤ 100000 := by unfold fewB at hf; simp at hf; have := hL.1; omega
    by_cases hbig : (s.size : Int) ≤ 5000
    · obtain ⟨k, x, hk⟩ : ∃ k x, readT s = (k, x) := ⟨_, _, rfl⟩
      have zk : k.length ≤ 100000 := by have := readT_len (s := s) (by omega); rw [hk] at this; dsimp only at this; omega
      have RP : Hid (∀ W, Calls Try.prog 46 #[.string s] W (SetArg W (k, x))) := Lib.hid fun W => by
        have := tread_any s W (by omega)
        rw [hk] at this
        exact this.mono fun _ _ h => h.arg
      have RD : Hid (∀ W, Calls Try.prog 47 #[.string s] W (SetArg W (k, x))) := Lib.hid fun W => by
        have := rtread_any s W (by omega)
        rw [docT_eq (by omega), hk] at this
        exact this
      obtain ⟨t, ht⟩ : ∃ t, (⟨(textV l).toArray⟩ : ByteArray) = t := ⟨_, rfl⟩
      have TX : Hid (∀ a n c W, Arg W a n c l → Calls Try.prog 48 #[.slice a n c] W (Gives W (.string t))) := Lib.hid fun a n c W h => by have := ttext_any a n c l W h; rw [ht] at this; exact this
      have TR : Hid (∀ a n c W, Arg W a n c l → Calls Try.prog 49 #[.slice a n c] W (Gives W (.string t))) := Lib.hid fun a n c W h => by have := rttext_any a n c l W h; rw [ht] at this; exact this
      have SM : Hid (∀ au nu cu av nv cv W, Arg W au nu cu k → Arg W av nv cv k → Calls Try.prog 41 #[.slice au nu cu, .slice av nv cv] W (Gives W (.bool true))) := Lib.hid fun au nu cu av nv cv W h h' => by have := same5_any au av nu nv cu cv k k W h h'; rw [decide_eq_true rfl] at this; exact this
      replace hk := Lib.hid hk
      clear hL hf ht
      go_enter Try.func11, Try.ntmps11
      go_wp2_with (first | (go_at_call 36; (with_reducible refine (F1.out _).mono ?_); rintro e w' ⟨rfl, hb⟩; replace HS := Lib.hid (HS.out.step hb); clear hb) | (go_at_call 37; (with_reducible refine (awake5_any _).mono ?_); rintro e w' ⟨rfl, hb⟩; replace HS := Lib.hid (HS.out.step hb); clear hb) | (go_at_call 46; (with_reducible refine (RP.out _).mono ?_); rintro e w' ⟨ar, nr, cr, rfl, hr, hb⟩; replace HS := Lib.hid ((HS.out.step hb).add hr); clear hb hr) | (go_at_call 47; (with_reducible refine (RD.out _).mono ?_); rintro e w' ⟨ad, nd, cd, rfl, hd, hb⟩; replace HS := Lib.hid ((HS.out.step hb).add hd); clear hb hd) | (go_at_call 48; (with_reducible refine (TX.out a n cp _ (HS.out.get (by repeat (first | exact List.mem_cons_self | apply List.mem_cons_of_mem)))).mono ?_); rintro e w' ⟨rfl, hb⟩; replace HS := Lib.hid (HS.out.step hb); clear hb) | (go_at_call 40; (with_reducible refine (refs5_any a n cp l _ zl (HS.out.get (by repeat (first | exact List.mem_cons_self | apply List.mem_cons_of_mem)))).mono ?_); rintro e w' ⟨al, nl, cl, rfl, hl', hb⟩; replace HS := Lib.hid ((HS.out.step hb).add hl'); clear hb hl') | (go_at_call 49; (with_reducible refine (TR.out al nl cl _ (HS.out.get (by repeat (first | exact List.mem_cons_self | apply List.mem_cons_of_mem)))).mono ?_); rintro e w' ⟨rfl, hb⟩; replace HS := Lib.hid (HS.out.step hb); clear hb) | (go_at_call 40; (with_reducible refine (refs5_any ar nr cr k _ zk (HS.out.get (by repeat (first | exact List.mem_cons_self | apply List.mem_cons_of_mem)))).mono ?_); rintro e w' ⟨au, nu, cu, rfl, hu, hb⟩; replace HS := Lib.hid ((HS.out.step hb).add hu); clear hb hu) | (go_at_call 41; (with_reducible refine (SM.out au nu cu ad nd cd _ (HS.out.get (by repeat (first | exact List.mem_cons_self | apply List.mem_cons_of_mem))) (HS.out.get (by repeat (first | exact List.mem_cons_self | apply List.mem_cons_of_mem)))).mono ?_); rintro e w' ⟨rfl, hb⟩; replace HS := Lib.hid (HS.out.step hb); clear hb))
      go_ret
      exact ⟨ret_bool (by simp), HS.out.low⟩
    · have hbig' : ¬ (s.size : Int) ≤ 5000 := hbig
      clear hL hf
      go_enter Try.func11, Try.ntmps11
      go_wp2_with (first | (go_at_call 36; (with_reducible refine (F1.out _).mono ?_); rintro e w' ⟨rfl, hb⟩; replace HS := Lib.hid (HS.out.step hb); clear hb) | (go_at_call 37; (with_reducible refine (awake5_any _).mono ?_); rintro e w' ⟨rfl, hb⟩; replace HS := Lib.hid (HS.out.step hb); clear hb))
      go_ret
      exact ⟨rfl, HS.out.low⟩
end Go.Proofs.Ytfpgelobddglaaa
