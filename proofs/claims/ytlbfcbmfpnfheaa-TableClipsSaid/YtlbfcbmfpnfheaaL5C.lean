/-
  TableClips walked.
-/
import Derived.Test.YtlbfcbmfpnfheaaJr
namespace Go.Proofs.Ytlbfcbmfpnfheaa
open Go.RowKit Go.Shelf Go.ChangeShapes Go.WideShapes Go.Deep

theorem few_len5C {n n2 n3 : Nat} {l ps on : List Sp} (h : fewB n n2 n3 = true) (h1 : n = l.length) (h2 : n2 = ps.length) (h3 : n3 = on.length) : l.length ≤ 100000 ∧ ps.length ≤ 100000 ∧ on.length ≤ 100000 := by
  unfold fewB at h
  simp at h
  omega
theorem joinT_len {A B R : List Sp} {f : Int} (h : joinT A B = (R, f)) (hA : A.length ≤ 40000) (hB : B.length ≤ 40000) : R.length ≤ 100000 := by
  unfold joinT at h
  split at h
  · split at h
    · obtain ⟨rfl, _⟩ := Prod.mk.inj h; simp
    · obtain ⟨rfl, _⟩ := Prod.mk.inj h
      have : ∀ A : List Sp, (jnP A B).length ≤ A.length + B.length := fun A => by
        induction A with
        | nil => simp [jnP]
        | cons p t ih => have := putT_len (jnP t B) p.1 p.2; show (putT (jnP t B) p.1 p.2).length ≤ _; simp; omega
      have := this A
      omega
  · obtain ⟨rfl, _⟩ := Prod.mk.inj h; simp
theorem clipP_len (l on : List Sp) : (clipP l on).length ≤ l.length := by
  unfold clipP
  split
  · exact List.length_filter_le _ _
  · simp
set_option maxRecDepth 100000 in
set_option maxHeartbeats 4000000 in
theorem tableClips_walk (a : Option Addr) (n cp : Nat) (A : List Sp) (b : Option Addr) (m cq : Nat) (B : List Sp) (a3 : Option Addr) (n3 cp3 : Nat) (on : List Sp) (w : World) (hA : Arg w a n cp A) (hB : Arg w b m cq B) (hO : Arg w a3 n3 cp3 on) :
    Calls Try.prog 6 #[.slice a n cp, .slice b m cq, .slice a3 n3 cp3] w (TruePost w) := by
  have z1 : (n : Int) ≤ 9223372036854775807 := by have := hA.1; have := hA.2.1; omega
  have z2 : (m : Int) ≤ 9223372036854775807 := by have := hB.1; have := hB.2.1; omega
  have z3 : (n3 : Int) ≤ 9223372036854775807 := by have := hO.1; have := hO.2.1; omega
  have HS := Lib.hid ((((Env.mk (L := []) (Below.refl w.heap.size w) (by simp)).add hO).add hB).add hA)
  have F1 := Lib.hid (fun W => few5_any a n cp 0 0 0 none 0 0 0 0 0 a3 n3 cp3 W z1 (by omega) z3)
  have F2 := Lib.hid (fun W => few5_any b m cq 0 0 0 none 0 0 0 0 0 none 0 0 W z2 (by omega) (by omega))
  cases hf : fewB n 0 n3
  · rw [hf] at F1
    clear hA hB hO hf
    go_enter Try.func6, Try.ntmps6
    go_wp2_with (first | (go_at_call 23; (with_reducible refine (F1.out _).mono ?_); rintro e w' ⟨rfl, hb⟩; replace HS := Lib.hid (HS.out.step hb); clear hb) | (go_at_call 24; (with_reducible refine (awake5_any _).mono ?_); rintro e w' ⟨rfl, hb⟩; replace HS := Lib.hid (HS.out.step hb); clear hb))
    go_ret
    exact ⟨rfl, HS.out.low⟩
  · rw [hf] at F1
    obtain ⟨zA, _, zO⟩ := few_len5C (ps := []) hf hA.1 rfl hO.1
    cases hg : fewB m 0 0
    · rw [hg] at F2
      clear hA hB hO hf hg
      go_enter Try.func6, Try.ntmps6
      go_wp2_with (first | (go_at_call 23; (with_reducible refine (F1.out _).mono ?_); rintro e w' ⟨rfl, hb⟩; replace HS := Lib.hid (HS.out.step hb); clear hb) | (go_at_call 23; (with_reducible refine (F2.out _).mono ?_); rintro e w' ⟨rfl, hb⟩; replace HS := Lib.hid (HS.out.step hb); clear hb) | (go_at_call 24; (with_reducible refine (awake5_any _).mono ?_); rintro e w' ⟨rfl, hb⟩; replace HS := Lib.hid (HS.out.step hb); clear hb))
      go_ret
      exact ⟨rfl, HS.out.low⟩
    · rw [hg] at F2
      obtain ⟨zB, _, _⟩ := few_len5C (ps := []) (on := []) hg hB.1 rfl rfl
      have zA2 : A.length ≤ 40000 := by unfold fewB at hf; simp at hf; have := hA.1; omega
      have zB2 : B.length ≤ 40000 := by unfold fewB at hg; simp at hg; have := hB.1; omega
      obtain ⟨⟨J, f⟩, hJ⟩ : ∃ r, joinT A B = r := ⟨_, rfl⟩
      have zJ := joinT_len hJ zA2 zB2
      obtain ⟨C, hC⟩ : ∃ r, clipP A on = r := ⟨_, rfl⟩
      have zC : C.length ≤ 100000 := by have := clipP_len A on; rw [hC] at this; omega
      have J1 := Lib.hid (fun W h1 h2 => hJ ▸ tjoin_any a n cp A b m cq B W h1 h2)
      have J2 := Lib.hid (fun a n cp b m cq W h1 h2 => hJ ▸ rtjoin_any a n cp A b m cq B W h1 h2)
      have C1 := Lib.hid (fun W h1 h2 => hC ▸ clip_any a n cp A a3 n3 cp3 on W h1 h2)
      have C2 := Lib.hid (fun a n cp a3 n3 cp3 W h1 h2 => hC ▸ rtclip_any a n cp A a3 n3 cp3 on W h1 h2 zA)
      have SC := Lib.hid (fun a b n m c d W h1 h2 => (show decide (C = C) = true from decide_eq_true rfl) ▸ same5_any a b n m c d C C W h1 h2)
      have SJ := Lib.hid (fun a b n m c d W h1 h2 => (show decide (J = J) = true from decide_eq_true rfl) ▸ same5_any a b n m c d J J W h1 h2)
      replace hJ := Lib.hid hJ
      replace hC := Lib.hid hC
      clear hA hB hO hf hg
      go_enter Try.func6, Try.ntmps6
      go_wp2_with (first | (go_at_call 23; (with_reducible refine (F1.out _).mono ?_); rintro e w' ⟨rfl, hb⟩; replace HS := Lib.hid (HS.out.step hb); clear hb) | (go_at_call 23; (with_reducible refine (F2.out _).mono ?_); rintro e w' ⟨rfl, hb⟩; replace HS := Lib.hid (HS.out.step hb); clear hb) | (go_at_call 29; (with_reducible refine (J1.out _ (HS.out.get (by repeat (first | exact List.mem_cons_self | apply List.mem_cons_of_mem))) (HS.out.get (by repeat (first | exact List.mem_cons_self | apply List.mem_cons_of_mem)))).mono ?_); rintro e w' ⟨aj1, nj1, cj1, rfl, hj1, hb⟩; replace HS := Lib.hid ((HS.out.step hb).add hj1); clear hb hj1) | (go_at_call 27; (with_reducible refine (refs5_any a n cp A _ zA (HS.out.get (by repeat (first | exact List.mem_cons_self | apply List.mem_cons_of_mem)))).mono ?_); rintro e w' ⟨ar1, nr1, cr1, rfl, hr1, hb⟩; replace HS := Lib.hid ((HS.out.step hb).add hr1); clear hb hr1) | (go_at_call 27; (with_reducible refine (refs5_any b m cq B _ zB (HS.out.get (by repeat (first | exact List.mem_cons_self | apply List.mem_cons_of_mem)))).mono ?_); rintro e w' ⟨ar2, nr2, cr2, rfl, hr2, hb⟩; replace HS := Lib.hid ((HS.out.step hb).add hr2); clear hb hr2) | (go_at_call 30; (with_reducible refine (J2.out ar1 nr1 cr1 ar2 nr2 cr2 _ (HS.out.get (by repeat (first | exact List.mem_cons_self | apply List.mem_cons_of_mem))) (HS.out.get (by repeat (first | exact List.mem_cons_self | apply List.mem_cons_of_mem)))).mono ?_); rintro e w' ⟨aj2, nj2, cj2, rfl, hj2, hb⟩; replace HS := Lib.hid ((HS.out.step hb).add hj2); clear hb hj2) | (go_at_call 31; (with_reducible refine (C1.out _ (HS.out.get (by repeat (first | exact List.mem_cons_self | apply List.mem_cons_of_mem))) (HS.out.get (by repeat (first | exact List.mem_cons_self | apply List.mem_cons_of_mem)))).mono ?_); rintro e w' ⟨vk1, rfl, ok1, hb⟩; obtain ⟨ak1, nk1, ck1, rfl, hk1⟩ := ok1.ready; replace HS := Lib.hid ((HS.out.step hb).add hk1); clear hb hk1 ok1) | (go_at_call 27; (with_reducible refine (refs5_any ak1 nk1 ck1 C _ zC (HS.out.get (by repeat (first | exact List.mem_cons_self | apply List.mem_cons_of_mem)))).mono ?_); rintro e w' ⟨ar3, nr3, cr3, rfl, hr3, hb⟩; replace HS := Lib.hid ((HS.out.step hb).add hr3); clear hb hr3) | (go_at_call 27; (with_reducible refine (refs5_any a n cp A _ zA (HS.out.get (by repeat (first | exact List.mem_cons_self | apply List.mem_cons_of_mem)))).mono ?_); rintro e w' ⟨ar4, nr4, cr4, rfl, hr4, hb⟩; replace HS := Lib.hid ((HS.out.step hb).add hr4); clear hb hr4) | (go_at_call 19; (with_reducible refine (refs_any a3 n3 cp3 on _ zO (HS.out.get (by repeat (first | exact List.mem_cons_self | apply List.mem_cons_of_mem)))).mono ?_); rintro e w' ⟨ar5, nr5, cr5, rfl, hr5, hb⟩; replace HS := Lib.hid ((HS.out.step hb).add hr5); clear hb hr5) | (go_at_call 32; (with_reducible refine (C2.out ar1 nr1 cr1 ar5 nr5 cr5 _ (HS.out.get (by repeat (first | exact List.mem_cons_self | apply List.mem_cons_of_mem))) (HS.out.get (by repeat (first | exact List.mem_cons_self | apply List.mem_cons_of_mem)))).mono ?_); rintro e w' ⟨ak2, nk2, ck2, rfl, hk2, hb⟩; replace HS := Lib.hid ((HS.out.step hb).add hk2); clear hb hk2) | (go_at_call 28; (with_reducible refine (SC.out ar3 ak2 nr3 nk2 cr3 ck2 _ (HS.out.get (by repeat (first | exact List.mem_cons_self | apply List.mem_cons_of_mem))) (HS.out.get (by repeat (first | exact List.mem_cons_self | apply List.mem_cons_of_mem)))).mono ?_); rintro e w' ⟨rfl, hb⟩; replace HS := Lib.hid (HS.out.step hb); clear hb) | (go_at_call 27; (with_reducible refine (refs5_any aj1 nj1 cj1 J _ zJ (HS.out.get (by repeat (first | exact List.mem_cons_self | apply List.mem_cons_of_mem)))).mono ?_); rintro e w' ⟨ar6, nr6, cr6, rfl, hr6, hb⟩; replace HS := Lib.hid ((HS.out.step hb).add hr6); clear hb hr6) | (go_at_call 28; (with_reducible refine (SJ.out ar6 aj2 nr6 nj2 cr6 cj2 _ (HS.out.get (by repeat (first | exact List.mem_cons_self | apply List.mem_cons_of_mem))) (HS.out.get (by repeat (first | exact List.mem_cons_self | apply List.mem_cons_of_mem)))).mono ?_); rintro e w' ⟨rfl, hb⟩; replace HS := Lib.hid (HS.out.step hb); clear hb) | (go_at_call 24; (with_reducible refine (awake5_any _).mono ?_); rintro e w' ⟨rfl, hb⟩; replace HS := Lib.hid (HS.out.step hb); clear hb))
      go_ret
      exact ⟨rfl, HS.out.low⟩
end Go.Proofs.Ytlbfcbmfpnfheaa
