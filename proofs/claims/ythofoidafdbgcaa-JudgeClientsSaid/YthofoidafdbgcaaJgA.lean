/-
  CONTRACTS of judge: Onto, Fold.
-/
import Derived.Test.YthofoidafdbgcaaJgP
namespace Go.Proofs.Ythofoidafdbgcaa
open Go.RowKit Go.Shelf Go.ChangeShapes Go.WideShapes Go.Deep

theorem Arg.nilJ (w : World) : Arg w none 0 0 [] := ⟨rfl, by simp, Nat.le_refl _, Nat.zero_le _, PIn.nil _ _ _⟩
theorem indexMutJ_none (a : Option Addr) (c : Nat) (fv : Value) (w : World) : Calls Try.prog 56 #[.slice a 0 c, fv] w fun e w' => e = .returned (.int .i64 (-1)) ∧ w = w' := by
  go_enter Try.func56, Try.ntmps56
  go_wp2
  refine wp_loop_rounds 1 ?_
  rw [rounds_succ]
  go_wp2
  go_ret
  exact ⟨rfl, rfl⟩
theorem containsMut_none (a : Option Addr) (c : Nat) (fv : Value) (w : World) : Calls Try.prog 32 #[.slice a 0 c, fv] w (Gives w (.bool false)) := by
  go_enter Try.func32, Try.ntmps32
  go_wp2_with (go_at_call 56; refine (indexMutJ_none _ _ _ _).mono ?_; rintro e w' ⟨rfl, rfl⟩)
  go_ret
  exact ⟨rfl, Below.refl _ _⟩
/-- A mutation whose pairs lie ready in w. -/
def MvW (w : World) := { m : Mv // OkM w m }
theorem okM_default (w : World) : OkM w default := ⟨Arg.nilJ w, rfl, rfl⟩
instance (w : World) : Inhabited (MvW w) := ⟨⟨default, okM_default w⟩⟩
def withW (w : World) : (l : List Mv) → (∀ m ∈ l, OkM w m) → List (MvW w)
  | [], _ => []
  | m :: t, h => ⟨m, h m List.mem_cons_self⟩ :: withW w t (fun x hx => h x (List.mem_cons_of_mem _ hx))
theorem withW_len (w : World) : ∀ (l : List Mv) (h : ∀ m ∈ l, OkM w m), (withW w l h).length = l.length
  | [], _ => rfl
  | _ :: t, _ => congrArg (· + 1) (withW_len w t _)
theorem withW_any (w : World) (p : Mv → Bool) : ∀ (l : List Mv) (h : ∀ m ∈ l, OkM w m), (withW w l h).any (fun x => p x.1) = l.any p
  | [], _ => rfl
  | m :: t, h => by
    show (p m || (withW w t _).any (fun x => p x.1)) = (p m || t.any p)
    rw [withW_any w p t]
theorem withW_get (w : World) : ∀ (l : List Mv) (h : ∀ m ∈ l, OkM w m) (j : Nat), j < l.length → ((withW w l h)[j]!).1 = l[j]!
  | [], _, _, hj => absurd hj (Nat.not_lt_zero _)
  | _ :: _, _, 0, _ => rfl
  | m :: t, h, j + 1, hj => by
    have hj' : j < t.length := by simpa using hj
    have e1 : (withW w (m :: t) h)[j + 1]! = (withW w t (fun x hx => h x (List.mem_cons_of_mem _ hx)))[j]! := by
      have hl := withW_len w t (fun x hx => h x (List.mem_cons_of_mem _ hx))
      rw [getElem!_pos _ (j + 1) (by rw [withW_len]; exact hj), getElem!_pos _ j (by rw [hl]; exact hj')]
      rfl
    have e2 : (m :: t)[j + 1]! = t[j]! := by rw [getElem!_pos (m :: t) (j + 1) hj, getElem!_pos t j hj', List.getElem_cons_succ]
    rw [e1, e2]
    exact withW_get w t _ j hj'
theorem containsMut_any (p : Mv → Bool) (g : Nat) (lb : Array Value) (eg : ∀ args w, (callFunc g args).run Try.prog w = .ok (.enter g args) w) (a : Option Addr) (n c : Nat) (l : List Mv) (w : World)
    (hp : PredBelow Try.prog g lb (fun x : MvW w => .agg (encM x.1).toArray) (fun x => p x.1) w) (h : MArg w a n c l) :
    Calls Try.prog 32 #[.slice a n c, .func (.func g) #[] lb] w (Gives w (.bool (l.any p))) := by
  obtain ⟨⟨rfl, hz, _, _, hr⟩, ok⟩ := h
  by_cases hl : l = []
  · subst hl; exact containsMut_none a c _ w
  · obtain ⟨b, off, rfl, hb, hc⟩ := hr.spot hl
    have := AnyQ.slices_ContainsFunc Try.lContainsMut 7 Try.isAgg42 Try.sizeOf42 (fun x : MvW w => encM x.1) (fun _ => rfl) (fun x => p x.1) g lb eg b off l.length c (withW w l ok) w hp (by rw [withW_len]; exact Nat.le_refl _) (by omega) hb (fun j hj i v hi => hc j (by rw [← withW_len w l ok]; exact hj) i v (by rw [← withW_get w l ok j (by rw [← withW_len w l ok]; exact hj)]; exact hi))
    rw [← withW_len w l ok, List.take_length, withW_any] at this
    rw [← withW_len w l ok]
    exact this
theorem pred15 (w : World) : PredBelow Try.prog 33 #[] (fun x : MvW w => .agg (encM x.1).toArray) (fun x => !chkV x.1) w := fun W x hb => by
  obtain ⟨⟨c, s, k, a, n, cp, ps, lo, hi, old⟩, ok⟩ := x
  show Calls Try.prog 33 #[.agg #[.int .i64 c, .int .i64 s, .int .i64 k, .slice a n cp, .int .i64 lo, .int .i64 hi, .int .i64 old]] W fun e w' => e = .returned (.bool (!chkM c s k ps lo hi old)) ∧ Below w.heap.size w w'
  have b1 : Below w.heap.size w (W.alloc (.cells #[.int .i64 c, .int .i64 s, .int .i64 k, .slice a n cp, .int .i64 lo, .int .i64 hi, .int .i64 old] 42)) := hb.alloc hb.size _
  have C := Lib.hid (fun W2 h => mcheck_any c s k a n cp ps lo hi old W2 (ok.ps.below h))
  generalize chkM c s k ps lo hi old = r at C
  clear ok
  go_enter Try.func33, Try.ntmps33
  go_wp2_with (go_at_call 27; (with_reducible refine (C.out _ b1).mono ?_); rintro e w2 ⟨rfl, b2⟩)
  go_ret
  exact ⟨rfl, below_next b1 b2⟩
set_option maxRecDepth 100000 in
set_option maxHeartbeats 2000000 in
theorem jonto_any (a : Option Addr) (n cp : Nat) (B : List Sp) (a2 : Option Addr) (n2 c2 : Nat) (l : List Mv) (a3 : Option Addr) (n3 c3 : Nat) (on : List Sp) (w : World) (hB : Arg w a n cp B) (hM : MArg w a2 n2 c2 l) (hO : Arg w a3 n3 c3 on) :
    Calls Try.prog 17 #[.slice a n cp, .slice a2 n2 c2, .slice a3 n3 c3] w (ListArg w (ontoP B l on)) := by
  have CT := Lib.hid (fun W (h : Below w.heap.size w W) => tcheck_any a n cp B W (hB.below h))
  have CS := Lib.hid (fun W (h : Below w.heap.size w W) => check_arg on a3 n3 c3 W (hO.below h))
  have CF := Lib.hid (fun W (h : Below w.heap.size w W) => containsMut_any (fun m => !chkV m) 33 #[] (enters_of Try.func33 (by kernel_rfl) rfl) a2 n2 c2 l W (pred15 W) (hM.below h))
  have hA := List.not_all_eq_any_not (l := l) (p := chkV)
  cases ht : tblB B
  · rw [show ontoP B l on = [] from if_neg (by rw [ht]; simp)]
    have h1 := Lib.hid ht
    clear hB hM hO hA
    go_enter Try.func17, Try.ntmps17
    go_wp2_with (go_at_call 30; (with_reducible refine (CT.out _ (Below.refl _ _)).mono ?_); rw [h1.out]; rintro e w2 ⟨rfl, b2⟩)
    go_ret
    exact ⟨_, _, _, rfl, Arg.nilJ _, b2⟩
  · cases ho : chkB on
    · rw [show ontoP B l on = [] from if_neg (by rw [ho]; simp)]
      have h1 := Lib.hid ht
      have h2 := Lib.hid ho
      clear hB hM hO hA
      go_enter Try.func17, Try.ntmps17
      go_wp2_with (first | (go_at_call 30; (with_reducible refine (CT.out _ (Below.refl _ _)).mono ?_); rw [h1.out]; rintro e w2 ⟨rfl, b2⟩) | (go_at_call 31; (with_reducible refine (CS.out _ b2).mono ?_); rw [h2.out]; rintro e w3 ⟨rfl, b3⟩))
      go_ret
      exact ⟨_, _, _, rfl, Arg.nilJ _, below_next b2 b3⟩
    · cases hl : l.all chkV
      · rw [show ontoP B l on = [] from if_neg (by rw [hl]; simp)]
        rw [hl] at hA
        have h1 := Lib.hid ht
        have h2 := Lib.hid ho
        have h3 := Lib.hid (show (l.any fun m => !chkV m) = true from hA.symm)
        clear hB hM hO hA
        go_enter Try.func17, Try.ntmps17
        go_wp2_with (first | (go_at_call 30; (with_reducible refine (CT.out _ (Below.refl _ _)).mono ?_); rw [h1.out]; rintro e w2 ⟨rfl, b2⟩) | (go_at_call 31; (with_reducible refine (CS.out _ b2).mono ?_); rw [h2.out]; rintro e w3 ⟨rfl, b3⟩; have b03 := below_next b2 b3) | (go_at_call 32; (with_reducible refine (CF.out _ b03).mono ?_); rw [h3.out]; rintro e w4 ⟨rfl, b4⟩))
        go_ret
        exact ⟨_, _, _, rfl, Arg.nilJ _, below_next b03 b4⟩
      · rw [show ontoP B l on = foldM B l on from if_pos ⟨ht, ho, hl⟩]
        rw [hl] at hA
        have hle := tbl_le ht
        have h1 := Lib.hid ht
        have h2 := Lib.hid ho
        have h3 := Lib.hid (show (l.any fun m => !chkV m) = false from hA.symm)
        have CC := Lib.hid (fun W (h : Below w.heap.size w W) => clonePair_any a n cp B W (by omega) (hB.below h))
        have HM := Lib.hid hM
        have HO := Lib.hid hO
        obtain rfl : n2 = l.length := hM.row.1
        have hz : (l.length : Int) ≤ 9223372036854775807 := hM.row.2.1
        clear hB hM hO hA hle
        go_enter Try.func17, Try.ntmps17
        go_wp2_with (first | (go_at_call 30; (with_reducible refine (CT.out _ (Below.refl _ _)).mono ?_); rw [h1.out]; rintro e w2 ⟨rfl, b2⟩) | (go_at_call 31; (with_reducible refine (CS.out _ b2).mono ?_); rw [h2.out]; rintro e w3 ⟨rfl, b3⟩; have b03 := below_next b2 b3) | (go_at_call 32; (with_reducible refine (CF.out _ b03).mono ?_); rw [h3.out]; rintro e w4 ⟨rfl, b4⟩; have b04 := below_next b03 b4) | (go_at_call 34; (with_reducible refine (CC.out _ b04).mono ?_); rintro e w5 ⟨v5, rfl, o5, b5⟩; obtain ⟨a5, n5, c5, rfl, h5⟩ := o5.ready; replace h5 := Lib.hid h5; have b05 := below_next b04 b5; clear o5))
        go_loopw [7, 9, 26] (fun v _ i wr => ∃ (j : Nat) (a7 : Option Addr) (n7 c7 : Nat), i = .int .i64 (j : Int) ∧ j ≤ l.length ∧ v = .slice a7 n7 c7 ∧ Hid (Arg wr a7 n7 c7 (foldM B (l.take j) on)) ∧ Below w.heap.size w wr) (fun _ _ i _ => l.length - (intOf i).toNat)
        case atStart => exact ⟨0, a5, n5, c5, rfl, Nat.zero_le _, rfl, Lib.hid h5.out, b05⟩
        case round =>
          obtain ⟨j, a7, n7, c7, rfl, hj, rfl, H7, hbl⟩ := hrel
          by_cases hlt : j < l.length
          · have hjz : (j : Int) < (l.length : Int) := by omega
            have HT := Lib.hid (show foldM B (l.take (j + 1)) on = appM (foldM B (l.take j) on) l[j]! on by rw [take_moreG hlt, foldM_snoc])
            obtain ⟨b, off, e, hb, q0, q1, q2, q3, q4, q5, q6⟩ := HM.out.cells hbl hlt
            subst e
            have ok := HM.out.ok _ (mem_get! hlt)
            generalize foldM B (l.take j) on = T at H7 HT
            generalize l[j]! = m at q0 q1 q2 q3 q4 q5 q6 ok HT
            obtain ⟨c, s, k, am, nm, cm, ps, lo, hi, old⟩ := m
            dsimp only at q0 q1 q2 q3 q4 q5 q6
            have ba : Below wr.heap.size wr (wr.alloc (.cells #[.int .i64 c, .int .i64 s, .int .i64 k, .slice am nm cm, .int .i64 lo, .int .i64 hi, .int .i64 old] 42)) := (Below.refl _ _).alloc (Nat.le_refl _) _
            have bb := below_next hbl ba
            have CA := Lib.hid (apply_any a7 n7 c7 T c s k am nm cm ps lo hi old a3 n3 c3 on _ (H7.out.below ba) (ok.ps.below bb) (HO.out.below bb))
            clear ok
            go_wp2_with (go_at_call 35; (with_reducible refine CA.out.mono ?_); rintro e w6 ⟨v6, rfl, o6, b6⟩; obtain ⟨a8, n8, c8, rfl, h8⟩ := o6.ready; replace h8 := Lib.hid h8; clear o6)
            go_roundw
            case rel => exact ⟨j + 1, a8, n8, c8, by go_num, by omega, rfl, Lib.hid (by rw [HT.out]; exact h8.out), below_next bb b6⟩
            case measure => simp [intOf]; omega
          · have hjz : ¬ (j : Int) < (l.length : Int) := by omega
            rw [List.take_of_length_le (by omega)] at H7
            go_wp2_with fail
            go_ret
            exact ⟨_, _, _, rfl, H7.out, hbl⟩
end Go.Proofs.Ythofoidafdbgcaa
