/-
  ScanGroups walked.
-/
import Derived.Test.YtbpekloodjimoaaScGd
import Derived.Test.YtbpekloodjimoaaScK
import Derived.Deep.Quiet
import Derived.Deep.QuietTactic
import Derived.BigQuiet
namespace Go.Proofs.Ytbpekloodjimoaa
open Go.RowKit Go.Shelf Go.ChangeShapes Go.WideShapes Go.Deep

theorem wp_region_clsG {ι : Type} (f : ι → World) {P : Program} {id : Nat} {Q : Exit → Act → World → Prop} {a : Act} {w : World} {l : List Oper} (hm : P.follows .mixedOrders = true) (hB : Region.lexB .any l.toArray = true) (n0 : ι) (h0 : f n0 = w.drew)
    (h : wpQuiet P l.toArray (fun w' => ∃ n, w' = f n) (fun a' => ∀ w', (∃ n, w' = f n) → Q .normal a' w') l a) : (Code.region id l.toArray true).wp P Q a w :=
  wp_region_quiet (C := fun w' => ∃ n, w' = f n) hm hB ⟨n0, h0.symm⟩ (by simpa using h)
theorem eqGpR0 (neg : Bool) (g h : Gp) (w : World) : (binOp (if neg then .neq else .eql) 54 (.agg #[.int .i64 g.1, .int .i64 g.2.1, .int .i64 g.2.2.1, .int .i64 g.2.2.2.1, .int .i64 g.2.2.2.2]) (.agg #[.int .i64 h.1, .int .i64 h.2.1, .int .i64 h.2.2.1, .int .i64 h.2.2.2.1, .int .i64 h.2.2.2.2])).run Try.prog w = .ok (.bool (if neg then !decide (g = h) else decide (g = h))) w := by
  have u3 := Try.underlying3
  have a3 := Try.isAgg3
  have z3 := Try.sizeOf3
  have hS : Try.prog.underlying 54 = some (.struct (Try.prog.fieldsOf 54)) := by kernel_rfl
  have hp : Try.prog.stoodInHeld 54 = false := by kernel_rfl
  obtain ⟨a, b, c, d, e⟩ := g
  obtain ⟨a', b', c', d', e'⟩ := h
  cases neg
  · rw [if_neg (by simp), run_eql_struct, show (10000 : Nat) = 9999 + 1 from rfl, run_equalIn_agg w 9999 54 _ _ hS hp]
    simp only [Program.fieldsOf, Try.underlying54]
    go_simp
    by_cases h1 : a = a' <;> by_cases h2 : b = b' <;> by_cases h3 : c = c' <;> by_cases h4 : d = d' <;> by_cases h5 : e = e' <;> simp [h1, h2, h3, h4, h5]
  · rw [if_pos rfl, run_neq_struct, show (10000 : Nat) = 9999 + 1 from rfl, run_equalIn_agg w 9999 54 _ _ hS hp]
    simp only [Program.fieldsOf, Try.underlying54]
    go_simp
    by_cases h1 : a = a' <;> by_cases h2 : b = b' <;> by_cases h3 : c = c' <;> by_cases h4 : d = d' <;> by_cases h5 : e = e' <;> simp [h1, h2, h3, h4, h5]
theorem neqSelf (g : Gp) (w : World) : (binOp .neq 54 (.agg #[.int .i64 g.1, .int .i64 g.2.1, .int .i64 g.2.2.1, .int .i64 g.2.2.2.1, .int .i64 g.2.2.2.2]) (.agg #[.int .i64 g.1, .int .i64 g.2.1, .int .i64 g.2.2.1, .int .i64 g.2.2.2.1, .int .i64 g.2.2.2.2])).run Try.prog w = .ok (.bool false) w := by
  have h := eqGpR0 true g g w
  simpa using h
theorem eqlSelf (g : Gp) (w : World) : (binOp .eql 54 (.agg #[.int .i64 g.1, .int .i64 g.2.1, .int .i64 g.2.2.1, .int .i64 g.2.2.2.1, .int .i64 g.2.2.2.2]) (.agg #[.int .i64 g.1, .int .i64 g.2.1, .int .i64 g.2.2.1, .int .i64 g.2.2.2.1, .int .i64 g.2.2.2.2])).run Try.prog w = .ok (.bool true) w := by
  have h := eqGpR0 false g g w
  simpa using h
theorem below_drewNG {B : Nat} {a X : World} (h : Below B a X) (n : Nat) : Below B a (X.drewN n) := ⟨h.os, h.tape, h.output, h.size, h.block⟩
theorem gp_rowG {W w : World} {a : Option Addr} {n c : Nat} {l : List Gp} (h : RArg encGp 5 w a n c l) (hb : Below w.heap.size w W) (j : Nat) (hj : j < l.length) : ∃ b off, a = some ⟨b, off, none⟩ ∧ W.cell? ⟨b, off + j * 5, none⟩ = some (.int .i64 l[j]!.1) ∧ W.cell? ⟨b, off + j * 5 + 1, none⟩ = some (.int .i64 l[j]!.2.1) ∧ W.cell? ⟨b, off + j * 5 + 2, none⟩ = some (.int .i64 l[j]!.2.2.1) ∧ W.cell? ⟨b, off + j * 5 + 3, none⟩ = some (.int .i64 l[j]!.2.2.2.1) ∧ W.cell? ⟨b, off + j * 5 + 4, none⟩ = some (.int .i64 l[j]!.2.2.2.2) := by
  obtain ⟨b, off, e, _, hc⟩ := (h.below hb).2.2.2.2 j hj
  exact ⟨b, off, e, hc 0 _ rfl, hc 1 _ rfl, hc 2 _ rfl, hc 3 _ rfl, hc 4 _ rfl⟩
set_option maxRecDepth 100000 in
set_option maxHeartbeats 2000000 in
theorem gsame_any (a b : Option Addr) (n c d : Nat) (G : List Gp) (w : World) (hn : n = G.length) (hA : RArg encGp 5 w a n c G) (hB : RArg encGp 5 w b n d G) :
    Calls Try.prog 18 #[.slice a n c, .slice b n d] w (Gives w (.bool true)) := by
  have HA := Lib.hid hA
  have HB := Lib.hid hB
  have hz : (n : Int) ≤ 9223372036854775807 := by have := hA.2.1; omega
  have HN := Lib.hid hn
  clear hA hB hn
  go_enter Try.func18, Try.ntmps18
  go_wp2_with fail
  go_loopw [4, 5] (fun v i wr => ∃ j : Nat, v = .bool false ∧ i = .int .i64 (j : Int) ∧ j ≤ n ∧ Below w.heap.size w wr) (fun _ i _ => n - (intOf i).toNat)
  case atStart => exact ⟨0, rfl, rfl, Nat.zero_le _, Below.refl _ _⟩
  case round =>
    obtain ⟨j, rfl, rfl, hj, hbl⟩ := hrel
    by_cases hlt : j < n
    · have hjz : (j : Int) < (n : Int) := by omega
      obtain ⟨b1, o1, e1, c0, c1, c2, c3, c4⟩ := gp_rowG HA.out hbl j (by rw [← HN.out]; exact hlt)
      obtain ⟨b2, o2, e2, d0, d1, d2, d3, d4⟩ := gp_rowG HB.out hbl j (by rw [← HN.out]; exact hlt)
      subst e1 e2
      generalize G[j]! = g at c0 c1 c2 c3 c4 d0 d1 d2 d3 d4
      have EQ := fun w => neqSelf g w
      go_wp2_with fail
      go_quiet (fail)
      generalize HW1 : wr.drewN _ = W1
      have bw : Below wr.heap.size wr W1 := by rw [← HW1]; exact below_drewNG (Below.refl _ _) _
      replace HW1 := Lib.hid HW1
      go_wp2_with fail
      go_roundw
      case rel => exact ⟨j + 1, rfl, by go_num, by omega, below_next hbl bw⟩
      case measure => simp [intOf]; omega
    · have hjz : ¬ (j : Int) < (n : Int) := by omega
      go_wp2_with fail
      go_ret
      exact ⟨rfl, hbl⟩
set_option maxRecDepth 100000 in
set_option maxHeartbeats 4000000 in
theorem scanGroups_walk (a : Option Addr) (n c : Nat) (l : List Sp) (a3 : Option Addr) (n3 c3 : Nat) (on : List Sp) (wd : Int) (w : World) (hL : Arg w a n c l) (hO : Arg w a3 n3 c3 on) (_ : (Lit.int .i64 wd).wf = true) :
    Calls Try.prog 4 #[.slice a n c, .slice a3 n3 c3, .int .i64 wd] w (TruePost w) := by
  have hz1 : (n : Int) ≤ 9223372036854775807 := by have := hL.1; have := hL.2.1; omega
  have hz2 : (n3 : Int) ≤ 9223372036854775807 := by have := hO.1; have := hO.2.1; omega
  obtain ⟨r, hr⟩ : ∃ r, decide (n ≤ 100 ∧ n3 ≤ 100) = r := ⟨_, rfl⟩
  have FW := Lib.hid (fun W => few22_any a n c a3 n3 c3 W hz1 hz2 hr)
  have HS := Lib.hid (((EnvS.start w).add (Stable.arg a3 n3 c3 on) hO).add (Stable.arg a n c l) hL)
  cases r
  · clear hL hO hr
    go_enter Try.func4, Try.ntmps4
    go_wp2_with (first | (go_at_call 6; (with_reducible refine (FW.out _).mono ?_); rintro e wf ⟨rfl, rfl⟩; skip) | (go_at_call 7; (with_reducible refine (awake22_any _).mono ?_); rintro e wba ⟨rfl, ba⟩; replace HS := Lib.hid (HS.out.step ba); clear ba))
    go_ret
    exact ⟨rfl, HS.out.low⟩
  · have h100 := of_decide_eq_true hr
    have zl : l.length ≤ 100000 := by have := hL.1; omega
    have zo : on.length ≤ 100000 := by have := hO.1; omega
    have PG := Lib.hid (fun W h1 h2 => groups_any a n c l a3 n3 c3 on wd W h1 h2)
    have RG := Lib.hid (fun x xn xc y yn yc W h1 h2 => rgroups_any x xn xc l y yn yc on wd W h1 h2)
    have PT := Lib.hid (fun W h1 h2 => totalS_any a n c l a3 n3 c3 on W h1 h2)
    have RT := Lib.hid (fun x xn xc y yn yc W h1 h2 => rtotal_any x xn xc l y yn yc on W h1 h2 zl)
    generalize totP (clipP l on) = T at PT RT
    obtain ⟨⟨G, er⟩, hG⟩ : ∃ r, grpsP l on wd = r := ⟨_, rfl⟩
    rw [hG] at PG RG
    replace hG := Lib.hid hG
    clear hL hO hr h100
    go_enter Try.func4, Try.ntmps4
    go_wp2_with (first | (go_at_call 6; (with_reducible refine (FW.out _).mono ?_); rintro e wf ⟨rfl, rfl⟩; skip) | (go_at_call 14; (with_reducible refine (PG.out _ (HS.out.get (fun W => Arg W a n c l) (by repeat (first | exact List.mem_cons_self | apply List.mem_cons_of_mem))) (HS.out.get (fun W => Arg W a3 n3 c3 on) (by repeat (first | exact List.mem_cons_self | apply List.mem_cons_of_mem)))).mono ?_); rintro e w4 ⟨v4, rfl, o4, b4⟩; obtain ⟨a4, c4, rfl, h4⟩ := OwnsR.arg encGp_len o4; replace HS := Lib.hid ((HS.out.step b4).add (Stable.row encGp 5 a4 G.length c4 G) h4); clear b4 h4; clear o4) | (go_at_call 10; (with_reducible refine (refs5_any a n c l _ zl (HS.out.get (fun W => Arg W a n c l) (by repeat (first | exact List.mem_cons_self | apply List.mem_cons_of_mem)))).mono ?_); rintro e w5 ⟨a5, n5, c5, rfl, h5, b5⟩; replace HS := Lib.hid ((HS.out.step b5).add (Stable.arg a5 n5 c5 l) h5); clear b5 h5) | (go_at_call 16; (with_reducible refine (refs_any a3 n3 c3 on _ zo (HS.out.get (fun W => Arg W a3 n3 c3 on) (by repeat (first | exact List.mem_cons_self | apply List.mem_cons_of_mem)))).mono ?_); rintro e w6 ⟨a6, n6, c6, rfl, h6, b6⟩; replace HS := Lib.hid ((HS.out.step b6).add (Stable.arg a6 n6 c6 on) h6); clear b6 h6) | (go_at_call 15; (with_reducible refine (RG.out a5 n5 c5 a6 n6 c6 _ (HS.out.get (fun W => Arg W a5 n5 c5 l) (by repeat (first | exact List.mem_cons_self | apply List.mem_cons_of_mem))) (HS.out.get (fun W => Arg W a6 n6 c6 on) (by repeat (first | exact List.mem_cons_self | apply List.mem_cons_of_mem)))).mono ?_); rintro e w7 ⟨v7, rfl, o7, b7⟩; obtain ⟨a7, c7, rfl, h7⟩ := OwnsR.arg encGp_len o7; replace HS := Lib.hid ((HS.out.step b7).add (Stable.row encGp 5 a7 G.length c7 G) h7); clear b7 h7; clear o7) | (go_at_call 17; (with_reducible refine (RT.out a5 n5 c5 a6 n6 c6 _ (HS.out.get (fun W => Arg W a5 n5 c5 l) (by repeat (first | exact List.mem_cons_self | apply List.mem_cons_of_mem))) (HS.out.get (fun W => Arg W a6 n6 c6 on) (by repeat (first | exact List.mem_cons_self | apply List.mem_cons_of_mem)))).mono ?_); rintro e w8 ⟨rfl, b8⟩; replace HS := Lib.hid (HS.out.step b8); clear b8))
    have bx := (Below.refl w8.heap.size w8).alloc (Nat.le_refl _) (.cells #[.int .i64 T.1, .int .i64 T.2.1, .int .i64 T.2.2.1, .int .i64 T.2.2.2.1, .int .i64 T.2.2.2.2] 54)
    have KB := Lib.hid (fun W (h : Below (w8.alloc (.cells #[.int .i64 T.1, .int .i64 T.2.1, .int .i64 T.2.2.1, .int .i64 T.2.2.2.1, .int .i64 T.2.2.2.2] 54)).heap.size (w8.alloc (.cells #[.int .i64 T.1, .int .i64 T.2.1, .int .i64 T.2.2.1, .int .i64 T.2.2.2.1, .int .i64 T.2.2.2.2] 54)) W) => cell5 ((h.block w8.heap.size (by simp)).trans (heap_alloc_new w8 (.cells #[.int .i64 T.1, .int .i64 T.2.1, .int .i64 T.2.2.1, .int .i64 T.2.2.2.1, .int .i64 T.2.2.2.2] 54))))
    replace HS := Lib.hid (HS.out.step bx)
    clear bx
    generalize w8.alloc (.cells #[.int .i64 T.1, .int .i64 T.2.1, .int .i64 T.2.2.1, .int .i64 T.2.2.2.1, .int .i64 T.2.2.2.2] 54) = W6 at HS KB ⊢
    have EQ := fun w => eqlSelf T w
    have hzG : (G.length : Int) ≤ 9223372036854775807 := (HS.out.get (fun W => RArg encGp 5 W a4 G.length c4 G) (by repeat (first | exact List.mem_cons_self | apply List.mem_cons_of_mem))).2.1
    obtain ⟨ι, f, hf, hall⟩ : ∃ (ι : Type) (f : ι → World), (∀ n, Below W6.heap.size W6 (f n)) ∧ ∀ W, Below W6.heap.size W6 W → ∃ n, f n = W := ⟨{W // Below W6.heap.size W6 W}, Subtype.val, fun n => n.2, fun W h => ⟨⟨W, h⟩, rfl⟩⟩
    obtain ⟨n0, h0⟩ := hall _ (Below.refl W6.heap.size W6).drew
    haveI : Nonempty ι := ⟨n0⟩
    have hself : ∀ n, ∃ m, f n = f m := fun n => ⟨n, rfl⟩
    have q0 := fun n => (KB.out (f n) (hf n)).1
    have q1 := fun n => (KB.out (f n) (hf n)).2.1
    have q2 := fun n => (KB.out (f n) (hf n)).2.2.1
    have q3 := fun n => (KB.out (f n) (hf n)).2.2.2.1
    have q4 := fun n => (KB.out (f n) (hf n)).2.2.2.2
    have hf' := Lib.hid hf
    have hall' := Lib.hid hall
    have CA := Lib.hid (fun W (h : Below W6.heap.size W6 W) => gsame_any a4 a7 G.length c4 c7 G W rfl ((HS.out.get (fun W => RArg encGp 5 W a4 G.length c4 G) (by repeat (first | exact List.mem_cons_self | apply List.mem_cons_of_mem))).below h) ((HS.out.get (fun W => RArg encGp 5 W a7 G.length c7 G) (by repeat (first | exact List.mem_cons_self | apply List.mem_cons_of_mem))).below h))
    have CT := Lib.hid (fun W (h : Below W6.heap.size W6 W) => PT.out W ((HS.out.get (fun W => Arg W a n c l) (by repeat (first | exact List.mem_cons_self | apply List.mem_cons_of_mem))).below h) ((HS.out.get (fun W => Arg W a3 n3 c3 on) (by repeat (first | exact List.mem_cons_self | apply List.mem_cons_of_mem))).below h))
    clear hf hall PT RT PG RG
    refine wp_region_clsG f (by kernel_rfl) (by kernel_rfl) n0 h0 ?_
    clear h0
    generalize G.length = g at *
    repeat (go_big_quiet_step ((first | (go_at_call 7; (with_reducible refine (awake22_any _).mono ?_); rintro e wz ⟨rfl, hbz⟩; obtain ⟨nz, hz⟩ := hall'.out wz (below_next (hf'.out _) hbz); exact ⟨rfl, nz, hz.symm⟩) | (go_at_call 18; (with_reducible refine (CA.out _ (hf'.out _)).mono ?_); rintro e wz ⟨rfl, hbz⟩; obtain ⟨nz, hz⟩ := hall'.out wz (below_next (hf'.out _) hbz); exact ⟨rfl, nz, hz.symm⟩) | (go_at_call 19; (with_reducible refine (CT.out _ (hf'.out _)).mono ?_); rintro e wz ⟨rfl, hbz⟩; obtain ⟨nz, hz⟩ := hall'.out wz (below_next (hf'.out _) hbz); exact ⟨rfl, nz, hz.symm⟩))))
    refine wpQuiet_nil ?_
    intro _ hw'
    obtain ⟨nq, hw''⟩ := hw'
    subst hw''
    go_wp2_with fail
    go_ret
    exact ⟨rfl, below_next HS.out.low (hf'.out nq)⟩
end Go.Proofs.Ytbpekloodjimoaa
