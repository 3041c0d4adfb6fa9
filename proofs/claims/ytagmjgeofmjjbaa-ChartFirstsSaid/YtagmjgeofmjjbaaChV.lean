/-
  THE STATEMENT 'splicelaw08.ChartFirsts'.
-/
import Derived.Test.YtagmjgeofmjjbaaChQ
import Derived.BigQuiet
namespace Go.Proofs.Ytagmjgeofmjjbaa
open Go.RowKit Go.Shelf Go.ChangeShapes Go.WideShapes Go.Deep

theorem wp_region_clsV {ι : Type} (f : ι → World) {P : Program} {id : Nat} {Q : Exit → Act → World → Prop} {a : Act} {w : World} {l : List Oper} (hm : P.follows .mixedOrders = true) (hB : Region.lexB .any l.toArray = true) (n0 : ι) (h0 : f n0 = w.drew)
    (h : wpQuiet P l.toArray (fun w' => ∃ n, w' = f n) (fun a' => ∀ w', (∃ n, w' = f n) → Q .normal a' w') l a) : (Code.region id l.toArray true).wp P Q a w :=
  wp_region_quiet (C := fun w' => ∃ n, w' = f n) hm hB ⟨n0, h0.symm⟩ (by simpa using h)
theorem refs8_nil (a : Option Addr) (c : Nat) (w : World) : Calls Try.prog 29 #[.slice a 0 c] w fun e w' => e = .returned (.slice none 0 0) ∧ Below w.heap.size w w' := by
  go_enter Try.func29, Try.ntmps29
  go_wp2_with fail
  go_loopw [3, 4] (fun v i wr => v = .slice none 0 0 ∧ i = .int .i64 0 ∧ Below w.heap.size w wr) (fun _ _ _ => 0)
  case atStart => exact ⟨rfl, rfl, Below.refl _ _⟩
  case round =>
    obtain ⟨rfl, rfl, hbl⟩ := hrel
    go_wp2
    go_ret
    exact ⟨rfl, hbl⟩
set_option maxRecDepth 100000 in
set_option maxHeartbeats 1000000 in
theorem ref8_nil (ep nx : Int) (a : Option Addr) (c : Nat) (w : World) :
    Calls Try.prog 13 #[.agg #[.int .i64 ep, .int .i64 nx, .slice a 0 c]] w fun e w' => e = .returned (.agg #[.int .i64 ep, .int .i64 nx, .slice none 0 0]) ∧ Below w.heap.size w w' := by
  obtain ⟨W1, hW1⟩ : ∃ W1, w.alloc (.cells #[.int .i64 ep, .int .i64 nx, .slice a 0 c] 24) = W1 := ⟨_, rfl⟩
  have bw : Below w.heap.size w W1 := by rw [← hW1]; exact (Below.refl _ _).alloc (Nat.le_refl _) _
  have g1 : w.heap.size < W1.heap.size := by rw [← hW1]; simp
  have hr1 : W1.heap[w.heap.size]? = some (.cells #[.int .i64 ep, .int .i64 nx, .slice a 0 c] 24) := by rw [← hW1]; exact heap_alloc_new _ _
  obtain ⟨W2, hW2⟩ : ∃ W2, W1.alloc (.cells #[.int .i64 0, .int .i64 0, .slice none 0 0] 30) = W2 := ⟨_, rfl⟩
  have b2 : Below W1.heap.size W1 W2 := by rw [← hW2]; exact (Below.refl _ _).alloc (Nat.le_refl _) _
  have g2 : W1.heap.size < W2.heap.size := by rw [← hW2]; simp
  have hr2 : W2.heap[W1.heap.size]? = some (.cells #[.int .i64 0, .int .i64 0, .slice none 0 0] 30) := by rw [← hW2]; exact heap_alloc_new _ _
  have hr12 := (b2.block _ g1).trans hr1
  obtain ⟨q0, q1, q2⟩ := c3K hr12
  have KS := Lib.hid (fun W (h : Below W1.heap.size W2 W) => c3K ((h.block _ g1).trans hr12))
  have HBD : Below W2.heap.size W2 W2 := Below.refl _ _
  have HBS : Below W1.heap.size W2 W2 := Below.refl _ _
  have hle : W1.heap.size ≤ W2.heap.size := Nat.le_of_lt g2
  clear hr1 hr12
  go_enter Try.func13, Try.ntmps13
  go_wp2_with fail
  replace hW1 := Lib.hid hW1
  replace hW2 := Lib.hid hW2
  go_region_held3 (fun W => W.cell? ⟨w.heap.size, 0, none⟩ = some (.int .i64 ep) ∧ W.cell? ⟨w.heap.size, 1, none⟩ = some (.int .i64 nx) ∧ W.cell? ⟨w.heap.size, 2, none⟩ = some (.slice a 0 c)) (exact KS.out _ (by repeat (first | with_reducible exact HBS | with_reducible refine toDK ?_ | with_reducible refine Below.setCell ?_ (by first | with_reducible exact Nat.le_refl _ | (dsimp only; omega)) _))) ((first | (go_at_call 29; (with_reducible refine (refs8_nil a c _).mono ?_); rintro e wz ⟨rfl, hbz⟩; have HBD := below_next (w := W2) (by repeat (first | with_reducible exact HBD | with_reducible refine toDK ?_ | with_reducible refine Below.alloc ?_ (by first | omega | (simp; omega)) _)) hbz; have HBS := HBD.mono hle; have hrz := (HBD.block _ g2).trans hr2; obtain ⟨y0, y1, y2⟩ := c3K hrz; obtain ⟨e0, e1, e2⟩ := f3K hrz) | fail))
  all_goals
    go_wp2_with fail
    exact bodyPost_ret (v := .agg #[.int .i64 ep, .int .i64 nx, .slice none 0 0]) (by simp [results, Try.results13, go_sem, y0, y1, y2]) rfl ⟨rfl, (by repeat (first | with_reducible exact below_next bw (below_next b2 HBD) | with_reducible refine toDK ?_ | with_reducible refine Below.setCell ?_ (by first | with_reducible exact Nat.le_refl _ | (dsimp only; omega)) _))⟩
theorem firstChecks : ((List.range 5).all fun a => (List.range 24).all fun b => chkC 1 ((b : Int) + 2) (firstL ((a : Int) + 1) (b + 1))) = true := by kernel_rfl
theorem first_chk (nodes shards : Int) : ((firstC nodes shards).2.2.2 = 0 ∧ chkC (firstC nodes shards).1 (firstC nodes shards).2.1 (firstC nodes shards).2.2.1 = true ∨ (firstC nodes shards).2.2.2 = 1 ∧ (firstC nodes shards).2.2.1 = []) ∧ (firstC nodes shards).2.2.1.length ≤ 24 := by
  by_cases hgood : btwC 1 nodes 5 = true ∧ btwC 1 shards 24 = true
  · have e : firstC nodes shards = (1, shards + 1, firstL nodes shards.toNat, 0) := if_pos hgood
    rw [e]
    obtain ⟨h1, h2⟩ := hgood
    rw [btwC_iff] at h1 h2
    obtain ⟨x, rfl⟩ : ∃ x : Nat, nodes = (x : Int) + 1 := ⟨(nodes - 1).toNat, by omega⟩
    obtain ⟨y, rfl⟩ : ∃ y : Nat, shards = (y : Int) + 1 := ⟨(shards - 1).toNat, by omega⟩
    have h := List.all_eq_true.1 (List.all_eq_true.1 firstChecks x (List.mem_range.2 (by omega))) y (List.mem_range.2 (by omega))
    have e1 : ((y : Int) + 1).toNat = y + 1 := by omega
    have e2 : (y : Int) + 1 + 1 = (y : Int) + 2 := by omega
    dsimp only
    rw [e1, e2]
    exact ⟨.inl ⟨rfl, h⟩, by rw [firstL_len]; omega⟩
  · have e : firstC nodes shards = (0, 0, [], 1) := if_neg hgood
    rw [e]
    exact ⟨.inr ⟨rfl, rfl⟩, by simp⟩
set_option maxRecDepth 100000 in
set_option maxHeartbeats 1000000 in
theorem chartFirsts_walk (nodes shards : Int) (w : World) (_h1 : (Lit.int .i64 nodes).wf = true) (_h2 : (Lit.int .i64 shards).wf = true) :
    Calls Try.prog 3 #[.int .i64 nodes, .int .i64 shards] w (TruePost w) := by
  have FI := Lib.hid (fun W => first_any nodes shards W)
  have RF := Lib.hid (fun W => rfirst_any nodes shards W)
  obtain ⟨hcs, hlen⟩ := first_chk nodes shards
  generalize firstC nodes shards = R at FI RF hcs hlen
  obtain ⟨ep, nx, L, e0⟩ := R
  dsimp only at hcs hlen
  go_enter Try.func3, Try.ntmps3
  go_upto_region 3 with (first | (go_at_call 9; (with_reducible refine (FI.out _).mono ?_); rintro e w1 ⟨a1, n1, c1, rfl, h1, b1, _⟩; dsimp only at h1 ⊢) | (go_at_call 10; (with_reducible refine (RF.out _).mono ?_); rintro e w2 ⟨a2, n2, c2, rfl, h2, b2⟩; dsimp only at h2 ⊢))
  have bA : Below w1.heap.size w1 (w1.alloc (.cells #[.int .i64 ep, .int .i64 nx, .slice a1 n1 c1] 24)) := (Below.refl _ _).alloc (Nat.le_refl _) _
  have hrA : (w1.alloc (.cells #[.int .i64 ep, .int .i64 nx, .slice a1 n1 c1] 24)).heap[w1.heap.size]? = some (.cells #[.int .i64 ep, .int .i64 nx, .slice a1 n1 c1] 24) := heap_alloc_new _ _
  have gA : w1.heap.size < (w1.alloc (.cells #[.int .i64 ep, .int .i64 nx, .slice a1 n1 c1] 24)).heap.size := by simp
  have hA2 := (h1.below bA).below b2
  have hr2 := (b2.block _ gA).trans hrA
  have g2 : w1.heap.size < w2.heap.size := Nat.lt_of_lt_of_le gA b2.size
  have bw2 := below_next b1 (below_next bA b2)
  generalize hW3 : w2.alloc (.cells #[.int .i64 ep, .int .i64 nx, .slice a2 n2 c2] 30) = W3
  have b3 : Below w2.heap.size w2 W3 := by rw [← hW3]; exact (Below.refl _ _).alloc (Nat.le_refl _) _
  have hr3 : W3.heap[w2.heap.size]? = some (.cells #[.int .i64 ep, .int .i64 nx, .slice a2 n2 c2] 30) := by rw [← hW3]; exact heap_alloc_new _ _
  have g3 : w2.heap.size < W3.heap.size := by rw [← hW3]; simp
  have g13 : w1.heap.size < W3.heap.size := Nat.lt_trans g2 g3
  have hr1 := (b3.block _ g2).trans hr2
  have K := Lib.hid (fun W (h : Below W3.heap.size W3 W) => And.intro (c3K ((h.block _ g13).trans hr1)) (c3K ((h.block _ g3).trans hr3)))
  have H1 := Lib.hid (hA2.below b3)
  have H2 := Lib.hid (h2.below b3)
  have BW := Lib.hid (below_next bw2 b3)
  have HB := Lib.hid (Below.refl W3.heap.size W3)
  have zl : L.length ≤ 100000 := by omega
  clear h1 h2 hA2 hrA hr2 hr3 hr1 bA gA b1 b2 b3 bw2 FI RF hlen
  replace hW3 := Lib.hid hW3
  rcases hcs with ⟨rfl, hck⟩ | ⟨rfl, rfl⟩
  · have CK := Lib.hid (fun W hh => hck ▸ chk_any ep nx a1 n1 c1 L W hh)
    clear hck
    go_wp2_with fail
    (first | go_region_held3 (fun W => (W.cell? ⟨w1.heap.size, 0, none⟩ = some (.int .i64 ep) ∧ W.cell? ⟨w1.heap.size, 1, none⟩ = some (.int .i64 nx) ∧ W.cell? ⟨w1.heap.size, 2, none⟩ = some (.slice a1 n1 c1)) ∧ W.cell? ⟨w2.heap.size, 0, none⟩ = some (.int .i64 ep) ∧ W.cell? ⟨w2.heap.size, 1, none⟩ = some (.int .i64 nx) ∧ W.cell? ⟨w2.heap.size, 2, none⟩ = some (.slice a2 n2 c2)) (exact K.out _ (by repeat (first | with_reducible exact HB.out | with_reducible refine toDK ?_))) ((first | (go_at_call 11; (with_reducible refine (awake8_any _).mono ?_); rintro e wa ⟨rfl, hba⟩; replace HB := Lib.hid (below_next (w := W3) (by repeat (first | with_reducible exact HB.out | with_reducible refine toDK ?_)) hba)) | (go_at_call 13; (with_reducible refine (ref8_any ep nx a1 n1 c1 L _ (H1.out.below (by repeat (first | with_reducible exact HB.out | with_reducible refine toDK ?_))) zl).mono ?_); rintro e wb ⟨a5, n5, c5, rfl, h5, _, hbb⟩; replace HB := Lib.hid (below_next (w := W3) (by repeat (first | with_reducible exact HB.out | with_reducible refine toDK ?_)) hbb); have H5 := Lib.hid h5; have H5B := Lib.hid (Below.refl wb.heap.size wb)) | (go_at_call 12; (with_reducible refine (same8_any ep nx _ _ _ _ _ _ L _ (H5.out.below (by repeat (first | with_reducible exact H5B.out | with_reducible refine toDK ?_))) (H2.out.below (by repeat (first | with_reducible exact HB.out | with_reducible refine toDK ?_)))).mono ?_); rintro e wd ⟨rfl, hbd⟩; replace HB := Lib.hid (below_next (w := W3) (by repeat (first | with_reducible exact HB.out | with_reducible refine toDK ?_)) hbd)) | (go_at_call 14; (with_reducible refine (CK.out _ (H1.out.below (by repeat (first | with_reducible exact HB.out | with_reducible refine toDK ?_)))).mono ?_); rintro e we ⟨rfl, hbe⟩; replace HB := Lib.hid (below_next (w := W3) (by repeat (first | with_reducible exact HB.out | with_reducible refine toDK ?_)) hbe)) | fail)) | fail)
    all_goals
      go_wp2_with fail
      go_ret
      exact ⟨rfl, below_next BW.out (by repeat (first | with_reducible exact HB.out | with_reducible refine toDK ?_))⟩
  · have hn1 : n1 = 0 := H1.out.1
    have hn2 : n2 = 0 := H2.out.1
    subst hn1 hn2
    have SM := Lib.hid (fun W (h : Below W3.heap.size W3 W) => same8_any ep nx none a2 0 0 0 c2 [] W (RArg.nil _ _ _) (H2.out.below h))
    go_wp2_with fail
    obtain ⟨ι, f, hf, hall⟩ : ∃ (ι : Type) (f : ι → World), (∀ n, Below W3.heap.size W3 (f n)) ∧ ∀ W, Below W3.heap.size W3 W → ∃ n, f n = W := ⟨{W // Below W3.heap.size W3 W}, Subtype.val, fun n => n.2, fun W h => ⟨⟨W, h⟩, rfl⟩⟩
    obtain ⟨n0, h0⟩ := hall _ (Below.refl W3.heap.size W3).drew
    haveI : Nonempty ι := ⟨n0⟩
    have hself : ∀ n, ∃ m, f n = f m := fun n => ⟨n, rfl⟩
    have q0 := fun n => (K.out (f n) (hf n)).1.1
    have q1 := fun n => (K.out (f n) (hf n)).1.2.1
    have q2 := fun n => (K.out (f n) (hf n)).1.2.2
    have p0 := fun n => (K.out (f n) (hf n)).2.1
    have p1 := fun n => (K.out (f n) (hf n)).2.2.1
    have p2 := fun n => (K.out (f n) (hf n)).2.2.2
    have hf' := Lib.hid hf
    have hall' := Lib.hid hall
    clear hf hall
    refine wp_region_clsV f (by kernel_rfl) (by kernel_rfl) n0 h0 ?_
    clear h0
    repeat (go_big_quiet_step ((first | (go_at_call 11; (with_reducible refine (awake8_any _).mono ?_); rintro e wz ⟨rfl, hbz⟩; obtain ⟨nz, hz⟩ := hall'.out wz (below_next (hf'.out _) hbz); exact ⟨rfl, nz, hz.symm⟩) | (go_at_call 13; (with_reducible refine (ref8_nil ep nx a1 c1 _).mono ?_); rintro e wz ⟨rfl, hbz⟩; obtain ⟨nz, hz⟩ := hall'.out wz (below_next (hf'.out _) hbz); exact ⟨rfl, nz, hz.symm⟩) | (go_at_call 12; (with_reducible refine (SM.out _ (hf'.out _)).mono ?_); rintro e wz ⟨rfl, hbz⟩; obtain ⟨nz, hz⟩ := hall'.out wz (below_next (hf'.out _) hbz); exact ⟨rfl, nz, hz.symm⟩))))
    refine wpQuiet_nil ?_
    intro _ hw'
    obtain ⟨nq, hw''⟩ := hw'
    subst hw''
    go_wp2
    go_ret
    exact ⟨rfl, below_next BW.out (hf'.out nq)⟩
end Go.Proofs.Ytagmjgeofmjjbaa
