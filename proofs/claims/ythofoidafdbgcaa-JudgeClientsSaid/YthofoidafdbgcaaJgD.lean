/-
  CONTRACTS: the statements' own one, few, awake (on judges).
-/
import Derived.Test.YthofoidafdbgcaaJgC
namespace Go.Proofs.Ythofoidafdbgcaa
open Go.RowKit Go.Shelf Go.ChangeShapes Go.WideShapes Go.Deep

theorem rarg_made {α : Type} [Inhabited α] {enc : α → List Value} {k : Nat} (hk : ∀ x, (enc x).length = k) (w : World) (t : TypeId) (l : List α) (hz : l.length ≤ 1000) (x : Array Value) (hx : x.toList = flatR enc l) :
    RArg enc k (w.alloc (.cells x t)) (some ⟨w.heap.size, 0, none⟩) l.length l.length l :=
  ⟨rfl, by omega, Nat.le_refl _, by unfold maxLen; omega, fun j hj => ⟨w.heap.size, 0, rfl, by simp, fun i v hi => by
    have h1 := flatR_get hk l j i v hj hi
    rw [← hx] at h1
    have h2 := cell_of_row (w.alloc (.cells x t)) w.heap.size (j * k + i) _ _ _ (heap_alloc_new w (.cells x t))
    rw [show (0 : Nat) + j * k + i = j * k + i by omega, h2]
    simpa using h1⟩⟩
theorem Arg.oneJ {w : World} {a : Option Addr} {n c : Nat} {x y : Int} (h : Arg w a n c [(x, y)]) : n = 1 ∧ ∃ b off, a = some ⟨b, off, none⟩ ∧ b < w.heap.size ∧ w.cell? ⟨b, off, none⟩ = some (.int .i64 x) ∧ w.cell? ⟨b, off + 1, none⟩ = some (.int .i64 y) := by
  obtain ⟨b, off, e, hb, h0, h1⟩ := h.2.2.2.2 0 (by simp)
  refine ⟨h.1, b, off, e, hb, ?_, ?_⟩
  · simpa using h0
  · simpa using h1
theorem arg_made (w : World) (t : TypeId) (x y : Int) : Arg (w.alloc (.cells #[.int .i64 x, .int .i64 y] t)) (some ⟨w.heap.size, 0, none⟩) 1 1 [(x, y)] :=
  ⟨rfl, by simp, Nat.le_refl _, by unfold maxLen; omega, fun j hj => by
    obtain rfl : j = 0 := by simpa using hj
    exact ⟨w.heap.size, 0, rfl, by simp, cell_of_row _ _ 0 _ _ _ (heap_alloc_new _ _), cell_of_row _ _ 1 _ _ _ (heap_alloc_new _ _)⟩⟩
set_option maxRecDepth 100000 in
set_option maxHeartbeats 1000000 in
theorem jone_any (kind key val : Int) (w : World) : Calls Try.prog 26 #[.int .i64 kind, .int .i64 key, .int .i64 val] w (MutArg w 1 kind kind [(key, val)] 0 0 0) := by
  go_enter Try.func26, Try.ntmps26
  go_wp2
  refine bodyPost_ret (v := .agg #[.int .i64 1, .int .i64 kind, .int .i64 kind, .slice (some ⟨w.heap.size + 1, 0, none⟩) 1 1, .int .i64 0, .int .i64 0, .int .i64 0]) (by simp [results, Try.results26, go_sem]) rfl ⟨_, _, _, rfl, ?_, ?_⟩
  · have h := arg_made (w.alloc (.cells #[.int .i64 1, .int .i64 kind, .int .i64 kind, .slice (some ⟨w.heap.size + 1, 0, none⟩) 1 1, .int .i64 0, .int .i64 0, .int .i64 0] 42)) 65 key val
    simpa using h
  · exact ((Below.refl _ _).alloc (Nat.le_refl _) _).alloc (by simp) _
/-- The example's entries and mutation. -/
def xm (k : Int) (a : Option Addr) (n c : Nat) (v : Int) : Mv := ⟨1, k, k, a, n, c, [(5, v)], 0, 0, 0⟩
def xe (k : Int) (a : Option Addr) (n c : Nat) (v t : Int) : Ev := ⟨xm k a n c v, t, true⟩
theorem fold3 (a : Option Addr) (n c : Nat) (b : Option Addr) (m d : Nat) : foldE [xe 1 a n c 1 3, xe 3 b m d 2 4] [(0, 9)] 3 = [(5, 1)] := rfl
theorem fold9 (a : Option Addr) (n c : Nat) (b : Option Addr) (m d : Nat) : foldE [xe 1 a n c 1 3, xe 3 b m d 2 4] [(0, 9)] 9 = [(5, 3)] := rfl
theorem onto7 (a : Option Addr) (n c : Nat) : ontoP [(5, 3)] [xm 3 a n c 4] [(0, 9)] = [(5, 7)] := rfl
theorem cl_ok (a : Option Addr) (n c : Nat) (b : Option Addr) (m d : Nat) : clB [xe 1 a n c 1 3, xe 3 b m d 2 4] = true := clB_good (by simp [xe, xm])
theorem ents2 {w : World} {a : Option Addr} {n c : Nat} {b : Option Addr} {m d : Nat} (h1 : Arg w a n c [(5, 1)]) (h2 : Arg w b m d [(5, 2)]) :
    EArg (w.alloc (.cells #[.int .i64 1, .int .i64 1, .int .i64 1, .slice a n c, .int .i64 0, .int .i64 0, .int .i64 0, .int .i64 3, .bool true, .int .i64 1, .int .i64 3, .int .i64 3, .slice b m d, .int .i64 0, .int .i64 0, .int .i64 0, .int .i64 4, .bool true] 54)) (some ⟨w.heap.size, 0, none⟩) 2 2 [xe 1 a n c 1 3, xe 3 b m d 2 4] := by
  have ba := (Below.refl w.heap.size w).alloc (Nat.le_refl _) (.cells #[.int .i64 1, .int .i64 1, .int .i64 1, .slice a n c, .int .i64 0, .int .i64 0, .int .i64 0, .int .i64 3, .bool true, .int .i64 1, .int .i64 3, .int .i64 3, .slice b m d, .int .i64 0, .int .i64 0, .int .i64 0, .int .i64 4, .bool true] 54)
  refine ⟨rarg_made encE_len w _ [xe 1 a n c 1 3, xe 3 b m d 2 4] (by simp) _ rfl, fun e he => ?_⟩
  rcases List.mem_cons.1 he with rfl | he
  · exact ⟨⟨h1.below ba, rfl, rfl⟩, rfl⟩
  · obtain rfl : e = xe 3 b m d 2 4 := by simpa using he
    exact ⟨⟨h2.below ba, rfl, rfl⟩, rfl⟩
theorem muts1 {w : World} {a : Option Addr} {n c : Nat} (h1 : Arg w a n c [(5, 4)]) :
    MArg (w.alloc (.cells #[.int .i64 1, .int .i64 3, .int .i64 3, .slice a n c, .int .i64 0, .int .i64 0, .int .i64 0] 42)) (some ⟨w.heap.size, 0, none⟩) 1 1 [xm 3 a n c 4] := by
  have ba := (Below.refl w.heap.size w).alloc (Nat.le_refl _) (.cells #[.int .i64 1, .int .i64 3, .int .i64 3, .slice a n c, .int .i64 0, .int .i64 0, .int .i64 0] 42)
  refine ⟨rarg_made encM_len w _ [xm 3 a n c 4] (by simp) _ rfl, fun e he => ?_⟩
  obtain rfl : e = xm 3 a n c 4 := by simpa using he
  exact ⟨h1.below ba, rfl, rfl⟩
set_option maxRecDepth 100000 in
set_option maxHeartbeats 4000000 in
theorem awake15_any (w : World) : Calls Try.prog 9 #[] w (TruePost w) := by
  go_enter Try.func9, Try.ntmps9
  go_wp2_with (first
    | (go_at_call 26; (with_reducible refine (jone_any 1 5 1 _).mono ?_); rintro e w1 ⟨a1, n1, c1, rfl, h1, b1⟩; replace h1 := Lib.hid h1)
    | (go_at_call 26; (with_reducible refine (jone_any 3 5 2 _).mono ?_); rintro e w2 ⟨a2, n2, c2, rfl, h2, b2⟩; have b02 := below_next b1 b2; have hE := Lib.hid ((ents2 (h1.out.below b2) h2).below ((Below.refl _ _).alloc (Nat.le_refl _) (.cells #[.int .i64 0, .int .i64 9] 40))); have hO := Lib.hid (arg_made (w2.alloc (.cells #[.int .i64 1, .int .i64 1, .int .i64 1, .slice a1 n1 c1, .int .i64 0, .int .i64 0, .int .i64 0, .int .i64 3, .bool true, .int .i64 1, .int .i64 3, .int .i64 3, .slice a2 n2 c2, .int .i64 0, .int .i64 0, .int .i64 0, .int .i64 4, .bool true] 54)) 40 0 9); have b03 := (b02.alloc b02.size (.cells #[.int .i64 1, .int .i64 1, .int .i64 1, .slice a1 n1 c1, .int .i64 0, .int .i64 0, .int .i64 0, .int .i64 3, .bool true, .int .i64 1, .int .i64 3, .int .i64 3, .slice a2 n2 c2, .int .i64 0, .int .i64 0, .int .i64 0, .int .i64 4, .bool true] 54)).alloc (Nat.le_trans b02.size (by simp)) (.cells #[.int .i64 0, .int .i64 9] 40); simp only [World.size_alloc] at hO)
    | (go_at_call 12; (with_reducible refine (jfold_any _ _ _ [xe 1 a1 n1 c1 1 3, xe 3 a2 n2 c2 2 4] _ _ _ [(0, 9)] 3 _ hE.out hO.out (by simp)).mono ?_); rw [fold3]; rintro e w4 ⟨a4, n4, c4, rfl, h4, b4⟩; replace h4 := Lib.hid h4; have b04 := below_next b03 b4)
    | (go_at_call 12; (with_reducible refine (jfold_any _ _ _ [xe 1 a1 n1 c1 1 3, xe 3 a2 n2 c2 2 4] _ _ _ [(0, 9)] 9 _ (hE.out.below b4) (hO.out.below b4) (by simp)).mono ?_); rw [fold9]; rintro e w5 ⟨a5, n5, c5, rfl, h5, b5⟩; replace h5 := Lib.hid h5; have b05 := below_next b04 b5; have b45 := below_next b4 b5)
    | (go_at_call 26; (with_reducible refine (jone_any 3 5 4 _).mono ?_); rintro e w6 ⟨a6, n6, c6, rfl, h6, b6⟩; have b06 := below_next b05 b6; have b46 := below_next b45 b6; have hM := Lib.hid (muts1 h6); have ba := (Below.refl w6.heap.size w6).alloc (Nat.le_refl _) (.cells #[.int .i64 1, .int .i64 3, .int .i64 3, .slice a6 n6 c6, .int .i64 0, .int .i64 0, .int .i64 0] 42); have b07 := below_next b06 ba; have b47 := below_next b46 ba; have h57 := Lib.hid (h5.out.below (below_next b6 ba)))
    | (go_at_call 17; (with_reducible refine (jonto_any _ _ _ [(5, 3)] _ _ _ [xm 3 a6 n6 c6 4] _ _ _ [(0, 9)] _ h57.out hM.out (hO.out.below b47)).mono ?_); rw [onto7]; rintro e w8 ⟨a8, n8, c8, rfl, h8, b8⟩; have b08 := below_next b07 b8; have b48 := below_next b47 b8; obtain ⟨rfl, x8, y8, rfl, _, _, z8⟩ := h8.oneJ; obtain ⟨rfl, x5, y5, rfl, _, _, z5⟩ := (h57.out.below b8).oneJ; obtain ⟨rfl, x4, y4, rfl, _, _, z4⟩ := (h4.out.below (below_next b5 (below_next b6 (below_next ba b8)))).oneJ; clear h8)
    | (go_at_call 19; (with_reducible refine (jclients_any _ _ _ [xe 1 a1 n1 c1 1 3, xe 3 a2 n2 c2 2 4] _ (hE.out.below b48) (by simp)).mono ?_); rw [cl_ok]; rintro e w9 ⟨rfl, b9⟩))
  go_ret
  exact ⟨rfl, below_next b08 b9⟩
/-- Entries of no more than 60, of no more than 20 pairs each. -/
def fewE (l : List Ev) : Bool := decide (l.length ≤ 61) && l.all fun e => decide (e.m.n ≤ 20)
theorem fewE_take {l : List Ev} {j : Nat} (hj : j < l.length) (h : l[j]!.m.n > 20) : fewE l = false := by
  unfold fewE
  rw [show (l.all fun e => decide (e.m.n ≤ 20)) = false from List.all_eq_false.2 ⟨_, mem_get! hj, by rw [decide_eq_false (by omega)]; exact Bool.false_ne_true⟩, Bool.and_false]
set_option maxRecDepth 100000 in
set_option maxHeartbeats 2000000 in
theorem few15_any (a : Option Addr) (n cp : Nat) (l : List Ev) (w : World) (hL : EArg w a n cp l) :
    Calls Try.prog 8 #[.slice a n cp] w (Gives w (.bool (fewE l))) := by
  have HL := Lib.hid hL
  obtain rfl : n = l.length := hL.row.1
  have hz : (l.length : Int) ≤ 9223372036854775807 := hL.row.2.1
  clear hL
  go_enter Try.func8, Try.ntmps8
  go_wp2_with fail
  go_loopw [2, 3] (fun v2 i wr => ∃ (j : Nat), i = .int .i64 (j : Int) ∧ j ≤ l.length ∧ j ≤ 61 ∧ v2 = .bool false ∧ Hid (((l.take j).all fun e => decide (e.m.n ≤ 20)) = true) ∧ Below w.heap.size w wr) (fun _ i _ => l.length - (intOf i).toNat)
  case atStart => exact ⟨0, rfl, Nat.zero_le _, Nat.zero_le _, rfl, Lib.hid rfl, Below.refl _ _⟩
  case round =>
    obtain ⟨j, rfl, hj, hj6, rfl, HA, hbl⟩ := hrel
    by_cases hlt : j < l.length
    · have hjz : (j : Int) < (l.length : Int) := by omega
      by_cases h6 : j ≤ 60
      · have h6z : ¬ (60 : Int) < (j : Int) := by omega
        have HT := Lib.hid (show ((l.take (j + 1)).all fun e => decide (e.m.n ≤ 20)) = decide (l[j]!.m.n ≤ 20) by rw [take_moreG hlt, List.all_append, HA.out]; simp)
        have HB := Lib.hid (fun h => fewE_take hlt h)
        have ok := (HL.out.ok _ (mem_get! hlt)).m.ps
        obtain ⟨b, off, e, hb, q0, q1, q2, q3, q4, q5, q6, q7, q8⟩ := HL.out.cells hbl hlt
        subst e
        generalize l[j]! = ev at q0 q1 q2 q3 q4 q5 q6 q7 q8 ok HT HB
        obtain ⟨⟨c, s, k, am, nm, cm, ps, lo, hi2, old⟩, t, d⟩ := ev
        dsimp only at q0 q1 q2 q3 q4 q5 q6 q7 q8 ok HT HB
        have hnm : (nm : Int) ≤ 9223372036854775807 := by have := ok.1; have := ok.2.1; omega
        clear ok
        by_cases h20 : nm ≤ 20
        · have h20z : ¬ (20 : Int) < (nm : Int) := by omega
          have HN := Lib.hid (show ((l.take (j + 1)).all fun e => decide (e.m.n ≤ 20)) = true by rw [HT.out]; exact decide_eq_true h20)
          go_wp2_with fail
          go_roundw
          case rel => exact ⟨j + 1, by go_num, by omega, by omega, rfl, HN, hbl⟩
          case measure => simp [intOf]; omega
        · have h20z : (20 : Int) < (nm : Int) := by omega
          have HR := Lib.hid (HB.out (by omega))
          go_wp2_with fail
          go_ret
          exact ⟨ret_bool HR.out.symm, hbl⟩
      · have h6z : (60 : Int) < (j : Int) := by omega
        have HR := Lib.hid (show fewE l = false by unfold fewE; rw [decide_eq_false (by omega)]; rfl)
        go_wp2_with fail
        go_ret
        exact ⟨ret_bool HR.out.symm, hbl⟩
    · have hjz : ¬ (j : Int) < (l.length : Int) := by omega
      have HR := Lib.hid (show fewE l = true by have h := HA.out; rw [List.take_of_length_le (by omega)] at h; unfold fewE; rw [h, decide_eq_true (by omega)]; rfl)
      go_wp2_with fail
      go_ret
      exact ⟨ret_bool HR.out.symm, hbl⟩
end Go.Proofs.Ythofoidafdbgcaa
