/-
  SCAN: contracts of Groups' functions, and of gather.
-/
import Derived.Test.YtbpekloodjimoaaScB
namespace Go.Proofs.Ytbpekloodjimoaa
open Go.RowKit Go.Shelf

/-- Keys that a table can have. -/
def keysB (l : List Sp) : Prop := ∀ p ∈ l, 0 ≤ p.1 ∧ p.1 < 4096
theorem keysB.take {l : List Sp} (h : keysB l) (k : Nat) : keysB (l.take k) := fun p hp => h p (List.mem_of_mem_take hp)
theorem keysB.drop {l : List Sp} (h : keysB l) (k : Nat) : keysB (l.drop k) := fun p hp => h p (List.mem_of_mem_drop hp)
theorem small.drop {l : List Sp} (h : small l) (k : Nat) : small (l.drop k) := ⟨by rw [List.length_drop]; have := h.1; omega, fun p hp => h.2 p (List.mem_of_mem_drop hp)⟩
theorem tdiv_bd {x wd : Int} (h0 : 0 ≤ x) (h1 : x < 4096) (hw : 1 ≤ wd) : 0 ≤ x.tdiv wd ∧ x.tdiv wd ≤ 4096 := by
  refine ⟨Int.tdiv_nonneg (by omega) (by omega), ?_⟩
  have := Int.tdiv_le_self wd (by omega : (0 : Int) ≤ x)
  omega
theorem nth1 (wd k v : Int) (h0 : 0 ≤ k) (h1 : k < 4096) (hw : 1 ≤ wd) (g : Nat) (W : World) (hg : g < W.heap.size) (hc : W.cell? ⟨g, 0, none⟩ = some (.int .i64 wd)) :
    Calls Try.prog 33 #[.agg #[.int .i64 k, .int .i64 v], .pointer (some ⟨g, 0, none⟩)] W (Gives W (.int .i64 (k.tdiv wd))) := by
  obtain ⟨q0, q1⟩ := tdiv_bd h0 h1 hw
  obtain ⟨q, hq⟩ : ∃ q, k.tdiv wd = q := ⟨_, rfl⟩
  rw [hq] at q0 q1 ⊢
  have hwq : IntKind.i64.wrap q = q := IntWalk.i64_in _ (by omega)
  have hnz : (wd == 0) = false := by simp; omega
  have hne : ¬ wd = 0 := by omega
  have b1 : Below W.heap.size W (W.alloc (.cells #[.int .i64 k, .int .i64 v] 43)) := (Below.refl _ _).alloc (Nat.le_refl _) _
  have c1 : (W.alloc (.cells #[.int .i64 k, .int .i64 v] 43)).cell? ⟨g, 0, none⟩ = some (.int .i64 wd) := (b1.cell (p := ⟨g, 0, none⟩) hg).trans hc
  go_enter Try.func33, Try.ntmps33
  go_wp2
  go_ret
  first
    | exact ⟨rfl, b1⟩
    | exact ⟨by rw [hq], b1⟩

theorem lt_grown {W3 W : World} {g : Nat} (h : g < W3.heap.size) (hb : Below W3.heap.size W3 W) : g < W.heap.size := Nat.lt_of_lt_of_le h hb.size
theorem cellAt {W : World} {b i : Nat} {x : Array Value} {t : TypeId} {v : Value} (h : W.heap[b]? = some (.cells x t)) (hi : x[i]? = some v) : W.cell? ⟨b, i, none⟩ = some v := (cell_of_row _ _ i _ _ _ h).trans hi
set_option maxRecDepth 100000 in
set_option maxHeartbeats 2000000 in
theorem build1 (wd : Int) (hw : 1 ≤ wd) (hw2 : wd ≤ 4096) (g5 g8 : Nat) (a : Option Addr) (n c : Nat) (l : List Sp) (w : World) (h : Arg w a n c l) (hl : l ≠ []) (hs : small l) (hk : keysB l)
    (h5 : g5 < w.heap.size) (c5 : w.cell? ⟨g5, 0, none⟩ = some (.int .i64 wd)) (h8 : g8 < w.heap.size) (c8 : w.cell? ⟨g8, 0, none⟩ = some (.func (.func 33) #[] #[.pointer (some ⟨g5, 0, none⟩)])) :
    Calls Try.prog 35 #[.slice a n c, .pointer (some ⟨g8, 0, none⟩), .pointer (some ⟨g5, 0, none⟩)] w (GpPost (grpOf ((l.getD 0 (0, 0)).1.tdiv wd * wd) l) w) := by
  obtain ⟨W1, hW1⟩ : ∃ W1, w.alloc (.cells #[.int .i64 0, .int .i64 0, .int .i64 0, .int .i64 0, .int .i64 0] 57) = W1 := ⟨_, rfl⟩
  have bw : Below w.heap.size w W1 := by rw [← hW1]; exact (Below.refl _ _).alloc (Nat.le_refl _) _
  have g1 : w.heap.size < W1.heap.size := by rw [← hW1]; simp
  have hr1 : W1.heap[w.heap.size]? = some (.cells #[.int .i64 0, .int .i64 0, .int .i64 0, .int .i64 0, .int .i64 0] 57) := by rw [← hW1]; exact heap_alloc_new _ _
  have HX := Lib.hid (fun W (hb : Below W1.heap.size W1 W) => (hb.block _ g1).trans hr1)
  have hpos : 0 < l.length := List.length_pos_iff.2 hl
  have hn := h.1
  have h0n : 0 < n := by omega
  have h0nz : (0 : Int) < (n : Int) := by omega
  have hnz : (n : Int) ≤ 4096 := by have := hs.1; omega
  obtain ⟨b, off, rfl⟩ := h.form h0n
  have hA1 := h.below bw
  obtain ⟨b', off', e', hb', d0, d1⟩ := hA1.2.2.2.2 0 hpos
  cases e'
  have hkb := hk _ (getD_memS hpos)
  have TO := Lib.hid (show Calls Try.prog 36 #[.slice (some ⟨b, off, none⟩) n c] W1 (GpPost (grpOf 0 l) W1) from by
    have := total_any _ n c l W1 hA1 hs
    rwa [show totP l = grpOf 0 l from if_neg hl] at this)
  have HG : grpOf ((l.getD 0 (0, 0)).1.tdiv wd * wd) l = ((l.getD 0 (0, 0)).1.tdiv wd * wd, (grpOf 0 l).2) := rfl
  obtain ⟨R, hR⟩ : ∃ R, grpOf ((l.getD 0 (0, 0)).1.tdiv wd * wd) l = R := ⟨_, rfl⟩
  rw [hR] at HG ⊢
  generalize grpOf 0 l = G at TO HG
  generalize l.getD 0 (0, 0) = p at d0 d1 hkb HG
  obtain ⟨k, v⟩ := p
  rw [Nat.zero_mul, Nat.add_zero] at d0 d1
  dsimp only at d0 d1 hkb HG
  obtain ⟨q0, q1⟩ := tdiv_bd hkb.1 hkb.2 hw
  have NT := Lib.hid (fun W hg hc => nth1 wd k v hkb.1 hkb.2 hw g5 W hg hc)
  obtain ⟨q, hq⟩ : ∃ q, k.tdiv wd = q := ⟨_, rfl⟩
  rw [hq] at q0 q1 NT HG
  obtain ⟨x, hx⟩ : ∃ x, q * wd = x := ⟨_, rfl⟩
  have hx0 : 0 ≤ x := by rw [← hx]; exact Int.mul_nonneg q0 (by omega)
  have hx1 : x ≤ 4096 * 4096 := by rw [← hx]; exact Int.mul_le_mul q1 hw2 (by omega) (by omega)
  rw [hx] at HG
  have hwx : IntKind.i64.wrap x = x := IntWalk.i64_in _ (by omega)
  obtain ⟨G0, G1, G2, G3, G4⟩ := G
  have HGR := Lib.hid (show R = (x, G1, G2, G3, G4) from HG)
  have h51 : g5 < W1.heap.size := by omega
  have h81 : g8 < W1.heap.size := by omega
  have C5 := Lib.hid (fun W (hb : Below W1.heap.size W1 W) => (hb.cell (p := ⟨g5, 0, none⟩) h51).trans ((bw.cell (p := ⟨g5, 0, none⟩) h5).trans c5))
  have C8 := Lib.hid (fun W (hb : Below W1.heap.size W1 W) => (hb.cell (p := ⟨g8, 0, none⟩) h81).trans ((bw.cell (p := ⟨g8, 0, none⟩) h8).trans c8))
  have CD := Lib.hid (fun W (hb : Below W1.heap.size W1 W) => And.intro ((hb.cell (p := ⟨b, off, none⟩) hb').trans d0) ((hb.cell (p := ⟨b, off + 1, none⟩) hb').trans d1))
  clear h hl hs hk hR HG hn hpos hA1 d0 d1 hkb c5 c8 hr1 hq
  go_enter Try.func35, Try.ntmps35
  go_wp2_with (go_at_call 36; (with_reducible refine TO.out.mono ?_); rintro e w2 ⟨rfl, hb2⟩; dsimp only; obtain ⟨W3, hW3⟩ : ∃ W3, w2.alloc (.cells #[.int .i64 G0, .int .i64 G1, .int .i64 G2, .int .i64 G3, .int .i64 G4] 57) = W3 := ⟨_, rfl⟩; have b3 : Below w2.heap.size w2 W3 := (by rw [← hW3]; exact (Below.refl _ _).alloc (Nat.le_refl _) _); have gW3 : w2.heap.size < W3.heap.size := (by rw [← hW3]; simp); have hr3 : W3.heap[w2.heap.size]? = some (.cells #[.int .i64 G0, .int .i64 G1, .int .i64 G2, .int .i64 G3, .int .i64 G4] 57) := (by rw [← hW3]; exact heap_alloc_new _ _))
  have hb3 := below_next hb2 b3
  have h2s := hb2.size
  have K5 := C5.out _ hb3
  have K8 := C8.out _ hb3
  have KD := CD.out _ hb3
  replace hW1 := Lib.hid hW1
  replace hW3 := Lib.hid hW3
  have HBD : Below W3.heap.size W3 W3 := Below.refl _ _
  have hle2 : w2.heap.size ≤ W3.heap.size := by omega
  have h52 : g5 < w2.heap.size := by omega
  have h82 : g8 < w2.heap.size := by omega
  have hb2' : b < w2.heap.size := by omega
  have KK := Lib.hid (fun W (hb : Below w2.heap.size W3 W) => (show W.cell? ⟨g5, 0, none⟩ = some (.int .i64 wd) ∧ W.cell? ⟨g8, 0, none⟩ = some (.func (.func 33) #[] #[.pointer (some ⟨g5, 0, none⟩)]) ∧ W.cell? ⟨b, off, none⟩ = some (.int .i64 k) ∧ W.cell? ⟨b, off + 1, none⟩ = some (.int .i64 v) from ⟨(hb.cell (p := ⟨g5, 0, none⟩) h52).trans K5, (hb.cell (p := ⟨g8, 0, none⟩) h82).trans K8, (hb.cell (p := ⟨b, off, none⟩) hb2').trans KD.1, (hb.cell (p := ⟨b, off + 1, none⟩) hb2').trans KD.2⟩))
  have h53 : g5 < W3.heap.size := by have := hb3.size; omega
  go_region_held3 (fun W => W.cell? ⟨g5, 0, none⟩ = some (.int .i64 wd) ∧ W.cell? ⟨g8, 0, none⟩ = some (.func (.func 33) #[] #[.pointer (some ⟨g5, 0, none⟩)]) ∧ W.cell? ⟨b, off, none⟩ = some (.int .i64 k) ∧ W.cell? ⟨b, off + 1, none⟩ = some (.int .i64 v)) (exact KK.out _ (by repeat (first | with_reducible exact HBD.mono hle2 | refine toDS ?_ | refine Below.alloc ?_ (by first | omega | (simp; omega)) _ | refine Below.setCell ?_ (by first | with_reducible exact Nat.le_refl _ | (dsimp only; omega) | (simp; omega)) _))) ((first | (go_at_call 33; (with_reducible refine (NT.out _ (lt_grown h53 (by repeat (first | with_reducible exact HBD | refine toDS ?_ | refine Below.alloc ?_ (by first | omega | (simp; omega)) _ | refine Below.setCell ?_ (by first | with_reducible exact Nat.le_refl _ | (dsimp only; omega) | (simp; omega)) _))) (KK.out _ (by repeat (first | with_reducible exact HBD.mono hle2 | refine toDS ?_ | refine Below.alloc ?_ (by first | omega | (simp; omega)) _ | refine Below.setCell ?_ (by first | with_reducible exact Nat.le_refl _ | (dsimp only; omega) | (simp; omega)) _))).1).mono ?_); rintro e wz ⟨rfl, hbz⟩; have HBD := below_next (w := W3) (by repeat (first | with_reducible exact HBD | refine toDS ?_ | refine Below.alloc ?_ (by first | omega | (simp; omega)) _ | refine Below.setCell ?_ (by first | with_reducible exact Nat.le_refl _ | (dsimp only; omega) | (simp; omega)) _)) hbz; have hrz := (HBD.block _ gW3).trans hr3; have hxz := HX.out _ (below_next hb3 HBD); have hbz3 := below_next hb3 HBD; obtain ⟨y0, y1, y2, y3, y4⟩ := cell5 hrz; obtain ⟨f0, f1, f2, f3, f4⟩ := froz5 hrz; obtain ⟨u0, u1, u2, u3, u4⟩ := cell5 hxz; obtain ⟨e0, e1, e2, e3, e4⟩ := froz5 hxz; have hgne : ¬ w.heap.size = w2.heap.size := (by omega); have hgne2 : ¬ w2.heap.size = w.heap.size := (by omega)) | fail))
  all_goals
    go_wp2_with fail
    exact bodyPost_ret (v := .agg #[.int .i64 x, .int .i64 G1, .int .i64 G2, .int .i64 G3, .int .i64 G4]) (by simp [results, Try.results35, go_sem, u0, u1, u2, u3, u4]) rfl ⟨gp_ret HGR.out, (by repeat (first | with_reducible exact below_next bw hbz3 | refine Below.setCell ?_ (by first | with_reducible exact Nat.le_refl _ | (dsimp only; omega)) _))⟩
end Go.Proofs.Ytbpekloodjimoaa
