/-
  BAGS: looking up a mail, who is apart, laying a mail in.
-/
import Derived.Test.YtbonokhldonciaaBgB
import Derived.Deep.RegionHeld3
namespace Go.Proofs.Ytbonokhldonciaa
open Go.RowKit Go.Maps Go.ChangeMaps

theorem toDr {B : Nat} {a w : World} (h : Below B a w) : Below B a w.drew := h.drew
abbrev valM (m : Ml) : Value := .agg #[.int .i64 m.id, .int .i64 m.fr, .int .i64 m.to, .string m.tx]
abbrev boxM (m : Ml) : Obj := .cells #[.int .i64 m.id, .int .i64 m.fr, .int .i64 m.to, .string m.tx] 42
theorem belowM (w : World) (m : Ml) : Below w.heap.size w (w.alloc (boxM m)) := (Below.refl _ _).alloc (Nat.le_refl _) _
theorem cellsM {W : World} {b : Nat} {i f t x : Value} {ty : TypeId} (h : W.heap[b]? = some (.cells #[i, f, t, x] ty)) :
    W.cell? ⟨b, 0, none⟩ = some i ∧ W.cell? ⟨b, 1, none⟩ = some f ∧ W.cell? ⟨b, 2, none⟩ = some t ∧ W.cell? ⟨b, 3, none⟩ = some x :=
  ⟨cell_of_row _ _ 0 _ _ _ h, cell_of_row _ _ 1 _ _ _ h, cell_of_row _ _ 2 _ _ _ h, cell_of_row _ _ 3 _ _ _ h⟩
def getM (s : Bs) (k : Int) : Ml × Int := match s.G k with | some m => (m, 0) | none => (m0, 4)
theorem get_nil (k : Int) (w : World) : Calls Try.prog 31 #[.pointer none, .int .i64 k] w (RPost (.tuple #[valM m0, .int .i64 1]) w) := by
  have B := belowM w m0
  simp only [m0, boxM] at B
  go_enter Try.func31, Try.ntmps31
  go_wp2
  exact bodyPost_ret (v := .tuple #[.agg #[.int .i64 0, .int .i64 0, .int .i64 0, .string ⟨#[]⟩], .int .i64 1]) (by simp [results, Try.results31, go_sem]) rfl ⟨rfl, B⟩
set_option maxRecDepth 100000 in
theorem get_any {w : World} {p mb ab : Nat} {s : Bs} (h : Bg w p mb ab s) {k : Int} (hk : (Lit.int .i64 k).wf = true) :
    Calls Try.prog 31 #[.pointer (some ⟨p, 0, none⟩), .int .i64 k] w (RPost (.tuple #[valM (getM s k).1, .int .i64 (getM s k).2]) w) := by
  have h1 := h.same (belowM w m0)
  simp only [m0, boxM] at h1
  obtain ⟨c0, c1, c2⟩ := h1.cells
  unfold getM
  cases e : s.G k with
  | none =>
    dsimp only
    have hl := h1.hm.look0 hk e
    have B2 := (belowM w m0).trans ((belowM (w.alloc (boxM m0)) m0).mono (by simp))
    simp only [m0, boxM] at B2
    go_enter Try.func31, Try.ntmps31
    go_wp2
    exact bodyPost_ret (v := .tuple #[.agg #[.int .i64 0, .int .i64 0, .int .i64 0, .string ⟨#[]⟩], .int .i64 4]) (by simp [results, Try.results31, go_sem]) rfl ⟨rfl, B2⟩
  | some m =>
    dsimp only
    have hl := h1.hm.look hk e
    have B2 := (belowM w m).trans ((belowM (w.alloc (boxM m)) m).mono (by simp))
    simp only [boxM] at B2
    go_enter Try.func31, Try.ntmps31
    go_wp2
    exact bodyPost_ret (v := .tuple #[.agg #[.int .i64 m.id, .int .i64 m.fr, .int .i64 m.to, .string m.tx], .int .i64 0]) (by simp [results, Try.results31, go_sem]) rfl ⟨rfl, B2⟩
set_option maxRecDepth 100000 in
set_option maxHeartbeats 4000000 in
theorem cut_any {w : World} {p mb ab : Nat} {s : Bs} (h : Bg w p mb ab s) (m : Ml) (hf : (Lit.int .i64 m.fr).wf = true) (ht : (Lit.int .i64 m.to).wf = true) :
    Calls Try.prog 32 #[.pointer (some ⟨p, 0, none⟩), .agg #[.int .i64 m.id, .int .i64 m.fr, .int .i64 m.to, .string m.tx]] w (RPost (.bool (cutB s m.fr m.to)) w) := by
  have h1 := h.same (belowM w m)
  have BM := belowM w m
  have hx := heap_alloc_new w (boxM m)
  obtain ⟨W1, hW1⟩ : ∃ W1, w.alloc (boxM m) = W1 := ⟨_, rfl⟩
  rw [hW1] at h1 BM hx
  simp only [boxM] at hW1 hx
  obtain ⟨z0, z1, z2, z3⟩ := cellsM hx
  obtain ⟨c0, c1, c2⟩ := h1.cells
  have hlt : w.heap.size < W1.heap.size := by rw [← hW1]; simp
  obtain ⟨wf1, wf2⟩ := wf_min hf ht
  unfold cutB
  go_enter Try.func32, Try.ntmps32
  go_wp2
  replace hW1 := Lib.hid hW1
  have KS : Hid (∀ W', Below W1.heap.size W1 W' → W'.cell? ⟨w.heap.size, 1, none⟩ = some (.int .i64 m.fr) ∧ W'.cell? ⟨w.heap.size, 2, none⟩ = some (.int .i64 m.to) ∧ W'.cell? ⟨p, 2, none⟩ = some (.map (some ab))) := Lib.hid fun W' hB => by
    obtain ⟨_, y1, y2, _⟩ := cellsM ((hB.block _ hlt).trans hx)
    exact ⟨y1, y2, (h1.same hB).cells.2.2⟩
  replace BM := Lib.hid BM
  have HB : Hid (Below W1.heap.size W1 W1) := Lib.hid (Below.refl _ _)
  have HL : Hid (∀ W', Below W1.heap.size W1 W' → (Instr.lookup 59 (.map (some ab)) (.agg #[.int .i64 (min m.fr m.to), .int .i64 (max m.fr m.to)]) true).run Try.prog W' = .ok (.tuple #[.agg #[], .bool (s.L (min m.fr m.to) (max m.fr m.to))]) W') := Lib.hid fun W' hB => (h1.same hB).ha.look wf1 wf2
  clear z0 z1 z2 z3 c0 c1 c2 h1 hx h hlt
  go_region_held3 (fun W => W.cell? ⟨w.heap.size, 1, none⟩ = some (.int .i64 m.fr) ∧ W.cell? ⟨w.heap.size, 2, none⟩ = some (.int .i64 m.to) ∧ W.cell? ⟨p, 2, none⟩ = some (.map (some ab))) (exact KS.out _ (by repeat (first | with_reducible exact HB.out | with_reducible refine toDr ?_ | with_reducible refine Below.alloc ?_ (by first | exact Nat.le_refl _ | exact HB.out.size | simp) _))) ((go_at_call 35; (with_reducible refine (between_any _ _ _).mono ?_); rintro e w2 ⟨rfl, b2⟩; (first | (have bb : Below W1.heap.size W1 w2 := (show Below W1.heap.size W1 W1.drew from toDr HB.out).trans (b2.mono (by first | exact Nat.le_refl _ | simp))) | (have bb : Below W1.heap.size W1 w2 := (show Below W1.heap.size W1 (W1.drew.alloc _) from Below.alloc (toDr HB.out) (by first | exact Nat.le_refl _ | simp) _).trans (b2.mono (by first | exact Nat.le_refl _ | simp)))); have hl := HL.out _ bb; have hlO := fun o => HL.out _ (bb.alloc bb.size o); clear HB; have HB := Lib.hid bb; clear bb))
  all_goals
    go_wp2
    go_ret
    exact ⟨rfl, BM.out.trans (Below.mono (by repeat (first | with_reducible exact HB.out | with_reducible refine toDr ?_ | with_reducible refine Below.alloc ?_ (by first | exact Nat.le_refl _ | exact HB.out.size | simp) _)) BM.out.size)⟩
end Go.Proofs.Ytbonokhldonciaa
