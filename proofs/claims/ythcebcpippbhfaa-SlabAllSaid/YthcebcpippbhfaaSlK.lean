/-
  SLABS: SlabLast.
-/
import Derived.Test.YthcebcpippbhfaaSlJ
import Derived.StillTailTactics
import Derived.Deep.RegionHeld3
import Derived.Deep.RegionWith
import Derived.BigQuiet
namespace Go.Proofs.Ythcebcpippbhfaa
open Go.RowKit Go.Maps Go.ChangeMaps Go.ChangeShapes Go.WideShapes Go.Deep

theorem failE {W : World} {p db mb : Nat} {s s' : St} (h : Sl W p db mb s) {a : Option Addr} {n c : Nat} {zs : List Int} (hz : KRow W p db mb a n c zs) {torn at_ : Int} (ht : (Lit.int .i64 torn).wf = true) (e : failS s zs torn at_ = s') :
    Calls Try.prog 20 #[.pointer (some ⟨p, 0, none⟩), .agg #[.slice a n c, .int .i64 torn, .int .i64 at_]] W (SPost p db mb (.tuple #[]) s' W) := by
  obtain ⟨ka, kn, kc, h⟩ := h
  have := fail_any h hz torn at_ ht
  rwa [e] at this
/-- A slab to which want was written, and which was never flushed. -/
structure Lasts (s : St) (want : Nat → ByteArray) : Prop where
  down : s.down = false
  left : s.left = 0
  zs : s.zs = []
  len : s.bs.length = 8
  fit : Fits s.bs
  sure : ∀ k, (atB s.bs k).1 = ⟨#[]⟩
  new : ∀ k, k < 8 → seeB (atB s.bs k) = want k
theorem Lasts.start : Lasts (newS 8) e8 := by
  refine ⟨rfl, rfl, rfl, by simp [newS], Fits.new 8, fun k => ?_, fun k hk => ?_⟩
  · show (atB (List.replicate 8 bk0) k).1 = _
    rw [new_at]; rfl
  · show seeB (atB (List.replicate 8 bk0) k) = _
    rw [new_at]; rfl
theorem Lasts.step {s : St} {want : Nat → ByteArray} (h : Lasts s want) {i : Nat} (hi : i < 8) {t : ByteArray} (ht : t.size ≤ 256) :
    Lasts { s with bs := giveP s.bs i t } (fun k => if k = i then t else want k) := by
  have hi' : i < s.bs.length := by rw [h.len]; exact hi
  refine ⟨h.down, h.left, h.zs, by rw [giveP_length]; exact h.len, h.fit.give i ht, fun k => ?_, fun k hk => ?_⟩
  · show (atB (giveP s.bs i t) k).1 = _
    rw [give_at hi']
    split
    · exact h.sure i
    · exact h.sure k
  · show seeB (atB (giveP s.bs i t) k) = _
    rw [give_at hi']
    by_cases e : k = i
    · rw [if_pos e, if_pos e]; rfl
    · rw [if_neg e, if_neg e]; exact h.new k hk
theorem Lasts.read {s : St} {want : Nat → ByteArray} (h : Lasts s want) : r8 (all8 s) = r8 want :=
  r8_congr fun k hk => by rw [all8_at h.down (by rw [h.len]; decide) hk, h.new k hk]
theorem woken_read {s : St} (hf : Fits s.bs) (hd : s.down = false) (hl : 8 ≤ s.bs.length) (zs : List Int) (torn at_ : Int) {k : Nat} (hk : k < 8) :
    all8 (wakeS (failS s zs torn at_)) k = leftB (atB s.bs k) (zs.contains (k : Int)) (decide ((k : Int) = torn)) at_ := by
  have e : (wakeS (failS s zs torn at_)).bs = failP s.bs zs torn at_ := by unfold failS; rw [if_neg (by rw [hd]; decide)]; rfl
  rw [all8_at rfl (by rw [e, failP_length]; exact hl) hk, e, fail_at hf]
  rfl
def l8 : List Int := [0, 1, 2, 3, 4, 5, 6, 7]
theorem l8_has {k : Nat} (hk : k < 8) : l8.contains (k : Int) = true := by
  match k, hk with
  | 0, _ => rfl
  | 1, _ => rfl
  | 2, _ => rfl
  | 3, _ => rfl
  | 4, _ => rfl
  | 5, _ => rfl
  | 6, _ => rfl
  | 7, _ => rfl
theorem Lasts.kept {s : St} {want : Nat → ByteArray} (h : Lasts s want) : r8 (all8 (wakeS (failS s l8 (-1) 0))) = r8 want :=
  r8_congr fun k hk => by
    rw [woken_read h.fit h.down (by rw [h.len]; decide) l8 _ _ hk, l8_has hk, ← h.new k hk]
    unfold leftB seeB
    cases (atB s.bs k).2 <;> rfl
theorem Lasts.lost {s : St} {want : Nat → ByteArray} (h : Lasts s want) : r8 (all8 (wakeS (failS s [] (-1) 0))) = r8 e8 :=
  r8_congr fun k hk => by
    rw [woken_read h.fit h.down (by rw [h.len]; decide) [] _ _ hk]
    have e : decide ((k : Int) = -1) = false := decide_eq_false (by omega)
    rw [e]
    unfold leftB
    rw [h.sure k]
    cases (atB s.bs k).2 <;> rfl
theorem Sl.setOther {w : World} {p db mb : Nat} {s : St} (h : Sl w p db mb s) (hz : s.zs = []) {g : Nat} (h1 : p ≠ g) (h2 : db ≠ g) (h3 : mb ≠ g) (i : Nat) (v : Value) : Sl (w.setCell ⟨g, i, none⟩ v) p db mb s := by
  obtain ⟨ka, kn, kc, h⟩ := h
  have o : ∀ k, k ≠ g → (w.setCell ⟨g, i, none⟩ v).heap[k]? = w.heap[k]? := fun k hk => Below.heap_setCell _ _ _ _ hk
  exact ⟨ka, kn, kc, h.move (o p h1) (o db h2) (o mb h3) ⟨h.keep.len, h.keep.cap, h.keep.val, fun j hj => by rw [hz] at hj; exact absurd hj (Nat.not_lt_zero _)⟩⟩
set_option maxRecDepth 100000 in
theorem eqArr8 (f : Nat → ByteArray) (w : World) : (Op.equalIn 10000 45 (.agg (r8 f)) (.agg (r8 f))).run Try.prog w = .ok true w := by
  have u9 := Try.underlying9
  have a9 := Try.isAgg9
  have z9 := Try.sizeOf9
  have hA := Try.underlying45
  rw [show (10000 : Nat) = 9999 + 1 from rfl]
  unfold Op.equalIn r8
  simp only [Sem.run_bind, run_underlying hA, Result.andThen_ok]
  go_simp
  rw [show List.range' 0 8 = [0, 1, 2, 3, 4, 5, 6, 7] from rfl]
  simp only [List.forIn_cons]
  go_simp
theorem neqArr8 (f : Nat → ByteArray) (w : World) : (binOp .neq 45 (.agg (r8 f)) (.agg (r8 f))).run Try.prog w = .ok (.bool false) w := by
  rw [run_neq_struct, eqArr8]; rfl
theorem eqlArr8 (f : Nat → ByteArray) (w : World) : (binOp .eql 45 (.agg (r8 f)) (.agg (r8 f))).run Try.prog w = .ok (.bool true) w := by
  rw [run_eql_struct, eqArr8]; rfl
/-- A region that draws, over any class of worlds. -/
theorem wp_region_clsV {ι : Type} (f : ι → World) {P : Program} {id : Nat} {Q : Exit → Act → World → Prop} {a : Act} {w : World} {l : List Oper} (hm : P.follows .mixedOrders = true) (hB : Region.lexB .any l.toArray = true) (n0 : ι) (h0 : f n0 = w.drew)
    (h : wpQuiet P l.toArray (fun w' => ∃ n, w' = f n) (fun a' => ∀ w', (∃ n, w' = f n) → Q .normal a' w') l a) : (Code.region id l.toArray true).wp P Q a w :=
  wp_region_quiet (C := fun w' => ∃ n, w' = f n) hm hB ⟨n0, h0.symm⟩ (by simpa using h)
/-- All worlds above a base, as a family. -/
theorem family (B : World) : ∃ (ι : Type) (f : ι → World), (∀ n, Below B.heap.size B (f n)) ∧ ∀ W, Below B.heap.size B W → ∃ n, f n = W :=
  ⟨{W // Below B.heap.size B W}, Subtype.val, fun n => n.2, fun W h => ⟨⟨W, h⟩, rfl⟩⟩
theorem below_nextS {w w1 w2 : World} (h : Below w.heap.size w w1) (h2 : Below w1.heap.size w1 w2) : Below w.heap.size w w2 := h.trans (h2.mono h.size)
theorem tmod_first (a : Int) (m : Nat) (hm : 0 < m) (h2 : m ≤ 100000) : ∃ f : Nat, f < m ∧ (wrap64 (a.tmod (m : Int) + (m : Int))).tmod (m : Int) = (f : Int) := by
  have h3 : -(m : Int) < a.tmod m := by have := Int.lt_tmod_of_pos a (b := (m : Int)) (by omega); exact this
  have h4 : a.tmod m < (m : Int) := Int.tmod_lt_of_pos a (by omega)
  have h5 : wrap64 (a.tmod (m : Int) + (m : Int)) = a.tmod (m : Int) + (m : Int) := by unfold wrap64; omega
  rw [h5, Int.tmod_eq_emod_of_nonneg (by omega)]
  have h6 := Int.emod_nonneg (a.tmod (m : Int) + (m : Int)) (b := (m : Int)) (by omega)
  have h7 := Int.emod_lt_of_pos (a.tmod (m : Int) + (m : Int)) (b := (m : Int)) (by omega)
  exact ⟨((a.tmod (m : Int) + (m : Int)) % (m : Int)).toNat, by omega, by omega⟩
theorem tmod_next {f : Nat} : ((f : Int) + 1).tmod 8 = (((f + 1) % 8 : Nat) : Int) := by
  rw [Int.tmod_eq_emod_of_nonneg (by omega)]
  omega
set_option maxRecDepth 100000 in
set_option maxHeartbeats 4000000 in
theorem slabLast_walk (start : Int) (a : Option Addr) (len cap : Nat) (ss : List ByteArray) (keep : Bool) (w : World) (_hst : (Lit.int .i64 start).wf = true) (hss : StrsArg w a len ss) :
    Calls Try.prog 9 #[.int .i64 start, .slice a len cap, .bool keep] w (TruePost w) := by
  obtain ⟨i0, hi0, hz0, hz1, hz2⟩ := info_parts Try.infoInt
  go_enter Try.func9, Try.ntmps9
  go_wp2_with (first
    | (go_at_call 10; refine (new_any 8 (by decide) (by decide) w).mono ?_; rintro e w1 ⟨p, db, mb, rfl, hs1, p1, p2, p3, b1⟩)
    | (go_at_call 12; refine (awake7_any w1).mono ?_; rintro e w2 ⟨rfl, b2⟩))
  obtain ⟨W3, hW3⟩ : ∃ W3, w2.alloc (.cells #[.string ⟨#[]⟩, .string ⟨#[]⟩, .string ⟨#[]⟩, .string ⟨#[]⟩, .string ⟨#[]⟩, .string ⟨#[]⟩, .string ⟨#[]⟩, .string ⟨#[]⟩] 45) = W3 := ⟨_, rfl⟩
  have b3 : Below w2.heap.size w2 W3 := by rw [← hW3]; exact (Below.refl _ _).alloc (Nat.le_refl _) _
  have g3 : W3.heap.size = w2.heap.size + 1 := by rw [← hW3]; simp
  have k3 : W3.heap[w2.heap.size]? = some (.cells (r8 e8) 45) := by rw [← hW3]; exact heap_alloc_new _ _
  have s3 := (hs1.same b2).same b3
  rw [hW3]
  replace hW3 := Lib.hid hW3
  replace g3 := Lib.hid g3
  go_loopw [9, 10] (fun v i wr => ∃ (j : Nat), i = .int .i64 (j : Int) ∧ j ≤ 8 ∧ OwnsI wr W3.heap.size v (l8.take j) ∧ Below W3.heap.size W3 wr)
    (fun _ i _ => 8 - (intOf i).toNat)
  case atStart => exact ⟨0, rfl, by decide, OwnsI.nil _ _, Below.refl _ _⟩
  case round =>
    obtain ⟨j, rfl, hj, hown, hb⟩ := hrel
    by_cases hlt : j < 8
    · have hltz : (j : Int) < 8 := by omega
      have hlen : (l8.take j).length = j := by simp [l8]; omega
      have hown' : wr.ownsRow W3.heap.size 3 1 u9 j ((l8.take j).map (Value.int .i64)) := by have := hown; unfold OwnsI at this; rwa [hlen] at this
      go_wp2_with (at_builtin; refine wpList_append_own _ rfl _ _ 26 rfl W3.heap.size 3 i0 (.int .i64 0) 1 8 Try.underlying26 hi0 hz0 hz1 hz2 rfl (by decide) _ _ _ rfl (hown'.alloc _) ⟨wr.heap.size, 0, none⟩ 1 1 [.int .i64 (j : Int)] rfl rfl ?c1 ?c2 ?c3 ?c4 ?c5 ?_)
      case c1 => exact cell_one_new _ _ _
      case c2 => intro x hx; simp at hx; subst hx; rfl
      case c3 => unfold maxLen; omega
      case c4 => omega
      case c5 => have := hb.size; simp; omega
      intro v' w4 hown4 hgrow4 _
      have e4 : l8.take (j + 1) = l8.take j ++ [(j : Int)] := by
        match j, hlt with
        | 0, _ => rfl
        | 1, _ => rfl
        | 2, _ => rfl
        | 3, _ => rfl
        | 4, _ => rfl
        | 5, _ => rfl
        | 6, _ => rfl
        | 7, _ => rfl
      have ho4 : OwnsI w4 W3.heap.size v' (l8.take (j + 1)) := by
        rw [e4]
        refine OwnsI.push ?_
        rw [hlen, List.map_take]
        exact hown4
      have hb4 : Below W3.heap.size W3 w4 := (hb.alloc (by have := hb.size; omega) _).grown hgrow4 (by have := hb.size; simp; omega) (fun k hk => (hown.lt k hk).1)
      clear hown4 hgrow4 e4 hown'
      go_wp2
      go_roundw
      case rel => exact ⟨j + 1, by go_num, by omega, ho4, hb4⟩
      case measure => simp [intOf]; omega
    · have hj8 : j = 8 := by omega
      subst hj8
      clear hlt
      obtain ⟨l1, l2, l3⟩ : p < W3.heap.size ∧ db < W3.heap.size ∧ mb < W3.heap.size := by obtain ⟨_, _, _, h⟩ := s3; exact h.lt
      have hown8 : OwnsI wr W3.heap.size u9 l8 := hown
      obtain ⟨g, c, e9, hg1, hg2, hKR⟩ := OwnsI.row hown8 (by decide) (by decide) (p := p) (db := db) (mb := mb) l1 l2 l3
      rw [show l8.length = 8 from rfl] at e9 hKR
      subst e9
      rw [show ((8 : Nat) : Int) = 8 from rfl]
      have s4 := s3.same hb
      have k4 := (hb.block _ (by have := g3.out; omega)).trans k3
      have b4 : Below w1.heap.size w1 wr := (b2.trans (b3.mono b2.size)).trans (hb.mono (Nat.le_trans b2.size b3.size))
      obtain ⟨n1, n2, n3⟩ : p < w2.heap.size ∧ db < w2.heap.size ∧ mb < w2.heap.size := by
        obtain ⟨_, _, _, h⟩ := hs1
        obtain ⟨q1, q2, q3⟩ := h.lt
        have := b2.size
        omega
      have n4 : w2.heap.size < g := by have := g3.out; omega
      have n5 : w.heap.size ≤ w2.heap.size := Nat.le_trans b1.size b2.size
      have n6 : w2.heap.size < wr.heap.size := by have := hb.size; have := g3.out; omega
      replace hKR := Lib.hid hKR
      clear hown hown8
      obtain ⟨W4, rfl⟩ : ∃ W4, W4 = wr := ⟨_, rfl⟩
      go_wp2
      obtain ⟨f0, hf0, ef0⟩ := tmod_first start 8 (by decide) (by decide)
      have ef1 : (wrap64 (start.tmod 8 + 8)).tmod 8 = (f0 : Int) := ef0
      rw [ef1]
      have B4 : Below w.heap.size w W4 := b1.trans (b4.mono b1.size)
      clear ef0 ef1 s3 k3 b3 hb b2
      go_loopw [11, 12] (fun A i wr => ∃ (j f : Nat) (s : St) (want : Nat → ByteArray), i = .int .i64 (j : Int) ∧ A = .int .i64 (f : Int) ∧ j ≤ 60 ∧ f < 8 ∧ Lasts s want ∧ Sl wr p db mb s ∧ wr.heap[w2.heap.size]? = some (.cells (r8 want) 45) ∧ wr.heap[g]? = W4.heap[g]? ∧ Below w.heap.size w wr ∧ W4.heap.size ≤ wr.heap.size)
        (fun _ i _ => 60 - (intOf i).toNat)
      case atStart => exact ⟨0, f0, _, _, rfl, rfl, by decide, hf0, Lasts.start, s4, k4, rfl, B4, Nat.le_refl _⟩
      case round =>
        obtain ⟨j, f, s, want, rfl, rfl, hj, hf, hL, hs, hk, hgk, hb, hsz⟩ := hrel
        obtain ⟨m1, m2, m3⟩ : p < w2.heap.size ∧ db < w2.heap.size ∧ mb < w2.heap.size := ⟨n1, n2, n3⟩
        have hbox : w2.heap.size < wr.heap.size := by omega
        have hgl : g < wr.heap.size := by omega
        by_cases hin : j < len ∧ j < 60
        · obtain ⟨hjl, hj60⟩ := hin
          have hjs : j < ss.length := by rw [hss.1]; exact hjl
          rcases hss.2.1 with h0 | ⟨sb, off, rfl, hsb, hsc⟩
          · rw [h0] at hjs; exact absurd hjs (Nat.not_lt_zero _)
          have hcj := hsc j hjs
          have htm : (ss.getD j ByteArray.empty).size ≤ maxLen := by
            have : ss.getD j ByteArray.empty = ss[j] := by simp [List.getD, hjs]
            rw [this]; exact hss.2.2.1 _ (List.getElem_mem hjs)
          generalize ss.getD j ByteArray.empty = t at hcj htm
          have YC := Lib.hid (fun W (hB : Below w.heap.size w W) => (hB.cell (p := ⟨sb, off + j, none⟩) hsb).trans hcj)
          have y0 := YC.out _ hb
          have zl : (j : Int) < (len : Int) := by omega
          have z6 : (j : Int) < 60 := by omega
          by_cases htz : 256 < t.size
          · have htz' : (256 : Int) < (t.size : Int) := by omega
            go_wp2
            go_roundw
            case rel => exact ⟨j + 1, f, s, want, by go_num, rfl, by omega, hf, hL, hs, hk, hgk, hb, hsz⟩
            case measure => simp [intOf]; omega
          · have htz' : ¬ ((256 : Int) < (t.size : Int)) := by omega
            have HW := write_calm hL.down hL.left (i := f) (by rw [hL.len]; exact hf) (t := t) (by omega)
            have hL' := hL.step hf (t := t) (by omega)
            have HC := writeE hs HW htm
            generalize ({ s with bs := giveP s.bs f t } : St) = s' at HC hL'
            replace htm := Lib.hid htm
            replace HW := Lib.hid HW
            go_wp2_with (go_at_call 16; refine HC.mono ?_; rintro e w5 ⟨rfl, hs5, hb5⟩; have hB5 : Below w.heap.size w w5 := hb.trans (hb5.below hb.size p1 p2 p3); have y5 := YC.out _ hB5; have hk5 := (hb5.block _ hbox (by omega) (by omega) (by omega)).trans hk; have hg5 := (hb5.block _ hgl (by omega) (by omega) (by omega)).trans hgk; have c5 := (cell_of_row _ _ f _ _ _ hk5).trans (r8_get want hf); have f5 := frozen_of_row _ _ f _ _ hk5; have ftz : (f : Int) < 8 := (by omega))
            have hk6 := heap_setCell_same _ _ f _ _ (.string t) hk5
            rw [r8_set want hf] at hk6
            have hs6 := hs5.setOther hL'.zs (g := w2.heap.size) (by omega) (by omega) (by omega) f (.string t)
            have hg6 : (w5.setCell ⟨w2.heap.size, f, none⟩ (.string t)).heap[g]? = W4.heap[g]? := (Below.heap_setCell _ _ _ _ (by show g ≠ w2.heap.size; omega)).trans hg5
            have hB6 : Below w.heap.size w (w5.setCell ⟨w2.heap.size, f, none⟩ (.string t)) := hB5.setCell (by exact n5) _
            have hz6 : W4.heap.size ≤ (w5.setCell ⟨w2.heap.size, f, none⟩ (.string t)).heap.size := by simp [World.setCell]; exact Nat.le_trans hsz hb5.size
            go_roundw
            case rel => exact ⟨j + 1, (f + 1) % 8, s', _, by go_num, by simp, by omega, by omega, hL', hs6, hk6, hg6, hB6, hz6⟩
            case measure => simp [intOf]; omega
        · have HR := Lib.hid (fun W (hB : Below wr.heap.size wr W) => (show Calls Try.prog 19 #[.pointer (some ⟨p, 0, none⟩)] W (RPost (.agg #[.string (want 0), .string (want 1), .string (want 2), .string (want 3), .string (want 4), .string (want 5), .string (want 6), .string (want 7)]) W) by have := read8_any (hs.same hB); rwa [hL.read] at this))
          have K8 := Lib.hid (fun W (hB : Below wr.heap.size wr W) => cells8 ((hB.block _ hbox).trans hk))
          have hcond : ((j : Int) < (len : Int) ∧ ¬ ((j : Int) < 60)) ∨ ¬ ((j : Int) < (len : Int)) := by omega
          rcases hcond with ⟨hjlz, hj60⟩ | hjlz
          all_goals
            go_wp2
            have NE := fun W => neqArr8 want W
            unfold r8 at NE
            obtain ⟨ι, F, hF, hall⟩ := family wr
            obtain ⟨n0, h0⟩ := hall _ (Below.refl wr.heap.size wr).drew
            haveI : Nonempty ι := ⟨n0⟩
            have hself : ∀ n, ∃ m, F n = F m := fun n => ⟨n, rfl⟩
            have x0 := fun n => (K8.out (F n) (hF n)).1
            have x1 := fun n => (K8.out (F n) (hF n)).2.1
            have x2 := fun n => (K8.out (F n) (hF n)).2.2.1
            have x3 := fun n => (K8.out (F n) (hF n)).2.2.2.1
            have x4 := fun n => (K8.out (F n) (hF n)).2.2.2.2.1
            have x5 := fun n => (K8.out (F n) (hF n)).2.2.2.2.2.1
            have x6 := fun n => (K8.out (F n) (hF n)).2.2.2.2.2.2.1
            have x7 := fun n => (K8.out (F n) (hF n)).2.2.2.2.2.2.2
            have hF' := Lib.hid hF
            have hall' := Lib.hid hall
            clear hF hall
            refine wp_region_clsV F (by kernel_rfl) (by kernel_rfl) n0 h0 ?_
            clear h0
            repeat (go_big_quiet_step ((first | (go_at_call 19; (with_reducible refine (HR.out _ (hF'.out _)).mono ?_); rintro e wz ⟨rfl, hbz⟩; obtain ⟨nz, hz⟩ := hall'.out wz (below_nextS (hF'.out _) hbz); exact ⟨rfl, nz, hz.symm⟩))))
            refine wpQuiet_nil ?_
            intro wq hw'
            obtain ⟨nq, hw''⟩ := hw'
            subst hw''
            have hbq := hF'.out nq
            generalize F nq = W5 at hbq
            clear x0 x1 x2 x3 x4 x5 x6 x7 hself hF' hall'
            have hs5 := hs.same hbq
            have hk5 := (hbq.block _ hbox).trans hk
            have hg5 := (hbq.block _ hgl).trans hgk
            have hB5 : Below w.heap.size w W5 := hb.trans (hbq.mono hb.size)
            have hz5 : W4.heap.size ≤ W5.heap.size := Nat.le_trans hsz hbq.size
            have kr5 := hKR.out W5 hg5 hz5
            have hbox5 : w2.heap.size < W5.heap.size := Nat.lt_of_lt_of_le hbox hbq.size
            clear NE hbq HR K8 hs hb hk hgk hsz hbox hgl
            cases keep with
            | true =>
              obtain ⟨s6, hs6⟩ : ∃ s6, failS s l8 (-1) 0 = s6 := ⟨_, rfl⟩
              obtain ⟨s7, hs7⟩ : ∃ s7, wakeS s6 = s7 := ⟨_, rfl⟩
              have hrd : r8 (all8 s7) = r8 want := by rw [← hs7, ← hs6]; exact hL.kept
              have HFa := failE hs5 kr5 (torn := -1) (at_ := 0) (by decide) hs6
              replace hs6 := Lib.hid hs6
              replace hs7 := Lib.hid hs7
              go_wp2_with (first
                | (go_at_call 20; refine HFa.mono ?_; rintro e w6 ⟨rfl, hsl6, hb6⟩)
                | (go_at_call 21; refine (wakeE hsl6 hs7.out).mono ?_; rintro e w7 ⟨rfl, hsl7, hb7⟩))
              have hb67 := hb6.trans hb7
              have hk7 := (hb67.block _ hbox5 (by omega) (by omega) (by omega)).trans hk5
              have hB7 : Below w.heap.size w w7 := hB5.trans (hb67.below hB5.size p1 p2 p3)
              have hbox7 : w2.heap.size < w7.heap.size := Nat.lt_of_lt_of_le hbox5 hb67.size
              have HR7 := Lib.hid (fun W (hB : Below w7.heap.size w7 W) => (show Calls Try.prog 19 #[.pointer (some ⟨p, 0, none⟩)] W (RPost (.agg #[.string (want 0), .string (want 1), .string (want 2), .string (want 3), .string (want 4), .string (want 5), .string (want 6), .string (want 7)]) W) by have := read8_any (hsl7.same hB); rwa [hrd] at this))
              have K87 := Lib.hid (fun W (hB : Below w7.heap.size w7 W) => cells8 ((hB.block _ hbox7).trans hk7))
              have NE := fun W => eqlArr8 want W
              unfold r8 at NE
              obtain ⟨ι, F, hF, hall⟩ := family w7
              obtain ⟨n0, h0⟩ := hall _ (Below.refl w7.heap.size w7).drew
              haveI : Nonempty ι := ⟨n0⟩
              have hself : ∀ n, ∃ m, F n = F m := fun n => ⟨n, rfl⟩
              have x0 := fun n => (K87.out (F n) (hF n)).1
              have x1 := fun n => (K87.out (F n) (hF n)).2.1
              have x2 := fun n => (K87.out (F n) (hF n)).2.2.1
              have x3 := fun n => (K87.out (F n) (hF n)).2.2.2.1
              have x4 := fun n => (K87.out (F n) (hF n)).2.2.2.2.1
              have x5 := fun n => (K87.out (F n) (hF n)).2.2.2.2.2.1
              have x6 := fun n => (K87.out (F n) (hF n)).2.2.2.2.2.2.1
              have x7 := fun n => (K87.out (F n) (hF n)).2.2.2.2.2.2.2
              have hF' := Lib.hid hF
              have hall' := Lib.hid hall
              clear hF hall
              refine wp_region_clsV F (by kernel_rfl) (by kernel_rfl) n0 h0 ?_
              clear h0
              repeat (go_big_quiet_step ((first | (go_at_call 19; (with_reducible refine (HR7.out _ (hF'.out _)).mono ?_); rintro e wz ⟨rfl, hbz⟩; obtain ⟨nz, hz⟩ := hall'.out wz (below_nextS (hF'.out _) hbz); exact ⟨rfl, nz, hz.symm⟩))))
              refine wpQuiet_nil ?_
              intro wq hw'
              obtain ⟨nq, hw''⟩ := hw'
              subst hw''
              have hbq := hF'.out nq
              generalize F nq = W9 at hbq
              clear x0 x1 x2 x3 x4 x5 x6 x7 hself hF' hall'
              go_wp2
              go_ret
              exact ⟨rfl, hB7.trans (hbq.mono hB7.size)⟩
            | false =>
              have k6 : ((((((((W5.setCell ⟨w2.heap.size, 0, none⟩ (.string ⟨#[]⟩)).setCell ⟨w2.heap.size, 1, none⟩ (.string ⟨#[]⟩)).setCell ⟨w2.heap.size, 2, none⟩ (.string ⟨#[]⟩)).setCell ⟨w2.heap.size, 3, none⟩ (.string ⟨#[]⟩)).setCell ⟨w2.heap.size, 4, none⟩ (.string ⟨#[]⟩)).setCell ⟨w2.heap.size, 5, none⟩ (.string ⟨#[]⟩)).setCell ⟨w2.heap.size, 6, none⟩ (.string ⟨#[]⟩)).setCell ⟨w2.heap.size, 7, none⟩ (.string ⟨#[]⟩)).heap[w2.heap.size]? = some (.cells (r8 e8) 45) := set8 hk5 e8
              have sl6 : Sl ((((((((W5.setCell ⟨w2.heap.size, 0, none⟩ (.string ⟨#[]⟩)).setCell ⟨w2.heap.size, 1, none⟩ (.string ⟨#[]⟩)).setCell ⟨w2.heap.size, 2, none⟩ (.string ⟨#[]⟩)).setCell ⟨w2.heap.size, 3, none⟩ (.string ⟨#[]⟩)).setCell ⟨w2.heap.size, 4, none⟩ (.string ⟨#[]⟩)).setCell ⟨w2.heap.size, 5, none⟩ (.string ⟨#[]⟩)).setCell ⟨w2.heap.size, 6, none⟩ (.string ⟨#[]⟩)).setCell ⟨w2.heap.size, 7, none⟩ (.string ⟨#[]⟩)) p db mb s := ((((((((hs5.setOther hL.zs (g := w2.heap.size) (by omega) (by omega) (by omega) 0 (.string ⟨#[]⟩)).setOther hL.zs (g := w2.heap.size) (by omega) (by omega) (by omega) 1 (.string ⟨#[]⟩)).setOther hL.zs (g := w2.heap.size) (by omega) (by omega) (by omega) 2 (.string ⟨#[]⟩)).setOther hL.zs (g := w2.heap.size) (by omega) (by omega) (by omega) 3 (.string ⟨#[]⟩)).setOther hL.zs (g := w2.heap.size) (by omega) (by omega) (by omega) 4 (.string ⟨#[]⟩)).setOther hL.zs (g := w2.heap.size) (by omega) (by omega) (by omega) 5 (.string ⟨#[]⟩)).setOther hL.zs (g := w2.heap.size) (by omega) (by omega) (by omega) 6 (.string ⟨#[]⟩)).setOther hL.zs (g := w2.heap.size) (by omega) (by omega) (by omega) 7 (.string ⟨#[]⟩))
              have b6 : Below w.heap.size w ((((((((W5.setCell ⟨w2.heap.size, 0, none⟩ (.string ⟨#[]⟩)).setCell ⟨w2.heap.size, 1, none⟩ (.string ⟨#[]⟩)).setCell ⟨w2.heap.size, 2, none⟩ (.string ⟨#[]⟩)).setCell ⟨w2.heap.size, 3, none⟩ (.string ⟨#[]⟩)).setCell ⟨w2.heap.size, 4, none⟩ (.string ⟨#[]⟩)).setCell ⟨w2.heap.size, 5, none⟩ (.string ⟨#[]⟩)).setCell ⟨w2.heap.size, 6, none⟩ (.string ⟨#[]⟩)).setCell ⟨w2.heap.size, 7, none⟩ (.string ⟨#[]⟩)) := but8 hB5 n5 e8
              have z6 : w2.heap.size < ((((((((W5.setCell ⟨w2.heap.size, 0, none⟩ (.string ⟨#[]⟩)).setCell ⟨w2.heap.size, 1, none⟩ (.string ⟨#[]⟩)).setCell ⟨w2.heap.size, 2, none⟩ (.string ⟨#[]⟩)).setCell ⟨w2.heap.size, 3, none⟩ (.string ⟨#[]⟩)).setCell ⟨w2.heap.size, 4, none⟩ (.string ⟨#[]⟩)).setCell ⟨w2.heap.size, 5, none⟩ (.string ⟨#[]⟩)).setCell ⟨w2.heap.size, 6, none⟩ (.string ⟨#[]⟩)).setCell ⟨w2.heap.size, 7, none⟩ (.string ⟨#[]⟩)).heap.size := Nat.lt_of_lt_of_le hbox5 (but8 (Below.refl 0 W5) (Nat.zero_le _) e8).size
              obtain ⟨v0, v1, v2, v3, v4, v5, v6, v7⟩ := cells8 hk5
              obtain ⟨u0, u1, u2, u3, u4, u5, u6', u7⟩ := free8 hk5
              obtain ⟨s6, hs6⟩ : ∃ s6, failS s [] (-1) 0 = s6 := ⟨_, rfl⟩
              obtain ⟨s7, hs7⟩ : ∃ s7, wakeS s6 = s7 := ⟨_, rfl⟩
              have hrd : r8 (all8 s7) = r8 e8 := by rw [← hs7, ← hs6]; exact hL.lost
              have HFa := failE sl6 (KRow.nil _ p db mb) (torn := -1) (at_ := 0) (by decide) hs6
              obtain ⟨W6, hW6⟩ : ∃ W6, ((((((((W5.setCell ⟨w2.heap.size, 0, none⟩ (.string ⟨#[]⟩)).setCell ⟨w2.heap.size, 1, none⟩ (.string ⟨#[]⟩)).setCell ⟨w2.heap.size, 2, none⟩ (.string ⟨#[]⟩)).setCell ⟨w2.heap.size, 3, none⟩ (.string ⟨#[]⟩)).setCell ⟨w2.heap.size, 4, none⟩ (.string ⟨#[]⟩)).setCell ⟨w2.heap.size, 5, none⟩ (.string ⟨#[]⟩)).setCell ⟨w2.heap.size, 6, none⟩ (.string ⟨#[]⟩)).setCell ⟨w2.heap.size, 7, none⟩ (.string ⟨#[]⟩)) = W6 := ⟨_, rfl⟩
              rw [hW6] at k6 sl6 b6 z6 HFa
              replace hs6 := Lib.hid hs6
              replace hs7 := Lib.hid hs7
              go_wp2_with (first
                | (go_at_call 20; (try rw [hW6]); refine HFa.mono ?_; rintro e w6 ⟨rfl, hsl6, hb6⟩)
                | (go_at_call 21; refine (wakeE hsl6 hs7.out).mono ?_; rintro e w7 ⟨rfl, hsl7, hb7⟩))
              have hb67 := hb6.trans hb7
              have hk7 := (hb67.block _ z6 (by omega) (by omega) (by omega)).trans k6
              have hB7 : Below w.heap.size w w7 := b6.trans (hb67.below b6.size p1 p2 p3)
              have hbox7 : w2.heap.size < w7.heap.size := Nat.lt_of_lt_of_le z6 hb67.size
              have HR7 := Lib.hid (fun W (hB : Below w7.heap.size w7 W) => (show Calls Try.prog 19 #[.pointer (some ⟨p, 0, none⟩)] W (RPost (.agg #[.string (e8 0), .string (e8 1), .string (e8 2), .string (e8 3), .string (e8 4), .string (e8 5), .string (e8 6), .string (e8 7)]) W) by have := read8_any (hsl7.same hB); rwa [hrd] at this))
              have K87 := Lib.hid (fun W (hB : Below w7.heap.size w7 W) => cells8 ((hB.block _ hbox7).trans hk7))
              have NE := fun W => eqlArr8 e8 W
              unfold r8 at NE
              obtain ⟨ι, F, hF, hall⟩ := family w7
              obtain ⟨n0, h0⟩ := hall _ (Below.refl w7.heap.size w7).drew
              haveI : Nonempty ι := ⟨n0⟩
              have hself : ∀ n, ∃ m, F n = F m := fun n => ⟨n, rfl⟩
              have x0 := fun n => (K87.out (F n) (hF n)).1
              have x1 := fun n => (K87.out (F n) (hF n)).2.1
              have x2 := fun n => (K87.out (F n) (hF n)).2.2.1
              have x3 := fun n => (K87.out (F n) (hF n)).2.2.2.1
              have x4 := fun n => (K87.out (F n) (hF n)).2.2.2.2.1
              have x5 := fun n => (K87.out (F n) (hF n)).2.2.2.2.2.1
              have x6 := fun n => (K87.out (F n) (hF n)).2.2.2.2.2.2.1
              have x7 := fun n => (K87.out (F n) (hF n)).2.2.2.2.2.2.2
              have hF' := Lib.hid hF
              have hall' := Lib.hid hall
              clear hF hall
              refine wp_region_clsV F (by kernel_rfl) (by kernel_rfl) n0 h0 ?_
              clear h0
              repeat (go_big_quiet_step ((first | (go_at_call 19; (with_reducible refine (HR7.out _ (hF'.out _)).mono ?_); rintro e wz ⟨rfl, hbz⟩; obtain ⟨nz, hz⟩ := hall'.out wz (below_nextS (hF'.out _) hbz); exact ⟨rfl, nz, hz.symm⟩))))
              refine wpQuiet_nil ?_
              intro wq hw'
              obtain ⟨nq, hw''⟩ := hw'
              subst hw''
              have hbq := hF'.out nq
              generalize F nq = W9 at hbq
              clear x0 x1 x2 x3 x4 x5 x6 x7 hself hF' hall'
              go_wp2
              go_ret
              exact ⟨rfl, hB7.trans (hbq.mono hB7.size)⟩
end Go.Proofs.Ythcebcpippbhfaa
