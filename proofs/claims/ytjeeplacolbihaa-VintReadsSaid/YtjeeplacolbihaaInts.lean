/-
  CONTRACTS over lists of whole numbers: vint's List (written), the reader's List (read), the document's List.
-/
import Derived.Test.YtjeeplacolbihaaLists
namespace Go.Proofs.Ytjeeplacolbihaa
open Go.RowKit

theorem Try.infoInt : (Try.prog.info? 3).map (fun i => (i.zero, i.size, i.bytes)) = some (some (.int .i64 0), 1, 8) := by kernel_rfl

/-- The value v is a row of whole numbers of the call's own. -/
def OwnsI (w : World) (base : Nat) (v : Value) (l : List Int) : Prop := w.ownsRow base 3 1 v l.length (l.map (Value.int .i64))
theorem OwnsI.nil (w : World) (base : Nat) : OwnsI w base (.slice none 0 0) [] := World.ownsRow_nil w base _ 1
theorem OwnsI.push {w : World} {base : Nat} {v : Value} {l : List Int} {x : Int} (h : w.ownsRow base 3 1 v (l.length + 1) (l.map (Value.int .i64) ++ [.int .i64 x])) : OwnsI w base v (l ++ [x]) := by
  unfold OwnsI
  rw [List.length_append, List.map_append]
  exact h

theorem grown_over {w0 w1 w2 : World} {g : Nat} {row : Option Nat} (h : w0.grownBy w1 (some g)) (h2 : w1.grownBy w2 row) (hr : ∀ k, row = some k → w0.heap.size ≤ k) : w0.grownBy w2 (some g) :=
  ⟨h2.os.trans h.os, h2.tape.trans h.tape, h2.output.trans h.output, Nat.le_trans h.size h2.size, fun k hk hg =>
    (h2.block k (by have := h.size; omega) (fun e => by have := hr k e.symm; omega)).trans (h.block k hk hg)⟩

def ListPost (w : World) (g : Nat) (l : List Int) (r : ByteArray × Int) (e : Ending) (w' : World) : Prop :=
  ∃ v', e = .returned v' ∧ OwnsI w' w.heap.size v' l ∧ Rd w' g r.1 r.2 ∧ w.grownBy w' (some g)

theorem rWhole_size (s : ByteArray) (e : Int) : (rWhole s e).2.1.size ≤ s.size := rNum_size s e
theorem rWhole_less {s : ByteArray} {e : Int} (h : (rWhole s e).2.2 = 0) : (rWhole s e).2.1.size + 1 ≤ s.size := rNum_less h

theorem rInts_go {n : Nat} {acc : List Int} {s : ByteArray} {e : Int} (h : (rWhole s e).2.2 = 0) : rInts (n + 1) acc s e = rInts n (acc ++ [(rWhole s e).1]) (rWhole s e).2.1 (rWhole s e).2.2 := by
  rw [rInts, if_pos h]
theorem rInts_stop {n : Nat} {acc : List Int} {s : ByteArray} {e : Int} (h : (rWhole s e).2.2 ≠ 0) : rInts (n + 1) acc s e = ([], (rWhole s e).2) := by
  rw [rInts, if_neg h]

set_option maxRecDepth 100000 in
set_option maxHeartbeats 1000000 in
theorem rlist_any {w : World} {g : Nat} {s : ByteArray} {e : Int} (most : Int) (h : Rd w g s e) (hs : (s.size : Int) ≤ 1000000000000) :
    Calls Try.prog 37 #[.pointer (some ⟨g, 0, none⟩), .int .i64 most] w (ListPost w g (rList s e most).1 (rList s e most).2) := by
  obtain ⟨v0, v1⟩ := rLen_val s e most
  have hz := rLen_size s e most
  have hg := h.lt
  obtain ⟨n, hn⟩ : ∃ n : Nat, (rLen s e most).1 = (n : Int) := ⟨(rLen s e most).1.toNat, by omega⟩
  obtain ⟨u, hu⟩ : ∃ u, (rLen s e most).2.1 = u := ⟨_, rfl⟩
  obtain ⟨e1, he1⟩ : ∃ e1, (rLen s e most).2.2 = e1 := ⟨_, rfl⟩
  have HL := Lib.hid (show rList s e most = rInts n [] u e1 by unfold rList; rw [hn, hu, he1]; rfl)
  have HC : Hid (∀ w : World, Rd w g s e → Calls Try.prog 55 #[.pointer (some ⟨g, 0, none⟩), .int .i64 most] w (RdPost w g (.int .i64 (n : Int)) (u, e1))) :=
    Lib.hid fun w h => (rlen_any most h (by omega)).mono fun e w' h => by rw [hn] at h; rw [← hu, ← he1]; exact h
  rw [hu] at hz
  rw [hn] at v1
  have hn1 : (n : Int) ≤ 9223372036854775807 := v1
  clear hn hu he1 v0 v1
  obtain ⟨i0, hi, hz0, hz1, hz2⟩ := info_parts Try.infoInt
  go_enter Try.func37, Try.ntmps37
  go_wp2_with (go_at_call 55; refine (HC.out _ h).mono ?_; rintro en w0 ⟨rfl, R0, G0⟩)
  go_loopw [6, 12] (fun v i wr => ∃ (k : Nat) (acc : List Int) (t : ByteArray) (e2 : Int), i = .int .i64 (k : Int) ∧ k ≤ n ∧ acc.length + t.size ≤ s.size ∧ OwnsI wr w.heap.size v acc ∧ Rd wr g t e2 ∧ w.grownBy wr (some g) ∧ rInts (n - k) acc t e2 = rInts n [] u e1)
    (fun _ i _ => n - (intOf i).toNat)
  case atStart => exact ⟨0, [], u, e1, rfl, by omega, by simpa using hz, OwnsI.nil _ _, R0, G0, rfl⟩
  case round =>
    obtain ⟨k, acc, t, e2, rfl, hk, hsum, hown, R, G, heq⟩ := hrel
    have HE := Lib.hid heq
    clear heq
    have hsz := G.size
    by_cases hlt : k < n
    · have hgo := rWhole_size t e2
      by_cases he : (rWhole t e2).2.2 = 0
      · have hd : ((rWhole t e2).2.2 == 0) = true := by simpa using he
        have hless := rWhole_less he
        have HG := Lib.hid (rInts_go (n := n - (k + 1)) (acc := acc) he)
        clear he
        go_wp2_with (first | (go_at_call 30; refine (rwhole_any R (by omega)).mono ?_; rintro en w1 ⟨rfl, R1, G1⟩) | (go_at_call 39; refine (err_any R1).mono ?_; rintro e w' ⟨rfl, rfl⟩) | (at_builtin; refine wpList_append_own _ rfl _ _ 26 rfl w.heap.size 3 i0 (.int .i64 0) 1 8 Try.underlying26 hi hz0 hz1 hz2 rfl (by decide) _ _ _ rfl ((hown.kept G1 (by right; intro hv; have := (hown.lt g hv).1; omega)).alloc _) ⟨w1.heap.size, 0, none⟩ 1 1 [.int .i64 (rWhole t e2).1] rfl rfl ?c1 ?c2 ?c3 ?c4 ?c5 ?_))
        case c1 => exact cell_one_new _ _ _
        case c2 => intro x hx; simp at hx; subst hx; rfl
        case c3 => unfold maxLen; omega
        case c4 => omega
        case c5 => have := G1.size; simp; omega
        intro v' w2 hown2 hgrow2 _
        have ho := OwnsI.push hown2
        have G2 := grown_over (grown_over (grown_trans G G1) (World.grownBy_alloc w1 _ none) (by intro k hk; cases hk)) hgrow2 (fun k hk => (hown.lt k hk).1)
        have R2 := rd_grown (rd_grown R1 (World.grownBy_alloc w1 (Obj.cells #[Value.int IntKind.i64 (rWhole t e2).1] 3) none) (by simp)) hgrow2 (by intro hv; have := (hown.lt g hv.symm).1; omega)
        clear hown2 hgrow2 hown
        go_wp2
        go_roundw
        case rel => exact ⟨k + 1, acc ++ [(rWhole t e2).1], _, _, by go_num, by omega, by rw [List.length_append]; simp; omega, ho, R2, G2, by rw [← HE.out, show n - k = n - (k + 1) + 1 by omega, HG.out]⟩
        case measure => simp [intOf]; omega
      · have hd : ((rWhole t e2).2.2 == 0) = false := by simpa using he
        have HG := Lib.hid (rInts_stop (n := n - (k + 1)) (acc := acc) he)
        clear he
        go_wp2_with (first | (go_at_call 30; refine (rwhole_any R (by omega)).mono ?_; rintro en w1 ⟨rfl, R1, G1⟩) | (go_at_call 39; refine (err_any R1).mono ?_; rintro e w' ⟨rfl, rfl⟩))
        go_ret
        have HR : rList s e most = ([], (rWhole t e2).2) := by rw [HL.out, ← HE.out, show n - k = n - (k + 1) + 1 by omega, HG.out]
        rw [HR]
        exact ⟨_, rfl, OwnsI.nil _ _, R1, grown_trans G G1⟩
    · have hkn : n - k = 0 := by omega
      have HK := Lib.hid hkn
      clear hkn
      go_wp2
      go_ret
      have HR : rList s e most = (acc, t, e2) := by rw [HL.out, ← HE.out, HK.out]; rfl
      rw [HR]
      exact ⟨_, rfl, hown, R, G⟩

/-- The whole numbers zs lie where the slice value leads. -/
def IntsIn (w : World) (a : Option Addr) (zs : List Int) : Prop :=
  zs = [] ∨ ∃ b off, a = some ⟨b, off, none⟩ ∧ b < w.heap.size ∧ ∀ k, k < zs.length → w.cell? ⟨b, off + k, none⟩ = some (.int .i64 (zs.getD k 0))

/-- The bytes of a list, behind its length. -/
def wholesL : List Int → List UInt8
  | [] => []
  | z :: r => numL (foldZ z).toNat ++ wholesL r
def listS (l : List Int) : ByteArray := if l.all mayZ then ⟨(numL l.length ++ wholesL l).toArray⟩ else ByteArray.empty
end Go.Proofs.Ytjeeplacolbihaa
