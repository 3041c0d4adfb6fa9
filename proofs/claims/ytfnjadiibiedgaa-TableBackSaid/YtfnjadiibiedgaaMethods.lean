/-
  CONTRACTS of the methods of vint's reader: what each answers, what is left, the first error.
-/
import Derived.Test.YtfnjadiibiedgaaReader
namespace Go.Proofs.Ytfnjadiibiedgaa
open Go.RowKit

section
variable {w w' w'' : World} {g : Nat} {s s' : ByteArray} {e e' : Int}
theorem Rd.cell0 (h : Rd w g s e) : w.cell? ⟨g, 0, none⟩ = some (.string s) := cell_of_row w g 0 _ _ (0, 0) h
theorem Rd.cell1 (h : Rd w g s e) : w.cell? ⟨g, 1, none⟩ = some (.int .i64 e) := cell_of_row w g 1 _ _ (0, 0) h
theorem Rd.free (h : Rd w g s e) (i : Nat) : w.frozen? ⟨g, i, none⟩ = false := by
  unfold Rd at h
  simp [World.frozen?, h]
theorem Rd.new (w : World) (s : ByteArray) (e : Int) : Rd (w.alloc (.cells #[.string s, .int .i64 e] 149)) w.heap.size s e := heap_alloc_new w _
theorem Rd.setLeft (h : Rd w g s e) (s' : ByteArray) : Rd (w.setCell ⟨g, 0, none⟩ (.string s')) g s' e := by
  unfold Rd at h ⊢
  simp [World.setCell, Array.getElem?_modify, h]
theorem Rd.setErr (h : Rd w g s e) (e' : Int) : Rd (w.setCell ⟨g, 1, none⟩ (.int .i64 e')) g s e' := by
  unfold Rd at h ⊢
  simp [World.setCell, Array.getElem?_modify, h]
theorem Rd.same (h : Rd w g s e) (hg : w'.heap[g]? = w.heap[g]?) : Rd w' g s e := hg.trans h
theorem grown_setCell (w : World) (p : Addr) (u : Value) : w.grownBy (w.setCell p u) (some p.block) :=
  ⟨rfl, rfl, rfl, by simp [World.setCell], fun k _ hk => Below.heap_setCell w p u k (fun e => hk (by rw [e]))⟩
theorem grown_trans {row : Option Nat} (h : w.grownBy w' row) (h' : w'.grownBy w'' row) : w.grownBy w'' row :=
  ⟨h'.os.trans h.os, h'.tape.trans h.tape, h'.output.trans h.output, Nat.le_trans h.size h'.size, fun k hk hr => (h'.block k (by have := h.size; omega) hr).trans (h.block k hk hr)⟩
end

def RdPost (w : World) (g : Nat) (v : Value) (r : ByteArray × Int) (e : Ending) (w' : World) : Prop := e = .returned v ∧ Rd w' g r.1 r.2 ∧ w.grownBy w' (some g)

theorem err_any {w : World} {g : Nat} {s : ByteArray} {e : Int} (h : Rd w g s e) :
    Calls Try.prog 110 #[.pointer (some ⟨g, 0, none⟩)] w fun en w' => en = .returned (.int .i64 e) ∧ w = w' := by
  have h1 := h.cell1
  go_enter Try.func110, Try.ntmps110
  go_wp2
  go_ret
  exact ⟨rfl, rfl⟩
theorem err_nil (w : World) : Calls Try.prog 110 #[.pointer none] w fun en w' => en = .returned (.int .i64 5) ∧ w = w' := by
  go_enter Try.func110, Try.ntmps110
  go_wp2
  go_ret
  exact ⟨rfl, rfl⟩
/-- The first error, or that bytes are left. -/
def rEnd (s : ByteArray) (e : Int) : Int := if e = 0 then (if s.data.toList.isEmpty then 0 else 2) else e
theorem end_any {w : World} {g : Nat} {s : ByteArray} {e : Int} (h : Rd w g s e) :
    Calls Try.prog 72 #[.pointer (some ⟨g, 0, none⟩)] w fun en w' => en = .returned (.int .i64 (rEnd s e)) ∧ w = w' := by
  have h1 := h.cell0
  by_cases he : e = 0
  · subst he
    cases hs : s.data.toList.isEmpty
    · have hs2 : s.toList.isEmpty = false := by rw [ByteArray.toList_eq]; exact hs
      have H := Lib.hid (show rEnd s 0 = 2 by unfold rEnd; rw [if_pos rfl, hs]; rfl)
      go_enter Try.func72, Try.ntmps72
      go_wp2_with (go_at_call 110; refine (err_any h).mono ?_; rintro e w' ⟨rfl, rfl⟩)
      go_ret
      exact ⟨by rw [H.out]; rfl, rfl⟩
    · have hs2 : s.toList.isEmpty = true := by rw [ByteArray.toList_eq]; exact hs
      have H := Lib.hid (show rEnd s 0 = 0 by unfold rEnd; rw [if_pos rfl, hs]; rfl)
      go_enter Try.func72, Try.ntmps72
      go_wp2_with (go_at_call 110; refine (err_any h).mono ?_; rintro e w' ⟨rfl, rfl⟩)
      go_ret
      exact ⟨by rw [H.out]; rfl, rfl⟩
  · have H := Lib.hid (show rEnd s e = e by unfold rEnd; rw [if_neg he])
    have hd : (e == 0) = false := by simpa using he
    go_enter Try.func72, Try.ntmps72
    go_wp2_with (go_at_call 110; refine (err_any h).mono ?_; rintro e w' ⟨rfl, rfl⟩)
    go_ret
    exact ⟨by rw [H.out]; rfl, rfl⟩
theorem end_nil (w : World) : Calls Try.prog 72 #[.pointer none] w fun en w' => en = .returned (.int .i64 5) ∧ w = w' := by
  go_enter Try.func72, Try.ntmps72
  go_wp2_with (go_at_call 110; refine (err_nil _).mono ?_; rintro e w' ⟨rfl, rfl⟩)
  go_ret
  exact ⟨rfl, rfl⟩

theorem fail_any {w : World} {g : Nat} {s : ByteArray} {e : Int} (e' : Int) (h : Rd w g s e) :
    Calls Try.prog 112 #[.pointer (some ⟨g, 0, none⟩), .int .i64 e'] w (RdPost w g (.tuple #[]) (ByteArray.empty, e')) := by
  have h0 := h.cell0
  have h1 := h.cell1
  have f0 := h.free 0
  have f1 := h.free 1
  have R := (h.setLeft ByteArray.empty).setErr e'
  have G := grown_trans (grown_setCell w ⟨g, 0, none⟩ (.string ByteArray.empty)) (grown_setCell _ ⟨g, 1, none⟩ (.int .i64 e'))
  go_enter Try.func112, Try.ntmps112
  go_wp2
  go_end0
  exact ⟨rfl, R, G⟩

theorem rNum_bad {s : ByteArray} {e k : Int} (he : e = 0) (h : scanN 0 s.data.toList = .error k) : rNum s e = (0, ByteArray.empty, k) := by
  unfold rNum; rw [if_pos he, h]
theorem rNum_good {s : ByteArray} {e : Int} {n m : Nat} (he : e = 0) (h : scanN 0 s.data.toList = .ok (n, m)) : rNum s e = ((n : Int), s.extract m s.size, 0) := by
  unfold rNum; rw [if_pos he, h]
theorem rNum_err {s : ByteArray} {e : Int} (he : e ≠ 0) : rNum s e = (0, s, e) := by
  unfold rNum; rw [if_neg he]
theorem scanN_err : ∀ (l : List UInt8) (k : Nat) (e : Int), scanN k l = .error e → e = 5 ∨ e = 3 := by
  intro l
  induction l with
  | nil => intro k e h; cases h; exact .inl rfl
  | cons c r ih =>
    intro k e h
    rw [scanN] at h
    split at h
    · cases h; exact .inr rfl
    · split at h
      · cases h
      · cases hr : scanN (k + 1) r with
        | error e' => rw [hr] at h; cases h; exact ih _ _ hr
        | ok p => rw [hr] at h; cases h

set_option maxHeartbeats 400000 in
theorem rnum_any {w : World} {g : Nat} {s : ByteArray} {e : Int} (h : Rd w g s e) (hs : (s.size : Int) ≤ 9000000000000000000) :
    Calls Try.prog 69 #[.pointer (some ⟨g, 0, none⟩)] w (RdPost w g (.int .i64 (rNum s e).1) (rNum s e).2) := by
  have h0 := h.cell0
  by_cases he : e = 0
  · cases hr : scanN 0 s.data.toList with
    | error k =>
      have H := Lib.hid (rNum_bad he hr)
      have hk : (k == 0) = false := by rcases scanN_err _ _ _ hr with rfl | rfl <;> rfl
      have HN : ∀ w, Calls Try.prog 111 #[.string s] w fun e w' => e = .returned (.tuple #[.int .i64 0, .int .i64 0, .int .i64 k]) ∧ w = w' := fun w => (number_any s w hs).mono fun e w' h => by rw [hr] at h; exact h
      have HN := Lib.hid HN
      clear hr
      subst he
      go_enter Try.func69, Try.ntmps69
      go_wp2_with (first | (go_at_call 110; refine (err_any h).mono ?_; rintro e w' ⟨rfl, rfl⟩) | (go_at_call 111; refine (HN.out _).mono ?_; rintro e w' ⟨rfl, rfl⟩) | (go_at_call 112; refine (fail_any k h).mono ?_; rintro e w' ⟨rfl, R, G⟩))
      go_ret
      exact ⟨by rw [H.out]; rfl, by rw [H.out]; exact R, G⟩
    | ok p =>
      obtain ⟨n, m⟩ := p
      have hb := scanN_ok _ _ _ _ hr (by decide)
      have hm : m ≤ s.size := by simpa using hb.2.1
      have hn : (n : Int) ≤ 9223372036854775807 := by have := pow_128_le (j := m) (by omega); omega
      clear hb
      have H := Lib.hid (rNum_good he hr)
      have HN : ∀ w, Calls Try.prog 111 #[.string s] w fun e w' => e = .returned (.tuple #[.int .i64 (n : Int), .int .i64 (m : Int), .int .i64 0]) ∧ w = w' := fun w => (number_any s w hs).mono fun e w' h => by rw [hr] at h; exact h
      have HN := Lib.hid HN
      clear hr
      have f0 := h.free 0
      have R := h.setLeft (s.extract m s.size)
      have G := grown_setCell w ⟨g, 0, none⟩ (.string (s.extract m s.size))
      subst he
      go_enter Try.func69, Try.ntmps69
      go_wp2_with (first | (go_at_call 110; refine (err_any h).mono ?_; rintro e w' ⟨rfl, rfl⟩) | (go_at_call 111; refine (HN.out _).mono ?_; rintro e w' ⟨rfl, rfl⟩))
      go_ret
      exact ⟨by rw [H.out]; rfl, by rw [H.out]; exact R, G⟩
  · have H := Lib.hid (rNum_err (s := s) he)
    have hd : (e == 0) = false := by simpa using he
    clear he
    go_enter Try.func69, Try.ntmps69
    go_wp2_with (go_at_call 110; refine (err_any h).mono ?_; rintro e w' ⟨rfl, rfl⟩)
    go_ret
    exact ⟨by rw [H.out]; rfl, by rw [H.out]; exact h, World.grownBy.refl _ _⟩
end Go.Proofs.Ytfnjadiibiedgaa
