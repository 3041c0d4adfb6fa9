/-
  RefRd, RefTx, RefAll: one text.
-/
import Derived.Test.YtcpcdinfagdlhaaVA
import Derived.RegionTactic
import Derived.BigRegion
/-
  CONTRACTS of the document's reader (spliceref01.Reader), which goes by value: fail, Num.
-/
namespace Go.Proofs.Ytcpcdinfagdlhaa
open Go.RowKit

/-- A reader by value. -/
abbrev rdV (s : ByteArray) (e : Int) : Value := .agg #[.string s, .int .i64 e]

theorem bcell {W w1 : World} (hb : Below W.heap.size W w1) : (∀ b o, b < W.heap.size → w1.cell? ⟨b, o, none⟩ = W.cell? ⟨b, o, none⟩) ∧ (∀ b o, b < W.heap.size → w1.frozen? ⟨b, o, none⟩ = W.frozen? ⟨b, o, none⟩) :=
  ⟨fun b o h => hb.cell (p := ⟨b, o, none⟩) h, fun b o h => hb.frozen (p := ⟨b, o, none⟩) h⟩
theorem refFail_any (e : Int) (w : World) : Calls Try.prog 115 #[.int .i64 e] w fun en w' => en = .returned (rdV ByteArray.empty e) ∧ Below w.heap.size w w' := by
  go_enter Try.func115, Try.ntmps115
  go_wp2
  exact bodyPost_ret (v := .agg #[.string ByteArray.empty, .int .i64 e]) (by simp [results, Try.results115, go_sem]; rfl) rfl ⟨rfl, (Below.refl _ _).alloc (Nat.le_refl _) _⟩

/-- The lowest k groups of seven bits. -/
def valX (l : List UInt8) : Nat → Nat
  | 0 => 0
  | i + 1 => valX l i + 128 ^ i * ((l.getD i 0).toNat % 128)
theorem valX_lt (l : List UInt8) (k : Nat) : valX l k < 128 ^ k := by
  induction k with
  | zero => simp [valX]
  | succ k ih =>
    rw [valX, Nat.pow_succ]
    have : 128 ^ k * ((l.getD k 0).toNat % 128) ≤ 128 ^ k * 127 := Nat.mul_le_mul_left _ (by omega)
    omega
theorem scan_lead (l : List UInt8) : ∀ k, k ≤ 9 → k ≤ l.length → (∀ i, i < k → 128 ≤ (l.getD i 0).toNat) → liftN k (valX l k) (scanN k (l.drop k)) = scanN 0 l := by
  intro k
  induction k with
  | zero => intro _ _ _; rw [List.drop_zero]; exact liftN_zero _
  | succ k ih =>
    intro h9 hl hb
    have h1 := ih (by omega) (by omega) (fun i hi => hb i (by omega))
    have hk : k < l.length := by omega
    have hd : l.getD k 0 = l[k] := by simp [List.getD, List.getElem?_eq_getElem hk]
    have hc := hb k (by omega)
    have hu : (l.getD k 0).toNat < 256 := UInt8.toNat_lt _
    rw [List.drop_eq_getElem_cons hk, ← hd, scanN_more (by omega) hc] at h1
    have e : (l.getD k 0).toNat - 128 = (l.getD k 0).toNat % 128 := by omega
    rw [← h1, valX, e]

theorem getD_byte {s : ByteArray} {k : Nat} (h : k < s.size) : s.data.toList.getD k 0 = s[k] := by
  have h' : k < s.data.size := h
  rw [List.getD, Array.getElem?_toList, Array.getElem?_eq_getElem h']
  rfl
def RdNumPost (r : Int × ByteArray × Int) (w : World) (e : Ending) (w' : World) : Prop := e = .returned (.tuple #[rdV r.2.1 r.2.2, .int .i64 r.1]) ∧ Below w.heap.size w w'

theorem down_step {l : List UInt8} {m i k : Nat} (h : m * 128 ^ (i + 1) + valX l (i + 1) = valX l (k + 1)) : (128 * m + (l.getD i 0).toNat % 128) * 128 ^ i + valX l i = valX l (k + 1) := by
  rw [← h, valX, Nat.pow_succ, Nat.add_mul]
  have e1 : 128 * m * 128 ^ i = m * (128 ^ i * 128) := by rw [Nat.mul_comm 128 m, Nat.mul_assoc, Nat.mul_comm 128]
  have e2 : (l.getD i 0).toNat % 128 * 128 ^ i = 128 ^ i * ((l.getD i 0).toNat % 128) := Nat.mul_comm _ _
  rw [e1, e2]
  omega
theorem wrap_down {m c : Nat} (hc : c < 256) (h : 128 * (m : Int) + (c : Int) % 128 ≤ 9223372036854775807) : wrap64 (128 * (m : Int) + (wrap64 (c : Int)).tmod 128) = ((128 * m + c % 128 : Nat) : Int) := by
  have h1 : wrap64 (c : Int) = (c : Int) := by unfold wrap64; omega
  rw [h1, Int.tmod_eq_emod_of_nonneg (by omega)]
  unfold wrap64
  omega
theorem down_le {l : List UInt8} {m j k : Nat} (hk : k < 9) (h : m * 128 ^ j + valX l j = valX l (k + 1)) : m ≤ 9223372036854775807 := by
  have h1 := valX_lt l (k + 1)
  have h2 : 128 ^ (k + 1) ≤ 9223372036854775808 := pow_128_le (by omega)
  have h3 : m ≤ m * 128 ^ j := Nat.le_mul_of_pos_right _ (Nat.pow_pos (by decide))
  omega

section
variable {s : ByteArray} {k : Nat} (h9 : k ≤ 9) (hk : k ≤ s.size) (HB : Hid (∀ i, i < k → 128 ≤ (s.data.toList.getD i 0).toNat))
include h9 hk HB
theorem lead_of : Hid (liftN k (valX s.data.toList k) (scanN k (s.data.toList.drop k)) = scanN 0 s.data.toList) :=
  Lib.hid (scan_lead _ k h9 (by rw [← ba_size]; exact hk) HB.out)
theorem ref_short (h : s.size ≤ k) : rNum s 0 = (0, ByteArray.empty, 5) := rNum_bad rfl (fin_short (lead_of h9 hk HB) h)
theorem ref_nine (h : k < s.size) (h1 : k = 9) : rNum s 0 = (0, ByteArray.empty, 3) := rNum_bad rfl (fin_nine (lead_of h9 hk HB) h h1)
theorem ref_form (h : k < s.size) (h0 : 0 < k) (hc : ((s[k].toNat : Int) == 0) = true) : rNum s 0 = (0, ByteArray.empty, 3) := rNum_bad rfl (fin_form (lead_of h9 hk HB) h h0 hc)
theorem ref_last (h : k < s.size) (h1 : k < 9) (hc : ¬ 127 < (s[k].toNat : Int)) (h0 : ¬ (0 < k ∧ (s[k].toNat : Int) = 0)) : rNum s 0 = ((valX s.data.toList (k + 1) : Int), s.extract (k + 1) s.size, 0) := by
  have hl := lead_of h9 hk HB
  have hs : scanN 0 s.data.toList = .ok (valX s.data.toList (k + 1), k + 1) := by
    rw [← hl.out, drop_bytes s k h, scanN_last (by omega) (by omega) (by omega), valX, getD_byte h]
    have e : s[k].toNat % 128 = s[k].toNat := by omega
    rw [e]
    rfl
  exact rNum_good rfl hs
end

set_option maxRecDepth 100000 in
set_option maxHeartbeats 2000000 in
theorem refNumR_err (s : ByteArray) (e : Int) (w : World) (he : e ≠ 0) : Calls Try.prog 77 #[rdV s e] w (RdNumPost (rNum s e) w) := by
  have d : (e != 0) = true := by simpa using he
  have H := Lib.hid (rNum_err (s := s) he)
  clear he
  go_enter Try.func77, Try.ntmps77
  go_wp2
  exact bodyPost_ret (v := .tuple #[.agg #[.string s, .int .i64 e], .int .i64 0]) (by simp [results, Try.results77, go_sem]) rfl ⟨by rw [H.out], ((Below.refl _ _).alloc (Nat.le_refl _) _).alloc (by simp) _⟩

set_option maxRecDepth 100000 in
set_option maxHeartbeats 2000000 in
theorem refNumR_ok (s : ByteArray) (w : World) (hs : (s.size : Int) ≤ 9000000000000000000) : Calls Try.prog 77 #[rdV s 0] w (RdNumPost (rNum s 0) w) := by
  go_enter Try.func77, Try.ntmps77
  go_wp2
  go_loop [4] (fun t => ∃ k : Nat, t = .int .i64 (k : Int) ∧ k ≤ 9 ∧ k ≤ s.size ∧ ∀ i, i < k → 128 ≤ (s.data.toList.getD i 0).toNat) (fun t => 9 - (intOf t).toNat)
  case atStart => exact ⟨0, rfl, by omega, by omega, fun i hi => absurd hi (by omega)⟩
  case round =>
    obtain ⟨k, rfl, h9, hk, hb⟩ := hrel
    have HB := Lib.hid hb
    clear hb
    by_cases hlt : k < s.size
    · by_cases hk9 : k < 9
      · by_cases hc : 127 < (s[k].toNat : Int)
        · go_wp2
          go_round
          case rel =>
            refine ⟨k + 1, by go_num, by omega, by omega, fun i hi => ?_⟩
            by_cases hik : i = k
            · subst hik; rw [getD_byte hlt]; omega
            · exact HB.out i (by omega)
          case measure => simp [intOf]; omega
        · have hk9b : ((k : Int) == 9) = false := by simp; omega
          have hks : ((k : Int) == (s.size : Int)) = false := by simp; omega
          by_cases hz : 0 < k ∧ (s[k].toNat : Int) = 0
          · obtain ⟨hk0, hz0⟩ := hz
            have hzb : ((s[k].toNat : Int) == 0) = true := by simpa using hz0
            clear hz0
            have HR := Lib.hid (ref_form h9 hk HB hlt hk0 hzb)
            go_wp2_with (go_at_call 115; refine (refFail_any _ _).mono ?_; rintro e w2 ⟨rfl, B2⟩; obtain ⟨hcB, hfB⟩ := bcell B2; have hzB := B2.size)
            refine bodyPost_ret (v := .tuple #[rdV ByteArray.empty 3, .int .i64 0]) (by simp [results, Try.results77, go_sem, hcB]) rfl ⟨by rw [HR.out], ?_⟩
            exact ((((Below.refl _ _).alloc (Nat.le_refl _) _).alloc (by simp) _).trans (B2.mono (by simp; omega))).setCell (by simp) _ |>.setCell (by simp) _
          · have HR := Lib.hid (ref_last h9 hk HB hlt hk9 hc hz)
            by_cases hk0 : 0 < k
            all_goals
              try (have hz1 : ((s[k].toNat : Int) == 0) = false := by
                    have : ¬ (s[k].toNat : Int) = 0 := fun e => hz ⟨hk0, e⟩
                    simpa using this)
              clear hz
              go_wp2_with fail
              go_loop [5, 6] (fun v i => ∃ (j m : Nat), i = .int .i64 ((j : Int) - 1) ∧ j ≤ k + 1 ∧ v = .int .i64 (m : Int) ∧ m * 128 ^ j + valX s.data.toList j = valX s.data.toList (k + 1)) (fun _ i => (intOf i + 1).toNat)
              case atStart => exact ⟨k + 1, 0, by go_num, by omega, rfl, by simp⟩
              case round =>
                obtain ⟨j, m, rfl, hj, rfl, hd⟩ := hrel
                rcases Nat.eq_zero_or_pos j with hj0 | hj0
                · subst hj0
                  have hmv : m = valX s.data.toList (k + 1) := by simpa [valX] using hd
                  have HMV := Lib.hid hmv
                  clear hd hmv
                  go_wp2
                  exact bodyPost_ret (v := .tuple #[rdV (s.extract (k + 1) s.size) 0, .int .i64 (m : Int)]) (by simp [results, Try.results77, go_sem]) rfl ⟨by rw [HR.out, HMV.out], ((Below.refl _ _).alloc (Nat.le_refl _) _).alloc (by simp) _⟩
                · obtain ⟨i, rfl⟩ : ∃ i, j = i + 1 := ⟨j - 1, by omega⟩
                  have hi : i < s.size := by omega
                  have hst := down_step hd
                  have hle := down_le hk9 hst
                  rw [getD_byte hi] at hst hle
                  have hle' : 128 * (m : Int) + (s[i].toNat : Int) % 128 ≤ 9223372036854775807 := by omega
                  have HST := Lib.hid hst
                  clear hst hd hle
                  go_wp2
                  go_round
                  case rel => exact ⟨i, 128 * m + s[i].toNat % 128, by go_num, by omega, by rw [wrap_down (UInt8.toNat_lt _) hle'], HST.out⟩
                  case measure => simp [intOf]
      · have hk9b : ((k : Int) == 9) = true := by simp; omega
        have hks : ((k : Int) == (s.size : Int)) = false := by simp; omega
        have HR := Lib.hid (ref_nine h9 hk HB hlt (by omega))
        go_wp2_with (go_at_call 115; refine (refFail_any _ _).mono ?_; rintro e w2 ⟨rfl, B2⟩; obtain ⟨hcB, hfB⟩ := bcell B2; have hzB := B2.size)
        refine bodyPost_ret (v := .tuple #[rdV ByteArray.empty 3, .int .i64 0]) (by simp [results, Try.results77, go_sem, hcB]) rfl ⟨by rw [HR.out], ?_⟩
        exact ((((Below.refl _ _).alloc (Nat.le_refl _) _).alloc (by simp) _).trans (B2.mono (by simp; omega))).setCell (by simp) _ |>.setCell (by simp) _
    · have hks : ((k : Int) == (s.size : Int)) = true := by simp; omega
      have HR := Lib.hid (ref_short h9 hk HB (by omega))
      go_wp2_with (go_at_call 115; refine (refFail_any _ _).mono ?_; rintro e w2 ⟨rfl, B2⟩; obtain ⟨hcB, hfB⟩ := bcell B2; have hzB := B2.size)
      refine bodyPost_ret (v := .tuple #[rdV ByteArray.empty 5, .int .i64 0]) (by simp [results, Try.results77, go_sem, hcB]) rfl ⟨by rw [HR.out], ?_⟩
      exact ((((Below.refl _ _).alloc (Nat.le_refl _) _).alloc (by simp) _).trans (B2.mono (by simp; omega))).setCell (by simp) _ |>.setCell (by simp) _
end Go.Proofs.Ytcpcdinfagdlhaa


/-
  CONTRACT of the document's reader: Text.
-/
namespace Go.Proofs.Ytcpcdinfagdlhaa
open Go.RowKit

theorem refNumR_any (s : ByteArray) (e : Int) (w : World) (hs : (s.size : Int) ≤ 9000000000000000000) : Calls Try.prog 77 #[rdV s e] w (RdNumPost (rNum s e) w) := by
  by_cases he : e = 0
  · subst he; exact refNumR_ok s w hs
  · exact refNumR_err s e w he

theorem rText_t1 {s : ByteArray} {e m : Int} (h : (rNum s e).2.2 ≠ 0) : rText s e m = (ByteArray.empty, (rNum s e).2) := by
  have : rLen s e m = rNum s e := by unfold rLen; rw [if_neg (fun x => h x.1)]
  unfold rText; rw [this, if_neg h]
theorem rText_t2 {s : ByteArray} {e m : Int} (h : (rNum s e).2.2 = 0) (h2 : m < (rNum s e).1) : rText s e m = (ByteArray.empty, ByteArray.empty, 2) := by
  have : rLen s e m = (0, ByteArray.empty, 2) := by unfold rLen; rw [if_pos ⟨h, h2⟩]
  unfold rText; rw [this]; dsimp only; rw [if_neg (by decide)]
theorem rText_t3 {s : ByteArray} {e m : Int} (h : (rNum s e).2.2 = 0) (h2 : ¬ m < (rNum s e).1) (h3 : ((rNum s e).2.1.size : Int) < (rNum s e).1) : rText s e m = (ByteArray.empty, ByteArray.empty, 5) := by
  have : rLen s e m = rNum s e := by unfold rLen; rw [if_neg (fun x => h2 x.2)]
  unfold rText; rw [this, if_pos h, if_pos h3]
theorem rText_t4 {s : ByteArray} {e m : Int} (h : (rNum s e).2.2 = 0) (h2 : ¬ m < (rNum s e).1) (h3 : ¬ ((rNum s e).2.1.size : Int) < (rNum s e).1) : rText s e m = ((rNum s e).2.1.extract 0 (rNum s e).1.toNat, (rNum s e).2.1.extract (rNum s e).1.toNat (rNum s e).2.1.size, 0) := by
  have : rLen s e m = rNum s e := by unfold rLen; rw [if_neg (fun x => h2 x.2)]
  unfold rText; rw [this, if_pos h, if_neg h3]

def RdTextPost (r : ByteArray × ByteArray × Int) (w : World) (e : Ending) (w' : World) : Prop := e = .returned (.tuple #[rdV r.2.1 r.2.2, .string r.1]) ∧ Below w.heap.size w w'

end Go.Proofs.Ytcpcdinfagdlhaa


/-
  CONTRACTS of the document's reader: Whole, Flag, End, List.
-/
namespace Go.Proofs.Ytcpcdinfagdlhaa
open Go.RowKit

theorem odd_num {n : Int} (h : n % 2 = 1) : unfoldN n = -(n / 2) - 1 := by unfold unfoldN; rw [if_pos h]
theorem even_num {n : Int} (h : ¬ n % 2 = 1) : unfoldN n = n / 2 := by unfold unfoldN; rw [if_neg h]

theorem refEndR_any (s : ByteArray) (e : Int) (w : World) : Calls Try.prog 78 #[rdV s e] w fun en w' => en = .returned (.int .i64 (rEnd s e)) ∧ Below w.heap.size w w' := by
  by_cases he : e = 0
  · subst he
    cases hz : s.toList.isEmpty
    all_goals
      have H : Hid (rEnd s 0 = bif s.toList.isEmpty then 0 else 2) := Lib.hid (by unfold rEnd; rw [if_pos rfl, ByteArray.toList_eq]; cases s.data.toList.isEmpty <;> rfl)
      rw [hz] at H
      go_enter Try.func78, Try.ntmps78
      go_wp2
      go_ret
      exact ⟨by rw [H.out]; rfl, (Below.refl _ _).alloc (Nat.le_refl _) _⟩
  · have d0 : (e == 0) = false := by simpa using he
    have H : Hid (rEnd s e = e) := Lib.hid (by unfold rEnd; rw [if_neg he])
    clear he
    go_enter Try.func78, Try.ntmps78
    go_wp2
    go_ret
    exact ⟨by rw [H.out]; rfl, (Below.refl _ _).alloc (Nat.le_refl _) _⟩

def RdFlagPost (r : Bool × ByteArray × Int) (w : World) (e : Ending) (w' : World) : Prop := e = .returned (.tuple #[rdV r.2.1 r.2.2, .bool r.1]) ∧ Below w.heap.size w w'

end Go.Proofs.Ytcpcdinfagdlhaa
