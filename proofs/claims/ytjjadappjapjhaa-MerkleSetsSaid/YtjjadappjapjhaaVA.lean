/-
  Plain, Num, Write, Texts, Reader, Methods, More, Lists, Ints, ListW, Base, PlainB: one text.
-/
import Derived.Test.YtjjadappjapjhaaRows
import Derived.WalkKit
import Derived.WalkSpells
import Derived.WalkLawsBesides
import Derived.Lib.Hide
import Derived.Laws.IdiomStrings
import Derived.Lib.BufferRead
import Derived.ProofKit
import Derived.OpenShut
/-
  PLAIN MATHEMATICS: the bytes of a number (base 128, the lowest group first, each but the last with 128 added), whole numbers folded into numbers, texts. Nothing here speaks of the program.
-/
namespace Go.Proofs.Ytjjadappjapjhaa

/-- The bytes of a number. -/
def numL (n : Nat) : List UInt8 :=
  if n < 128 then [UInt8.ofNat n] else UInt8.ofNat (n % 128 + 128) :: numL (n / 128)
  termination_by n
  decreasing_by omega

theorem numL_lo {n : Nat} (h : n < 128) : numL n = [UInt8.ofNat n] := by rw [numL, if_pos h]
theorem numL_hi {n : Nat} (h : 128 ≤ n) : numL n = UInt8.ofNat (n % 128 + 128) :: numL (n / 128) := by rw [numL, if_neg (by omega)]

theorem numL_len_pos (n : Nat) : 1 ≤ (numL n).length := by
  rw [numL]; split <;> simp

theorem numL_len_le (k : Nat) : ∀ n : Nat, n < 128 ^ (k + 1) → (numL n).length ≤ k + 1 := by
  induction k with
  | zero => intro n h; rw [numL_lo (by simpa using h)]; simp
  | succ k ih =>
    intro n h
    by_cases hn : n < 128
    · rw [numL_lo hn]; simp
    · rw [numL_hi (by omega), List.length_cons]
      have := ih (n / 128) (by rw [Nat.div_lt_iff_lt_mul (by decide)]; rw [Nat.pow_succ] at h; omega)
      omega

theorem numL_len9 {n : Nat} (h : n < 9223372036854775808) : (numL n).length ≤ 9 := numL_len_le 8 n (by simpa using h)

theorem numL_mono : ∀ (n m : Nat), n ≤ m → (numL n).length ≤ (numL m).length := by
  intro n
  induction n using Nat.strongRecOn with
  | ind n ih =>
    intro m h
    by_cases hn : n < 128
    · rw [numL_lo hn]; have := numL_len_pos m; simpa using this
    · rw [numL_hi (n := n) (by omega), numL_hi (n := m) (by omega)]
      have := ih (n / 128) (by omega) (m / 128) (by omega)
      simpa using this

/-- The bytes of a number as a text. -/
def numS (n : Int) : ByteArray := if n < 0 then ByteArray.empty else ⟨(numL n.toNat).toArray⟩

/-- A whole number folded. -/
def foldZ (z : Int) : Int := if z < 0 then -(2 * z) - 1 else 2 * z
/-- A number unfolded. -/
def unfoldN (n : Int) : Int := if n % 2 = 1 then -(n / 2) - 1 else n / 2
/-- May a whole number be? -/
def mayZ (z : Int) : Bool := decide (-4611686018427387904 ≤ z ∧ z ≤ 4611686018427387903)
def wholeS (z : Int) : ByteArray := if mayZ z then numS (foldZ z) else ByteArray.empty

theorem foldZ_unfoldN (n : Int) (h : 0 ≤ n) : foldZ (unfoldN n) = n := by unfold foldZ unfoldN; split <;> split <;> omega
theorem unfoldN_foldZ (z : Int) : unfoldN (foldZ z) = z := by unfold foldZ unfoldN; split <;> split <;> omega
theorem foldZ_nonneg (z : Int) : 0 ≤ foldZ z := by unfold foldZ; split <;> omega
theorem foldZ_le {z : Int} (h : mayZ z = true) : foldZ z ≤ 9223372036854775807 := by
  unfold mayZ at h; simp at h; unfold foldZ; split <;> omega
theorem mayZ_unfoldN {n : Int} (h0 : 0 ≤ n) (h : n ≤ 9223372036854775807) : mayZ (unfoldN n) = true := by
  unfold mayZ unfoldN; simp; split <;> omega

def textS (s : ByteArray) : ByteArray := numS s.size ++ s

/-- The number at the front of bytes, of which k bytes were read before: what it is, and how many bytes it has; or the error. -/
def scanN : Nat → List UInt8 → Except Int (Nat × Nat)
  | _, [] => .error 5
  | k, c :: r =>
    if k = 9 ∨ (0 < k ∧ c = 0) then .error 3
    else if c < 128 then .ok (c.toNat, 1)
    else match scanN (k + 1) r with
      | .error e => .error e
      | .ok (n, m) => .ok (c.toNat - 128 + 128 * n, m + 1)

/-- What a number is of which j bytes were read, that are worth a. -/
def liftN (j a : Nat) : Except Int (Nat × Nat) → Except Int (Nat × Nat)
  | .error e => .error e
  | .ok (n, m) => .ok (a + 128 ^ j * n, j + m)

theorem liftN_zero (r : Except Int (Nat × Nat)) : liftN 0 0 r = r := by
  cases r with
  | error e => rfl
  | ok p => obtain ⟨n, m⟩ := p; simp [liftN]

theorem scanN_more {k : Nat} {c : UInt8} {r : List UInt8} (h9 : k ≠ 9) (hc : 128 ≤ c.toNat) (a : Nat) : liftN k a (scanN k (c :: r)) = liftN (k + 1) (a + 128 ^ k * (c.toNat - 128)) (scanN (k + 1) r) := by
  have h0 : ¬ (k = 9 ∨ (0 < k ∧ c = 0)) := by
    rintro (h | ⟨_, h⟩)
    · exact h9 h
    · subst h; simp at hc
  have h1 : ¬ c < 128 := by rw [UInt8.lt_iff_toNat_lt]; simpa using hc
  rw [scanN, if_neg h0, if_neg h1]
  cases scanN (k + 1) r with
  | error e => rfl
  | ok p =>
    obtain ⟨n, m⟩ := p
    have e1 : a + 128 ^ k * (c.toNat - 128 + 128 * n) = a + 128 ^ k * (c.toNat - 128) + 128 ^ (k + 1) * n := by
      rw [Nat.pow_succ, Nat.mul_add, Nat.mul_assoc, Nat.add_assoc]
    have e2 : k + (m + 1) = k + 1 + m := by omega
    show Except.ok (a + 128 ^ k * (c.toNat - 128 + 128 * n), k + (m + 1)) = Except.ok (a + 128 ^ k * (c.toNat - 128) + 128 ^ (k + 1) * n, k + 1 + m)
    rw [e1, e2]

theorem scanN_nil (k : Nat) : scanN k [] = .error 5 := rfl
theorem scanN_nine (c : UInt8) (r : List UInt8) : scanN 9 (c :: r) = .error 3 := by rw [scanN, if_pos (.inl rfl)]
theorem scanN_zero {k : Nat} {c : UInt8} {r : List UInt8} (h : 0 < k) (hc : c.toNat = 0) : scanN k (c :: r) = .error 3 := by
  rw [scanN, if_pos (.inr ⟨h, by apply UInt8.toNat_inj.1; simpa using hc⟩)]
theorem scanN_last {k : Nat} {c : UInt8} {r : List UInt8} (h9 : k ≠ 9) (hc : c.toNat < 128) (h : k = 0 ∨ c.toNat ≠ 0) : scanN k (c :: r) = .ok (c.toNat, 1) := by
  have h0 : ¬ (k = 9 ∨ (0 < k ∧ c = 0)) := by
    rintro (h' | ⟨h1, h2⟩)
    · exact h9 h'
    · subst h2; rcases h with h | h
      · omega
      · simp at h
  rw [scanN, if_neg h0, if_pos (by rw [UInt8.lt_iff_toNat_lt]; simpa using hc)]
theorem drop_bytes (s : ByteArray) (j : Nat) (h : j < s.size) : s.data.toList.drop j = s[j] :: s.data.toList.drop (j + 1) := by
  rw [List.drop_eq_getElem_cons (by simpa using h)]; rfl
theorem pow_128 (j : Nat) : 128 ^ j = 2 ^ (7 * j) := by rw [Nat.pow_mul]
theorem pow_128_le {j : Nat} (h : j ≤ 9) : 128 ^ j ≤ 9223372036854775808 := by
  have := Nat.pow_le_pow_right (n := 128) (by decide) h
  simpa using this

/-! ## The reader: what is left, and the first error (0: none) -/
/-- A number is read: its value, what is left, the error. -/
def rNum (s : ByteArray) (e : Int) : Int × ByteArray × Int :=
  if e = 0 then
    match scanN 0 s.data.toList with
    | .error k => (0, ByteArray.empty, k)
    | .ok (n, m) => ((n : Int), s.extract m s.size, 0)
  else (0, s, e)
/-- A whole number is read. -/
def rWhole (s : ByteArray) (e : Int) : Int × ByteArray × Int := (unfoldN (rNum s e).1, (rNum s e).2)
/-- A length is read. -/
def rLen (s : ByteArray) (e : Int) (most : Int) : Int × ByteArray × Int :=
  if (rNum s e).2.2 = 0 ∧ most < (rNum s e).1 then (0, ByteArray.empty, 2) else rNum s e
/-- A flag is read. -/
def rFlag (s : ByteArray) (e : Int) : Bool × ByteArray × Int :=
  if e = 0 then
    match s.data.toList with
    | [] => (false, ByteArray.empty, 5)
    | c :: _ => if c.toNat ≤ 1 then (c.toNat == 1, s.extract 1 s.size, 0) else (false, ByteArray.empty, 3)
  else (false, s, e)
/-- A text is read. -/
def rText (s : ByteArray) (e : Int) (most : Int) : ByteArray × ByteArray × Int :=
  if (rLen s e most).2.2 = 0 then
    if ((rLen s e most).2.1.size : Int) < (rLen s e most).1 then (ByteArray.empty, ByteArray.empty, 5)
    else ((rLen s e most).2.1.extract 0 (rLen s e most).1.toNat, (rLen s e most).2.1.extract (rLen s e most).1.toNat (rLen s e most).2.1.size, 0)
  else (ByteArray.empty, (rLen s e most).2)

theorem scanN_ok : ∀ (l : List UInt8) (k n m : Nat), scanN k l = .ok (n, m) → k ≤ 9 → 1 ≤ m ∧ m ≤ l.length ∧ k + m ≤ 9 ∧ n < 128 ^ m := by
  intro l
  induction l with
  | nil => intro k n m h; cases h
  | cons c r ih =>
    intro k n m h hk
    by_cases h1 : k = 9 ∨ (0 < k ∧ c = 0)
    · rw [scanN, if_pos h1] at h; cases h
    · rw [scanN, if_neg h1] at h
      have hk9 : k < 9 := by omega
      by_cases h2 : c < 128
      · rw [if_pos h2] at h
        cases h
        rw [UInt8.lt_iff_toNat_lt] at h2
        simp at h2
        simp; omega
      · rw [if_neg h2] at h
        cases hr : scanN (k + 1) r with
        | error e => rw [hr] at h; cases h
        | ok p =>
          obtain ⟨n', m'⟩ := p
          rw [hr] at h
          cases h
          have := ih (k + 1) n' m' hr (by omega)
          have hc : c.toNat < 256 := UInt8.toNat_lt c
          refine ⟨by omega, by simp; omega, by omega, ?_⟩
          rw [Nat.pow_succ]
          omega

theorem rNum_val (s : ByteArray) (e : Int) : 0 ≤ (rNum s e).1 ∧ (rNum s e).1 ≤ 9223372036854775807 := by
  unfold rNum
  split
  · split
    · exact ⟨Int.le_refl 0, (by decide : (0 : Int) ≤ 9223372036854775807)⟩
    · rename_i n m h
      have h1 := scanN_ok _ _ _ _ h (by decide)
      have h2 := pow_128_le (j := m) (by omega)
      exact ⟨by simp, by simp only; omega⟩
  · exact ⟨Int.le_refl 0, (by decide : (0 : Int) ≤ 9223372036854775807)⟩
theorem rNum_size (s : ByteArray) (e : Int) : (rNum s e).2.1.size ≤ s.size := by
  unfold rNum
  split
  · split
    · simp
    · simp
  · exact Nat.le_refl _

/-- n whole numbers are read, behind those of acc. -/
def rInts : Nat → List Int → ByteArray → Int → List Int × ByteArray × Int
  | 0, acc, s, e => (acc, s, e)
  | n + 1, acc, s, e =>
    if (rWhole s e).2.2 = 0 then rInts n (acc ++ [(rWhole s e).1]) (rWhole s e).2.1 (rWhole s e).2.2 else ([], (rWhole s e).2)
/-- A list is read. -/
def rList (s : ByteArray) (e : Int) (most : Int) : List Int × ByteArray × Int :=
  rInts (rLen s e most).1.toNat [] (rLen s e most).2.1 (rLen s e most).2.2

theorem rLen_val (s : ByteArray) (e most : Int) : 0 ≤ (rLen s e most).1 ∧ (rLen s e most).1 ≤ 9223372036854775807 := by
  unfold rLen
  split
  · exact ⟨Int.le_refl 0, (by decide : (0 : Int) ≤ 9223372036854775807)⟩
  · exact rNum_val s e
theorem rLen_size (s : ByteArray) (e most : Int) : (rLen s e most).2.1.size ≤ s.size := by
  unfold rLen
  split
  · simp
  · exact rNum_size s e
theorem rLen_err {s : ByteArray} {e most : Int} (h : (rLen s e most).2.2 ≠ 0) : (rLen s e most).1 = 0 := by
  revert h
  unfold rLen
  split
  · intro _; rfl
  · intro h
    unfold rNum at h ⊢
    split
    · rename_i he
      rw [if_pos he] at h
      cases hr : scanN 0 s.data.toList with
      | error k => rfl
      | ok p => rw [hr] at h; exact absurd rfl h
    · rfl
/-- What is read has at least one byte. -/
theorem rNum_less {s : ByteArray} {e : Int} (h : (rNum s e).2.2 = 0) : (rNum s e).2.1.size + 1 ≤ s.size := by
  unfold rNum at h ⊢
  split
  · rename_i he
    rw [if_pos he] at h
    cases hr : scanN 0 s.data.toList with
    | error k =>
      rw [hr] at h
      have hk : ∀ (l : List UInt8) (k : Nat) (e : Int), scanN k l = .error e → e = 5 ∨ e = 3 := by
        intro l
        induction l with
        | nil => intro k e h; cases h; exact .inl rfl
        | cons c r ih =>
          intro k e h
          rw [scanN] at h
          split at h
          · cases h; exact .inr rfl
          · split at h
            · cases h
            · cases hr : scanN (k + 1) r with
              | error e' => rw [hr] at h; cases h; exact ih _ _ hr
              | ok p => rw [hr] at h; cases h
      have := hk _ _ _ hr
      simp at h
      omega
    | ok p =>
      obtain ⟨n, m⟩ := p
      have := scanN_ok _ _ _ _ hr (by decide)
      have h1 : m ≤ s.size := by simpa using this.2.1
      simp
      omega
  · rename_i he
    rw [if_neg he] at h
    exact absurd h he

theorem ofNat_lo {n : Nat} (h : n < 128) : (UInt8.ofNat n).toNat = n := by simp; omega
theorem ofNat_hi (n : Nat) : (UInt8.ofNat (n % 128 + 128)).toNat = n % 128 + 128 := by simp; omega
theorem numL_inj : ∀ (n m : Nat), numL n = numL m → n = m := by
  intro n
  induction n using Nat.strongRecOn with
  | ind n ih =>
    intro m h
    by_cases hn : n < 128
    · by_cases hm : m < 128
      · rw [numL_lo hn, numL_lo hm] at h
        injection h with h _
        have := congrArg UInt8.toNat h
        rw [ofNat_lo hn, ofNat_lo hm] at this
        exact this
      · rw [numL_lo hn, numL_hi (by omega)] at h
        injection h with h _
        have := congrArg UInt8.toNat h
        rw [ofNat_lo hn, ofNat_hi] at this
        omega
    · by_cases hm : m < 128
      · rw [numL_hi (by omega), numL_lo hm] at h
        injection h with h _
        have := congrArg UInt8.toNat h
        rw [ofNat_lo hm, ofNat_hi] at this
        omega
      · rw [numL_hi (by omega), numL_hi (n := m) (by omega)] at h
        injection h with h1 h2
        have h3 := congrArg UInt8.toNat h1
        rw [ofNat_hi, ofNat_hi] at h3
        have h4 := ih (n / 128) (by omega) (m / 128) h2
        omega

end Go.Proofs.Ytjjadappjapjhaa


/-
  CONTRACTS of the functions that write numbers (packages vint and spliceref01).
-/
namespace Go.Proofs.Ytjjadappjapjhaa
open Go.RowKit

theorem Try.infoByte : (Try.prog.info? 5).map (fun i => (i.zero, i.size, i.bytes)) = some (some (.int .u8 0), 1, 1) := by kernel_rfl

/-- The cells of bytes. -/
def cellsB (l : List UInt8) : List Value := l.map fun c => Value.int .u8 (c.toNat : Int)
/-- The value v is a row of bytes of the call's own. -/
def OwnsB (w : World) (base : Nat) (v : Value) (l : List UInt8) : Prop := w.ownsRow base 5 1 v l.length (cellsB l)

theorem OwnsB.push {w : World} {base : Nat} {v : Value} {l : List UInt8} {x : Int} {c : UInt8} (h : w.ownsRow base 5 1 v (l.length + 1) (cellsB l ++ [.int .u8 x])) (hx : x = c.toNat) : OwnsB w base v (l ++ [c]) := by
  unfold OwnsB cellsB at *
  rw [List.length_append, List.map_append]
  subst hx
  exact h

def AppendPost (base : Nat) (w : World) (l : List UInt8) (e : Ending) (w' : World) : Prop :=
  ∃ v', e = .returned v' ∧ OwnsB w' base v' l ∧ Below base w w'

/-- 'string(b)' of a row of bytes of the call's own. -/
theorem OwnsB.str {w : World} {base : Nat} {v : Value} {l : List UInt8} (h : OwnsB w base v l) :
    (convert 81 9 v).run Try.prog w = .ok (.string ⟨l.toArray⟩) w := by
  rcases h.2 with ⟨rfl, hn⟩ | ⟨g, cap, cur, rfl, _⟩
  · have : l = [] := List.eq_nil_of_length_eq_zero hn
    subst this
    exact Lib.run_convert_nil_bytes w _ _ _ 0 Try.underlying81 Try.underlying5 Try.underlying9
  · refine run_convert_bytes_back w _ _ _ _ cap l Try.underlying81 Try.underlying5 Try.underlying9 ?_
    intro j hj
    exact World.ownsRow.cells (g := g) h rfl j _ (by simp [cellsB, List.getElem?_eq_getElem hj])

theorem OwnsB.nil (w : World) (base : Nat) : OwnsB w base (.slice none 0 0) [] := World.ownsRow_nil w base _ 1

def StrPost (s : ByteArray) (w : World) (e : Ending) (w' : World) : Prop := e = .returned (.string s) ∧ Below w.heap.size w w'

theorem numS_neg {n : Int} (h : n < 0) : numS n = ByteArray.empty := by unfold numS; rw [if_pos h]
theorem numS_nat {n : Int} (h : 0 ≤ n) : numS n = ⟨(numL n.toNat).toArray⟩ := by unfold numS; rw [if_neg (by omega)]

end Go.Proofs.Ytjjadappjapjhaa


/-
  CONTRACTS of the functions that write whole numbers, flags and texts (packages vint and spliceref01), and of the document's own Num.
-/
namespace Go.Proofs.Ytjjadappjapjhaa
open Go.RowKit

theorem not_i64 (z : Int) (h1 : -9223372036854775808 ≤ z) (h2 : z ≤ 9223372036854775807) : bits .xor .i64 (-1) z = -z - 1 := by
  show IntKind.i64.wrap ((BitVec.ofInt 64 (-1) ^^^ BitVec.ofInt 64 z).toNat : Int) = _
  rw [show BitVec.ofInt 64 (-1) = BitVec.allOnes 64 from rfl, BitVec.allOnes_xor, BitVec.toNat_not, BitVec.toNat_ofInt]
  simp only [IntKind.wrap, IntKind.bits, IntKind.signed]
  simp
  omega

theorem wholeS_yes {z : Int} (h : mayZ z = true) : wholeS z = ⟨(numL (foldZ z).toNat).toArray⟩ := by
  unfold wholeS; rw [if_pos h, numS_nat (foldZ_nonneg z)]
theorem wholeS_no {z : Int} (h : mayZ z = false) : wholeS z = ByteArray.empty := by
  unfold wholeS; rw [if_neg (by rw [h]; decide)]

end Go.Proofs.Ytjjadappjapjhaa


/-
  CONTRACTS of the writers of whole numbers (the document's), flags and texts.
-/
namespace Go.Proofs.Ytjjadappjapjhaa
open Go.RowKit

theorem foldZ_neg {z : Int} (h : z < 0) : foldZ z = -z - z - 1 := by unfold foldZ; rw [if_pos h]; omega
theorem foldZ_pos {z : Int} (h : 0 ≤ z) : foldZ z = z + z := by unfold foldZ; rw [if_neg (by omega)]; omega
theorem wholeS_may {z : Int} (h : mayZ z = true) : wholeS z = numS (foldZ z) := by unfold wholeS; rw [if_pos h]

def flagS (b : Bool) : ByteArray := if b then ⟨#[1]⟩ else ⟨#[0]⟩

theorem numS_size_le (n : Int) (h : n ≤ 9223372036854775807) : (numS n).size ≤ 9 := by
  unfold numS; split
  · simp
  · have := numL_len9 (n := n.toNat) (by omega)
    simpa [ByteArray.size] using this

end Go.Proofs.Ytjjadappjapjhaa


/-
  CONTRACTS of vint's reader: one that stands, and the nil one.
-/
namespace Go.Proofs.Ytjjadappjapjhaa
open Go.RowKit

/-- What 'number' answers. -/
def numberV : Except Int (Nat × Nat) → Value
  | .error e => .tuple #[.int .i64 0, .int .i64 0, .int .i64 e]
  | .ok (n, m) => .tuple #[.int .i64 (n : Int), .int .i64 (m : Int), .int .i64 0]


theorem orShift (x c j : Nat) (hj : j < 9) (hx : x < 128 ^ j) (hc : c < 128) : bits .or .i64 (x : Int) (wrap64 ((c : Int) * 2 ^ (7 * j))) = ((x + 128 ^ j * c : Nat) : Int) ∧ x + 128 ^ j * c < 128 ^ (j + 1) := by
  have h1 : 128 ^ (j + 1) ≤ 9223372036854775808 := pow_128_le (by omega)
  have h2 : x + 128 ^ j * c < 128 ^ (j + 1) := by
    rw [Nat.pow_succ]
    have : 128 ^ j * c ≤ 128 ^ j * 127 := Nat.mul_le_mul_left _ (by omega)
    omega
  refine ⟨?_, h2⟩
  have e : ((c : Int) * 2 ^ (7 * j)) = ((128 ^ j * c : Nat) : Int) := by
    rw [pow_128, Int.natCast_mul, Int.mul_comm]; simp
  have hw : wrap64 ((128 ^ j * c : Nat) : Int) = ((128 ^ j * c : Nat) : Int) := by
    generalize 128 ^ j * c = y at *
    unfold wrap64; omega
  rw [e, hw]
  have hor : 128 ^ j * c ||| x = x + 128 ^ j * c := by
    rw [pow_128] at hx ⊢
    rw [← Nat.two_pow_add_eq_or_of_lt hx c, Nat.add_comm]
  show IntKind.i64.wrap ((BitVec.ofInt 64 (x : Int) ||| BitVec.ofInt 64 ((128 ^ j * c : Nat) : Int)).toNat : Int) = _
  have ha : (BitVec.ofInt 64 (x : Int)).toNat = x := by rw [BitVec.ofInt_natCast, BitVec.toNat_ofNat]; exact Nat.mod_eq_of_lt (by omega)
  have hb : (BitVec.ofInt 64 ((128 ^ j * c : Nat) : Int)).toNat = 128 ^ j * c := by rw [BitVec.ofInt_natCast, BitVec.toNat_ofNat]; exact Nat.mod_eq_of_lt (by omega)
  rw [BitVec.toNat_or, ha, hb, Nat.or_comm, hor]
  generalize x + 128 ^ j * c = y at *
  simp only [IntKind.wrap, IntKind.bits, IntKind.signed]
  simp
  omega

section
variable {s : ByteArray} {j x : Nat} (HE : Hid (liftN j x (scanN j (s.data.toList.drop j)) = scanN 0 s.data.toList))
include HE
theorem fin_short (h : s.size ≤ j) : scanN 0 s.data.toList = .error 5 := by
  rw [← HE.out, List.drop_eq_nil_of_le (by simpa using h)]; rfl
theorem fin_nine (h : j < s.size) (h9 : j = 9) : scanN 0 s.data.toList = .error 3 := by
  rw [← HE.out, drop_bytes s j h]; subst h9; rw [scanN_nine]; rfl
theorem fin_form (h : j < s.size) (h0 : 0 < j) (ht : ((s[j].toNat : Int) == 0) = true) : scanN 0 s.data.toList = .error 3 := by
  rw [← HE.out, drop_bytes s j h, scanN_zero h0 (by simpa using ht)]; rfl
theorem fin_last (h : j < s.size) (h9 : j < 9) (HX : Hid (x < 128 ^ j)) (hc : (s[j].toNat : Int) < 128) (h0 : j = 0 ∨ ((s[j].toNat : Int) == 0) = false) :
    Value.tuple #[.int .i64 (bits .or .i64 (x : Int) (wrap64 ((s[j].toNat : Int) * 2 ^ (7 * j)))), .int .i64 ((j : Int) + 1), .int .i64 0] = numberV (scanN 0 s.data.toList) := by
  rw [← HE.out, drop_bytes s j h, scanN_last (by omega) (by omega) (by simpa using h0), (orShift x _ j h9 HX.out (by omega)).1]
  rfl
theorem fin_round (h : j < s.size) (h9 : j < 9) (HX : Hid (x < 128 ^ j)) (hc : 128 ≤ (s[j].toNat : Int)) :
    bits .or .i64 (x : Int) (wrap64 (((s[j].toNat : Int) - 128) % 256 * 2 ^ (7 * j))) = ((x + 128 ^ j * (s[j].toNat - 128) : Nat) : Int) ∧
    x + 128 ^ j * (s[j].toNat - 128) < 128 ^ (j + 1) ∧ liftN (j + 1) (x + 128 ^ j * (s[j].toNat - 128)) (scanN (j + 1) (s.data.toList.drop (j + 1))) = scanN 0 s.data.toList := by
  have hu : s[j].toNat < 256 := UInt8.toNat_lt _
  have e : ((s[j].toNat : Int) - 128) % 256 = ((s[j].toNat - 128 : Nat) : Int) := by omega
  have ho := orShift x (s[j].toNat - 128) j h9 HX.out (by omega)
  rw [e]
  exact ⟨ho.1, ho.2, by rw [← HE.out, drop_bytes s j h, scanN_more (by omega) (by omega)]⟩
end

end Go.Proofs.Ytjjadappjapjhaa


/-
  CONTRACTS of the methods of vint's reader: what each answers, what is left, the first error.
-/
namespace Go.Proofs.Ytjjadappjapjhaa
open Go.RowKit

section
variable {w w' w'' : World} {g : Nat} {s s' : ByteArray} {e e' : Int}
theorem grown_setCell (w : World) (p : Addr) (u : Value) : w.grownBy (w.setCell p u) (some p.block) :=
  ⟨rfl, rfl, rfl, by simp [World.setCell], fun k _ hk => Below.heap_setCell w p u k (fun e => hk (by rw [e]))⟩
theorem grown_trans {row : Option Nat} (h : w.grownBy w' row) (h' : w'.grownBy w'' row) : w.grownBy w'' row :=
  ⟨h'.os.trans h.os, h'.tape.trans h.tape, h'.output.trans h.output, Nat.le_trans h.size h'.size, fun k hk hr => (h'.block k (by have := h.size; omega) hr).trans (h.block k hk hr)⟩
end

/-- The first error, or that bytes are left. -/
def rEnd (s : ByteArray) (e : Int) : Int := if e = 0 then (if s.data.toList.isEmpty then 0 else 2) else e
theorem rNum_bad {s : ByteArray} {e k : Int} (he : e = 0) (h : scanN 0 s.data.toList = .error k) : rNum s e = (0, ByteArray.empty, k) := by
  unfold rNum; rw [if_pos he, h]
theorem rNum_good {s : ByteArray} {e : Int} {n m : Nat} (he : e = 0) (h : scanN 0 s.data.toList = .ok (n, m)) : rNum s e = ((n : Int), s.extract m s.size, 0) := by
  unfold rNum; rw [if_pos he, h]
theorem rNum_err {s : ByteArray} {e : Int} (he : e ≠ 0) : rNum s e = (0, s, e) := by
  unfold rNum; rw [if_neg he]
theorem scanN_err : ∀ (l : List UInt8) (k : Nat) (e : Int), scanN k l = .error e → e = 5 ∨ e = 3 := by
  intro l
  induction l with
  | nil => intro k e h; cases h; exact .inl rfl
  | cons c r ih =>
    intro k e h
    rw [scanN] at h
    split at h
    · cases h; exact .inr rfl
    · split at h
      · cases h
      · cases hr : scanN (k + 1) r with
        | error e' => rw [hr] at h; cases h; exact ih _ _ hr
        | ok p => rw [hr] at h; cases h

end Go.Proofs.Ytjjadappjapjhaa


/-
  CONTRACTS of more methods of vint's reader: whole numbers, flags, lengths, texts.
-/
namespace Go.Proofs.Ytjjadappjapjhaa
open Go.RowKit

theorem rFlag_end {s : ByteArray} (h : s.size = 0) : rFlag s 0 = (false, ByteArray.empty, 5) := by
  unfold rFlag
  have : s.data.toList = [] := List.eq_nil_of_length_eq_zero (by simpa using h)
  rw [if_pos rfl, this]
theorem rFlag_at {s : ByteArray} (h : 0 < s.size) : rFlag s 0 = if s[0].toNat ≤ 1 then (s[0].toNat == 1, s.extract 1 s.size, 0) else (false, ByteArray.empty, 3) := by
  have := drop_bytes s 0 h
  rw [List.drop_zero] at this
  unfold rFlag
  rw [if_pos rfl, this]

end Go.Proofs.Ytjjadappjapjhaa


/-
  CONTRACTS of vint's reader: texts, lists, and what the nil reader answers.
-/
namespace Go.Proofs.Ytjjadappjapjhaa
open Go.RowKit

end Go.Proofs.Ytjjadappjapjhaa


/-
  CONTRACTS over lists of whole numbers: vint's List (written), the reader's List (read), the document's List.
-/
namespace Go.Proofs.Ytjjadappjapjhaa
open Go.RowKit

theorem Try.infoInt : (Try.prog.info? 3).map (fun i => (i.zero, i.size, i.bytes)) = some (some (.int .i64 0), 1, 8) := by kernel_rfl

/-- The value v is a row of whole numbers of the call's own. -/
def OwnsI (w : World) (base : Nat) (v : Value) (l : List Int) : Prop := w.ownsRow base 3 1 v l.length (l.map (Value.int .i64))
theorem OwnsI.nil (w : World) (base : Nat) : OwnsI w base (.slice none 0 0) [] := World.ownsRow_nil w base _ 1
theorem OwnsI.push {w : World} {base : Nat} {v : Value} {l : List Int} {x : Int} (h : w.ownsRow base 3 1 v (l.length + 1) (l.map (Value.int .i64) ++ [.int .i64 x])) : OwnsI w base v (l ++ [x]) := by
  unfold OwnsI
  rw [List.length_append, List.map_append]
  exact h

theorem grown_over {w0 w1 w2 : World} {g : Nat} {row : Option Nat} (h : w0.grownBy w1 (some g)) (h2 : w1.grownBy w2 row) (hr : ∀ k, row = some k → w0.heap.size ≤ k) : w0.grownBy w2 (some g) :=
  ⟨h2.os.trans h.os, h2.tape.trans h.tape, h2.output.trans h.output, Nat.le_trans h.size h2.size, fun k hk hg =>
    (h2.block k (by have := h.size; omega) (fun e => by have := hr k e.symm; omega)).trans (h.block k hk hg)⟩

theorem rWhole_size (s : ByteArray) (e : Int) : (rWhole s e).2.1.size ≤ s.size := rNum_size s e
theorem rWhole_less {s : ByteArray} {e : Int} (h : (rWhole s e).2.2 = 0) : (rWhole s e).2.1.size + 1 ≤ s.size := rNum_less h

theorem rInts_go {n : Nat} {acc : List Int} {s : ByteArray} {e : Int} (h : (rWhole s e).2.2 = 0) : rInts (n + 1) acc s e = rInts n (acc ++ [(rWhole s e).1]) (rWhole s e).2.1 (rWhole s e).2.2 := by
  rw [rInts, if_pos h]
theorem rInts_stop {n : Nat} {acc : List Int} {s : ByteArray} {e : Int} (h : (rWhole s e).2.2 ≠ 0) : rInts (n + 1) acc s e = ([], (rWhole s e).2) := by
  rw [rInts, if_neg h]

/-- The whole numbers zs lie where the slice value leads. -/
def IntsIn (w : World) (a : Option Addr) (zs : List Int) : Prop :=
  zs = [] ∨ ∃ b off, a = some ⟨b, off, none⟩ ∧ b < w.heap.size ∧ ∀ k, k < zs.length → w.cell? ⟨b, off + k, none⟩ = some (.int .i64 (zs.getD k 0))

/-- The bytes of a list, behind its length. -/
def wholesL : List Int → List UInt8
  | [] => []
  | z :: r => numL (foldZ z).toNat ++ wholesL r
def listS (l : List Int) : ByteArray := if l.all mayZ then ⟨(numL l.length ++ wholesL l).toArray⟩ else ByteArray.empty
end Go.Proofs.Ytjjadappjapjhaa


/-
  CONTRACTS of the writers of lists: vint's List and the document's.
-/
namespace Go.Proofs.Ytjjadappjapjhaa
open Go.RowKit

theorem wholesL_snoc (l : List Int) (z : Int) : wholesL (l ++ [z]) = wholesL l ++ numL (foldZ z).toNat := by
  induction l with
  | nil => simp [wholesL]
  | cons a r ih => simp [wholesL, ih]
theorem wholesL_len (l : List Int) (h : ∀ z ∈ l, mayZ z = true) : (wholesL l).length ≤ 9 * l.length := by
  induction l with
  | nil => simp [wholesL]
  | cons a r ih =>
    have h1 := foldZ_le (h a (by simp))
    have h2 := numL_len9 (n := (foldZ a).toNat) (by have := foldZ_nonneg a; omega)
    have h3 := ih (fun z hz => h z (by simp [hz]))
    simp [wholesL]
    omega
theorem take_more1 {zs : List Int} {k : Nat} (h : k < zs.length) : zs.take (k + 1) = zs.take k ++ [zs.getD k 0] := by
  rw [List.take_succ_eq_append_getElem h]; simp [List.getD, List.getElem?_eq_getElem h]
theorem listS_yes {zs : List Int} (h : ∀ z ∈ zs, mayZ z = true) : listS zs = ⟨(numL zs.length ++ wholesL zs).toArray⟩ := by
  unfold listS; rw [if_pos (by simpa using h)]
theorem listS_no {zs : List Int} {k : Nat} (hk : k < zs.length) (h : mayZ (zs.getD k 0) = false) : listS zs = ByteArray.empty := by
  unfold listS; rw [if_neg]
  intro hall
  have := List.all_eq_true.1 hall (zs.getD k 0) (by simp [List.getD, List.getElem?_eq_getElem hk])
  rw [h] at this; cases this

end Go.Proofs.Ytjjadappjapjhaa


/-
  SMALL WORDS: what a law's walk ends in; worlds one behind the other; a slice of integers that came in.
-/
namespace Go.Proofs.Ytjjadappjapjhaa
open Go.RowKit

def TruePost1 (w : World) (e : Ending) (w' : World) : Prop := e = .returned (.bool true) ∧ Below w.heap.size w w'

theorem below_add {B : Nat} {w w1 w2 : World} (h : Below B w w1) (hB : B ≤ w1.heap.size) (h2 : Below w1.heap.size w1 w2) : Below B w w2 := h.trans (h2.mono hB)
/-- One step more, from the world's own size. -/
theorem below_next1 {w w1 w2 : World} (h : Below w.heap.size w w1) (h2 : Below w1.heap.size w1 w2) : Below w.heap.size w w2 := h.trans (h2.mono h.size)

/-- What a walk is told of a slice of integers that came in: its len elements are zs. -/
def IntsArg (w : World) (a : Option Addr) (len : Nat) (zs : List Int) : Prop :=
  zs.length = len ∧ IntsIn w a zs ∧ (∀ z ∈ zs, -9223372036854775808 ≤ z ∧ z ≤ 9223372036854775807) ∧ (zs.length : Int) ≤ 9223372036854775807
theorem IntsArg.nil (w : World) (a : Option Addr) : IntsArg w a 0 [] := ⟨rfl, .inl rfl, by simp, by simp⟩
theorem IntsArg.of_row {w : World} {x : Addr} {len cap : Nat} {zs : List Int} (hl : len ≤ cap) (hm : cap ≤ maxLen) (hz : zs.length = cap)
    (hcell : ∀ i, i < zs.length → w.cell? (x.add i) = some (.int .i64 (zs.getD i 0))) (hwz : ∀ n ∈ zs, (Lit.int .i64 n).wf = true) : IntsArg w (some x) len (zs.take len) := by
  refine ⟨by rw [List.length_take]; omega, ?_, fun z h => bounds_i64 (hwz z (List.mem_of_mem_take h)), by rw [List.length_take]; unfold maxLen at hm; omega⟩
  by_cases h0 : len = 0
  · subst h0; exact .inl (by simp)
  · refine .inr ?_
    obtain ⟨b, off, spot⟩ := x
    have hc := hcell 0 (by omega)
    have hspot : spot = none := by simpa [Addr.add] using World.cell?_spot hc
    subst hspot
    refine ⟨b, off, rfl, World.block_lt_of_cell? w _ (by simpa [Addr.add] using hc), fun k hk => ?_⟩
    rw [List.length_take] at hk
    have h1 := hcell k (by omega)
    have h2 : (zs.take len).getD k 0 = zs.getD k 0 := by
      simp only [List.getD, List.getElem?_take]
      rw [if_pos (by omega)]
    rw [h2, ← h1]
    by_cases hk0 : k = 0
    · subst hk0; simp [Addr.add]
    · simp [Addr.add, hk0]

theorem IntsIn.below {w w' : World} {a : Option Addr} {zs : List Int} (h : IntsIn w a zs) (hb : Below w.heap.size w w') : IntsIn w' a zs := by
  rcases h with h | ⟨b, off, ha, hlt, hc⟩
  · exact .inl h
  · exact .inr ⟨b, off, ha, Nat.lt_of_lt_of_le hlt hb.size, fun k hk => (hb.cell (by exact hlt)).trans (hc k hk)⟩

end Go.Proofs.Ytjjadappjapjhaa


/-
  PLAIN MATHEMATICS: what is written is read, and in one way alone.
-/
namespace Go.Proofs.Ytjjadappjapjhaa

theorem ba_ext {a b : ByteArray} (h : a.data.toList = b.data.toList) : a = b := ByteArray.ext (Array.toList_inj.1 h)
theorem ba_app (a b : ByteArray) : (a ++ b).data.toList = a.data.toList ++ b.data.toList := by rw [ByteArray.data_append]; simp
theorem ba_drop (s : ByteArray) (m : Nat) : (s.extract m s.size).data.toList = s.data.toList.drop m := by
  rw [ByteArray.data_extract, Array.toList_extract, List.extract_eq_take_drop]
  exact List.take_of_length_le (by simp)
theorem ba_take (s : ByteArray) (m : Nat) : (s.extract 0 m).data.toList = s.data.toList.take m := by
  rw [ByteArray.data_extract, Array.toList_extract, List.extract_eq_take_drop]
  simp
theorem ba_size (s : ByteArray) : s.size = s.data.toList.length := by rw [Array.length_toList]; rfl
theorem ba_split (s : ByteArray) (m : Nat) : s.extract 0 m ++ s.extract m s.size = s := by
  apply ba_ext
  rw [ba_app, ba_drop, ba_take, List.take_append_drop]
theorem ba_assoc (a b c : ByteArray) : a ++ b ++ c = a ++ (b ++ c) := by
  apply ba_ext
  simp only [ba_app, List.append_assoc]
theorem ba_front (a b : ByteArray) : (a ++ b).extract a.size (a ++ b).size = b := by
  apply ba_ext
  rw [ba_drop, ba_app, ba_size, List.drop_left]
theorem ba_head (a b : ByteArray) : (a ++ b).extract 0 a.size = a := by
  apply ba_ext
  rw [ba_take, ba_app, ba_size, List.take_left]

theorem numS_list {n : Int} (h : 0 ≤ n) : (numS n).data.toList = numL n.toNat := by rw [numS_nat h]
theorem numS_len {n : Int} (h : 0 ≤ n) : (numS n).size = (numL n.toNat).length := by rw [ba_size, numS_list h]

/-! ## What is read, written again, are the bytes that were read -/
theorem scanN_once : ∀ (l : List UInt8) (k n m : Nat), scanN k l = .ok (n, m) → k ≤ 9 → numL n = l.take m ∧ (0 < k → n ≠ 0) := by
  intro l
  induction l with
  | nil => intro k n m h; cases h
  | cons c r ih =>
    intro k n m h hk
    by_cases h1 : k = 9 ∨ (0 < k ∧ c = 0)
    · rw [scanN, if_pos h1] at h; cases h
    · rw [scanN, if_neg h1] at h
      by_cases h2 : c < 128
      · rw [if_pos h2] at h
        cases h
        have hc : c.toNat < 128 := by rw [UInt8.lt_iff_toNat_lt] at h2; simpa using h2
        refine ⟨by rw [numL_lo hc]; simp, fun h0 e => h1 (.inr ⟨h0, ?_⟩)⟩
        apply UInt8.toNat_inj.1
        simpa using e
      · rw [if_neg h2] at h
        have hc : 128 ≤ c.toNat := by rw [UInt8.lt_iff_toNat_lt] at h2; simpa using h2
        cases hr : scanN (k + 1) r with
        | error e => rw [hr] at h; cases h
        | ok p =>
          obtain ⟨n', m'⟩ := p
          rw [hr] at h
          cases h
          obtain ⟨i1, i2⟩ := ih (k + 1) n' m' hr (by omega)
          have h3 := i2 (by omega)
          have hc' : c.toNat < 256 := UInt8.toNat_lt c
          refine ⟨?_, fun _ => by omega⟩
          rw [numL_hi (by omega), show (c.toNat - 128 + 128 * n') / 128 = n' by omega, show (c.toNat - 128 + 128 * n') % 128 + 128 = c.toNat by omega, i1]
          simp

theorem rNum_form {s : ByteArray} {e : Int} (h : (rNum s e).2.2 = 0) : ∃ n m, scanN 0 s.data.toList = .ok (n, m) ∧ rNum s e = ((n : Int), s.extract m s.size, 0) := by
  by_cases he : e = 0
  · cases hr : scanN 0 s.data.toList with
    | error k =>
      rw [rNum_bad he hr] at h
      rcases scanN_err _ _ _ hr with rfl | rfl <;> cases h
    | ok p => exact ⟨p.1, p.2, rfl, rNum_good he hr⟩
  · rw [rNum_err he] at h; exact absurd h he

theorem rNum_once {s : ByteArray} {e : Int} (h : (rNum s e).2.2 = 0) : numS (rNum s e).1 ++ (rNum s e).2.1 = s := by
  obtain ⟨n, m, hr, heq⟩ := rNum_form h
  rw [heq]
  obtain ⟨i1, _⟩ := scanN_once _ _ _ _ hr (by decide)
  apply ba_ext
  rw [ba_app, numS_list (by simp), Int.toNat_natCast, i1]
  show _ ++ (s.extract m s.size).data.toList = _
  rw [ba_drop, List.take_append_drop]

theorem rWhole_once {s : ByteArray} {e : Int} (h : (rWhole s e).2.2 = 0) : wholeS (rWhole s e).1 ++ (rWhole s e).2.1 = s := by
  have hv := rNum_val s e
  have h1 : wholeS (rWhole s e).1 = numS (rNum s e).1 := by
    show wholeS (unfoldN (rNum s e).1) = _
    rw [wholeS_may (mayZ_unfoldN hv.1 hv.2), foldZ_unfoldN _ hv.1]
  rw [h1]
  exact rNum_once h
theorem rWhole_may (s : ByteArray) (e : Int) : mayZ (rWhole s e).1 = true := mayZ_unfoldN (rNum_val s e).1 (rNum_val s e).2

theorem rLen_once {s : ByteArray} {e most : Int} (h : (rLen s e most).2.2 = 0) : rLen s e most = rNum s e ∧ (rNum s e).1 ≤ most := by
  unfold rLen at h ⊢
  split
  · rename_i hc
    rw [if_pos hc] at h
    cases h
  · rename_i hc
    rw [if_neg hc] at h
    exact ⟨rfl, by omega⟩

theorem rText_once {s : ByteArray} {e most : Int} (h : (rText s e most).2.2 = 0) : textS (rText s e most).1 ++ (rText s e most).2.1 = s := by
  unfold rText at h ⊢
  by_cases h1 : (rLen s e most).2.2 = 0
  · rw [if_pos h1] at h ⊢
    by_cases h2 : ((rLen s e most).2.1.size : Int) < (rLen s e most).1
    · rw [if_pos h2] at h; cases h
    · rw [if_neg h2]
      obtain ⟨h3, _⟩ := rLen_once h1
      rw [h3] at h1 h2 ⊢
      have hv := rNum_val s e
      have ho := rNum_once h1
      have hsz : (((rNum s e).2.1.extract 0 (rNum s e).1.toNat).size : Int) = (rNum s e).1 := by
        rw [ba_size, ba_take, List.length_take, ← ba_size]
        omega
      show textS ((rNum s e).2.1.extract 0 (rNum s e).1.toNat) ++ (rNum s e).2.1.extract (rNum s e).1.toNat (rNum s e).2.1.size = s
      unfold textS
      rw [hsz, ba_assoc, ba_split]
      exact ho
  · rw [if_neg h1] at h; exact absurd h h1

theorem rInts_once : ∀ (n : Nat) (acc : List Int) (s : ByteArray) (e : Int), (rInts n acc s e).2.2 = 0 → e = 0 →
    ∃ zs, (rInts n acc s e).1 = acc ++ zs ∧ zs.length = n ∧ (∀ z ∈ zs, mayZ z = true) ∧ wholesL zs ++ (rInts n acc s e).2.1.data.toList = s.data.toList := by
  intro n
  induction n with
  | zero => intro acc s e h he; exact ⟨[], by simp [rInts], rfl, by simp, by simp [rInts, wholesL]⟩
  | succ n ih =>
    intro acc s e h he
    by_cases h1 : (rWhole s e).2.2 = 0
    · rw [rInts_go h1] at h ⊢
      obtain ⟨zs, a1, a2, a3, a4⟩ := ih _ _ _ h h1
      refine ⟨(rWhole s e).1 :: zs, by rw [a1]; simp, by simp [a2], ?_, ?_⟩
      · intro z hz
        rcases List.mem_cons.1 hz with rfl | hz
        · exact rWhole_may s e
        · exact a3 z hz
      · rw [wholesL, List.append_assoc, a4]
        have := congrArg (fun b => b.data.toList) (rWhole_once h1)
        simp only [ba_app] at this
        rw [wholeS_yes (rWhole_may s e)] at this
        exact this
    · rw [rInts_stop h1] at h; exact absurd h h1

theorem rList_once {s : ByteArray} {e most : Int} (h : (rList s e most).2.2 = 0) : listS (rList s e most).1 ++ (rList s e most).2.1 = s := by
  by_cases h1 : (rLen s e most).2.2 = 0
  · unfold rList at h ⊢
    obtain ⟨zs, a1, a2, a3, a4⟩ := rInts_once _ _ _ _ h h1
    rw [a1, List.nil_append]
    obtain ⟨h3, _⟩ := rLen_once h1
    rw [h3] at h1 a2 a4
    have hv := rNum_val s e
    have ho := congrArg (fun b => b.data.toList) (rNum_once h1)
    simp only [ba_app] at ho
    have hz : numL (rNum s e).1.toNat = numL zs.length := by rw [a2]
    rw [numS_list hv.1, hz, ← a4, ← List.append_assoc] at ho
    apply ba_ext
    rw [ba_app, ← ho]
    unfold listS
    rw [if_pos (by simpa using a3), h3]
  · have h0 := rLen_err h1
    unfold rList at h
    rw [h0] at h
    exact absurd h h1
theorem rList_len {s : ByteArray} {e most : Int} (h : (rList s e most).2.2 = 0) (hm : 0 ≤ most) : ((rList s e most).1.length : Int) ≤ most := by
  by_cases h1 : (rLen s e most).2.2 = 0
  · unfold rList at h ⊢
    obtain ⟨zs, a1, a2, _, _⟩ := rInts_once _ _ _ _ h h1
    rw [a1, List.nil_append, a2]
    obtain ⟨h3, h4⟩ := rLen_once h1
    rw [h3]
    omega
  · have h0 := rLen_err h1
    unfold rList
    rw [h0]
    simpa [rInts] using hm

/-! ## What is written is read -/
theorem scanN_back : ∀ (n k : Nat) (r : List UInt8), k + (numL n).length ≤ 9 → (k = 0 ∨ n ≠ 0) → scanN k (numL n ++ r) = .ok (n, (numL n).length) := by
  intro n
  induction n using Nat.strongRecOn with
  | ind n ih =>
    intro k r hk h0
    have hp := numL_len_pos n
    by_cases hn : n < 128
    · rw [numL_lo hn] at hk ⊢
      have hu : (UInt8.ofNat n).toNat = n := ofNat_lo hn
      rw [List.singleton_append, scanN_last (by simp at hk; omega) (by rw [hu]; exact hn) (by rw [hu]; exact h0), hu]
      rfl
    · rw [numL_hi (by omega)] at hk ⊢
      have hu := ofNat_hi n
      simp only [List.length_cons] at hk
      have := ih (n / 128) (by omega) (k + 1) r (by omega) (.inr (by omega))
      rw [List.cons_append, scanN]
      have hne : ¬ (k = 9 ∨ 0 < k ∧ UInt8.ofNat (n % 128 + 128) = 0) := by
        rintro (h | ⟨_, h⟩)
        · omega
        · have := congrArg UInt8.toNat h
          rw [hu] at this
          simp at this
      rw [if_neg hne, if_neg (by rw [UInt8.lt_iff_toNat_lt, hu]; simp), this, hu]
      show Except.ok _ = Except.ok _
      rw [show n % 128 + 128 - 128 + 128 * (n / 128) = n by omega]
      rfl

theorem rNum_back {n : Int} (h0 : 0 ≤ n) (h1 : n ≤ 9223372036854775807) (r : ByteArray) : rNum (numS n ++ r) 0 = (n, r, 0) := by
  have hs := scanN_back n.toNat 0 r.data.toList (by have := numL_len9 (n := n.toNat) (by omega); omega) (.inl rfl)
  have hd : (numS n ++ r).data.toList = numL n.toNat ++ r.data.toList := by rw [ba_app, numS_list h0]
  rw [rNum_good rfl (by rw [hd]; exact hs), ← numS_len h0, ba_front, Int.toNat_of_nonneg h0]
theorem rWhole_back {z : Int} (h : mayZ z = true) (r : ByteArray) : rWhole (wholeS z ++ r) 0 = (z, r, 0) := by
  unfold rWhole
  rw [wholeS_may h, rNum_back (foldZ_nonneg z) (foldZ_le h), unfoldN_foldZ]
theorem rLen_back {n most : Int} (h0 : 0 ≤ n) (h1 : n ≤ 9223372036854775807) (hm : n ≤ most) (r : ByteArray) : rLen (numS n ++ r) 0 most = (n, r, 0) := by
  unfold rLen
  rw [rNum_back h0 h1, if_neg (by simp; omega)]
theorem rText_back {s : ByteArray} {most : Int} (hs : (s.size : Int) ≤ most) (hs2 : (s.size : Int) ≤ 9223372036854775807) (r : ByteArray) : rText (textS s ++ r) 0 most = (s, r, 0) := by
  unfold rText textS
  rw [ba_assoc, rLen_back (by omega) hs2 hs]
  rw [if_pos rfl, if_neg (by rw [ba_size (s ++ r), ba_app, List.length_append, ← ba_size, ← ba_size]; omega), Int.toNat_natCast, ba_head, ba_front]
theorem rInts_back : ∀ (zs acc : List Int) (r : ByteArray), (∀ z ∈ zs, mayZ z = true) → rInts zs.length acc (⟨(wholesL zs).toArray⟩ ++ r) 0 = (acc ++ zs, r, 0) := by
  intro zs
  induction zs with
  | nil =>
    intro acc r _
    have : (⟨(wholesL []).toArray⟩ : ByteArray) ++ r = r := by apply ba_ext; rw [ba_app]; simp [wholesL]
    rw [this]; simp [rInts]
  | cons z zs ih =>
    intro acc r h
    have hz := h z (by simp)
    have e : (⟨(wholesL (z :: zs)).toArray⟩ : ByteArray) ++ r = wholeS z ++ (⟨(wholesL zs).toArray⟩ ++ r) := by
      apply ba_ext
      rw [ba_app, ba_app, ba_app, wholeS_yes hz]
      simp [wholesL]
    have hb := rWhole_back hz (⟨(wholesL zs).toArray⟩ ++ r)
    rw [e, List.length_cons, rInts_go (by rw [hb]), hb, ih _ _ (fun y hy => h y (by simp [hy]))]
    simp
theorem rList_back {zs : List Int} {most : Int} (h : ∀ z ∈ zs, mayZ z = true) (hl : (zs.length : Int) ≤ most) (hl2 : (zs.length : Int) ≤ 9223372036854775807) (r : ByteArray) :
    rList (listS zs ++ r) 0 most = (zs, r, 0) := by
  have e : listS zs ++ r = numS zs.length ++ (⟨(wholesL zs).toArray⟩ ++ r) := by
    apply ba_ext
    rw [ba_app, ba_app, ba_app, numS_list (by omega)]
    unfold listS
    rw [if_pos (by simpa using h)]
    simp
  unfold rList
  rw [e, rLen_back (by omega) hl2 hl, Int.toNat_natCast]
  exact rInts_back zs [] r h
theorem rFlag_back (r : ByteArray) : rFlag (⟨#[1]⟩ ++ r) 0 = (true, r, 0) := by
  unfold rFlag
  have hd : ((⟨#[1]⟩ : ByteArray) ++ r).data.toList = 1 :: r.data.toList := by rw [ba_app]; rfl
  rw [if_pos rfl, hd]
  have := ba_front ⟨#[1]⟩ r
  simp only
  rw [if_pos (by decide)]
  exact congrArg (fun x => (true, x, (0 : Int))) this
end Go.Proofs.Ytjjadappjapjhaa
