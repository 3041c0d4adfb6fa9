/-
  PLAIN MATHEMATICS: the bytes of a number (base 128, the lowest group first, each but the last with 128 added), whole numbers folded into numbers, texts. Nothing here speaks of the program.
-/
namespace Go.Proofs.Ytfnjadiibiedgaa

/-- The bytes of a number. -/
def numL (n : Nat) : List UInt8 :=
  if n < 128 then [UInt8.ofNat n] else UInt8.ofNat (n % 128 + 128) :: numL (n / 128)
  termination_by n
  decreasing_by omega

theorem numL_lo {n : Nat} (h : n < 128) : numL n = [UInt8.ofNat n] := by rw [numL, if_pos h]
theorem numL_hi {n : Nat} (h : 128 ≤ n) : numL n = UInt8.ofNat (n % 128 + 128) :: numL (n / 128) := by rw [numL, if_neg (by omega)]

theorem numL_len_pos (n : Nat) : 1 ≤ (numL n).length := by
  rw [numL]; split <;> simp

theorem numL_len_le (k : Nat) : ∀ n : Nat, n < 128 ^ (k + 1) → (numL n).length ≤ k + 1 := by
  induction k with
  | zero => intro n h; rw [numL_lo (by simpa using h)]; simp
  | succ k ih =>
    intro n h
    by_cases hn : n < 128
    · rw [numL_lo hn]; simp
    · rw [numL_hi (by omega), List.length_cons]
      have := ih (n / 128) (by rw [Nat.div_lt_iff_lt_mul (by decide)]; rw [Nat.pow_succ] at h; omega)
      omega

theorem numL_len9 {n : Nat} (h : n < 9223372036854775808) : (numL n).length ≤ 9 := numL_len_le 8 n (by simpa using h)

theorem numL_mono : ∀ (n m : Nat), n ≤ m → (numL n).length ≤ (numL m).length := by
  intro n
  induction n using Nat.strongRecOn with
  | ind n ih =>
    intro m h
    by_cases hn : n < 128
    · rw [numL_lo hn]; have := numL_len_pos m; simpa using this
    · rw [numL_hi (n := n) (by omega), numL_hi (n := m) (by omega)]
      have := ih (n / 128) (by omega) (m / 128) (by omega)
      simpa using this

/-- The bytes of a number as a text. -/
def numS (n : Int) : ByteArray := if n < 0 then ByteArray.empty else ⟨(numL n.toNat).toArray⟩

/-- A whole number folded. -/
def foldZ (z : Int) : Int := if z < 0 then -(2 * z) - 1 else 2 * z
/-- A number unfolded. -/
def unfoldN (n : Int) : Int := if n % 2 = 1 then -(n / 2) - 1 else n / 2
/-- May a whole number be? -/
def mayZ (z : Int) : Bool := decide (-4611686018427387904 ≤ z ∧ z ≤ 4611686018427387903)
def wholeS (z : Int) : ByteArray := if mayZ z then numS (foldZ z) else ByteArray.empty

theorem foldZ_unfoldN (n : Int) (h : 0 ≤ n) : foldZ (unfoldN n) = n := by unfold foldZ unfoldN; split <;> split <;> omega
theorem unfoldN_foldZ (z : Int) : unfoldN (foldZ z) = z := by unfold foldZ unfoldN; split <;> split <;> omega
theorem foldZ_nonneg (z : Int) : 0 ≤ foldZ z := by unfold foldZ; split <;> omega
theorem foldZ_le {z : Int} (h : mayZ z = true) : foldZ z ≤ 9223372036854775807 := by
  unfold mayZ at h; simp at h; unfold foldZ; split <;> omega
theorem mayZ_unfoldN {n : Int} (h0 : 0 ≤ n) (h : n ≤ 9223372036854775807) : mayZ (unfoldN n) = true := by
  unfold mayZ unfoldN; simp; split <;> omega

def textS (s : ByteArray) : ByteArray := numS s.size ++ s

/-- The number at the front of bytes, of which k bytes were read before: what it is, and how many bytes it has; or the error. -/
def scanN : Nat → List UInt8 → Except Int (Nat × Nat)
  | _, [] => .error 5
  | k, c :: r =>
    if k = 9 ∨ (0 < k ∧ c = 0) then .error 3
    else if c < 128 then .ok (c.toNat, 1)
    else match scanN (k + 1) r with
      | .error e => .error e
      | .ok (n, m) => .ok (c.toNat - 128 + 128 * n, m + 1)

/-- What a number is of which j bytes were read, that are worth a. -/
def liftN (j a : Nat) : Except Int (Nat × Nat) → Except Int (Nat × Nat)
  | .error e => .error e
  | .ok (n, m) => .ok (a + 128 ^ j * n, j + m)

theorem liftN_zero (r : Except Int (Nat × Nat)) : liftN 0 0 r = r := by
  cases r with
  | error e => rfl
  | ok p => obtain ⟨n, m⟩ := p; simp [liftN]

theorem scanN_more {k : Nat} {c : UInt8} {r : List UInt8} (h9 : k ≠ 9) (hc : 128 ≤ c.toNat) (a : Nat) : liftN k a (scanN k (c :: r)) = liftN (k + 1) (a + 128 ^ k * (c.toNat - 128)) (scanN (k + 1) r) := by
  have h0 : ¬ (k = 9 ∨ (0 < k ∧ c = 0)) := by
    rintro (h | ⟨_, h⟩)
    · exact h9 h
    · subst h; simp at hc
  have h1 : ¬ c < 128 := by rw [UInt8.lt_iff_toNat_lt]; simpa using hc
  rw [scanN, if_neg h0, if_neg h1]
  cases scanN (k + 1) r with
  | error e => rfl
  | ok p =>
    obtain ⟨n, m⟩ := p
    have e1 : a + 128 ^ k * (c.toNat - 128 + 128 * n) = a + 128 ^ k * (c.toNat - 128) + 128 ^ (k + 1) * n := by
      rw [Nat.pow_succ, Nat.mul_add, Nat.mul_assoc, Nat.add_assoc]
    have e2 : k + (m + 1) = k + 1 + m := by omega
    show Except.ok (a + 128 ^ k * (c.toNat - 128 + 128 * n), k + (m + 1)) = Except.ok (a + 128 ^ k * (c.toNat - 128) + 128 ^ (k + 1) * n, k + 1 + m)
    rw [e1, e2]

theorem scanN_nil (k : Nat) : scanN k [] = .error 5 := rfl
theorem scanN_nine (c : UInt8) (r : List UInt8) : scanN 9 (c :: r) = .error 3 := by rw [scanN, if_pos (.inl rfl)]
theorem scanN_zero {k : Nat} {c : UInt8} {r : List UInt8} (h : 0 < k) (hc : c.toNat = 0) : scanN k (c :: r) = .error 3 := by
  rw [scanN, if_pos (.inr ⟨h, by apply UInt8.toNat_inj.1; simpa using hc⟩)]
theorem scanN_last {k : Nat} {c : UInt8} {r : List UInt8} (h9 : k ≠ 9) (hc : c.toNat < 128) (h : k = 0 ∨ c.toNat ≠ 0) : scanN k (c :: r) = .ok (c.toNat, 1) := by
  have h0 : ¬ (k = 9 ∨ (0 < k ∧ c = 0)) := by
    rintro (h' | ⟨h1, h2⟩)
    · exact h9 h'
    · subst h2; rcases h with h | h
      · omega
      · simp at h
  rw [scanN, if_neg h0, if_pos (by rw [UInt8.lt_iff_toNat_lt]; simpa using hc)]
theorem drop_bytes (s : ByteArray) (j : Nat) (h : j < s.size) : s.data.toList.drop j = s[j] :: s.data.toList.drop (j + 1) := by
  rw [List.drop_eq_getElem_cons (by simpa using h)]; rfl
theorem pow_128 (j : Nat) : 128 ^ j = 2 ^ (7 * j) := by rw [Nat.pow_mul]
theorem pow_128_le {j : Nat} (h : j ≤ 9) : 128 ^ j ≤ 9223372036854775808 := by
  have := Nat.pow_le_pow_right (n := 128) (by decide) h
  simpa using this

/-! ## The reader: what is left, and the first error (0: none) -/
/-- A number is read: its value, what is left, the error. -/
def rNum (s : ByteArray) (e : Int) : Int × ByteArray × Int :=
  if e = 0 then
    match scanN 0 s.data.toList with
    | .error k => (0, ByteArray.empty, k)
    | .ok (n, m) => ((n : Int), s.extract m s.size, 0)
  else (0, s, e)
/-- A whole number is read. -/
def rWhole (s : ByteArray) (e : Int) : Int × ByteArray × Int := (unfoldN (rNum s e).1, (rNum s e).2)
/-- A length is read. -/
def rLen (s : ByteArray) (e : Int) (most : Int) : Int × ByteArray × Int :=
  if (rNum s e).2.2 = 0 ∧ most < (rNum s e).1 then (0, ByteArray.empty, 2) else rNum s e
/-- A flag is read. -/
def rFlag (s : ByteArray) (e : Int) : Bool × ByteArray × Int :=
  if e = 0 then
    match s.data.toList with
    | [] => (false, ByteArray.empty, 5)
    | c :: _ => if c.toNat ≤ 1 then (c.toNat == 1, s.extract 1 s.size, 0) else (false, ByteArray.empty, 3)
  else (false, s, e)
/-- A text is read. -/
def rText (s : ByteArray) (e : Int) (most : Int) : ByteArray × ByteArray × Int :=
  if (rLen s e most).2.2 = 0 then
    if ((rLen s e most).2.1.size : Int) < (rLen s e most).1 then (ByteArray.empty, ByteArray.empty, 5)
    else ((rLen s e most).2.1.extract 0 (rLen s e most).1.toNat, (rLen s e most).2.1.extract (rLen s e most).1.toNat (rLen s e most).2.1.size, 0)
  else (ByteArray.empty, (rLen s e most).2)

theorem scanN_ok : ∀ (l : List UInt8) (k n m : Nat), scanN k l = .ok (n, m) → k ≤ 9 → 1 ≤ m ∧ m ≤ l.length ∧ k + m ≤ 9 ∧ n < 128 ^ m := by
  intro l
  induction l with
  | nil => intro k n m h; cases h
  | cons c r ih =>
    intro k n m h hk
    by_cases h1 : k = 9 ∨ (0 < k ∧ c = 0)
    · rw [scanN, if_pos h1] at h; cases h
    · rw [scanN, if_neg h1] at h
      have hk9 : k < 9 := by omega
      by_cases h2 : c < 128
      · rw [if_pos h2] at h
        cases h
        rw [UInt8.lt_iff_toNat_lt] at h2
        simp at h2
        simp; omega
      · rw [if_neg h2] at h
        cases hr : scanN (k + 1) r with
        | error e => rw [hr] at h; cases h
        | ok p =>
          obtain ⟨n', m'⟩ := p
          rw [hr] at h
          cases h
          have := ih (k + 1) n' m' hr (by omega)
          have hc : c.toNat < 256 := UInt8.toNat_lt c
          refine ⟨by omega, by simp; omega, by omega, ?_⟩
          rw [Nat.pow_succ]
          omega

theorem rNum_val (s : ByteArray) (e : Int) : 0 ≤ (rNum s e).1 ∧ (rNum s e).1 ≤ 9223372036854775807 := by
  unfold rNum
  split
  · split
    · exact ⟨Int.le_refl 0, (by decide : (0 : Int) ≤ 9223372036854775807)⟩
    · rename_i n m h
      have h1 := scanN_ok _ _ _ _ h (by decide)
      have h2 := pow_128_le (j := m) (by omega)
      exact ⟨by simp, by simp only; omega⟩
  · exact ⟨Int.le_refl 0, (by decide : (0 : Int) ≤ 9223372036854775807)⟩
theorem rNum_size (s : ByteArray) (e : Int) : (rNum s e).2.1.size ≤ s.size := by
  unfold rNum
  split
  · split
    · simp
    · simp
  · exact Nat.le_refl _

/-- n whole numbers are read, behind those of acc. -/
def rInts : Nat → List Int → ByteArray → Int → List Int × ByteArray × Int
  | 0, acc, s, e => (acc, s, e)
  | n + 1, acc, s, e =>
    if (rWhole s e).2.2 = 0 then rInts n (acc ++ [(rWhole s e).1]) (rWhole s e).2.1 (rWhole s e).2.2 else ([], (rWhole s e).2)
/-- A list is read. -/
def rList (s : ByteArray) (e : Int) (most : Int) : List Int × ByteArray × Int :=
  rInts (rLen s e most).1.toNat [] (rLen s e most).2.1 (rLen s e most).2.2

theorem rLen_val (s : ByteArray) (e most : Int) : 0 ≤ (rLen s e most).1 ∧ (rLen s e most).1 ≤ 9223372036854775807 := by
  unfold rLen
  split
  · exact ⟨Int.le_refl 0, (by decide : (0 : Int) ≤ 9223372036854775807)⟩
  · exact rNum_val s e
theorem rLen_size (s : ByteArray) (e most : Int) : (rLen s e most).2.1.size ≤ s.size := by
  unfold rLen
  split
  · simp
  · exact rNum_size s e
theorem rLen_err {s : ByteArray} {e most : Int} (h : (rLen s e most).2.2 ≠ 0) : (rLen s e most).1 = 0 := by
  revert h
  unfold rLen
  split
  · intro _; rfl
  · intro h
    unfold rNum at h ⊢
    split
    · rename_i he
      rw [if_pos he] at h
      cases hr : scanN 0 s.data.toList with
      | error k => rfl
      | ok p => rw [hr] at h; exact absurd rfl h
    · rfl
/-- What is read has at least one byte. -/
theorem rNum_less {s : ByteArray} {e : Int} (h : (rNum s e).2.2 = 0) : (rNum s e).2.1.size + 1 ≤ s.size := by
  unfold rNum at h ⊢
  split
  · rename_i he
    rw [if_pos he] at h
    cases hr : scanN 0 s.data.toList with
    | error k =>
      rw [hr] at h
      have hk : ∀ (l : List UInt8) (k : Nat) (e : Int), scanN k l = .error e → e = 5 ∨ e = 3 := by
        intro l
        induction l with
        | nil => intro k e h; cases h; exact .inl rfl
        | cons c r ih =>
          intro k e h
          rw [scanN] at h
          split at h
          · cases h; exact .inr rfl
          · split at h
            · cases h
            · cases hr : scanN (k + 1) r with
              | error e' => rw [hr] at h; cases h; exact ih _ _ hr
              | ok p => rw [hr] at h; cases h
      have := hk _ _ _ hr
      simp at h
      omega
    | ok p =>
      obtain ⟨n, m⟩ := p
      have := scanN_ok _ _ _ _ hr (by decide)
      have h1 : m ≤ s.size := by simpa using this.2.1
      simp
      omega
  · rename_i he
    rw [if_neg he] at h
    exact absurd h he

theorem ofNat_lo {n : Nat} (h : n < 128) : (UInt8.ofNat n).toNat = n := by simp; omega
theorem ofNat_hi (n : Nat) : (UInt8.ofNat (n % 128 + 128)).toNat = n % 128 + 128 := by simp; omega
theorem numL_inj : ∀ (n m : Nat), numL n = numL m → n = m := by
  intro n
  induction n using Nat.strongRecOn with
  | ind n ih =>
    intro m h
    by_cases hn : n < 128
    · by_cases hm : m < 128
      · rw [numL_lo hn, numL_lo hm] at h
        injection h with h _
        have := congrArg UInt8.toNat h
        rw [ofNat_lo hn, ofNat_lo hm] at this
        exact this
      · rw [numL_lo hn, numL_hi (by omega)] at h
        injection h with h _
        have := congrArg UInt8.toNat h
        rw [ofNat_lo hn, ofNat_hi] at this
        omega
    · by_cases hm : m < 128
      · rw [numL_hi (by omega), numL_lo hm] at h
        injection h with h _
        have := congrArg UInt8.toNat h
        rw [ofNat_lo hm, ofNat_hi] at this
        omega
      · rw [numL_hi (by omega), numL_hi (n := m) (by omega)] at h
        injection h with h1 h2
        have h3 := congrArg UInt8.toNat h1
        rw [ofNat_hi, ofNat_hi] at h3
        have h4 := ih (n / 128) (by omega) (m / 128) h2
        omega

end Go.Proofs.Ytfnjadiibiedgaa
