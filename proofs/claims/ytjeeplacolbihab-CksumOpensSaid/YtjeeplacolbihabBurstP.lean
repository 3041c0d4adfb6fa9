/-
  PLAIN MATHEMATICS of a frame some of whose bits are turned, within 32 that stand side by side: it is not opened.
-/
import Derived.Test.YtjeeplacolbihabLinear
namespace Go.Proofs.Ytjeeplacolbihab

/-- Is the bit k of the 32 turned? -/
def flipB (first many burst k : Nat) : Bool := decide (first + k < many) && decide (burst / 2 ^ k % 2 = 1)
/-- Which ones of the first k bits are turned. -/
def wordW (first many burst : Nat) : Nat → BitVec 32
  | 0 => 0#32
  | k + 1 => wordW first many burst k ^^^ (if flipB first many burst k then 1#32 <<< k else 0#32)
/-- The bytes behind the first k bits. -/
def bytesB (f : List UInt8) (hd first many burst : Nat) : Nat → List UInt8
  | 0 => f
  | k + 1 => if flipB first many burst k then
      (bytesB f hd first many burst k).set (hd + (first + k) / 8) ((bytesB f hd first many burst k).getD (hd + (first + k) / 8) 0 ^^^ (1 <<< UInt8.ofNat ((first + k) % 8)))
    else bytesB f hd first many burst k

theorem bytesB_len (f : List UInt8) (hd first many burst k : Nat) : (bytesB f hd first many burst k).length = f.length := by
  induction k with
  | zero => rfl
  | succ k ih => rw [bytesB]; split <;> simp [ih]
theorem bytesB_head (f : List UInt8) (hd first many burst k : Nat) : (bytesB f hd first many burst k).take hd = f.take hd := by
  induction k with
  | zero => rfl
  | succ k ih =>
    rw [bytesB]
    split
    · rw [List.take_set_of_le (by omega), ih]
    · exact ih
theorem crcBits_pow (k : Nat) (h : k < 32) : crcBits k (1#32 <<< k) = 1#32 := by
  have h1 : (1#32 <<< k).toNat = 2 ^ k := by
    rw [BitVec.toNat_shiftLeft, Nat.shiftLeft_eq]
    have : 2 ^ k < 2 ^ 32 := Nat.pow_lt_pow_right (by decide) h
    show 1 * 2 ^ k % 2 ^ 32 = 2 ^ k
    rw [Nat.one_mul, Nat.mod_eq_of_lt this]
  rw [crcBits_shift k _ (by rw [h1, Nat.mod_self])]
  apply BitVec.eq_of_toNat_eq
  rw [BitVec.toNat_ushiftRight, h1, Nat.shiftRight_eq_div_pow, Nat.div_self (Nat.pow_pos (by decide))]
  rfl
theorem bytesB_reg (f : List UInt8) (hd first many burst : Nat) (hm : many = 8 * (f.length - hd)) (hh : hd < f.length) (hf : first < many) (c : BitVec 32) :
    ∀ k, k ≤ 32 → crcReg c (bytesB f hd first many burst k) = crcReg c f ^^^ crcBits (many - first) (wordW first many burst k) := by
  intro k
  induction k with
  | zero => intro _; rw [wordW, crcBits_zero, BitVec.xor_zero]; rfl
  | succ k ih =>
    intro hk
    have ih := ih (by omega)
    rw [bytesB, wordW]
    cases hfl : flipB first many burst k
    · rw [if_neg (by decide), if_neg (by decide), BitVec.xor_zero]; exact ih
    · rw [if_pos rfl, if_pos rfl]
      have hlt : first + k < many := by unfold flipB at hfl; simp at hfl; exact hfl.1
      have hl := bytesB_len f hd first many burst k
      have hi : hd + (first + k) / 8 < (bytesB f hd first many burst k).length := by rw [hl]; omega
      have hg : (bytesB f hd first many burst k).getD (hd + (first + k) / 8) 0 = (bytesB f hd first many burst k)[hd + (first + k) / 8] := by
        simp [List.getD, List.getElem?_eq_getElem hi]
      rw [hg, turned hi (Nat.mod_lt _ (by decide)), ih, hl, crcBits_add, BitVec.xor_assoc]
      congr 2
      have e1 : 8 * (f.length - (hd + (first + k) / 8)) - (first + k) % 8 = many - first - k := by omega
      have e2 : many - first = k + (many - first - k) := by omega
      rw [e1]
      conv => rhs; rw [e2, crcBits_more, crcBits_pow k (by omega)]

theorem one_bit (k j : Nat) (hk : k < 32) : (1#32 <<< k).getLsbD j = decide (j = k) := by
  rw [BitVec.getLsbD_shiftLeft, BitVec.getLsbD_one]
  by_cases h1 : j = k
  · subst h1; simp; omega
  · by_cases h2 : j < k
    · simp [h1, h2]
    · have h3 : ¬ j - k = 0 := by omega
      simp [h1, h3]
theorem wordW_bit (first many burst k j : Nat) (hk : k ≤ 32) : (wordW first many burst k).getLsbD j = (decide (j < k) && flipB first many burst j) := by
  induction k with
  | zero => simp [wordW]
  | succ k ih =>
    rw [wordW, BitVec.getLsbD_xor, ih (by omega)]
    cases hfl : flipB first many burst k
    · rw [if_neg (by decide)]
      by_cases h1 : j < k
      · have h2 : j < k + 1 := by omega
        simp [h1, h2]
      · by_cases h3 : j = k
        · subst h3; simp [hfl]
        · have h2 : ¬ j < k + 1 := by omega
          simp [h1, h2]
    · rw [if_pos rfl, one_bit k j (by omega)]
      by_cases h1 : j < k
      · have h2 : j < k + 1 := by omega
        have h3 : ¬ j = k := by omega
        simp [h1, h2, h3]
      · by_cases h3 : j = k
        · subst h3; simp [hfl]
        · have h2 : ¬ j < k + 1 := by omega
          simp [h1, h2, h3]
theorem bytesB_none (f : List UInt8) (hd first many burst : Nat) (h : wordW first many burst 32 = 0#32) : ∀ k, k ≤ 32 → bytesB f hd first many burst k = f := by
  intro k
  induction k with
  | zero => intro _; rfl
  | succ k ih =>
    intro hk
    have hb := wordW_bit first many burst 32 k (by omega)
    rw [h] at hb
    have hfl : flipB first many burst k = false := by
      have h32 : k < 32 := by omega
      simp [h32] at hb
      exact hb
    rw [bytesB, hfl, if_neg (by decide)]
    exact ih (by omega)
/-- Some bit is turned: the register tells. -/
theorem bytesB_some (f : List UInt8) (hd first many burst : Nat) (hm : many = 8 * (f.length - hd)) (hh : hd < f.length) (hf : first < many) (h : wordW first many burst 32 ≠ 0#32) (c : BitVec 32) :
    crcReg c (bytesB f hd first many burst 32) ≠ crcReg c f := by
  rw [bytesB_reg f hd first many burst hm hh hf c 32 (by omega)]
  intro he
  apply h
  apply crcBits_eq_zero (many - first)
  have : crcReg c f ^^^ (crcReg c f ^^^ crcBits (many - first) (wordW first many burst 32)) = crcReg c f ^^^ crcReg c f := by rw [he]
  rw [← BitVec.xor_assoc, BitVec.xor_self, BitVec.zero_xor] at this
  exact this

theorem frameS_list (s : ByteArray) : (frameS s).data.toList = (textS s).data.toList ++ fourL (sumL (textS s).data.toList) := by unfold frameS; rw [ba_app]; rfl
theorem textS_list (s : ByteArray) : (textS s).data.toList = numL s.size ++ s.data.toList := by
  unfold textS; rw [ba_app, numS_list (by omega)]; rfl
/-- How many bytes stand ahead of the body. -/
def headN (s : ByteArray) : Nat := (numL s.size).length
theorem frameS_size (s : ByteArray) : (frameS s).size = headN s + s.size + 4 := by
  unfold headN
  rw [ba_size, frameS_list, textS_list, List.length_append, List.length_append, ← ba_size]
  rfl

/-- A frame of which the bits of a word are turned is refused. -/
theorem openR_turned {s : ByteArray} (hs : s.size ≤ 1048576) (first burst : Nat) (hf : first < 8 * (s.size + 4)) (h : wordW first (8 * (s.size + 4)) burst 32 ≠ 0#32) :
    openR ⟨(bytesB (frameS s).data.toList (headN s) first (8 * (s.size + 4)) burst 32).toArray⟩ = (ByteArray.empty, ByteArray.empty, 6) := by
  obtain ⟨B, hB⟩ : ∃ B, bytesB (frameS s).data.toList (headN s) first (8 * (s.size + 4)) burst 32 = B := ⟨_, rfl⟩
  have hfl : (frameS s).data.toList.length = headN s + s.size + 4 := by rw [← ba_size, frameS_size]
  have hlen : B.length = headN s + s.size + 4 := by rw [← hB, bytesB_len, hfl]
  have hhead : B.take (headN s) = numL s.size := by
    rw [← hB, bytesB_head, frameS_list, textS_list, List.append_assoc]
    exact List.take_left
  have hne := bytesB_some (frameS s).data.toList (headN s) first (8 * (s.size + 4)) burst (by rw [hfl]; omega) (by rw [hfl]; omega) hf h (BitVec.allOnes 32)
  rw [hB] at hne ⊢
  rw [frameS_list, codeword] at hne
  obtain ⟨R, hR⟩ : ∃ R : ByteArray, R = ⟨(B.drop (headN s)).toArray⟩ := ⟨_, rfl⟩
  have hRl : R.data.toList = B.drop (headN s) := by rw [hR]
  have hRs : R.size = s.size + 4 := by rw [ba_size, hRl, List.length_drop, hlen]; omega
  have hBR : (⟨B.toArray⟩ : ByteArray) = numS s.size ++ R := by
    apply ba_ext
    rw [ba_app, numS_list (by omega), hRl, Int.toNat_natCast, ← hhead, List.take_append_drop]
  have hT : rText ⟨B.toArray⟩ 0 1048576 = (R.extract 0 s.size, R.extract s.size R.size, 0) := by
    unfold rText
    rw [hBR, rLen_back (by omega) (by omega) (by omega), if_pos rfl]
    dsimp only
    rw [if_neg (by omega), Int.toNat_natCast]
  have hu : (R.extract s.size R.size).size = 4 := by rw [ba_size, ba_drop, List.length_drop, ← ba_size]; omega
  unfold openR
  rw [hT, if_pos rfl]
  dsimp only
  rw [if_neg (by omega), if_neg]
  intro hq
  apply hne
  have h4 : ((R.extract s.size R.size).extract 0 4).data.toList = R.data.toList.drop s.size := by
    rw [ba_take, ba_drop, List.take_of_length_le (by rw [List.length_drop, ← ba_size]; omega)]
  have hz : (⟨B.toArray⟩ : ByteArray).size - (R.extract s.size R.size).size = headN s + s.size := by
    rw [hu, ba_size]
    show B.length - 4 = _
    omega
  rw [h4, hz, ba_take, hRl, List.drop_drop] at hq
  have : B = B.take (headN s + s.size) ++ fourL (sumL (B.take (headN s + s.size))) := by
    conv => lhs; rw [← List.take_append_drop (headN s + s.size) B, hq]
  rw [this]
  exact codeword _
end Go.Proofs.Ytjeeplacolbihab
