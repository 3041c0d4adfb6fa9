/-
  PLAIN MATHEMATICS: what is written is read, and in one way alone.
-/
import Derived.Test.YtfnjadiibiedgaaListW
namespace Go.Proofs.Ytfnjadiibiedgaa

theorem ba_ext {a b : ByteArray} (h : a.data.toList = b.data.toList) : a = b := ByteArray.ext (Array.toList_inj.1 h)
theorem ba_app (a b : ByteArray) : (a ++ b).data.toList = a.data.toList ++ b.data.toList := by rw [ByteArray.data_append]; simp
theorem ba_drop (s : ByteArray) (m : Nat) : (s.extract m s.size).data.toList = s.data.toList.drop m := by
  rw [ByteArray.data_extract, Array.toList_extract, List.extract_eq_take_drop]
  exact List.take_of_length_le (by simp)
theorem ba_take (s : ByteArray) (m : Nat) : (s.extract 0 m).data.toList = s.data.toList.take m := by
  rw [ByteArray.data_extract, Array.toList_extract, List.extract_eq_take_drop]
  simp
theorem ba_size (s : ByteArray) : s.size = s.data.toList.length := by rw [Array.length_toList]; rfl
theorem ba_split (s : ByteArray) (m : Nat) : s.extract 0 m ++ s.extract m s.size = s := by
  apply ba_ext
  rw [ba_app, ba_drop, ba_take, List.take_append_drop]
theorem ba_assoc (a b c : ByteArray) : a ++ b ++ c = a ++ (b ++ c) := by
  apply ba_ext
  simp only [ba_app, List.append_assoc]
theorem ba_front (a b : ByteArray) : (a ++ b).extract a.size (a ++ b).size = b := by
  apply ba_ext
  rw [ba_drop, ba_app, ba_size, List.drop_left]
theorem ba_head (a b : ByteArray) : (a ++ b).extract 0 a.size = a := by
  apply ba_ext
  rw [ba_take, ba_app, ba_size, List.take_left]

theorem numS_list {n : Int} (h : 0 ≤ n) : (numS n).data.toList = numL n.toNat := by rw [numS_nat h]
theorem numS_len {n : Int} (h : 0 ≤ n) : (numS n).size = (numL n.toNat).length := by rw [ba_size, numS_list h]

/-! ## What is read, written again, are the bytes that were read -/
theorem scanN_once : ∀ (l : List UInt8) (k n m : Nat), scanN k l = .ok (n, m) → k ≤ 9 → numL n = l.take m ∧ (0 < k → n ≠ 0) := by
  intro l
  induction l with
  | nil => intro k n m h; cases h
  | cons c r ih =>
    intro k n m h hk
    by_cases h1 : k = 9 ∨ (0 < k ∧ c = 0)
    · rw [scanN, if_pos h1] at h; cases h
    · rw [scanN, if_neg h1] at h
      by_cases h2 : c < 128
      · rw [if_pos h2] at h
        cases h
        have hc : c.toNat < 128 := by rw [UInt8.lt_iff_toNat_lt] at h2; simpa using h2
        refine ⟨by rw [numL_lo hc]; simp, fun h0 e => h1 (.inr ⟨h0, ?_⟩)⟩
        apply UInt8.toNat_inj.1
        simpa using e
      · rw [if_neg h2] at h
        have hc : 128 ≤ c.toNat := by rw [UInt8.lt_iff_toNat_lt] at h2; simpa using h2
        cases hr : scanN (k + 1) r with
        | error e => rw [hr] at h; cases h
        | ok p =>
          obtain ⟨n', m'⟩ := p
          rw [hr] at h
          cases h
          obtain ⟨i1, i2⟩ := ih (k + 1) n' m' hr (by omega)
          have h3 := i2 (by omega)
          have hc' : c.toNat < 256 := UInt8.toNat_lt c
          refine ⟨?_, fun _ => by omega⟩
          rw [numL_hi (by omega), show (c.toNat - 128 + 128 * n') / 128 = n' by omega, show (c.toNat - 128 + 128 * n') % 128 + 128 = c.toNat by omega, i1]
          simp

theorem rNum_form {s : ByteArray} {e : Int} (h : (rNum s e).2.2 = 0) : ∃ n m, scanN 0 s.data.toList = .ok (n, m) ∧ rNum s e = ((n : Int), s.extract m s.size, 0) := by
  by_cases he : e = 0
  · cases hr : scanN 0 s.data.toList with
    | error k =>
      rw [rNum_bad he hr] at h
      rcases scanN_err _ _ _ hr with rfl | rfl <;> cases h
    | ok p => exact ⟨p.1, p.2, rfl, rNum_good he hr⟩
  · rw [rNum_err he] at h; exact absurd h he

theorem rNum_once {s : ByteArray} {e : Int} (h : (rNum s e).2.2 = 0) : numS (rNum s e).1 ++ (rNum s e).2.1 = s := by
  obtain ⟨n, m, hr, heq⟩ := rNum_form h
  rw [heq]
  obtain ⟨i1, _⟩ := scanN_once _ _ _ _ hr (by decide)
  apply ba_ext
  rw [ba_app, numS_list (by simp), Int.toNat_natCast, i1]
  show _ ++ (s.extract m s.size).data.toList = _
  rw [ba_drop, List.take_append_drop]

theorem rWhole_once {s : ByteArray} {e : Int} (h : (rWhole s e).2.2 = 0) : wholeS (rWhole s e).1 ++ (rWhole s e).2.1 = s := by
  have hv := rNum_val s e
  have h1 : wholeS (rWhole s e).1 = numS (rNum s e).1 := by
    show wholeS (unfoldN (rNum s e).1) = _
    rw [wholeS_may (mayZ_unfoldN hv.1 hv.2), foldZ_unfoldN _ hv.1]
  rw [h1]
  exact rNum_once h
theorem rWhole_may (s : ByteArray) (e : Int) : mayZ (rWhole s e).1 = true := mayZ_unfoldN (rNum_val s e).1 (rNum_val s e).2

theorem rLen_once {s : ByteArray} {e most : Int} (h : (rLen s e most).2.2 = 0) : rLen s e most = rNum s e ∧ (rNum s e).1 ≤ most := by
  unfold rLen at h ⊢
  split
  · rename_i hc
    rw [if_pos hc] at h
    cases h
  · rename_i hc
    rw [if_neg hc] at h
    exact ⟨rfl, by omega⟩

theorem rText_once {s : ByteArray} {e most : Int} (h : (rText s e most).2.2 = 0) : textS (rText s e most).1 ++ (rText s e most).2.1 = s := by
  unfold rText at h ⊢
  by_cases h1 : (rLen s e most).2.2 = 0
  · rw [if_pos h1] at h ⊢
    by_cases h2 : ((rLen s e most).2.1.size : Int) < (rLen s e most).1
    · rw [if_pos h2] at h; cases h
    · rw [if_neg h2]
      obtain ⟨h3, _⟩ := rLen_once h1
      rw [h3] at h1 h2 ⊢
      have hv := rNum_val s e
      have ho := rNum_once h1
      have hsz : (((rNum s e).2.1.extract 0 (rNum s e).1.toNat).size : Int) = (rNum s e).1 := by
        rw [ba_size, ba_take, List.length_take, ← ba_size]
        omega
      show textS ((rNum s e).2.1.extract 0 (rNum s e).1.toNat) ++ (rNum s e).2.1.extract (rNum s e).1.toNat (rNum s e).2.1.size = s
      unfold textS
      rw [hsz, ba_assoc, ba_split]
      exact ho
  · rw [if_neg h1] at h; exact absurd h h1

theorem rInts_once : ∀ (n : Nat) (acc : List Int) (s : ByteArray) (e : Int), (rInts n acc s e).2.2 = 0 → e = 0 →
    ∃ zs, (rInts n acc s e).1 = acc ++ zs ∧ zs.length = n ∧ (∀ z ∈ zs, mayZ z = true) ∧ wholesL zs ++ (rInts n acc s e).2.1.data.toList = s.data.toList := by
  intro n
  induction n with
  | zero => intro acc s e h he; exact ⟨[], by simp [rInts], rfl, by simp, by simp [rInts, wholesL]⟩
  | succ n ih =>
    intro acc s e h he
    by_cases h1 : (rWhole s e).2.2 = 0
    · rw [rInts_go h1] at h ⊢
      obtain ⟨zs, a1, a2, a3, a4⟩ := ih _ _ _ h h1
      refine ⟨(rWhole s e).1 :: zs, by rw [a1]; simp, by simp [a2], ?_, ?_⟩
      · intro z hz
        rcases List.mem_cons.1 hz with rfl | hz
        · exact rWhole_may s e
        · exact a3 z hz
      · rw [wholesL, List.append_assoc, a4]
        have := congrArg (fun b => b.data.toList) (rWhole_once h1)
        simp only [ba_app] at this
        rw [wholeS_yes (rWhole_may s e)] at this
        exact this
    · rw [rInts_stop h1] at h; exact absurd h h1

theorem rList_once {s : ByteArray} {e most : Int} (h : (rList s e most).2.2 = 0) : listS (rList s e most).1 ++ (rList s e most).2.1 = s := by
  by_cases h1 : (rLen s e most).2.2 = 0
  · unfold rList at h ⊢
    obtain ⟨zs, a1, a2, a3, a4⟩ := rInts_once _ _ _ _ h h1
    rw [a1, List.nil_append]
    obtain ⟨h3, _⟩ := rLen_once h1
    rw [h3] at h1 a2 a4
    have hv := rNum_val s e
    have ho := congrArg (fun b => b.data.toList) (rNum_once h1)
    simp only [ba_app] at ho
    have hz : numL (rNum s e).1.toNat = numL zs.length := by rw [a2]
    rw [numS_list hv.1, hz, ← a4, ← List.append_assoc] at ho
    apply ba_ext
    rw [ba_app, ← ho]
    unfold listS
    rw [if_pos (by simpa using a3), h3]
  · have h0 := rLen_err h1
    unfold rList at h
    rw [h0] at h
    exact absurd h h1
theorem rList_len {s : ByteArray} {e most : Int} (h : (rList s e most).2.2 = 0) (hm : 0 ≤ most) : ((rList s e most).1.length : Int) ≤ most := by
  by_cases h1 : (rLen s e most).2.2 = 0
  · unfold rList at h ⊢
    obtain ⟨zs, a1, a2, _, _⟩ := rInts_once _ _ _ _ h h1
    rw [a1, List.nil_append, a2]
    obtain ⟨h3, h4⟩ := rLen_once h1
    rw [h3]
    omega
  · have h0 := rLen_err h1
    unfold rList
    rw [h0]
    simpa [rInts] using hm

/-! ## What is written is read -/
theorem scanN_back : ∀ (n k : Nat) (r : List UInt8), k + (numL n).length ≤ 9 → (k = 0 ∨ n ≠ 0) → scanN k (numL n ++ r) = .ok (n, (numL n).length) := by
  intro n
  induction n using Nat.strongRecOn with
  | ind n ih =>
    intro k r hk h0
    have hp := numL_len_pos n
    by_cases hn : n < 128
    · rw [numL_lo hn] at hk ⊢
      have hu : (UInt8.ofNat n).toNat = n := ofNat_lo hn
      rw [List.singleton_append, scanN_last (by simp at hk; omega) (by rw [hu]; exact hn) (by rw [hu]; exact h0), hu]
      rfl
    · rw [numL_hi (by omega)] at hk ⊢
      have hu := ofNat_hi n
      simp only [List.length_cons] at hk
      have := ih (n / 128) (by omega) (k + 1) r (by omega) (.inr (by omega))
      rw [List.cons_append, scanN]
      have hne : ¬ (k = 9 ∨ 0 < k ∧ UInt8.ofNat (n % 128 + 128) = 0) := by
        rintro (h | ⟨_, h⟩)
        · omega
        · have := congrArg UInt8.toNat h
          rw [hu] at this
          simp at this
      rw [if_neg hne, if_neg (by rw [UInt8.lt_iff_toNat_lt, hu]; simp), this, hu]
      show Except.ok _ = Except.ok _
      rw [show n % 128 + 128 - 128 + 128 * (n / 128) = n by omega]
      rfl

theorem rNum_back {n : Int} (h0 : 0 ≤ n) (h1 : n ≤ 9223372036854775807) (r : ByteArray) : rNum (numS n ++ r) 0 = (n, r, 0) := by
  have hs := scanN_back n.toNat 0 r.data.toList (by have := numL_len9 (n := n.toNat) (by omega); omega) (.inl rfl)
  have hd : (numS n ++ r).data.toList = numL n.toNat ++ r.data.toList := by rw [ba_app, numS_list h0]
  rw [rNum_good rfl (by rw [hd]; exact hs), ← numS_len h0, ba_front, Int.toNat_of_nonneg h0]
theorem rWhole_back {z : Int} (h : mayZ z = true) (r : ByteArray) : rWhole (wholeS z ++ r) 0 = (z, r, 0) := by
  unfold rWhole
  rw [wholeS_may h, rNum_back (foldZ_nonneg z) (foldZ_le h), unfoldN_foldZ]
theorem rLen_back {n most : Int} (h0 : 0 ≤ n) (h1 : n ≤ 9223372036854775807) (hm : n ≤ most) (r : ByteArray) : rLen (numS n ++ r) 0 most = (n, r, 0) := by
  unfold rLen
  rw [rNum_back h0 h1, if_neg (by simp; omega)]
theorem rText_back {s : ByteArray} {most : Int} (hs : (s.size : Int) ≤ most) (hs2 : (s.size : Int) ≤ 9223372036854775807) (r : ByteArray) : rText (textS s ++ r) 0 most = (s, r, 0) := by
  unfold rText textS
  rw [ba_assoc, rLen_back (by omega) hs2 hs]
  rw [if_pos rfl, if_neg (by rw [ba_size (s ++ r), ba_app, List.length_append, ← ba_size, ← ba_size]; omega), Int.toNat_natCast, ba_head, ba_front]
theorem rInts_back : ∀ (zs acc : List Int) (r : ByteArray), (∀ z ∈ zs, mayZ z = true) → rInts zs.length acc (⟨(wholesL zs).toArray⟩ ++ r) 0 = (acc ++ zs, r, 0) := by
  intro zs
  induction zs with
  | nil =>
    intro acc r _
    have : (⟨(wholesL []).toArray⟩ : ByteArray) ++ r = r := by apply ba_ext; rw [ba_app]; simp [wholesL]
    rw [this]; simp [rInts]
  | cons z zs ih =>
    intro acc r h
    have hz := h z (by simp)
    have e : (⟨(wholesL (z :: zs)).toArray⟩ : ByteArray) ++ r = wholeS z ++ (⟨(wholesL zs).toArray⟩ ++ r) := by
      apply ba_ext
      rw [ba_app, ba_app, ba_app, wholeS_yes hz]
      simp [wholesL]
    have hb := rWhole_back hz (⟨(wholesL zs).toArray⟩ ++ r)
    rw [e, List.length_cons, rInts_go (by rw [hb]), hb, ih _ _ (fun y hy => h y (by simp [hy]))]
    simp
theorem rList_back {zs : List Int} {most : Int} (h : ∀ z ∈ zs, mayZ z = true) (hl : (zs.length : Int) ≤ most) (hl2 : (zs.length : Int) ≤ 9223372036854775807) (r : ByteArray) :
    rList (listS zs ++ r) 0 most = (zs, r, 0) := by
  have e : listS zs ++ r = numS zs.length ++ (⟨(wholesL zs).toArray⟩ ++ r) := by
    apply ba_ext
    rw [ba_app, ba_app, ba_app, numS_list (by omega)]
    unfold listS
    rw [if_pos (by simpa using h)]
    simp
  unfold rList
  rw [e, rLen_back (by omega) hl2 hl, Int.toNat_natCast]
  exact rInts_back zs [] r h
theorem rFlag_back (r : ByteArray) : rFlag (⟨#[1]⟩ ++ r) 0 = (true, r, 0) := by
  unfold rFlag
  have hd : ((⟨#[1]⟩ : ByteArray) ++ r).data.toList = 1 :: r.data.toList := by rw [ba_app]; rfl
  rw [if_pos rfl, hd]
  have := ba_front ⟨#[1]⟩ r
  simp only
  rw [if_pos (by decide)]
  exact congrArg (fun x => (true, x, (0 : Int))) this
end Go.Proofs.Ytfnjadiibiedgaa
