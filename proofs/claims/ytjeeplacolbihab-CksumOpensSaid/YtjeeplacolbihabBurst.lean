/-
  THE WALK of the law CksumBurst: it returns true, and writes nothing that was there.
-/
import Derived.Test.YtjeeplacolbihabBurstP
import Derived.Deep.DeepCutAuto
namespace Go.Proofs.Ytjeeplacolbihab
open Go.RowKit

theorem cwhole_err (s : ByteArray) (k : Int) (w : World) (hs : (s.size : Int) ≤ 9000000000000000000) (hk : k ≠ 0) (h : openR s = (ByteArray.empty, ByteArray.empty, k)) :
    Calls Try.prog 11 #[.string s] w (FramePost ByteArray.empty k w) := by
  have HO : Hid (∀ w, Calls Try.prog 9 #[.string s] w (OpenPost (ByteArray.empty, ByteArray.empty, k) w)) := Lib.hid fun w => by have := open_any s w hs; rw [h] at this; exact this
  have d : (k != 0) = true := by simpa using hk
  clear h hk
  go_enter Try.func11, Try.ntmps11
  go_wp2_with (go_at_call 9; refine (HO.out _).mono ?_; rintro e w1 ⟨rfl, B⟩)
  go_ret2
  exact ⟨rfl, B⟩
theorem cwhole_good (s b : ByteArray) (w : World) (hs : (s.size : Int) ≤ 9000000000000000000) (h : openR s = (b, ByteArray.empty, 0)) :
    Calls Try.prog 11 #[.string s] w (FramePost b 0 w) := by
  have HO : Hid (∀ w, Calls Try.prog 9 #[.string s] w (OpenPost (b, ByteArray.empty, 0) w)) := Lib.hid fun w => by have := open_any s w hs; rw [h] at this; exact this
  have d : ByteArray.empty.toList.isEmpty = true := by rw [ByteArray.toList_eq]; rfl
  clear h
  go_enter Try.func11, Try.ntmps11
  go_wp2_with (go_at_call 9; refine (HO.out _).mono ?_; rintro e w1 ⟨rfl, B⟩)
  go_ret2
  exact ⟨rfl, B⟩
theorem cwhole_more (s b r : ByteArray) (w : World) (hs : (s.size : Int) ≤ 9000000000000000000) (h : openR s = (b, r, 0)) (hr : r.toList.isEmpty = false) :
    Calls Try.prog 11 #[.string s] w (FramePost ByteArray.empty 2 w) := by
  have HO : Hid (∀ w, Calls Try.prog 9 #[.string s] w (OpenPost (b, r, 0) w)) := Lib.hid fun w => by have := open_any s w hs; rw [h] at this; exact this
  clear h
  go_enter Try.func11, Try.ntmps11
  go_wp2_with (go_at_call 9; refine (HO.out _).mono ?_; rintro e w1 ⟨rfl, B⟩)
  go_ret2
  exact ⟨rfl, B⟩

/-- From block g on lie the bytes l, and may be written. -/
structure BB (w : World) (g : Nat) (l : List UInt8) : Prop where
  lt : g < w.heap.size
  cell : ∀ i, i < l.length → w.cell? ⟨g, i, none⟩ = some (.int .u8 ((l.getD i 0).toNat : Int))
  free : ∀ i, i < l.length → w.frozen? ⟨g, i, none⟩ = false
theorem BB.set {w : World} {g : Nat} {l : List UInt8} (h : BB w g l) {i : Nat} (hi : i < l.length) (c : UInt8) {x : Int} (hx : x = (c.toNat : Int)) : BB (w.setCell ⟨g, i, none⟩ (.int .u8 x)) g (l.set i c) := by
  subst hx
  refine ⟨by simpa [World.setCell] using h.lt, fun j hj => ?_, fun j hj => ?_⟩
  · rw [List.length_set] at hj
    by_cases he : i = j
    · subst he
      rw [World.cell?_setCell_same' w _ _ (by rw [h.cell i hi]; rfl)]
      simp [List.getD, List.getElem?_set_self hi]
    · rw [World.cell?_setCell_other w _ _ _ (by intro e; injection e with _ e2; exact he e2), h.cell j hj]
      simp [List.getD, List.getElem?_set_ne he]
  · rw [List.length_set] at hj
    rw [World.frozen?_setCell]
    exact h.free j hj
theorem BB.new (w : World) (F : ByteArray) (cap : Nat) : BB (w.alloc (.cells (bytesRow F cap) 5 ((bytesRow F cap).size, (bytesRow F cap).size + 1))) w.heap.size F.data.toList := by
  have hz : F.size ≤ (bytesRow F cap).size := by unfold bytesRow; rw [Array.size_append, Array.size_map]; show F.data.size ≤ _; omega
  refine ⟨by simp, fun i hi => ?_, fun i hi => ?_⟩
  · rw [World.cell?_alloc_mark]
    have hi' : i < F.data.size := by simpa using hi
    unfold bytesRow
    rw [Array.getElem?_append_left (by simpa using hi')]
    rw [Array.getElem?_map, Array.getElem?_eq_getElem hi']
    have h2 : F.data.toList.getD i 0 = F.data[i] := by rw [List.getD, Array.getElem?_toList, Array.getElem?_eq_getElem hi']; rfl
    rw [h2]
    rfl
  · rw [World.frozen?_alloc_mark]
    have : i < F.size := by simpa using hi
    have h1 : ¬ (bytesRow F cap).size ≤ i := by omega
    simp [h1]
theorem BB.below {w w' : World} {g : Nat} {l : List UInt8} (h : BB w g l) (hb : Below w.heap.size w w') : BB w' g l :=
  ⟨Nat.lt_of_lt_of_le h.lt hb.size, fun i hi => (hb.cell (p := ⟨g, i, none⟩) h.lt).trans (h.cell i hi), fun i hi => (hb.frozen (p := ⟨g, i, none⟩) h.lt).trans (h.free i hi)⟩
theorem BB.drew {w : World} {g : Nat} {l : List UInt8} (h : BB w g l) : BB w.drew g l := ⟨h.lt, h.cell, h.free⟩
theorem BB.str {w : World} {g cap n : Nat} {l : List UInt8} (h : BB w g l) (hn : l.length = n) :
    (convert 38 9 (.slice (some ⟨g, 0, none⟩) n cap)).run Try.prog w = .ok (.string ⟨l.toArray⟩) w := by
  subst hn
  refine run_convert_bytes_back w _ _ _ _ cap l Try.underlying38 Try.underlying5 Try.underlying9 ?_
  intro j hj
  have hadd : (⟨g, 0, none⟩ : Addr).add j = ⟨g, j, none⟩ := by
    by_cases h : j = 0
    · subst h; simp [Addr.add]
    · simp [Addr.add, h]
  rw [hadd, h.cell j hj]
  simp [List.getD, List.getElem?_eq_getElem hj]

theorem bit_yes {b k : Nat} (h : b / 2 ^ k % 2 = 1) : (bits .and .u32 ((b : Int) / 2 ^ k) 1 == 1) = true := by
  have e : bits .and .u32 ((b : Int) / 2 ^ k) 1 = IntKind.u32.wrap ((BitVec.ofInt 32 ((b : Int) / 2 ^ k) &&& BitVec.ofInt 32 1).toNat : Int) := rfl
  have e2 : ((b : Int) / 2 ^ k) = ((b / 2 ^ k : Nat) : Int) := by simp
  rw [e, e2, BitVec.ofInt_natCast, show BitVec.ofInt 32 1 = 1#32 from rfl, lsb_and, lsb_toNat]
  have h2 : (BitVec.ofNat 32 (b / 2 ^ k)).toNat % 2 = 1 := by rw [BitVec.toNat_ofNat]; omega
  rw [h2]
  rfl
theorem bit_no {b k : Nat} (h : ¬ b / 2 ^ k % 2 = 1) : (bits .and .u32 ((b : Int) / 2 ^ k) 1 == 1) = false := by
  have e : bits .and .u32 ((b : Int) / 2 ^ k) 1 = IntKind.u32.wrap ((BitVec.ofInt 32 ((b : Int) / 2 ^ k) &&& BitVec.ofInt 32 1).toNat : Int) := rfl
  have e2 : ((b : Int) / 2 ^ k) = ((b / 2 ^ k : Nat) : Int) := by simp
  rw [e, e2, BitVec.ofInt_natCast, show BitVec.ofInt 32 1 = 1#32 from rfl, lsb_and, lsb_toNat]
  have h2 : (BitVec.ofNat 32 (b / 2 ^ k)).toNat % 2 = 0 := by rw [BitVec.toNat_ofNat]; omega
  rw [h2]
  rfl
theorem one_shl : ∀ q, q < 8 → (1 <<< UInt8.ofNat q : UInt8).toNat = 2 ^ q := by
  intro q hq
  match q, hq with
  | 0, _ => rfl
  | 1, _ => rfl
  | 2, _ => rfl
  | 3, _ => rfl
  | 4, _ => rfl
  | 5, _ => rfl
  | 6, _ => rfl
  | 7, _ => rfl
theorem xor_turn (y : UInt8) (q : Nat) (hq : q < 8) : bits .xor .u8 (y.toNat : Int) ((2 : Int) ^ q % 256) = ((y ^^^ (1 <<< UInt8.ofNat q)).toNat : Int) := by
  have h1 : (2 : Nat) ^ q < 256 := by
    have := Nat.pow_lt_pow_right (a := 2) (by decide) hq
    simpa using this
  have h2 : ((2 : Int) ^ q % 256) = ((2 ^ q : Nat) : Int) := by
    match q, hq with
    | 0, _ => rfl
    | 1, _ => rfl
    | 2, _ => rfl
    | 3, _ => rfl
    | 4, _ => rfl
    | 5, _ => rfl
    | 6, _ => rfl
    | 7, _ => rfl
  have hy : y.toNat < 256 := UInt8.toNat_lt y
  rw [h2, u8_xor_nat _ _ hy h1, UInt8.toNat_xor, one_shl q hq]
theorem openR_frame {s : ByteArray} (hs : s.size ≤ 1048576) : openR (frameS s) = (s, ByteArray.empty, 0) := by
  have h := openR_back ByteArray.empty hs
  have e : frameS s ++ ByteArray.empty = frameS s := by apply ba_ext; rw [ba_app]; simp
  rw [e] at h
  exact h
theorem tmod_first (a : Int) (m : Nat) (hm : 0 < m) (h2 : m ≤ 100000) : ∃ f : Nat, f < m ∧ (wrap64 (a.tmod (m : Int) + (m : Int))).tmod (m : Int) = (f : Int) := by
  have h3 : -(m : Int) < a.tmod m := by have := Int.lt_tmod_of_pos a (b := (m : Int)) (by omega); exact this
  have h4 : a.tmod m < (m : Int) := Int.tmod_lt_of_pos a (by omega)
  have h5 : wrap64 (a.tmod (m : Int) + (m : Int)) = a.tmod (m : Int) + (m : Int) := by unfold wrap64; omega
  rw [h5]
  obtain ⟨x, hx⟩ : ∃ x, a.tmod (m : Int) + (m : Int) = x := ⟨_, rfl⟩
  rw [hx, Int.tmod_eq_emod_of_nonneg (by omega)]
  have h6 := Int.emod_nonneg x (b := (m : Int)) (by omega)
  have h7 := Int.emod_lt_of_pos x (b := (m : Int)) (by omega)
  exact ⟨(x % m).toNat, by omega, by omega⟩

set_option maxRecDepth 100000 in
set_option maxHeartbeats 2000000 in
theorem burst_small (s : ByteArray) (at_ : Int) (burst : Int) (w : World) (hs : s.size ≤ 2000) (b1 : 0 ≤ burst) (b2 : burst ≤ 4294967295) :
    Calls Try.prog 5 #[.string s, .int .i64 at_, .int .u32 burst] w fun e w' => e = .returned (.bool true) ∧ Below w.heap.size w w' := by
  have hF := frameS_size s
  obtain ⟨F, hFF⟩ : ∃ F, frameS s = F := ⟨_, rfl⟩
  have HFr : Hid (∀ w, Calls Try.prog 12 #[.string s] w (FramePost F 0 w)) := Lib.hid fun w => by have := frame_any s w (by omega); rw [hFF] at this; exact this
  rw [hFF] at hF
  have hh : 1 ≤ headN s := numL_len_pos _
  have hh2 : headN s ≤ 9 := numL_len9 (by omega)
  obtain ⟨hd, hhd⟩ : ∃ hd, headN s = hd := ⟨_, rfl⟩
  rw [hhd] at hF hh hh2
  have HF := Lib.hid hFF
  have HD := Lib.hid hhd
  clear hFF hhd
  have h9 : (F.size : Int) - 4 - (s.size : Int) = (hd : Int) := by omega
  have HS := Lib.hid hF
  have hF1 : F.size ≤ hd + s.size + 4 := by omega
  have hF2 : hd + s.size + 4 ≤ F.size := by omega
  clear hF
  have kc := fun (w : World) => run_bytes_of_string (P := Try.prog) w 9 38 5 F Try.underlying9 Try.underlying38 Try.underlying5
  obtain ⟨many, hmn⟩ : ∃ many, many = 8 * (s.size + 4) := ⟨_, rfl⟩
  have h11 : 8 * ((F.size : Int) - (hd : Int)) = (many : Int) := by omega
  have m1 : 0 < many := by omega
  have m2 : many ≤ 100000 := by omega
  have m3 : many + 8 * hd ≤ 8 * F.size := by omega
  have HM := Lib.hid hmn
  clear hmn
  obtain ⟨first, f1, h12⟩ := tmod_first at_ many m1 m2
  obtain ⟨bu, hbu⟩ : ∃ bu : Nat, burst = (bu : Int) := ⟨burst.toNat, by omega⟩
  subst hbu
  go_enter Try.func5, Try.ntmps5
  go_wp2_with (go_at_call 12; refine (HFr.out _).mono ?_; rintro e w1 ⟨rfl, B⟩)
  go_loopw [13] (fun i wr => ∃ k : Nat, i = .int .i64 (k : Int) ∧ k ≤ 32 ∧ BB wr w1.heap.size (bytesB F.data.toList hd first many bu k) ∧ Below w.heap.size w wr)
    (fun i _ => 32 - (intOf i).toNat)
  case atStart => exact ⟨0, rfl, by omega, (BB.new w1 F _).drew, (B.alloc B.size _).drew⟩
  case round =>
    obtain ⟨k, rfl, hk, hB, hbl⟩ := hrel
    have hlen := bytesB_len F.data.toList hd first many bu k
    by_cases hlt : k < 32
    · cases hfl : flipB first many bu k
      · have HFL := Lib.hid hfl
        have hno : bytesB F.data.toList hd first many bu (k + 1) = bytesB F.data.toList hd first many bu k := by rw [bytesB, hfl, if_neg (by decide)]
        have HNO := Lib.hid hno
        clear hno
        by_cases hfk : first + k < many
        · have ht := bit_no (b := bu) (k := k) (by intro hb; unfold flipB at hfl; simp [hfk, hb] at hfl)
          clear hfl hlen
          go_wp2
          go_roundw
          case rel => exact ⟨k + 1, by go_num, by omega, by rw [HNO.out]; exact hB, hbl⟩
          case measure => simp [intOf]; omega
        · clear hfl hlen
          go_wp2
          go_roundw
          case rel => exact ⟨k + 1, by go_num, by omega, by rw [HNO.out]; exact hB, hbl⟩
          case measure => simp [intOf]; omega
      · have hfk : first + k < many := by unfold flipB at hfl; simp at hfl; exact hfl.1
        have hbit : bu / 2 ^ k % 2 = 1 := by unfold flipB at hfl; simp at hfl; exact hfl.2
        have ht := bit_yes hbit
        have hi : hd + (first + k) / 8 < (bytesB F.data.toList hd first many bu k).length := by rw [hlen, ← ba_size]; omega
        have hcell := hB.cell _ hi
        have hfree := hB.free _ hi
        obtain ⟨y, hy⟩ : ∃ y, (bytesB F.data.toList hd first many bu k).getD (hd + (first + k) / 8) 0 = y := ⟨_, rfl⟩
        rw [hy] at hcell
        have HY := Lib.hid hy
        have HL := Lib.hid hlen
        have HFL := Lib.hid hfl
        clear hy hlen hfl hbit
        go_wp2
        have hx := xor_turn y ((first + k) % 8) (Nat.mod_lt _ (by decide))
        go_roundw
        case rel => exact ⟨k + 1, by go_num, by omega, by rw [bytesB, HFL.out, if_pos rfl, HY.out]; exact hB.set hi _ hx, hbl.setCell (by exact B.size) _⟩
        case measure => simp [intOf]; omega
    · have hk32 : k = 32 := by omega
      subst hk32
      obtain ⟨L, hL⟩ : ∃ L, bytesB F.data.toList hd first many bu 32 = L := ⟨_, rfl⟩
      rw [hL] at hB hlen
      have HC : Hid (∀ w', Below wr.heap.size wr w' → (convert 38 9 (.slice (some ⟨w1.heap.size, 0, none⟩) F.size (grownCap w1 F.size 0 5))).run Try.prog w' = .ok (.string ⟨L.toArray⟩) w') :=
        Lib.hid fun w' hb => (hB.below hb).str (by rw [hlen, ← ba_size])
      have hGs : ((⟨L.toArray⟩ : ByteArray).size : Int) ≤ 9000000000000000000 := by
        have : (⟨L.toArray⟩ : ByteArray).size = L.length := by rw [ba_size]
        rw [this, hlen, ← ba_size]; omega
      have hopen : ((⟨L.toArray⟩ : ByteArray) = F ∧ openR F = (s, ByteArray.empty, 0)) ∨ ((⟨L.toArray⟩ : ByteArray).toList == F.toList) = false ∧ openR ⟨L.toArray⟩ = (ByteArray.empty, ByteArray.empty, 6) := by
        have hfr : openR F = (s, ByteArray.empty, 0) := by rw [← HF.out]; exact openR_frame (by omega)
        by_cases hW : wordW first many bu 32 = 0#32
        · left
          refine ⟨?_, hfr⟩
          rw [← hL, bytesB_none _ _ _ _ _ hW 32 (by omega)]
        · right
          have ho : openR ⟨L.toArray⟩ = (ByteArray.empty, ByteArray.empty, 6) := by
            rw [← hL, ← HF.out, ← HD.out, HM.out]
            exact openR_turned (by omega) first bu (by rw [← HM.out]; exact f1) (by rw [← HM.out]; exact hW)
          refine ⟨?_, ho⟩
          have hne : (⟨L.toArray⟩ : ByteArray) ≠ F := by
            intro e
            rw [e, hfr] at ho
            have := congrArg (fun x => x.2.2) ho
            simp at this
          rw [ByteArray.toList_eq, ByteArray.toList_eq]
          have : (⟨L.toArray⟩ : ByteArray).data.toList ≠ F.data.toList := fun e => hne (ba_ext e)
          simpa using this
      clear hL
      obtain ⟨G, hG⟩ : ∃ G : ByteArray, ⟨L.toArray⟩ = G := ⟨_, rfl⟩
      rw [hG] at HC hGs hopen
      have HG := Lib.hid hG
      have HLen := Lib.hid hlen
      clear hG hlen
      rcases hopen with ⟨hGF, hfr⟩ | ⟨hne, ho⟩
      · rw [hGF] at HC hGs
        have hc1 := HC.out wr (Below.refl _ _)
        go_wp2_with (first
          | (go_at_call 11; refine (cwhole_good _ s _ hGs hfr).mono ?_; rintro e w3 ⟨rfl, B3⟩; have hc2 := HC.out w3 B3)
          | (go_at_call 8; refine (awake2_any _).mono ?_; rintro e w4 ⟨rfl, B4⟩))
        go_ret
        exact ⟨rfl, below_next (below_next hbl B3) B4⟩
      · have hc1 := HC.out wr (Below.refl _ _)
        go_wp2_with (first
          | (go_at_call 11; refine (cwhole_err _ 6 _ hGs (by decide) ho).mono ?_; rintro e w3 ⟨rfl, B3⟩; have hc2 := HC.out w3 B3)
          | (go_at_call 8; refine (awake2_any _).mono ?_; rintro e w4 ⟨rfl, B4⟩))
        go_ret
        exact ⟨rfl, below_next (below_next hbl B3) B4⟩

theorem cksumBurst_walk (s : ByteArray) (at_ burst : Int) (w : World) (_hs : s.size ≤ maxLen) (_ha : (Lit.int .i64 at_).wf = true) (hb : (Lit.int .u32 burst).wf = true) :
    Calls Try.prog 5 #[.string s, .int .i64 at_, .int .u32 burst] w fun e w' => e = .returned (.bool true) ∧ Below w.heap.size w w' := by
  by_cases h1 : 2000 < s.size
  · go_enter Try.func5, Try.ntmps5
    go_wp2_with (go_at_call 8; refine (awake2_any _).mono ?_; rintro e w0 ⟨rfl, B0⟩)
    go_ret
    exact ⟨rfl, B0⟩
  · have hb' : 0 ≤ burst ∧ burst ≤ 4294967295 := bounds_u32 hb
    exact burst_small s at_ burst w (by omega) hb'.1 hb'.2
end Go.Proofs.Ytjeeplacolbihab
