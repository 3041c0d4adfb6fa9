/-
  THE WALK of the law CksumMixes: it returns true, and writes nothing that was there.
-/
import Derived.Test.YtjeeplacolbihabLinear
import Derived.Deep.RegionWith
import Derived.Deep.RegionLaw
import Derived.Deep.RegionHeld
import Derived.Deep.DrawnRows
import Derived.Deep.AppendLies
namespace Go.Proofs.Ytjeeplacolbihab
open Go.RowKit
attribute [local go_sem ↓] Go.wp_at_zero Go.wp_at_succ

/-- Three rows of bytes put together bit by bit. -/
def x3 : List UInt8 → List UInt8 → List UInt8 → List UInt8
  | a :: l, b :: m, c :: n => (a ^^^ b ^^^ c) :: x3 l m n
  | _, _, _ => []
theorem x3_len : ∀ (l m n : List UInt8), l.length = m.length → m.length = n.length → (x3 l m n).length = l.length := by
  intro l
  induction l with
  | nil => intro m n _ _; rfl
  | cons a l ih =>
    intro m n h1 h2
    match m, n, h1, h2 with
    | b :: m, c :: n, h1, h2 => simp only [x3, List.length_cons]; rw [ih m n (by simpa using h1) (by simpa using h2)]
theorem x3_snoc : ∀ (l m n : List UInt8) (a b c : UInt8), l.length = m.length → m.length = n.length → x3 (l ++ [a]) (m ++ [b]) (n ++ [c]) = x3 l m n ++ [a ^^^ b ^^^ c] := by
  intro l
  induction l with
  | nil =>
    intro m n a b c h1 h2
    match m, n, h1, h2 with
    | [], [], _, _ => rfl
  | cons x l ih =>
    intro m n a b c h1 h2
    match m, n, h1, h2 with
    | y :: m, z :: n, h1, h2 =>
      simp only [List.cons_append, x3]
      rw [ih m n a b c (by simpa using h1) (by simpa using h2)]
theorem x3_reg : ∀ (l m n : List UInt8) (x y z : BitVec 32), l.length = m.length → m.length = n.length → crcReg (x ^^^ y ^^^ z) (x3 l m n) = crcReg x l ^^^ crcReg y m ^^^ crcReg z n := by
  intro l
  induction l with
  | nil =>
    intro m n x y z h1 h2
    match m, n, h1, h2 with
    | [], [], _, _ => rfl
  | cons a l ih =>
    intro m n x y z h1 h2
    match m, n, h1, h2 with
    | b :: m, c :: n, h1, h2 =>
      simp only [x3]
      rw [crcReg_cons, crcReg_cons, crcReg_cons, crcReg_cons, byteW_xor, byteW_xor]
      have e : x ^^^ y ^^^ z ^^^ (byteW a ^^^ byteW b ^^^ byteW c) = (x ^^^ byteW a) ^^^ (y ^^^ byteW b) ^^^ (z ^^^ byteW c) := by
        rw [xor_four (x ^^^ y) z (byteW a ^^^ byteW b) (byteW c), xor_four x y (byteW a) (byteW b)]
      rw [e, crcBits_add, crcBits_add, ih m n _ _ _ (by simpa using h1) (by simpa using h2)]
theorem x3_sum (l m n : List UInt8) (h1 : l.length = m.length) (h2 : m.length = n.length) : sumL (x3 l m n) = sumL l ^^^ sumL m ^^^ sumL n := by
  unfold sumL
  have h := x3_reg l m n (BitVec.allOnes 32) (BitVec.allOnes 32) (BitVec.allOnes 32) h1 h2
  rw [show BitVec.allOnes 32 ^^^ BitVec.allOnes 32 ^^^ BitVec.allOnes 32 = BitVec.allOnes 32 from by decide] at h
  rw [h]
  generalize crcReg (BitVec.allOnes 32) l = p
  generalize crcReg (BitVec.allOnes 32) m = q
  generalize crcReg (BitVec.allOnes 32) n = r
  rw [← BitVec.allOnes_xor, ← BitVec.allOnes_xor, ← BitVec.allOnes_xor, ← BitVec.allOnes_xor]
  rw [xor_four (BitVec.allOnes 32) p (BitVec.allOnes 32) q, BitVec.xor_self, BitVec.zero_xor, ← xlc (BitVec.allOnes 32)]
theorem xor_u8 (a b c : UInt8) : bits .xor .u8 (bits .xor .u8 (a.toNat : Int) (b.toNat : Int)) (c.toNat : Int) = ((a ^^^ b ^^^ c).toNat : Int) := by
  have ha : a.toNat < 256 := UInt8.toNat_lt a
  have hb : b.toNat < 256 := UInt8.toNat_lt b
  have hc : c.toNat < 256 := UInt8.toNat_lt c
  have hab : (a ^^^ b).toNat < 256 := UInt8.toNat_lt _
  rw [u8_xor_nat _ _ ha hb, ← UInt8.toNat_xor, u8_xor_nat _ _ hab hc, ← UInt8.toNat_xor]

/-- The least of four. -/
def least4 (x y z u : Int) : Int :=
  if u < (if z < (if y < x then y else x) then z else (if y < x then y else x)) then u else (if z < (if y < x then y else x) then z else (if y < x then y else x))
theorem run_least4 (P : Program) (w : World) (ts : Array TypeId) (t : TypeId) (k k1 k2 k3 : IntKind) (x y z u : Int) : (Builtin.min_ ts t #[.int k x, .int k1 y, .int k2 z, .int k3 u]).run P w = .ok (.int k (least4 x y z u)) w := by
  simp [Builtin.min_, Builtin.min2, least4]
theorem least4_nat (x y z : Nat) : ∃ n : Nat, least4 x y z 2000 = (n : Int) ∧ n ≤ x ∧ n ≤ y ∧ n ≤ z ∧ n ≤ 2000 := by
  refine ⟨(least4 x y z 2000).toNat, ?_⟩
  unfold least4
  split <;> split <;> split <;> omega

theorem cellD (w : World) (v : Value) (t : TypeId) : ∀ j u, [v][j]? = some u → ((w.alloc (.cells #[v] t)).drew).cell? ((⟨w.heap.size, 0, none⟩ : Addr).add j) = some u := cell_one_new w v t
theorem one_u8 (x : Int) : ∀ u ∈ [Value.int .u8 x], u.oneCell' = true := by
  intro u hu
  simp at hu
  subst hu
  rfl
theorem OwnsB.below {w w' : World} {base : Nat} {v : Value} {l : List UInt8} (h : OwnsB w base v l) (hb : Below w.heap.size w w') : OwnsB w' base v l :=
  World.ownsRow.kept h (row := none) ⟨hb.os, hb.tape, hb.output, hb.size, fun k hk _ => hb.block k hk⟩ (by cases hv : v.ownBlock <;> simp)
theorem take_byte' {s : ByteArray} {k : Nat} (h : k < s.size) : s.data.toList.take (k + 1) = s.data.toList.take k ++ [s[k]] := take_byte h

set_option maxRecDepth 100000 in
set_option maxHeartbeats 4000000 in
theorem cksumMixes_walk (a b c : ByteArray) (w : World) (ha : a.size ≤ maxLen) (_hb : b.size ≤ maxLen) (_hc : c.size ≤ maxLen) :
    Calls Try.prog 6 #[.string a, .string b, .string c] w fun e w' => e = .returned (.bool true) ∧ Below w.heap.size w w' := by
  unfold maxLen at ha _hb _hc
  obtain ⟨i0, hi, hz0, hz1, hz2⟩ := info_parts Try.infoByte
  obtain ⟨n, hn, n1, n2, n3, n4⟩ := least4_nat a.size b.size c.size
  have hmin : ∀ w, (Builtin.min_ #[3, 3, 3, 3] 3 #[.int .i64 (a.size : Int), .int .i64 (b.size : Int), .int .i64 (c.size : Int), .int .i64 2000]).run Try.prog w = .ok (.int .i64 (n : Int)) w := by
    intro w
    rw [run_least4, hn]
  clear hn
  go_enter Try.func6, Try.ntmps6
  go_wp2
  go_loopw [8, 9] (fun v i wr => ∃ k : Nat, i = .int .i64 (k : Int) ∧ k ≤ n ∧ OwnsB wr w.heap.size v (x3 (a.data.toList.take k) (b.data.toList.take k) (c.data.toList.take k)) ∧ Below w.heap.size w wr)
    (fun _ i _ => n - (intOf i).toNat)
  case atStart => exact ⟨0, rfl, by omega, OwnsB.nil _ _, Below.refl _ _⟩
  case round =>
    obtain ⟨k, rfl, hk, hown, hbl⟩ := hrel
    have hsz := hbl.size
    by_cases hlt : k < n
    · have ka : k < a.size := by omega
      have kb : k < b.size := by omega
      have kc : k < c.size := by omega
      have hl1 : (a.data.toList.take k).length = (b.data.toList.take k).length := by rw [List.length_take, List.length_take, ← ba_size, ← ba_size]; omega
      have hl2 : (b.data.toList.take k).length = (c.data.toList.take k).length := by rw [List.length_take, List.length_take, ← ba_size, ← ba_size]; omega
      have hlen : (x3 (a.data.toList.take k) (b.data.toList.take k) (c.data.toList.take k)).length = k := by rw [x3_len _ _ _ hl1 hl2, List.length_take, ← ba_size]; omega
      have HX := Lib.hid (x3_snoc _ _ _ a[k] b[k] c[k] hl1 hl2)
      rw [← take_byte ka, ← take_byte kb, ← take_byte kc] at HX
      have HL := Lib.hid hlen
      have ka' : (k : Int) < (a.size : Int) := by omega
      have kb' : (k : Int) < (b.size : Int) := by omega
      have kc' : (k : Int) < (c.size : Int) := by omega
      clear hl1 hl2 hlen
      go_wp2_with fail
      have b63 : (x3 (a.data.toList.take k) (b.data.toList.take k) (c.data.toList.take k)).length + 1 ≤ maxLen := by rw [HL.out]; unfold maxLen; omega
      have bby : ((x3 (a.data.toList.take k) (b.data.toList.take k) (c.data.toList.take k)).length + 1) * 1 ≤ 140737488355328 := by rw [HL.out]; omega
      have hbs : ∀ o, w.heap.size ≤ ((wr.alloc o).drew).heap.size := fun o => Nat.le_trans hsz (by simp)
      have hH : ∀ o, ((wr.alloc o).drew).heap.size = wr.heap.size + 1 := fun o => by simp
      have B63 := Lib.hid b63
      have BBY := Lib.hid bby
      have HBS := Lib.hid hbs
      have HH := Lib.hid hH
      clear b63 bby hbs hH
      go_region_law (first | (refine step_append_lies _ rfl (.tmp 22) (.tmp 34) 38 rfl w.heap.size 5 i0 (.int .u8 0) 1 1 Try.underlying38 hi hz0 hz1 hz2 rfl (by decide) _ _ _ rfl (hown.alloc _).drew ⟨wr.heap.size, 0, none⟩ 1 1 [.int .u8 _] rfl rfl (cellD wr _ _) (one_u8 _) (by decide) B63.out BBY.out (HBS.out _) (wr.heap.size + 1) (HH.out _) ?_; intro g cap w1 hown1 hgrow1 _ _))
      all_goals
        have ho := OwnsB.push (c := a[k] ^^^ b[k] ^^^ c[k]) hown1 (xor_u8 _ _ _)
        have hb1 : Below w.heap.size w w1 := ((hbl.alloc hsz _).drew).grown hgrow1 (HBS.out _) (fun g hg => (hown.lt g hg).1)
        rw [← HX.out] at ho
        clear hown1 hgrow1
        go_wp2
        go_roundw
        case rel => exact ⟨k + 1, by go_num, by omega, ho, hb1⟩
        case measure => simp [intOf]; omega
    · have hkn : k = n := by omega
      subst hkn
      have hl1 : (a.data.toList.take k).length = (b.data.toList.take k).length := by rw [List.length_take, List.length_take, ← ba_size, ← ba_size]; omega
      have hl2 : (b.data.toList.take k).length = (c.data.toList.take k).length := by rw [List.length_take, List.length_take, ← ba_size, ← ba_size]; omega
      have hlen : (x3 (a.data.toList.take k) (b.data.toList.take k) (c.data.toList.take k)).length = k := by rw [x3_len _ _ _ hl1 hl2, List.length_take, ← ba_size]; omega
      have hsum := x3_sum _ _ _ hl1 hl2
      obtain ⟨L, hL⟩ : ∃ L, x3 (a.data.toList.take k) (b.data.toList.take k) (c.data.toList.take k) = L := ⟨_, rfl⟩
      rw [hL] at hown hlen hsum
      obtain ⟨A, hA⟩ : ∃ A, sumL (a.data.toList.take k) = A := ⟨_, rfl⟩
      obtain ⟨B, hB⟩ : ∃ B, sumL (b.data.toList.take k) = B := ⟨_, rfl⟩
      obtain ⟨C, hC⟩ : ∃ C, sumL (c.data.toList.take k) = C := ⟨_, rfl⟩
      rw [hA, hB, hC] at hsum
      have zG : ((⟨L.toArray⟩ : ByteArray).size : Int) ≤ 9000000000000000000 := by
        have : (⟨L.toArray⟩ : ByteArray).size = L.length := by rw [ba_size]
        omega
      have zA : ((a.extract 0 k).size : Int) ≤ 9000000000000000000 := by rw [ba_size, ba_take, List.length_take]; omega
      have zB : ((b.extract 0 k).size : Int) ≤ 9000000000000000000 := by rw [ba_size, ba_take, List.length_take]; omega
      have zC : ((c.extract 0 k).size : Int) ≤ 9000000000000000000 := by rw [ba_size, ba_take, List.length_take]; omega
      have S0 : Hid (∀ w, Calls Try.prog 15 #[.string ⟨L.toArray⟩] w fun e w' => e = .returned (.int .u32 (regI (A ^^^ B ^^^ C))) ∧ w = w') := Lib.hid fun w => by have := sum_any ⟨L.toArray⟩ w zG; rw [show (⟨L.toArray⟩ : ByteArray).data.toList = L from rfl, hsum] at this; exact this
      have SA : Hid (∀ w, Calls Try.prog 15 #[.string (a.extract 0 k)] w fun e w' => e = .returned (.int .u32 (regI A)) ∧ w = w') := Lib.hid fun w => by have := sum_any (a.extract 0 k) w zA; rw [ba_take, hA] at this; exact this
      have SB : Hid (∀ w, Calls Try.prog 15 #[.string (b.extract 0 k)] w fun e w' => e = .returned (.int .u32 (regI B)) ∧ w = w') := Lib.hid fun w => by have := sum_any (b.extract 0 k) w zB; rw [ba_take, hB] at this; exact this
      have SC : Hid (∀ w, Calls Try.prog 15 #[.string (c.extract 0 k)] w fun e w' => e = .returned (.int .u32 (regI C)) ∧ w = w') := Lib.hid fun w => by have := sum_any (c.extract 0 k) w zC; rw [ba_take, hC] at this; exact this
      have hx1 := xor_regI A B
      have hx2 := xor_regI (A ^^^ B) C
      clear hL hA hB hC hsum hl1 hl2 hlen zG zA zB zC hlt
      go_wp2_with fail
      have q0 : (0 : Int) ≤ (k : Int) := by omega
      have qa : (k : Int) ≤ (a.size : Int) := by omega
      have qb : (k : Int) ≤ (b.size : Int) := by omega
      have qc : (k : Int) ≤ (c.size : Int) := by omega
      clear hmin n1 n2 n3 n4 hk ha _hb _hc
      go_region_held (fun _ => True) (exact True.intro) ((first
        | (go_at_call 8; refine (awake2_any _).mono ?_; rintro e w2 ⟨rfl, B2⟩; have hcv := (OwnsB.below (w := wr.drew) hown B2).str)
        | (go_at_call 15; (first | (with_reducible refine (S0.out _).mono ?_) | (with_reducible refine (SA.out _).mono ?_) | (with_reducible refine (SB.out _).mono ?_) | (with_reducible refine (SC.out _).mono ?_)); rintro e w' ⟨rfl, rfl⟩)))
      all_goals
        go_wp2
        go_ret
        exact ⟨rfl, below_next hbl.drew B2⟩
end Go.Proofs.Ytjeeplacolbihab
