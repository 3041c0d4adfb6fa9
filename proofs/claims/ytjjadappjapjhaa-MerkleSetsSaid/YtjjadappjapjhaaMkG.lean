/-
  CONTRACTS of differing, children.
-/
import Derived.Test.YtjjadappjapjhaaMkF
namespace Go.Proofs.Ytjjadappjapjhaa
open Go.RowKit Go.Deep

def encK (k : Nat) : List Value := [.int .i64 (k : Int)]
theorem encK_len (k : Nat) : (encK k).length = 1 := rfl
def szA (m : Nat) : Nat := 4096 / 16 ^ m
theorem szA_succ (m : Nat) : szA (m + 1) = szM m := by
  unfold szA szM
  rw [Nat.pow_succ, Nat.mul_comm, ← Nat.div_div_eq_div_mul]
theorem numT_any (b m k : Nat) (C : Nat → Option Int) (lv : Int) (w : World) (h : TreeOf w b C) (hlv : lv = (m : Int) - 1) (hm : m ≤ 3) (hk : k < szA m) :
    Calls Try.prog 51 #[.pointer (some ⟨b, 0, none⟩), .int .i64 lv, .int .i64 (k : Int)] w fun e w' => e = .returned (.int .u32 (regI (lvN C m k))) ∧ w = w' := by
  obtain ⟨N, h, hn⟩ := h
  cases m with
  | zero =>
    rw [hlv]
    exact numberL_any b k C (lvN C 0) N w h hk
  | succ m =>
    rw [szA_succ] at hk
    have := numberN_any b m k C (lvN C 0) N w h (by omega) (Nat.lt_of_lt_of_le hk (szM_le m))
    rw [hn m (by omega) k hk] at this
    rw [hlv, show ((m + 1 : Nat) : Int) - 1 = (m : Int) by omega]
    exact this
theorem Try.infoInt20 : (Try.prog.info? 3).map (fun i => (i.zero, i.size, i.bytes)) = some (some (.int .i64 0), 1, 8) := by kernel_rfl
theorem RArg.ks {w : World} {a : Option Addr} {n c : Nat} {l : List Nat} (h : RArg encK 1 w a n c l) {k : Nat} (hk : k < l.length) :
    ∃ b off, a = some ⟨b, off, none⟩ ∧ b < w.heap.size ∧ w.cell? ⟨b, off + k, none⟩ = some (.int .i64 (l[k]! : Nat)) := by
  obtain ⟨b, off, e, hb, hc⟩ := h.2.2.2.2 k hk
  have := hc 0 _ rfl
  rw [Nat.mul_one, Nat.add_zero] at this
  exact ⟨b, off, e, hb, this⟩
def RowK (l : List Nat) (w : World) (e : Ending) (w' : World) : Prop := ∃ v, e = .returned v ∧ OwnsR encK 1 3 w' w.heap.size v l ∧ Below w.heap.size w w'
def difB (C1 C2 : Nat → Option Int) (m k : Nat) : Bool := lvN C1 m k != lvN C2 m k
theorem regI_ne (x y : BitVec 32) : (regI x != regI y) = (x != y) := by
  by_cases h : x = y
  · subst h; rw [bne_self_eq_false, bne_self_eq_false]
  · have : regI x ≠ regI y := fun e => h (regI_inj e)
    exact (bne_iff_ne.2 this).trans (bne_iff_ne.2 h).symm
set_option maxRecDepth 100000 in
set_option maxHeartbeats 1000000 in
theorem differing_any (b1 b2 m : Nat) (C1 C2 : Nat → Option Int) (lv : Int) (a : Option Addr) (n c : Nat) (ks : List Nat) (w : World) (h1 : TreeOf w b1 C1) (h2 : TreeOf w b2 C2) (hlv : lv = (m : Int) - 1) (hm : m ≤ 3)
    (hR : RArg encK 1 w a n c ks) (hks : ∀ k ∈ ks, k < szA m) (hl : ks.length ≤ 100000) :
    Calls Try.prog 44 #[.pointer (some ⟨b1, 0, none⟩), .pointer (some ⟨b2, 0, none⟩), .int .i64 lv, .slice a n c] w (RowK (ks.filter (difB C1 C2 m)) w) := by
  obtain ⟨i0, hi, hz0, hz1, hz2⟩ := info_parts Try.infoInt20
  have hn : n = ks.length := hR.1
  have hz : (n : Int) ≤ 9223372036854775807 := by omega
  have hn5 : n ≤ 100000 := by omega
  have H1 := Lib.hid h1
  have H2 := Lib.hid h2
  have HR := Lib.hid hR
  have HN := Lib.hid hn
  have HLV := Lib.hid hlv
  have HKS := Lib.hid hks
  clear h1 h2 hR hn hlv hks
  go_enter Try.func44, Try.ntmps44
  go_wp2_with fail
  go_loopw [9, 14] (fun v i wr => ∃ k : Nat, i = .int .i64 (k : Int) ∧ k ≤ n ∧ Hid (OwnsR encK 1 3 wr w.heap.size v ((ks.take k).filter (difB C1 C2 m))) ∧ Below w.heap.size w wr)
    (fun _ i _ => n - (intOf i).toNat)
  case atStart => exact ⟨0, rfl, by omega, Lib.hid (OwnsR.nil _ _ _ _ _), Below.refl _ _⟩
  case round =>
    obtain ⟨k, rfl, hk, HO, hb⟩ := hrel
    by_cases hlt : k < n
    · have hkl : k < ks.length := by rw [← HN.out]; exact hlt
      have hT := take_moreG hkl
      have hmem := HKS.out ks[k]! (by rw [getElem!_pos ks k hkl]; exact List.getElem_mem hkl)
      obtain ⟨b, off, e, hbb, c0⟩ := (HR.out.below hb).ks hkl
      subst e
      generalize ks[k]! = q at c0 hT hmem
      have hlen : ((ks.take k).filter (difB C1 C2 m)).length ≤ k := Nat.le_trans (List.length_filter_le _ _) (List.length_take_le _ _)
      have N1 := Lib.hid (numT_any b1 m q C1 lv wr (H1.out.below hb) HLV.out hm hmem)
      have N2 := Lib.hid (numT_any b2 m q C2 lv wr (H2.out.below hb) HLV.out hm hmem)
      have hd := regI_ne (lvN C1 m q) (lvN C2 m q)
      obtain ⟨dv, hdv⟩ : ∃ dv, difB C1 C2 m q = dv := ⟨_, rfl⟩
      rw [show (lvN C1 m q != lvN C2 m q) = difB C1 C2 m q from rfl, hdv] at hd
      obtain ⟨x, hx⟩ : ∃ x, regI (lvN C1 m q) = x := ⟨_, rfl⟩
      obtain ⟨y, hy⟩ : ∃ y, regI (lvN C2 m q) = y := ⟨_, rfl⟩
      rw [hx] at N1 hd
      rw [hy] at N2 hd
      have HT := Lib.hid hT
      have HDV := Lib.hid hdv
      clear hkl hT hmem hdv hx hy
      obtain ⟨O, hO⟩ : ∃ O, (ks.take k).filter (difB C1 C2 m) = O := ⟨_, rfl⟩
      rw [hO] at HO hlen
      have HOE := Lib.hid hO
      clear hO
      cases dv
      · go_wp2_with (first | (go_at_call 51; (with_reducible refine N1.out.mono ?_); rintro e w3 ⟨rfl, rfl⟩) | (go_at_call 51; (with_reducible refine N2.out.mono ?_); rintro e w4 ⟨rfl, rfl⟩) | fail)
        go_roundw
        case rel => exact ⟨k + 1, by go_num, by omega, Lib.hid (by rw [HT.out, List.filter_append, HOE.out, List.filter_cons, HDV.out]; simpa using HO.out), hb⟩
        case measure => simp [intOf]; omega
      · go_wp2_with (first | (go_at_call 51; (with_reducible refine N1.out.mono ?_); rintro e w3 ⟨rfl, rfl⟩) | (go_at_call 51; (with_reducible refine N2.out.mono ?_); rintro e w4 ⟨rfl, rfl⟩) | (at_builtin; refine wpList_append_own _ rfl _ _ 97 rfl w.heap.size 3 i0 (.int .i64 0) 1 8 Try.underlying97 hi hz0 hz1 hz2 rfl (by decide) _ _ _ rfl (World.ownsRow.alloc HO.out _) ⟨wr.heap.size, 0, none⟩ 1 1 [.int .i64 (q : Int)] rfl rfl ?c1 ?c2 ?c3 ?c4 ?c5 ?_) | fail)
        case c1 => exact cell_one_new _ _ _
        case c2 => intro u hu; simp at hu; subst hu; rfl
        case c3 => unfold maxLen; omega
        case c4 => omega
        case c5 => have := hb.size; simp; omega
        intro v1 w1 hown1 hg1 _
        have ho := Lib.hid (OwnsR.snoc (enc := encK) (x := q) rfl hown1)
        have hb1 : Below w.heap.size w w1 := (hb.alloc hb.size _).grown hg1 (by have := hb.size; simp; omega) (fun g hg => (World.ownsRow.lt HO.out g hg).1)
        clear hown1 hg1
        go_wp2_with fail
        go_roundw
        case rel => exact ⟨k + 1, by go_num, by omega, Lib.hid (by rw [HT.out, List.filter_append, HOE.out, List.filter_cons, HDV.out]; exact ho.out), hb1⟩
        case measure => simp [intOf]; omega
    · obtain rfl : k = n := by omega
      have ho := HO.out
      rw [HN.out, List.take_length] at ho
      replace ho := Lib.hid ho
      go_wp2_with fail
      go_ret
      exact ⟨_, rfl, ho.out, hb⟩
def kidsL (k : Nat) : List Nat := (List.range 16).map fun i => k * 16 + i
theorem kids_flat (l : List Nat) : (l.flatMap kidsL).length = 16 * l.length := by
  induction l with
  | nil => rfl
  | cons a l ih => rw [List.flatMap_cons, List.length_append, ih, List.length_cons]; simp [kidsL]; omega
set_option maxRecDepth 100000 in
set_option maxHeartbeats 1000000 in
theorem children_any (a : Option Addr) (n c : Nat) (ks : List Nat) (w : World) (hR : RArg encK 1 w a n c ks) (hks : ∀ k ∈ ks, k < 256) (hl : ks.length ≤ 1000) :
    Calls Try.prog 45 #[.slice a n c] w (RowK (ks.flatMap kidsL) w) := by
  obtain ⟨i0, hi, hz0, hz1, hz2⟩ := info_parts Try.infoInt20
  have hn : n = ks.length := hR.1
  have hz : (n : Int) ≤ 9223372036854775807 := by omega
  have hn5 : n ≤ 1000 := by omega
  have HR := Lib.hid hR
  have HN := Lib.hid hn
  have HKS := Lib.hid hks
  clear hR hn hks
  go_enter Try.func45, Try.ntmps45
  go_wp2_with fail
  go_loopw [3, 9] (fun v i wr => ∃ k : Nat, i = .int .i64 (k : Int) ∧ k ≤ n ∧ Hid (OwnsR encK 1 3 wr w.heap.size v ((ks.take k).flatMap kidsL)) ∧ Hid (Below w.heap.size w wr))
    (fun _ i _ => n - (intOf i).toNat)
  case atStart => exact ⟨0, rfl, by omega, Lib.hid (OwnsR.nil _ _ _ _ _), Lib.hid (Below.refl _ _)⟩
  case round =>
    obtain ⟨k, rfl, hk, HO, HB⟩ := hrel
    by_cases hlt : k < n
    · have hkl : k < ks.length := by rw [← HN.out]; exact hlt
      have hT := take_moreG hkl
      have hmem := HKS.out ks[k]! (by rw [getElem!_pos ks k hkl]; exact List.getElem_mem hkl)
      obtain ⟨b, off, e, hbb, c0⟩ := (HR.out.below HB.out).ks hkl
      subst e
      generalize ks[k]! = q at c0 hT hmem
      have hlen : ((ks.take k).flatMap kidsL).length ≤ 16000 := by rw [kids_flat]; have := List.length_take_le k ks; omega
      have HT := Lib.hid hT
      clear hkl hT
      obtain ⟨O, hO⟩ : ∃ O, (ks.take k).flatMap kidsL = O := ⟨_, rfl⟩
      rw [hO] at HO hlen
      have HOE := Lib.hid hO
      clear hO
      obtain ⟨wo, rfl⟩ : ∃ wo : World, wo = wr := ⟨_, rfl⟩
      go_wp2_with fail
      go_loopw [3, 13] (fun v i wq => ∃ j : Nat, i = .int .i64 (j : Int) ∧ j ≤ 16 ∧ Hid (OwnsR encK 1 3 wq w.heap.size v (O ++ (List.range j).map fun i => q * 16 + i)) ∧ Hid (Below w.heap.size w wq))
        (fun _ i _ => 16 - (intOf i).toNat)
      case atStart => exact ⟨0, rfl, by omega, Lib.hid (by simpa using HO.out), HB⟩
      case round =>
        obtain ⟨j, rfl, hj, HP, HC⟩ := hrel
        by_cases hj16 : j < 16
        · have hlen2 : (O ++ (List.range j).map fun i => q * 16 + i).length ≤ 17000 := by simp; omega
          have hsz := HC.out.size
          go_wp2_with (first | (at_builtin; refine wpList_append_own _ rfl _ _ 97 rfl w.heap.size 3 i0 (.int .i64 0) 1 8 Try.underlying97 hi hz0 hz1 hz2 rfl (by decide) _ _ _ rfl (World.ownsRow.alloc HP.out _) ⟨wr.heap.size, 0, none⟩ 1 1 [.int .i64 ((q : Int) * 16 + (j : Int))] rfl rfl ?c1 ?c2 ?c3 ?c4 ?c5 ?_) | fail)
          case c1 => exact cell_one_new _ _ _
          case c2 => intro u hu; simp at hu; subst hu; rfl
          case c3 => unfold maxLen; omega
          case c4 => omega
          case c5 => simp; omega
          intro v1 w1 hown1 hg1 _
          have hown2 : w1.ownsRow w.heap.size 3 1 v1 ((O ++ (List.range j).map fun i => q * 16 + i).length + 1) (flatR encK (O ++ (List.range j).map fun i => q * 16 + i) ++ encK (q * 16 + j)) := by
            rw [show encK (q * 16 + j) = [.int .i64 ((q : Int) * 16 + (j : Int))] by simp [encK]]
            simpa using hown1
          have ho := Lib.hid (OwnsR.snoc (enc := encK) (x := q * 16 + j) rfl hown2)
          have hb1 := Lib.hid (show Below w.heap.size w w1 from (HC.out.alloc hsz _).grown hg1 (by simp; omega) (fun g hg => (World.ownsRow.lt HP.out g hg).1))
          clear hown1 hown2 hg1 hsz hlen2
          go_wp2_with fail
          go_roundw
          case rel => exact ⟨j + 1, by go_num, by omega, Lib.hid (by rw [List.range_succ, List.map_append, ← List.append_assoc]; exact ho.out), hb1⟩
          case measure => simp [intOf]; omega
        · obtain rfl : j = 16 := by omega
          go_wp2_with fail
          go_roundw
          case rel => exact ⟨k + 1, by go_num, by omega, Lib.hid (by rw [HT.out, List.flatMap_append, HOE.out, List.flatMap_cons, List.flatMap_nil, List.append_nil]; exact HP.out), HC⟩
          case measure => simp [intOf]; omega
    · obtain rfl : k = n := by omega
      have ho := HO.out
      rw [HN.out, List.take_length] at ho
      replace ho := Lib.hid ho
      go_wp2_with fail
      go_ret
      exact ⟨_, rfl, ho.out, HB.out⟩
end Go.Proofs.Ytjjadappjapjhaa
