/-
  The document's Top.
-/
import Derived.Test.YtbpekloodjimoaaScX
import Derived.Test.YtbpekloodjimoaaScR
namespace Go.Proofs.Ytbpekloodjimoaa
open Go.RowKit Go.Shelf Go.ChangeShapes Go.WideShapes Go.Deep

theorem below_drewNS {B : Nat} {a X : World} (h : Below B a X) (n : Nat) : Below B a (X.drewN n) := ⟨h.os, h.tape, h.output, h.size, h.block⟩
theorem cellT {W : World} {x : Array Value} {t : TypeId} {b i : Nat} (hb : b = W.heap.size) : (W.alloc (.cells x t)).cell? ⟨b, i, none⟩ = x[i]? := by subst hb; exact cell_of_row _ _ _ _ _ _ (heap_alloc_new _ _)
theorem key_placeP {M : List Sp} (hp : M.Pairwise (fun a b => a.1 < b.1)) {t j : Nat} (ht : t < M.length) (hj : j < M.length) : (M.getD t (0, 0)).1 < (M.getD j (0, 0)).1 ↔ t < j := by
  have hp := List.pairwise_iff_getElem.1 hp
  rw [List.getD_eq_getElem?_getD, List.getD_eq_getElem?_getD, List.getElem?_eq_getElem ht, List.getElem?_eq_getElem hj]
  show M[t].1 < M[j].1 ↔ t < j
  constructor
  · intro h
    apply Classical.byContradiction
    intro hn
    rcases Nat.lt_or_ge j t with q | q
    · have := hp j t hj ht q; omega
    · obtain rfl : t = j := by omega
      omega
  · intro h
    exact hp t j ht hj h
theorem key_filtP (f : Sp → Bool) {M : List Sp} (h : M.Pairwise (fun a b => a.1 < b.1)) : (M.filter f).Pairwise (fun a b => a.1 < b.1) := List.Pairwise.filter f h
theorem flat_le (o : List Sp) : ∀ p : Nat, ((List.range p).flatMap (fun j => o.filter (fun t => decide (cntT o t = j)))).length ≤ p * o.length
  | 0 => by simp
  | p + 1 => by
    have := flat_le o p
    have h2 := List.length_filter_le (fun t => decide (cntT o t = p)) o
    rw [List.range_succ, List.flatMap_append, List.length_append, Nat.succ_mul]
    simp only [List.flatMap_cons, List.flatMap_nil, List.append_nil]
    omega
theorem flat_len (o : List Sp) (p q : Nat) : ((List.range p).flatMap (fun j => o.filter (fun t => decide (cntT o t = j))) ++ (o.take q).filter (fun t => decide (cntT o t = p))).length ≤ p * o.length + o.length := by
  have := flat_le o p
  have h2 := List.length_filter_le (fun t => decide (cntT o t = p)) (o.take q)
  have h3 := List.length_take_le q o
  have h4 := List.length_take_le' q o
  rw [List.length_append]
  omega
set_option maxRecDepth 100000 in
set_option maxHeartbeats 4000000 in
theorem rtop_any (a : Option Addr) (n c : Nat) (l : List Sp) (a3 : Option Addr) (n3 c3 : Nat) (on : List Sp) (k : Int) (w : World) (hL : Arg w a n c l) (hO : Arg w a3 n3 c3 on) (zl : l.length ≤ 60) :
    Calls Try.prog 21 #[.slice a n c, .slice a3 n3 c3, .int .i64 k] w (ListArg w (sortT (outT (clipP l on) k))) := by
  obtain ⟨i0, hi, hz0, hz1, hz2⟩ := info_parts Try.infoRPair
  have CL := Lib.hid (rtclip_any a n c l a3 n3 c3 on w hL hO (by omega))
  have hct := clip_tbl l on
  have zm : (clipP l on).length ≤ 60 := Nat.le_trans (by unfold clipP; split; exact List.length_filter_le _ _; simp) zl
  generalize clipP l on = M at *
  have KM := Lib.hid (tbl_keysT M _ hct)
  have KP := Lib.hid (fun (j : Nat) (hj : j < M.length) (t : Nat) (ht : t < M.length) => key_place hct ht hj)
  obtain ⟨f, hf⟩ : ∃ f : Sp → Bool, (fun p => decide ((cntT M p : Int) < k)) = f := ⟨_, rfl⟩
  have HF := Lib.hid (fun x y => (show f (x, y) = decide (((M.countP (fun p => ahT p (x, y)) : Nat) : Int) < k) by rw [← hf]; rfl))
  rw [show outT M k = M.filter f by rw [← hf]; rfl]
  clear hL hO hct hf
  go_enter Try.func21, Try.ntmps21
  go_wp2_with (go_at_call 39; (with_reducible refine CL.out.mono ?_); rintro e w2 ⟨a8, n8, c8, rfl, h8, b2⟩; obtain rfl : n8 = _ := h8.1; have H8 := Lib.hid h8; clear h8)
  go_loopw [8, 9, 10, 11] (fun v i _ _ wr => ∃ j : Nat, i = .int .i64 (j : Int) ∧ j ≤ M.length ∧ Hid (OwnsP 75 wr w2.heap.size v ((M.take j).filter f)) ∧ Below w2.heap.size w2 wr) (fun _ i _ _ _ => M.length - (intOf i).toNat)
  case atStart => exact ⟨0, rfl, Nat.zero_le _, Lib.hid (OwnsP.nil _ _ _), Below.refl _ _⟩
  case round =>
    obtain ⟨j, rfl, hj, HO, bl⟩ := hrel
    by_cases hlt : j < M.length
    · have hjz : (j : Int) < (M.length : Int) := by omega
      obtain ⟨b, off, e, hb, c0, c1⟩ := (H8.out.below bl).2.2.2.2 j hlt
      subst e
      have KJ := Lib.hid (KP.out j hlt)
      have HT := Lib.hid (take_filter (q := f) hlt)
      have hq := HF.out (M.getD j (0, 0)).1 (M.getD j (0, 0)).2
      generalize M.getD j (0, 0) = pj at c0 c1 KJ HT hq
      obtain ⟨x, y⟩ := pj
      dsimp only at c0 c1 KJ hq
      replace hq := Lib.hid hq
      go_wp2_with fail
      go_loopw [10, 11] (fun cn q wq => ∃ t : Nat, q = .int .i64 (t : Int) ∧ t ≤ M.length ∧ cn = .int .i64 (((M.take t).countP (fun p => ahT p (x, y)) : Nat) : Int) ∧ Below wr.heap.size wr wq) (fun _ q _ => M.length - (intOf q).toNat)
      case atStart => exact ⟨0, rfl, Nat.zero_le _, rfl, Below.refl _ _⟩
      case round =>
        obtain ⟨t, rfl, ht, rfl, bq⟩ := hrel
        by_cases htl : t < M.length
        · have htz : (t : Int) < (M.length : Int) := by omega
          have hcl : (M.take t).countP (fun p => ahT p (x, y)) ≤ t := Nat.le_trans List.countP_le_length (by rw [List.length_take]; omega)
          obtain ⟨b', off', e', hb', t0, t1⟩ := ((H8.out.below bl).below bq).2.2.2.2 t htl
          cases e'
          have j1 := (bq.cell (p := ⟨b, off + j * 2 + 1, none⟩) hb).trans c1
          have HC := Lib.hid (cnt_more (f := fun p => ahT p (x, y)) htl)
          have hkp := KJ.out t htl
          generalize M.getD t (0, 0) = p2 at t0 t1 HC hkp
          obtain ⟨x2, y2⟩ := p2
          dsimp only at t0 t1 hkp
          have HH := Lib.hid (show ahT (x2, y2) (x, y) = decide (y < y2 ∨ (y2 = y ∧ t < j)) by unfold ahT; exact decide_eq_decide.2 (by dsimp only; omega))
          generalize (M.take t).countP (fun p => ahT p (x, y)) = cc at *
          clear hkp
          by_cases k1 : y < y2
          · have k2 : ¬ y2 = y := by omega
            have HE := Lib.hid (show (M.take (t + 1)).countP (fun p => ahT p (x, y)) = cc + 1 by have hc := HC.out; rw [HH.out, if_pos (by simp; omega)] at hc; exact hc)
            clear HC HH
            go_wp2_with fail
            go_quiet (fail)
            generalize HW1 : wr.drewN _ = W1
            have bw : Below wr.heap.size wr W1 := by rw [← HW1]; exact below_drewNS (Below.refl _ _) _
            replace HW1 := Lib.hid HW1
            go_wp2_with fail
            go_roundw
            case rel => exact ⟨t + 1, by go_num, by omega, by rw [HE.out]; go_num, below_next bq bw⟩
            case measure => simp [intOf]; omega
          · by_cases k2 : y2 = y
            · by_cases k3 : t < j
              · have k3z : (t : Int) < (j : Int) := by omega
                have HE := Lib.hid (show (M.take (t + 1)).countP (fun p => ahT p (x, y)) = cc + 1 by have hc := HC.out; rw [HH.out, if_pos (by simp; omega)] at hc; exact hc)
                clear HC HH
                go_wp2_with fail
                go_quiet (fail)
                generalize HW1 : wr.drewN _ = W1
                have bw : Below wr.heap.size wr W1 := by rw [← HW1]; exact below_drewNS (Below.refl _ _) _
                replace HW1 := Lib.hid HW1
                go_wp2_with fail
                go_roundw
                case rel => exact ⟨t + 1, by go_num, by omega, by rw [HE.out]; go_num, below_next bq bw⟩
                case measure => simp [intOf]; omega
              · have k3z : ¬ (t : Int) < (j : Int) := by omega
                have HE := Lib.hid (show (M.take (t + 1)).countP (fun p => ahT p (x, y)) = cc by have hc := HC.out; rw [HH.out, if_neg (by simp; omega)] at hc; exact hc)
                clear HC HH
                go_wp2_with fail
                go_quiet (fail)
                generalize HW1 : wr.drewN _ = W1
                have bw : Below wr.heap.size wr W1 := by rw [← HW1]; exact below_drewNS (Below.refl _ _) _
                replace HW1 := Lib.hid HW1
                go_wp2_with fail
                go_roundw
                case rel => exact ⟨t + 1, by go_num, by omega, by rw [HE.out], below_next bq bw⟩
                case measure => simp [intOf]; omega
            · have k4 : y2 < y := by omega
              have HE := Lib.hid (show (M.take (t + 1)).countP (fun p => ahT p (x, y)) = cc by have hc := HC.out; rw [HH.out, if_neg (by simp; omega)] at hc; exact hc)
              clear HC HH
              go_wp2_with fail
              go_quiet (fail)
              generalize HW1 : wr.drewN _ = W1
              have bw : Below wr.heap.size wr W1 := by rw [← HW1]; exact below_drewNS (Below.refl _ _) _
              replace HW1 := Lib.hid HW1
              go_wp2_with fail
              go_roundw
              case rel => exact ⟨t + 1, by go_num, by omega, by rw [HE.out], below_next bq bw⟩
              case measure => simp [intOf]; omega
        · have htz : ¬ (t : Int) < (M.length : Int) := by omega
          rw [List.take_of_length_le (by omega)]
          have hcn := hq.out
          generalize M.countP (fun p => ahT p (x, y)) = cc at hcn ⊢
          have HO2 := Lib.hid (HO.out.below bq)
          have bl2 := below_next bl bq
          have u0 := (bq.cell (p := ⟨b, off + j * 2, none⟩) hb).trans c0
          have u1 := (bq.cell (p := ⟨b, off + j * 2 + 1, none⟩) hb).trans c1
          have HZ := Lib.hid (filter_take_len M j f)
          by_cases hk : (cc : Int) < k
          · have HT2 := Lib.hid (show (M.take (j + 1)).filter f = (M.take j).filter f ++ [(x, y)] by rw [HT.out, hcn, decide_eq_true hk]; rfl)
            clear hcn HT
            go_wp2_with ((at_builtin; refine wpList_append_own _ rfl _ _ 32 rfl w2.heap.size 75 i0 (.agg #[.int .i64 0, .int .i64 0]) 2 16 Try.underlying32 hi hz0 hz1 hz2 rfl (by decide) _ _ _ rfl (World.ownsRow.alloc HO2.out _) ⟨wr.heap.size, 0, none⟩ 1 1 [.int .i64 x, .int .i64 y] rfl rfl ?fa ?fb ?fc ?fd ?fe ?_))
            try case fa => exact fun jj u hj => by rw [addr_add]; exact (cellT rfl).trans (by simpa using hj)
            case fb => exact ⟨rfl, rfl⟩
            case fc => have := HZ.out; unfold maxLen; omega
            case fd => have := HZ.out; omega
            case fe => have := bl2.size; simp; omega
            intro v' w9 hown' hgrow _
            have hb9 := ((bl2).alloc (bl2).size (.cells #[.int .i64 x, .int .i64 y] 75)).grown hgrow (by have := bl2.size; simp; omega) (fun j hj => (World.ownsRow.lt HO2.out j hj).1)
            replace hown' := Lib.hid hown'
            clear hgrow
            go_wp2
            go_roundw
            case rel =>
              refine ⟨j + 1, by go_num, by omega, Lib.hid ?_, hb9⟩
              rw [HT2.out]
              exact OwnsP.snoc rfl hown'.out
            case measure => simp [intOf]; omega
          · have HT2 : (M.take (j + 1)).filter f = (M.take j).filter f := by rw [HT.out, hcn, decide_eq_false hk]; simp
            clear hcn HT
            replace HT2 := Lib.hid HT2
            go_wp2_with fail
            go_roundw
            case rel => exact ⟨j + 1, by go_num, by omega, Lib.hid (by rw [HT2.out]; exact HO2.out), bl2⟩
            case measure => simp [intOf]; omega
    · have ho := HO.out
      rw [List.take_of_length_le (by omega)] at ho
      obtain rfl : j = M.length := by omega
      have hop := key_filtP f KM.out
      have hol := List.length_filter_le f M
      obtain ⟨a6, n6, c6, rfl, HA⟩ := ho.ready
      obtain rfl : n6 = _ := HA.1
      have KO := Lib.hid (fun (j : Nat) (hj : j < (M.filter f).length) (t : Nat) (ht : t < (M.filter f).length) => key_placeP hop ht hj)
      generalize M.filter f = o at *
      have zo : o.length ≤ 60 := by omega
      replace HA := Lib.hid HA
      obtain ⟨W3, hW3⟩ : ∃ W3, W3 = wr := ⟨_, rfl⟩
      subst hW3
      clear ho HO hop hol HF KP hj hlt
      have hjz : ¬ ((M.length : Int) < (M.length : Int)) := by omega
      go_wp2_with fail
      go_loopw [12, 13, 14, 15, 16] (fun v i _ _ _ wr => ∃ p : Nat, i = .int .i64 (p : Int) ∧ p ≤ o.length ∧ Hid (OwnsP 75 wr W3.heap.size v ((List.range p).flatMap (fun j => o.filter (fun t => decide (cntT o t = j))))) ∧ Below W3.heap.size W3 wr) (fun _ i _ _ _ _ => o.length - (intOf i).toNat)
      case atStart => exact ⟨0, rfl, Nat.zero_le _, Lib.hid (OwnsP.nil _ _ _), Below.refl _ _⟩
      case round =>
        obtain ⟨p, rfl, hp, HO, bl2⟩ := hrel
        by_cases hpl : p < o.length
        · have hpz : (p : Int) < (o.length : Int) := by omega
          go_wp2_with fail
          go_loopw [12, 14, 15, 16] (fun v i _ _ wr => ∃ q : Nat, i = .int .i64 (q : Int) ∧ q ≤ o.length ∧ Hid (OwnsP 75 wr W3.heap.size v ((List.range p).flatMap (fun j => o.filter (fun t => decide (cntT o t = j))) ++ (o.take q).filter (fun t => decide (cntT o t = p)))) ∧ Below W3.heap.size W3 wr) (fun _ i _ _ _ => o.length - (intOf i).toNat)
          case atStart => exact ⟨0, rfl, Nat.zero_le _, Lib.hid (by simpa using HO.out), bl2⟩
          case round =>
            obtain ⟨q, rfl, hq0, HO3, bl3⟩ := hrel
            by_cases hlt : q < o.length
            · have hqz : (q : Int) < (o.length : Int) := by omega
              obtain ⟨b, off, e, hb, c0, c1⟩ := (HA.out.below bl3).2.2.2.2 q hlt
              subst e
              have KJ := Lib.hid (KO.out q hlt)
              have HT := Lib.hid (take_filter (q := fun t => decide (cntT o t = p)) hlt)
              have hq : o.countP (fun p => ahT p (o.getD q (0, 0))) = cntT o (o.getD q (0, 0)) := rfl
              generalize o.getD q (0, 0) = pj at c0 c1 KJ HT hq
              obtain ⟨x, y⟩ := pj
              dsimp only at c0 c1 KJ
              replace hq := Lib.hid hq.symm
              go_wp2_with fail
              go_loopw [15, 16] (fun cn q wq => ∃ t : Nat, q = .int .i64 (t : Int) ∧ t ≤ o.length ∧ cn = .int .i64 (((o.take t).countP (fun p => ahT p (x, y)) : Nat) : Int) ∧ Below wr.heap.size wr wq) (fun _ q _ => o.length - (intOf q).toNat)
              case atStart => exact ⟨0, rfl, Nat.zero_le _, rfl, Below.refl _ _⟩
              case round =>
                obtain ⟨t, rfl, ht, rfl, bq⟩ := hrel
                by_cases htl : t < o.length
                · have htz : (t : Int) < (o.length : Int) := by omega
                  have hcl : (o.take t).countP (fun p => ahT p (x, y)) ≤ t := Nat.le_trans List.countP_le_length (by rw [List.length_take]; omega)
                  obtain ⟨b', off', e', hb', t0, t1⟩ := ((HA.out.below bl3).below bq).2.2.2.2 t htl
                  cases e'
                  have j1 := (bq.cell (p := ⟨b, off + q * 2 + 1, none⟩) hb).trans c1
                  have HC := Lib.hid (cnt_more (f := fun p => ahT p (x, y)) htl)
                  have hkp := KJ.out t htl
                  generalize o.getD t (0, 0) = p2 at t0 t1 HC hkp
                  obtain ⟨x2, y2⟩ := p2
                  dsimp only at t0 t1 hkp
                  have HH := Lib.hid (show ahT (x2, y2) (x, y) = decide (y < y2 ∨ (y2 = y ∧ t < q)) by unfold ahT; exact decide_eq_decide.2 (by dsimp only; omega))
                  generalize (o.take t).countP (fun p => ahT p (x, y)) = cc at *
                  clear hkp
                  by_cases k1 : y < y2
                  · have k2 : ¬ y2 = y := by omega
                    have HE := Lib.hid (show (o.take (t + 1)).countP (fun p => ahT p (x, y)) = cc + 1 by have hc := HC.out; rw [HH.out, if_pos (by simp; omega)] at hc; exact hc)
                    clear HC HH
                    go_wp2_with fail
                    go_quiet (fail)
                    generalize HW1 : wr.drewN _ = W1
                    have bw : Below wr.heap.size wr W1 := by rw [← HW1]; exact below_drewNS (Below.refl _ _) _
                    replace HW1 := Lib.hid HW1
                    go_wp2_with fail
                    go_roundw
                    case rel => exact ⟨t + 1, by go_num, by omega, by rw [HE.out]; go_num, below_next bq bw⟩
                    case measure => simp [intOf]; omega
                  · by_cases k2 : y2 = y
                    · by_cases k3 : t < q
                      · have k3z : (t : Int) < (q : Int) := by omega
                        have HE := Lib.hid (show (o.take (t + 1)).countP (fun p => ahT p (x, y)) = cc + 1 by have hc := HC.out; rw [HH.out, if_pos (by simp; omega)] at hc; exact hc)
                        clear HC HH
                        go_wp2_with fail
                        go_quiet (fail)
                        generalize HW1 : wr.drewN _ = W1
                        have bw : Below wr.heap.size wr W1 := by rw [← HW1]; exact below_drewNS (Below.refl _ _) _
                        replace HW1 := Lib.hid HW1
                        go_wp2_with fail
                        go_roundw
                        case rel => exact ⟨t + 1, by go_num, by omega, by rw [HE.out]; go_num, below_next bq bw⟩
                        case measure => simp [intOf]; omega
                      · have k3z : ¬ (t : Int) < (q : Int) := by omega
                        have HE := Lib.hid (show (o.take (t + 1)).countP (fun p => ahT p (x, y)) = cc by have hc := HC.out; rw [HH.out, if_neg (by simp; omega)] at hc; exact hc)
                        clear HC HH
                        go_wp2_with fail
                        go_quiet (fail)
                        generalize HW1 : wr.drewN _ = W1
                        have bw : Below wr.heap.size wr W1 := by rw [← HW1]; exact below_drewNS (Below.refl _ _) _
                        replace HW1 := Lib.hid HW1
                        go_wp2_with fail
                        go_roundw
                        case rel => exact ⟨t + 1, by go_num, by omega, by rw [HE.out], below_next bq bw⟩
                        case measure => simp [intOf]; omega
                    · have k4 : y2 < y := by omega
                      have HE := Lib.hid (show (o.take (t + 1)).countP (fun p => ahT p (x, y)) = cc by have hc := HC.out; rw [HH.out, if_neg (by simp; omega)] at hc; exact hc)
                      clear HC HH
                      go_wp2_with fail
                      go_quiet (fail)
                      generalize HW1 : wr.drewN _ = W1
                      have bw : Below wr.heap.size wr W1 := by rw [← HW1]; exact below_drewNS (Below.refl _ _) _
                      replace HW1 := Lib.hid HW1
                      go_wp2_with fail
                      go_roundw
                      case rel => exact ⟨t + 1, by go_num, by omega, by rw [HE.out], below_next bq bw⟩
                      case measure => simp [intOf]; omega
                · have htz : ¬ (t : Int) < (o.length : Int) := by omega
                  rw [List.take_of_length_le (by omega)]
                  have HO4 := Lib.hid (HO3.out.below bq)
                  have bl4 := below_next bl3 bq
                  have u0 := (bq.cell (p := ⟨b, off + q * 2, none⟩) hb).trans c0
                  have u1 := (bq.cell (p := ⟨b, off + q * 2 + 1, none⟩) hb).trans c1
                  have hcn := hq.out
                  have HZ := Lib.hid (Nat.le_trans (flat_len o p q) (Nat.add_le_add (Nat.mul_le_mul (show p ≤ 60 by omega) zo) zo))
                  generalize o.countP (fun p => ahT p (x, y)) = cc at hcn ⊢
                  by_cases hk : cc = p
                  · have HT2 := Lib.hid (show (List.range p).flatMap (fun j => o.filter (fun t => decide (cntT o t = j))) ++ (o.take (q + 1)).filter (fun t => decide (cntT o t = p)) = ((List.range p).flatMap (fun j => o.filter (fun t => decide (cntT o t = j))) ++ (o.take q).filter (fun t => decide (cntT o t = p))) ++ [(x, y)] by rw [HT.out, hcn, decide_eq_true hk, List.append_assoc]; rfl)
                    generalize (List.range p).flatMap (fun j => o.filter (fun t => decide (cntT o t = j))) ++ (o.take q).filter (fun t => decide (cntT o t = p)) = S at HO4 HZ HT2
                    clear hcn HT
                    have hk1 : ((cc : Int) == (p : Int)) = true := by rw [hk]; exact beq_self_eq_true _
                    have hk2 : (cc = p) = True := eq_true hk
                    clear hk
                    go_wp2_with ((at_builtin; refine wpList_append_own _ rfl _ _ 32 rfl W3.heap.size 75 i0 (.agg #[.int .i64 0, .int .i64 0]) 2 16 Try.underlying32 hi hz0 hz1 hz2 rfl (by decide) _ _ _ rfl (World.ownsRow.alloc HO4.out _) ⟨wr.heap.size, 0, none⟩ 1 1 [.int .i64 x, .int .i64 y] rfl rfl ?ea ?eb ?ec ?ed ?ee ?_))
                    try case ea => exact fun jj u hj => by rw [addr_add]; exact (cellT rfl).trans (by simpa using hj)
                    case eb => exact ⟨rfl, rfl⟩
                    case ec => have := HZ.out; unfold maxLen; omega
                    case ed => have := HZ.out; omega
                    case ee => have := bl4.size; simp; omega
                    intro v' w9 hown' hgrow _
                    have hb9 := ((bl4).alloc (bl4).size (.cells #[.int .i64 x, .int .i64 y] 75)).grown hgrow (by have := bl4.size; simp; omega) (fun j hj => (World.ownsRow.lt HO4.out j hj).1)
                    replace hown' := Lib.hid hown'
                    clear hgrow
                    go_wp2
                    go_roundw
                    case rel =>
                      refine ⟨q + 1, by go_num, by omega, Lib.hid ?_, hb9⟩
                      rw [HT2.out]
                      exact OwnsP.snoc rfl hown'.out
                    case measure => simp [intOf]; omega
                  · have HT2 := Lib.hid (show (List.range p).flatMap (fun j => o.filter (fun t => decide (cntT o t = j))) ++ (o.take (q + 1)).filter (fun t => decide (cntT o t = p)) = (List.range p).flatMap (fun j => o.filter (fun t => decide (cntT o t = j))) ++ (o.take q).filter (fun t => decide (cntT o t = p)) by rw [HT.out, hcn, decide_eq_false hk]; simp)
                    clear hcn HT
                    have hk1 : ((cc : Int) == (p : Int)) = false := by rw [beq_eq_false_iff_ne]; omega
                    have hk2 : (cc = p) = False := eq_false hk
                    clear hk
                    go_wp2_with fail
                    go_roundw
                    case rel => exact ⟨q + 1, by go_num, by omega, Lib.hid (by rw [HT2.out]; exact HO4.out), bl4⟩
                    case measure => simp [intOf]; omega
            · have hqz : ¬ ((q : Int) < (o.length : Int)) := by omega
              have hh := HO3.out
              rw [List.take_of_length_le (by omega)] at hh
              have HN := Lib.hid (show OwnsP 75 wr W3.heap.size _ ((List.range (p + 1)).flatMap (fun j => o.filter (fun t => decide (cntT o t = j)))) by rw [List.range_succ, List.flatMap_append]; simpa using hh)
              clear hh HO3
              go_wp2_with fail
              go_roundw
              case rel => exact ⟨p + 1, by go_num, by omega, HN, bl3⟩
              case measure => simp [intOf]; omega
        · obtain rfl : p = o.length := by omega
          obtain ⟨a7, n7, c7, rfl, h7⟩ := HO.out.ready
          replace h7 := Lib.hid h7
          clear HO hp hpl
          have hpz : ¬ ((o.length : Int) < (o.length : Int)) := by omega
          go_wp2_with fail
          go_ret
          exact ⟨_, _, _, rfl, h7.out, below_next (below_next b2 bl) bl2⟩
end Go.Proofs.Ytbpekloodjimoaa
