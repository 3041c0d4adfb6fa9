/-
  CONTRACTS: the document's Groups.
-/
import Derived.Test.YtbpekloodjimoaaScGc
namespace Go.Proofs.Ytbpekloodjimoaa
open Go.RowKit Go.Shelf

theorem Try.infoRGroup : (Try.prog.info? 54).map (fun i => (i.zero, i.size, i.bytes)) = some (some (.agg #[.int .i64 0, .int .i64 0, .int .i64 0, .int .i64 0, .int .i64 0]), 5, 40) := by kernel_rfl
/-- The document's answer. -/
def DocGs (r : List Gp × Int) (w : World) (e : Ending) (w' : World) : Prop := ∃ v, e = .returned (.tuple #[v, .int .i64 r.2]) ∧ OwnsR encGp 5 54 w' w.heap.size v r.1 ∧ Below w.heap.size w w'
def condG (on : List Sp) (wd f : Int) (p : Sp) : Bool := decide (f ≤ p.1) && decide (p.1 - f < wd) && hasB on p.1
theorem part_cond {l on : List Sp} {wd f : Int} (ht : tblB l = true) (hc : chkB on = true) : l.filter (condG on wd f) = partG wd (clipP l on) f := by
  unfold partG
  rw [show clipP l on = l.filter (fun p => hasB on p.1) from if_pos ⟨ht, hc⟩, List.filter_filter]
  rfl
theorem take_filterG {l : List Sp} {j : Nat} (f : Sp → Bool) (h : j < l.length) : (l.take (j + 1)).filter f = (l.take j).filter f ++ (if f (l.getD j (0, 0)) = true then [l.getD j (0, 0)] else []) := by
  rw [takeS_more h, List.filter_append]
  congr 1
  rw [List.filter_cons]
  split <;> rfl
theorem outs_len (wd : Int) (L : List Sp) : ∀ q : Nat, ((List.range q).flatMap (fun (i : Nat) => outG wd L ((i : Int) * wd))).length ≤ q
  | 0 => by simp
  | q + 1 => by
    have h := outs_len wd L q
    rw [List.range_succ, List.flatMap_append, List.length_append]
    have h2 : (List.flatMap (fun (i : Nat) => outG wd L ((i : Int) * wd)) [q]).length ≤ 1 := by
      rw [List.flatMap_cons, List.flatMap_nil, List.append_nil]
      unfold outG
      split <;> simp
    omega
theorem cellGs {W : World} {x : Array Value} {t : TypeId} {b i : Nat} (hb : b = W.heap.size) : (W.alloc (.cells x t)).cell? ⟨b, i, none⟩ = x[i]? := by subst hb; exact cell_of_row _ _ _ _ _ _ (heap_alloc_new _ _)
set_option maxRecDepth 100000 in
set_option maxHeartbeats 8000000 in
theorem rgroups_any (a : Option Addr) (n c : Nat) (l : List Sp) (a3 : Option Addr) (n3 c3 : Nat) (on : List Sp) (wd : Int) (w : World) (hL : Arg w a n c l) (hO : Arg w a3 n3 c3 on) :
    Calls Try.prog 15 #[.slice a n c, .slice a3 n3 c3, .int .i64 wd] w (DocGs (grpsP l on wd) w) := by
  obtain ⟨i0, hi, hz0, hz1, hz2⟩ := info_parts Try.infoRGroup
  have CT := Lib.hid (rtcheck_any a n c l w hL)
  have CS := Lib.hid (fun W (h : Below w.heap.size w W) => rcheck_any a3 n3 c3 on W (hO.below h))
  cases ht : tblB l
  · skip
    rw [show grpsP l on wd = ([], 1) from if_neg (by rw [ht]; simp)]
    have h1 := Lib.hid ht
    clear hL hO
    go_enter Try.func15, Try.ntmps15
    go_wp2_with (first | (go_at_call 28; (with_reducible refine CT.out.mono ?_); rw [h1.out]; rintro e w2 ⟨rfl, b2⟩))
    go_ret2
    exact ⟨_, rfl, OwnsR.nil _ _ _ _ _, b2⟩
  · cases ho : chkB on
    · skip
      rw [show grpsP l on wd = ([], 1) from if_neg (by rw [ho]; simp)]
      have h1 := Lib.hid ht
      have h2 := Lib.hid ho
      clear hL hO
      go_enter Try.func15, Try.ntmps15
      go_wp2_with (first | (go_at_call 28; (with_reducible refine CT.out.mono ?_); rw [h1.out]; rintro e w2 ⟨rfl, b2⟩) | (go_at_call 37; (with_reducible refine (CS.out _ b2).mono ?_); rw [h2.out]; rintro e w3 ⟨rfl, b3⟩; have b03 := below_next b2 b3))
      go_ret2
      exact ⟨_, rfl, OwnsR.nil _ _ _ _ _, b03⟩
    · by_cases hw1 : 1 ≤ wd
      · by_cases hw2 : wd ≤ 4096
        · skip
          rw [show grpsP l on wd = (grpsF wd (clipP l on).length (clipP l on), 0) from if_pos ⟨ht, ho, hw1, hw2⟩]
          have h1 := Lib.hid ht
          have h2 := Lib.hid ho
          have hz : l.length ≤ 4096 := tbl_le ht
          have HSM := Lib.hid (tbl_small ht).1
          have HKB := Lib.hid (tbl_small ht).2
          have HC := Lib.hid (fun f => part_cond (wd := wd) (f := f) ht ho)
          have HD := Lib.hid (fun (q : Nat) hq => docGs_is hw1 (clip_tbl l on) (q := q) hq)
          have RH := Lib.hid (fun W x (h : Below w.heap.size w W) => rhas_any a3 n3 c3 on x W (hO.below h))
          obtain rfl : n = _ := hL.1
          have HL := Lib.hid hL
          generalize grpsF wd (clipP l on).length (clipP l on) = R at HD ⊢
          generalize clipP l on = M at HC HD
          clear hL hO ht ho
          go_enter Try.func15, Try.ntmps15
          go_wp2_with (first | (go_at_call 28; (with_reducible refine CT.out.mono ?_); rw [h1.out]; rintro e w2 ⟨rfl, b2⟩) | (go_at_call 37; (with_reducible refine (CS.out _ b2).mono ?_); rw [h2.out]; rintro e w3 ⟨rfl, b3⟩; have b03 := below_next b2 b3))
          go_loopw [8, 9, 10, 11] (fun v f _ _ wr => ∃ (q : Nat) (F : Int), f = .int .i64 F ∧ F = (q : Int) * wd ∧ q ≤ 4096 ∧ 0 ≤ F ∧ F ≤ 8192 ∧ Hid (OwnsR encGp 5 54 wr w.heap.size v ((List.range q).flatMap (fun (i : Nat) => outG wd M ((i : Int) * wd)))) ∧ Below w.heap.size w wr) (fun _ f _ _ _ => (8192 - intOf f).toNat)
          case atStart => exact ⟨0, 0, rfl, by simp, Nat.zero_le _, by omega, by omega, Lib.hid (OwnsR.nil _ _ _ _ _), b03⟩
          case round =>
            obtain ⟨q, F, rfl, hF, hq4, hF0, hF8, HO, hbl⟩ := hrel
            by_cases hlt : F < 4096
            · have hq9 : q < 4096 := by
                have : (q : Int) * 1 ≤ (q : Int) * wd := Int.mul_le_mul_of_nonneg_left hw1 (by omega)
                omega
              have hFn : F + wd = ((q + 1 : Nat) : Int) * wd := by rw [row_next, hF]
              have HN := Lib.hid (show (List.range (q + 1)).flatMap (fun (i : Nat) => outG wd M ((i : Int) * wd)) = (List.range q).flatMap (fun (i : Nat) => outG wd M ((i : Int) * wd)) ++ outG wd M F by rw [List.range_succ, List.flatMap_append]; simp [hF])
              have hol := outs_len wd M q
              have HFq := Lib.hid hF
              have HFn := Lib.hid hFn
              generalize (List.range q).flatMap (fun (i : Nat) => outG wd M ((i : Int) * wd)) = O at HO HN hol
              have ZO := Lib.hid hol
              clear hF hFn hol
              have hxx := heap_alloc_new wr (.cells #[.int .i64 F, .int .i64 0, .int .i64 0, .int .i64 0, .int .i64 0] 54)
              have bxx := (Below.refl wr.heap.size wr).alloc (Nat.le_refl _) (.cells #[.int .i64 F, .int .i64 0, .int .i64 0, .int .i64 0, .int .i64 0] 54)
              go_wp2_with fail
              obtain ⟨wo, hwo⟩ : ∃ wo, wo = wr := ⟨_, rfl⟩
              subst hwo
              go_loopw [11] (fun i wr => ∃ j : Nat, i = .int .i64 (j : Int) ∧ j ≤ l.length ∧ Hid (wr.heap[wo.heap.size]? = some (.cells #[.int .i64 (gfP F ((l.take j).filter (condG on wd F))).1, .int .i64 (gfP F ((l.take j).filter (condG on wd F))).2.1, .int .i64 (gfP F ((l.take j).filter (condG on wd F))).2.2.1, .int .i64 (gfP F ((l.take j).filter (condG on wd F))).2.2.2.1, .int .i64 (gfP F ((l.take j).filter (condG on wd F))).2.2.2.2] 54)) ∧ Below wo.heap.size wo wr) (fun i _ => l.length - (intOf i).toNat)
              case atStart => exact ⟨0, rfl, Nat.zero_le _, Lib.hid hxx, bxx⟩
              case round =>
                obtain ⟨j, rfl, hj, HG, hbi⟩ := hrel
                have hbw := below_next hbl hbi
                by_cases hlj : j < l.length
                · have hjz : (j : Int) < (l.length : Int) := by omega
                  have HT := Lib.hid (take_filterG (condG on wd F) hlj)
                  have hyv := HSM.out.2 _ (getD_memS hlj)
                  have hxv := HKB.out _ (getD_memS hlj)
                  have hsm := small_take HSM.out (condG on wd F) j
                  have hc0 : condG on wd F (l.getD j (0, 0)) = (decide (F ≤ (l.getD j (0, 0)).1) && decide ((l.getD j (0, 0)).1 - F < wd) && hasB on (l.getD j (0, 0)).1) := rfl
                  obtain ⟨hbn, hbs⟩ := gf_bd (k := F) hsm
                  obtain ⟨b, off, e, hb, c0, c1⟩ := (HL.out.below hbw).2.2.2.2 j hlj
                  subst e
                  generalize l.getD j (0, 0) = p at c0 c1 hyv hxv HT hc0
                  obtain ⟨x, y⟩ := p
                  dsimp only at c0 c1 hyv hxv hc0
                  have HX := Lib.hid (gf_snoc F ((l.take j).filter (condG on wd F)) (x, y))
                  generalize (l.take j).filter (condG on wd F) = P at HG HT HX hbn hbs
                  obtain ⟨G, hG⟩ : ∃ G, gfP F P = G := ⟨_, rfl⟩
                  rw [hG] at HX hbn hbs
                  have HG0 := Lib.hid hG
                  replace HG := Lib.hid (show wr.heap[wo.heap.size]? = some (.cells #[.int .i64 G.1, .int .i64 G.2.1, .int .i64 G.2.2.1, .int .i64 G.2.2.2.1, .int .i64 G.2.2.2.2] 54) by rw [← hG]; exact HG.out)
                  clear hG
                  have hgx := heap_ltS HG.out
                  obtain ⟨z0, z1, z2, z3, z4⟩ := cell5 HG.out
                  have hwr : IntKind.i64.wrap (x - F) = x - F := IntWalk.i64_in _ (by omega)
                  by_cases k1 : F ≤ x
                  · by_cases k2 : x - F < wd
                    · cases hh0 : hasB on x
                      · skip
                        have hh := Lib.hid hh0
                        have hc1 := Lib.hid (show condG on wd F (x, y) = false by rw [hc0, hh0, Bool.and_false])
                        clear hc0 hh0
                        have HE := Lib.hid (show gfP F ((l.take (j + 1)).filter (condG on wd F)) = G by rw [HT.out, hc1.out]; simpa using HG0.out)
                        clear HT HX
                        go_wp2_with (go_at_call 30; (with_reducible refine (RH.out _ x hbw).mono ?_); rw [hh.out]; rintro e w5 ⟨rfl, b5⟩)
                        go_roundw
                        case rel => exact ⟨j + 1, by go_num, by omega, Lib.hid (by rw [HE.out]; exact (b5.block _ hgx).trans HG.out), below_next hbi b5⟩
                        case measure => simp [intOf]; omega
                      · skip
                        have hh := Lib.hid hh0
                        have HE := Lib.hid (show gfP F ((l.take (j + 1)).filter (condG on wd F)) = moreG G y by rw [HT.out, hc0, hh0, decide_eq_true k1, decide_eq_true k2]; exact HX.out)
                        clear HT HX hc0 hh0
                        go_wp2_with (go_at_call 30; (with_reducible refine (RH.out _ x hbw).mono ?_); rw [hh.out]; rintro e w5 ⟨rfl, b5⟩; have hb5 := below_next hbi b5; replace HG := Lib.hid ((b5.block _ hgx).trans HG.out); replace hgx := heap_ltS HG.out; obtain ⟨z0, z1, z2, z3, z4⟩ := cell5 HG.out; replace c0 := (b5.cell (p := ⟨b, off + j * 2, none⟩) hb).trans c0; replace c1 := (b5.cell (p := ⟨b, off + j * 2 + 1, none⟩) hb).trans c1)
                        go_still_tail 6, (by kernel_rfl)
                        change wpList _ _ _ _ _ w5.drew
                        obtain ⟨wd, hwd⟩ : ∃ wd, w5.drew = wd := ⟨_, rfl⟩
                        have bd : Below w5.heap.size w5 wd := by rw [← hwd]; exact toDS (Below.refl _ _)
                        rw [hwd]
                        replace hwd := Lib.hid hwd
                        have Gd := (bd.block wo.heap.size hgx).trans HG.out
                        have hgd := heap_ltS Gd
                        replace Gd := Lib.hid Gd
                        go_wp2_with (go_at_call 38; (with_reducible refine (moreE_any G y _ hbn hbs hyv).mono ?_); rintro e w11 ⟨rfl, b11⟩; have G11 := (b11.block wo.heap.size hgd).trans Gd.out; obtain ⟨f0, f1, f2, f3, f4⟩ := froz5 G11; obtain ⟨v0, v1, v2, v3, v4⟩ := cell5 G11; have hb11 := below_next hb5 (below_next bd b11); replace G11 := Lib.hid G11)
                        go_roundw
                        case rel => exact ⟨j + 1, by go_num, by omega, Lib.hid (by rw [HE.out]; exact set5L G11.out), (by repeat (first | exact hb11 | refine Below.setCell ?_ (by first | exact Nat.le_refl _ | omega) _))⟩
                        case measure => simp [intOf]; omega
                    · skip
                      have hc1 := Lib.hid (show condG on wd F (x, y) = false by rw [hc0, decide_eq_false k2]; simp)
                      clear hc0
                      have HE := Lib.hid (show gfP F ((l.take (j + 1)).filter (condG on wd F)) = G by rw [HT.out, hc1.out]; simpa using HG0.out)
                      clear HT HX
                      go_wp2_with fail
                      go_roundw
                      case rel => exact ⟨j + 1, by go_num, by omega, Lib.hid (by rw [HE.out]; exact HG.out), hbi⟩
                      case measure => simp [intOf]; omega
                  · skip
                    have hc1 := Lib.hid (show condG on wd F (x, y) = false by rw [hc0, decide_eq_false k1]; simp)
                    clear hc0
                    have HE := Lib.hid (show gfP F ((l.take (j + 1)).filter (condG on wd F)) = G by rw [HT.out, hc1.out]; simpa using HG0.out)
                    clear HT HX
                    go_wp2_with fail
                    go_roundw
                    case rel => exact ⟨j + 1, by go_num, by omega, Lib.hid (by rw [HE.out]; exact HG.out), hbi⟩
                    case measure => simp [intOf]; omega
                · have hjz : ¬ (j : Int) < (l.length : Int) := by omega
                  rw [List.take_of_length_le (by omega), HC.out] at HG
                  have hgx := heap_ltS HG.out
                  have HOo := Lib.hid (OwnsR.below HO.out hbi)
                  by_cases hP : partG wd M F = []
                  · have HN2 := Lib.hid (show (List.range (q + 1)).flatMap (fun (i : Nat) => outG wd M ((i : Int) * wd)) = O by rw [HN.out, show outG wd M F = [] from if_pos hP, List.append_nil])
                    rw [hP] at HG
                    obtain ⟨z0, z1, z2, z3, z4⟩ := cell5 (show wr.heap[wo.heap.size]? = some (.cells #[.int .i64 F, .int .i64 0, .int .i64 0, .int .i64 0, .int .i64 0] 54) from HG.out)
                    clear HN HG
                    go_wp2_with fail
                    go_roundw
                    case rel => exact ⟨q + 1, F + wd, by go_num, HFn.out, by omega, by omega, by omega, Lib.hid (by rw [HN2.out]; exact HOo.out), hbw⟩
                    case measure => simp [intOf]; omega
                  · have HN2 := Lib.hid (show (List.range (q + 1)).flatMap (fun (i : Nat) => outG wd M ((i : Int) * wd)) = O ++ [gfP F (partG wd M F)] by rw [HN.out, show outG wd M F = [grpOf F (partG wd M F)] from if_neg hP, show gfP F (partG wd M F) = grpOf F (partG wd M F) from if_neg hP])
                    have hpos : 0 < (gfP F (partG wd M F)).2.1 := by rw [gf_n]; have := List.length_pos_iff.2 hP; omega
                    generalize gfP F (partG wd M F) = G at HG HN2 hpos
                    obtain ⟨z0, z1, z2, z3, z4⟩ := cell5 HG.out
                    clear HN
                    have hsz := hbw.size
                    go_wp2_with (first | (at_builtin; refine wpList_append_own _ rfl _ _ 49 rfl w.heap.size 54 i0 (.agg #[.int .i64 0, .int .i64 0, .int .i64 0, .int .i64 0, .int .i64 0]) 5 40 Try.underlying49 hi hz0 hz1 hz2 rfl (by decide) _ _ _ rfl (World.ownsRow.alloc HOo.out _) ⟨wr.heap.size, 0, none⟩ 1 1 [.int .i64 G.1, .int .i64 G.2.1, .int .i64 G.2.2.1, .int .i64 G.2.2.2.1, .int .i64 G.2.2.2.2] rfl rfl ?ca ?cb ?cc ?cd ?ce ?_) | fail)
                    try case ca => exact fun jj u hj => by rw [addr_add]; exact (cellGs rfl).trans (by simpa using hj)
                    case cb => first | exact ⟨rfl, rfl, rfl, rfl, rfl⟩ | (intro u hu; simp at hu; rcases hu with rfl | rfl | rfl | rfl | rfl <;> rfl)
                    case cc => have := ZO.out; unfold maxLen; omega
                    case cd => have := ZO.out; omega
                    case ce => first | omega | (simp; omega)
                    intro v9 w9 hown9 hg9 _
                    have hb9 := (hbw.alloc hbw.size (.cells #[.int .i64 G.1, .int .i64 G.2.1, .int .i64 G.2.2.1, .int .i64 G.2.2.2.1, .int .i64 G.2.2.2.2] 54)).grown hg9 (by simp; omega) (fun k hk => (World.ownsRow.lt HOo.out k hk).1)
                    have ho9 := Lib.hid (OwnsR.snoc (enc := encGp) (x := G) rfl hown9)
                    clear hown9 hg9
                    go_wp2_with fail
                    go_roundw
                    case rel => exact ⟨q + 1, F + wd, by go_num, HFn.out, by omega, by omega, by omega, Lib.hid (by rw [HN2.out]; exact ho9.out), hb9⟩
                    case measure => simp [intOf]; omega
            · have HR := Lib.hid (HD.out q (by omega))
              have hh := HO.out
              rw [HR.out] at hh
              replace hh := Lib.hid hh
              clear HO
              go_wp2_with fail
              go_ret2
              exact ⟨_, rfl, hh.out, hbl⟩
        · have hw2z : 4096 < wd := by omega
          rw [show grpsP l on wd = ([], 1) from if_neg (by rintro ⟨_, _, _, h⟩; exact hw2 h)]
          have h1 := Lib.hid ht
          have h2 := Lib.hid ho
          clear hL hO
          go_enter Try.func15, Try.ntmps15
          go_wp2_with (first | (go_at_call 28; (with_reducible refine CT.out.mono ?_); rw [h1.out]; rintro e w2 ⟨rfl, b2⟩) | (go_at_call 37; (with_reducible refine (CS.out _ b2).mono ?_); rw [h2.out]; rintro e w3 ⟨rfl, b3⟩; have b03 := below_next b2 b3))
          go_ret2
          exact ⟨_, rfl, OwnsR.nil _ _ _ _ _, b03⟩
      · have hw1z : wd < 1 := by omega
        rw [show grpsP l on wd = ([], 1) from if_neg (by rintro ⟨_, _, h, _⟩; exact hw1 h)]
        have h1 := Lib.hid ht
        have h2 := Lib.hid ho
        clear hL hO
        go_enter Try.func15, Try.ntmps15
        go_wp2_with (first | (go_at_call 28; (with_reducible refine CT.out.mono ?_); rw [h1.out]; rintro e w2 ⟨rfl, b2⟩) | (go_at_call 37; (with_reducible refine (CS.out _ b2).mono ?_); rw [h2.out]; rintro e w3 ⟨rfl, b3⟩; have b03 := below_next b2 b3))
        go_ret2
        exact ⟨_, rfl, OwnsR.nil _ _ _ _ _, b03⟩
end Go.Proofs.Ytbpekloodjimoaa
