/-
  CONTRACTS of judge: Fold.
-/
import Derived.Test.YthofoidafdbgcaaJgA
namespace Go.Proofs.Ythofoidafdbgcaa
open Go.RowKit Go.Shelf Go.ChangeShapes Go.WideShapes Go.Deep

theorem Try.infoMut : (Try.prog.info? 42).map (fun i => (i.zero, i.size, i.bytes)) = some (some (.agg #[.int .i64 0, .int .i64 0, .int .i64 0, .slice none 0 0, .int .i64 0, .int .i64 0, .int .i64 0]), 7, 72) := by kernel_rfl
theorem cellG {W : World} {x : Array Value} {t : TypeId} {b i : Nat} (hb : b = W.heap.size) : (W.alloc (.cells x t)).cell? ⟨b, i, none⟩ = x[i]? := by subst hb; exact cell_of_row _ _ _ _ _ _ (heap_alloc_new _ _)
theorem boxC {w w' : World} {x : Array Value} {t : TypeId} (h : Below (w.alloc (.cells x t)).heap.size (w.alloc (.cells x t)) w') (i : Nat) : w'.cell? ⟨w.heap.size, i, none⟩ = x[i]? :=
  (h.cell (p := ⟨w.heap.size, i, none⟩) (by simp)).trans (cell_of_row _ _ i _ _ _ (heap_alloc_new _ _))
theorem OwnsR.up {w w' : World} {base : Nat} {t : TypeId} {v : Value} {l : List Mv} (h : OwnsR encM 7 t w base v l) (ok : ∀ m ∈ l, OkM w m) (hb : Below w.heap.size w w') : OwnsR encM 7 t w' base v l ∧ ∀ m ∈ l, OkM w' m := ⟨h.below hb, fun m hm => (ok m hm).below hb⟩
theorem upE_len (l : List Ev) (mark : Int) : (upE l mark).length ≤ l.length := by
  unfold upE
  rw [List.length_map]
  exact List.length_filter_le _ _
theorem upE_ok {W : World} {l : List Ev} {mark : Int} (h : ∀ e ∈ l, OkE W e) : ∀ m ∈ upE l mark, OkM W m := fun m hm => by
  unfold upE at hm
  obtain ⟨e, he, rfl⟩ := List.mem_map.1 hm
  exact (h e (List.mem_filter.1 he).1).m
set_option maxRecDepth 100000 in
set_option maxHeartbeats 4000000 in
theorem jfold_any (a : Option Addr) (n cp : Nat) (l : List Ev) (a3 : Option Addr) (n3 c3 : Nat) (on : List Sp) (mark : Int) (w : World) (hL : EArg w a n cp l) (hO : Arg w a3 n3 c3 on) (hz : l.length ≤ 100000) :
    Calls Try.prog 12 #[.slice a n cp, .slice a3 n3 c3, .int .i64 mark] w (ListArg w (foldE l on mark)) := by
  obtain ⟨i0, hi, hz0, hz1, hz2⟩ := info_parts Try.infoMut
  have HL := Lib.hid hL
  have HO3 := Lib.hid hO
  obtain rfl : n = l.length := hL.row.1
  clear hL hO
  go_enter Try.func12, Try.ntmps12
  go_wp2_with fail
  go_loopw [6, 7, 9, 12] (fun v6 v _ i wr => ∃ (j : Nat), i = .int .i64 (j : Int) ∧ j ≤ l.length ∧ v6 = .slice none 0 0 ∧ Hid (((l.take j).all fun e => chkV e.m) = true) ∧ Hid (OwnsR encM 7 42 wr w.heap.size v (upE (l.take j) mark)) ∧ Below w.heap.size w wr) (fun _ _ _ i _ => l.length - (intOf i).toNat)
  case atStart => exact ⟨0, rfl, Nat.zero_le _, rfl, Lib.hid rfl, Lib.hid (OwnsR.nil _ _ _ _ _), Below.refl _ _⟩
  case round =>
    obtain ⟨j, rfl, hj, rfl, HC, HU, hbl⟩ := hrel
    by_cases hlt : j < l.length
    · have hjz : (j : Int) < (l.length : Int) := by omega
      have HT := Lib.hid (show upE (l.take (j + 1)) mark = upE (l.take j) mark ++ _ by rw [take_moreG hlt]; exact upE_snoc _ _ _)
      have HA := Lib.hid (show ((l.take (j + 1)).all fun e => chkV e.m) = (chkV l[j]!.m) by rw [take_moreG hlt, List.all_append, HC.out]; simp)
      have HB := Lib.hid (fun (h : chkV l[j]!.m = false) => (show (l.all fun e => chkV e.m) = false from List.all_eq_false.2 ⟨_, mem_get! hlt, by rw [h]; simp⟩))
      have ZU := Lib.hid (Nat.le_trans (upE_len (l.take j) mark) (Nat.le_trans (List.length_take_le' _ _) hz))
      obtain ⟨b, off, e, hb, q0, q1, q2, q3, q4, q5, q6, q7, q8⟩ := HL.out.cells hbl hlt
      subst e
      have ok := HL.out.ok _ (mem_get! hlt)
      generalize upE (l.take j) mark = U at HU HT ZU
      generalize l[j]! = ev at q0 q1 q2 q3 q4 q5 q6 q7 q8 ok HT HA HB
      obtain ⟨⟨c, s, k, am, nm, cm, ps, lo, hi2, old⟩, t, d⟩ := ev
      dsimp only at q0 q1 q2 q3 q4 q5 q6 q7 q8
      have ba : Below wr.heap.size wr (wr.alloc (.cells #[.int .i64 c, .int .i64 s, .int .i64 k, .slice am nm cm, .int .i64 lo, .int .i64 hi2, .int .i64 old, .int .i64 t, .bool d] 54)) := (Below.refl _ _).alloc (Nat.le_refl _) _
      have bb := below_next hbl ba
      have HU1 := Lib.hid (OwnsR.below HU.out ba)
      have CA := Lib.hid (show Calls _ _ _ _ _ from mcheck_any c s k am nm cm ps lo hi2 old _ (ok.m.ps.below bb))
      have HV := Lib.hid (show chkV ⟨c, s, k, am, nm, cm, ps, lo, hi2, old⟩ = chkM c s k ps lo hi2 old from rfl)
      clear ok HC
      generalize chkM c s k ps lo hi2 old = r at CA HV
      cases r
      · replace HB := HB.out HV.out
        go_wp2_with (go_at_call 27; (with_reducible refine CA.out.mono ?_); rintro e w6 ⟨rfl, b6⟩)
        go_ret
        refine ⟨_, _, _, rfl, ?_, below_next bb b6⟩
        rw [show foldE l on mark = [] from if_neg (by rw [HB]; simp)]
        exact Arg.nilJ _
      · have HC2 := Lib.hid (show ((l.take (j + 1)).all fun e => chkV e.m) = true by rw [HA.out]; exact HV.out)
        clear HA HB HV
        cases d
        · have HT2 := Lib.hid (show upE (l.take (j + 1)) mark = U by rw [HT.out]; simp)
          clear HT
          go_wp2_with (go_at_call 27; (with_reducible refine CA.out.mono ?_); rintro e w6 ⟨rfl, b6⟩; have y8 : w6.cell? ⟨wr.heap.size, 8, none⟩ = some (.bool false) := boxC b6 8)
          go_roundw
          case rel => exact ⟨j + 1, by go_num, by omega, rfl, HC2, Lib.hid (by rw [HT2.out]; exact OwnsR.below HU1.out b6), below_next bb b6⟩
          case measure => simp [intOf]; omega
        · by_cases hm : t ≤ mark
          · have HT2 := Lib.hid (show upE (l.take (j + 1)) mark = U ++ [⟨c, s, k, am, nm, cm, ps, lo, hi2, old⟩] by rw [HT.out]; simp [hm])
            clear HT
            go_wp2_with (first | (go_at_call 27; (with_reducible refine CA.out.mono ?_); rintro e w6 ⟨rfl, b6⟩; have y8 : w6.cell? ⟨wr.heap.size, 8, none⟩ = some (.bool true) := boxC b6 8; have y7 : w6.cell? ⟨wr.heap.size, 7, none⟩ = some (.int .i64 t) := boxC b6 7; have y0 : w6.cell? ⟨wr.heap.size, 0, none⟩ = some (.int .i64 c) := boxC b6 0; have y1 : w6.cell? ⟨wr.heap.size, 1, none⟩ = some (.int .i64 s) := boxC b6 1; have y2 : w6.cell? ⟨wr.heap.size, 2, none⟩ = some (.int .i64 k) := boxC b6 2; have y3 : w6.cell? ⟨wr.heap.size, 3, none⟩ = some (.slice am nm cm) := boxC b6 3; have y4 : w6.cell? ⟨wr.heap.size, 4, none⟩ = some (.int .i64 lo) := boxC b6 4; have y5 : w6.cell? ⟨wr.heap.size, 5, none⟩ = some (.int .i64 hi2) := boxC b6 5; have y6 : w6.cell? ⟨wr.heap.size, 6, none⟩ = some (.int .i64 old) := boxC b6 6; have HU6 := Lib.hid (OwnsR.below HU1.out b6); have b06 := below_next bb b6) | (at_builtin; refine wpList_append_own _ rfl _ _ 37 rfl w.heap.size 42 i0 (.agg #[.int .i64 0, .int .i64 0, .int .i64 0, .slice none 0 0, .int .i64 0, .int .i64 0, .int .i64 0]) 7 72 Try.underlying37 hi hz0 hz1 hz2 rfl (by decide) _ _ _ rfl (World.ownsRow.alloc HU6.out _) ⟨w6.heap.size, 0, none⟩ 1 1 [.int .i64 c, .int .i64 s, .int .i64 k, .slice am nm cm, .int .i64 lo, .int .i64 hi2, .int .i64 old] rfl rfl ?ca ?cb ?cc ?cd ?ce ?_))
            case ca => exact fun jj u hj => by rw [addr_add]; exact (cellG rfl).trans (by simpa using hj)
            case cb => intro u hu; simp at hu; rcases hu with rfl | rfl | rfl | rfl | rfl | rfl | rfl <;> rfl
            case cc => have := ZU.out; unfold maxLen; omega
            case cd => have := ZU.out; omega
            case ce => have := b06.size; simp; omega
            intro v9 w9 hown9 hg9 _
            have hb9 := (b06.alloc b06.size (.cells #[.int .i64 c, .int .i64 s, .int .i64 k, .slice am nm cm, .int .i64 lo, .int .i64 hi2, .int .i64 old] 42)).grown hg9 (by have := b06.size; simp; omega) (fun k hk => (World.ownsRow.lt HU6.out k hk).1)
            have ho9 := Lib.hid (OwnsR.snoc (x := (⟨c, s, k, am, nm, cm, ps, lo, hi2, old⟩ : Mv)) rfl hown9)
            clear hown9 hg9
            go_wp2_with fail
            go_roundw
            case rel => exact ⟨j + 1, by go_num, by omega, rfl, HC2, Lib.hid (by rw [HT2.out]; exact ho9.out), hb9⟩
            case measure => simp [intOf]; omega
          · have HT2 := Lib.hid (show upE (l.take (j + 1)) mark = U by rw [HT.out]; simp [hm])
            clear HT
            go_wp2_with (go_at_call 27; (with_reducible refine CA.out.mono ?_); rintro e w6 ⟨rfl, b6⟩; have y8 : w6.cell? ⟨wr.heap.size, 8, none⟩ = some (.bool true) := boxC b6 8; have y7 : w6.cell? ⟨wr.heap.size, 7, none⟩ = some (.int .i64 t) := boxC b6 7)
            go_roundw
            case rel => exact ⟨j + 1, by go_num, by omega, rfl, HC2, Lib.hid (by rw [HT2.out]; exact OwnsR.below HU1.out b6), below_next bb b6⟩
            case measure => simp [intOf]; omega
    · have hjz : ¬ (j : Int) < (l.length : Int) := by omega
      rw [List.take_of_length_le (by omega)] at HC HU
      have ok := upE_ok (mark := mark) (fun e he => (HL.out.ok e he).below hbl)
      have HR := Lib.hid (show foldE l on mark = ontoP [] (upE l mark) on from if_pos HC.out)
      obtain ⟨a8, c8, rfl, h8⟩ := OwnsR.arg encM_len HU.out
      have CO := Lib.hid (jonto_any none 0 0 [] a8 (upE l mark).length c8 (upE l mark) a3 n3 c3 on wr (Arg.nilJ _) ⟨h8, ok⟩ (HO3.out.below hbl))
      clear ok h8 HU HC
      generalize (upE l mark).length = nu at CO ⊢
      go_wp2_with (go_at_call 17; (with_reducible refine CO.out.mono ?_); rintro e w7 ⟨a9, n9, c9, rfl, h9, b9⟩; replace h9 := Lib.hid h9)
      go_ret
      exact ⟨_, _, _, rfl, by rw [HR.out]; exact h9.out, below_next hbl b9⟩
end Go.Proofs.Ythofoidafdbgcaa
