/-
  THE WALK of the law CksumBack: it returns true, and writes nothing that was there.
-/
import Derived.Test.YtjeeplacolbihabSplit
import Derived.Deep.DeepCutAuto
namespace Go.Proofs.Ytjeeplacolbihab
open Go.RowKit

/-- A row of numbers and a row of texts are not one row. -/
theorem own_apart {w : World} {b : Nat} {v u : Value} {l : List Int} {m : List ByteArray} (h : OwnsI w b v l) (h2 : OwnsS w b u m) :
    (v.ownBlock = none ∨ v.ownBlock ≠ u.ownBlock) ∧ (u.ownBlock = none ∨ u.ownBlock ≠ v.ownBlock) := by
  rcases h.2 with ⟨rfl, _⟩ | ⟨g, cap, cur, rfl, _, hg, _⟩
  · exact ⟨.inl rfl, by cases hu : u.ownBlock with | none => exact .inl rfl | some x => exact .inr (by simp [Value.ownBlock])⟩
  · rcases h2.2 with ⟨rfl, _⟩ | ⟨g2, cap2, cur2, rfl, _, hg2, _⟩
    · exact ⟨.inr (by simp [Value.ownBlock]), .inl rfl⟩
    · have hne : g ≠ g2 := by
        intro e
        rw [e, hg2] at hg
        simp at hg
      exact ⟨.inr (by simpa [Value.ownBlock] using hne), .inr (by simpa [Value.ownBlock] using hne.symm)⟩
theorem OwnsI.argS {w : World} {base : Nat} {v : Value} {l : List Int} (h : OwnsI w base v l) :
    ∃ a cap, v = .slice a l.length cap ∧ IntsIn w a l := by
  rcases h.2 with ⟨rfl, hn⟩ | ⟨g, cap, cur, rfl, _⟩
  · have : l = [] := List.eq_nil_of_length_eq_zero hn
    subst this
    exact ⟨none, 0, rfl, .inl rfl⟩
  · refine ⟨some ⟨g, 0, none⟩, cap, rfl, .inr ⟨g, 0, rfl, (h.lt g rfl).2, fun k hk => ?_⟩⟩
    have := World.ownsRow.cells (g := g) h rfl k (.int .i64 (l.getD k 0)) (by simp [List.getElem?_eq_getElem hk])
    rw [← this]
    by_cases hk0 : k = 0
    · subst hk0; simp [Addr.add]
    · simp [Addr.add, hk0]
theorem OwnsI.belowS {w w' : World} {base : Nat} {v : Value} {l : List Int} (h : OwnsI w base v l) (hb : Below w.heap.size w w') : OwnsI w' base v l :=
  World.ownsRow.kept h (row := none) ⟨hb.os, hb.tape, hb.output, hb.size, fun k hk _ => hb.block k hk⟩ (by cases hv : v.ownBlock <;> simp)
theorem split_whole (l : List ByteArray) (w : World) (hl : ∀ b ∈ l, b.size ≤ 1048576) (hs : ((framesS l).size : Int) ≤ 1000000000000) (hn : l.length ≤ 1000000000000) :
    Calls Try.prog 13 #[.string (framesS l)] w (SplitPost l ByteArray.empty w) := by
  have e : framesS l ++ ByteArray.empty = framesS l := by apply ba_ext; rw [ba_app]; simp
  have := split_any l ByteArray.empty w hl openR_none (by rw [e]; exact hs) hn
  rw [e] at this
  exact this
def SplitPostN (n : Nat) (l : List ByteArray) (r : ByteArray) (w : World) (e : Ending) (w' : World) : Prop :=
  ∃ a cap, e = .returned (.tuple #[.slice a n cap, .string r]) ∧ StrsIn w' a l ∧ Below w.heap.size w w'
theorem tmod_at (a : Int) (m : Nat) (h2 : m ≤ 100000) : ∃ f : Nat, f ≤ m ∧ (wrap64 (wrap64 (a.tmod ((m : Int) + 1) + (m : Int)) + 1)).tmod ((m : Int) + 1) = (f : Int) := by
  have h3 : -((m : Int) + 1) < a.tmod ((m : Int) + 1) := Int.lt_tmod_of_pos a (by omega)
  have h4 : a.tmod ((m : Int) + 1) < (m : Int) + 1 := Int.tmod_lt_of_pos a (by omega)
  obtain ⟨y, hy⟩ : ∃ y, a.tmod ((m : Int) + 1) = y := ⟨_, rfl⟩
  rw [hy] at h3 h4 ⊢
  have h5 : wrap64 (wrap64 (y + (m : Int)) + 1) = y + (m : Int) + 1 := by unfold wrap64; omega
  rw [h5]
  obtain ⟨x, hx⟩ : ∃ x, y + (m : Int) + 1 = x := ⟨_, rfl⟩
  rw [hx, Int.tmod_eq_emod_of_nonneg (by omega)]
  have h6 := Int.emod_nonneg x (b := (m : Int) + 1) (by omega)
  have h7 := Int.emod_lt_of_pos x (b := (m : Int) + 1) (by omega)
  exact ⟨(x % ((m : Int) + 1)).toNat, by omega, by omega⟩
theorem frame_small {b : ByteArray} (w : World) (hb : b.size ≤ 1000) : Calls Try.prog 12 #[.string b] w (FramePost (frameS b) 0 w) := frame_any b w (by omega)

set_option maxRecDepth 100000 in
set_option maxHeartbeats 4000000 in
theorem cksumBack_walk (a : Option Addr) (len cap : Nat) (ss : List ByteArray) (cut : Int) (w : World) (hss : StrsArg w a len ss) (_hcut : (Lit.int .i64 cut).wf = true) :
    Calls Try.prog 4 #[.slice a len cap, .int .i64 cut] w fun e w' => e = .returned (.bool true) ∧ Below w.heap.size w w' := by
  obtain ⟨rfl, hin, _, hlen⟩ := hss
  obtain ⟨i0, hi, hz0, hz1, hz2⟩ := info_parts Try.infoStr
  obtain ⟨j0, hj, hy0, hy1, hy2⟩ := info_parts Try.infoInt
  have HIN := Lib.hid hin
  clear hin
  go_enter Try.func4, Try.ntmps4
  go_wp2
  go_loopw [5, 6, 7, 8] (fun t v u i wr => ∃ (k : Nat) (q : List ByteArray), i = .int .i64 (k : Int) ∧ k ≤ ss.length ∧ q.length ≤ 20 ∧ (∀ b ∈ q, b.size ≤ 1000) ∧ t = .string (framesS q) ∧ OwnsI wr w.heap.size v (endsOf q) ∧ OwnsS wr w.heap.size u q ∧ Below w.heap.size w wr)
    (fun _ _ _ i _ => ss.length - (intOf i).toNat)
  case atStart => exact ⟨0, [], rfl, by omega, by simp, by simp, rfl, World.ownsRow_made w #[] 0 (Nat.le_refl _) (by decide) rfl, OwnsS.nil _ _, (Below.refl _ _).alloc (Nat.le_refl _) _⟩
  case round =>
    obtain ⟨k, q, rfl, hk, h20, hall, rfl, OI, OS, hbl⟩ := hrel
    obtain ⟨a2, cap2, rfl, hin2, hcap2⟩ := OS.arg
    have HA := Lib.hid hall
    have hlow := hbl.size
    have hfs := framesS_small hall
    clear hall
    by_cases hgo : k < ss.length ∧ q.length < 20
    · obtain ⟨hlt, h19⟩ := hgo
      rcases HIN.out with h | ⟨b, off, rfl, hb, hc⟩
      · rw [h] at hlt; exact absurd hlt (by simp)
      have hcell : wr.cell? ⟨b, off + k, none⟩ = some (.string (ss.getD k ByteArray.empty)) := (hbl.cell (by exact hb)).trans (hc k hlt)
      obtain ⟨s, hs⟩ : ∃ s, ss.getD k ByteArray.empty = s := ⟨_, rfl⟩
      rw [hs] at hcell
      clear hs hc
      by_cases hsz : s.size ≤ 1000
      · have hes : framesS (q ++ [s]) = framesS q ++ frameS s := framesS_snoc q s
        have hfz := frame_size_le (b := s) (by omega)
        have HES := Lib.hid hes
        clear hes
        have HEN := Lib.hid (endsOf_snoc q s)
        have hA2 : ∀ b ∈ q ++ [s], b.size ≤ 1000 := by
          intro b hb
          rcases List.mem_append.1 hb with h | h
          · exact HA.out b h
          · simp at h; subst h; exact hsz
        have HA2 := Lib.hid hA2
        clear hA2
        have hsum : (framesS q ++ frameS s).size = (framesS q).size + (frameS s).size := size_app' _ _
        have HSU := Lib.hid hsum
        clear hsum
        have hz1' : (framesS q).size + (frameS s).size ≤ 100000 := by omega
        have hq20 : q.length + 1 ≤ 20 := by omega
        go_wp2_with fail
        refine (frame_small wr hsz).mono ?_
        rintro e w1 ⟨rfl, B1⟩
        have OI1 := OI.belowS B1
        have OS1 := OS.below B1
        have C1 := below_add hbl hlow B1
        have hl1 := C1.size
        have hap := own_apart OI1 OS1
        have hcell1 := (B1.cell (p := ⟨b, off + k, none⟩) (by have := hbl.size; show b < _; omega)).trans hcell
        clear OI OS hin2 hcell
        go_wp2_with (at_builtin; refine wpList_append_own _ rfl _ _ 31 rfl w.heap.size 9 i0 (.string ByteArray.empty) 1 16 Try.underlying31 hi hz0 hz1 hz2 rfl (by decide) _ _ _ rfl (OS1.alloc _) ⟨w1.heap.size, 0, none⟩ 1 1 [.string s] rfl rfl ?c1 ?c2 ?c3 ?c4 ?c5 ?_)
        case c1 => exact cell_one_new _ _ _
        case c2 => intro x hx; simp at hx; subst hx; rfl
        case c3 => unfold maxLen; omega
        case c4 => omega
        case c5 => simp; omega
        intro v' w2 hown2 hgrow2 _
        have OS2 := OwnsS.push hown2
        have C2 : Below w.heap.size w w2 := (C1.alloc hl1 _).grown hgrow2 (by simp; omega) (by intro kk hkk; exact (OS1.lt kk hkk).1)
        have OI2 : OwnsI w2 w.heap.size u6 (endsOf q) := World.ownsRow.kept (OI1.alloc _) hgrow2 hap.1
        have hap2 := own_apart OI2 OS2
        have hl2 := C2.size
        have hel := endsOf_len q
        have hel' : (endsOf q).length + 1 ≤ 21 := by omega
        clear hown2 hgrow2 OS1 OI1 C1 hap B1 hcell1 hel
        go_wp2_with (at_builtin; refine wpList_append_own _ rfl _ _ 32 rfl w.heap.size 3 j0 (.int .i64 0) 1 8 Try.underlying32 hj hy0 hy1 hy2 rfl (by decide) _ _ _ rfl (OI2.alloc _) ⟨w2.heap.size, 0, none⟩ 1 1 [.int .i64 (((framesS q).size : Int) + ((frameS s).size : Int))] rfl rfl ?d1 ?d2 ?d3 ?d4 ?d5 ?_)
        case d1 => exact cell_one_new _ _ _
        case d2 => intro x hx; simp at hx; subst hx; rfl
        case d3 => unfold maxLen; omega
        case d4 => omega
        case d5 => simp; omega
        intro v3 w3 hown3 hgrow3 _
        have OI3 := OwnsI.push hown3
        have C3 : Below w.heap.size w w3 := (C2.alloc hl2 _).grown hgrow3 (by simp; omega) (by intro kk hkk; exact (OI2.lt kk hkk).1)
        have OS3 : OwnsS w3 w.heap.size v' (q ++ [s]) := World.ownsRow.kept (OS2.alloc _) hgrow3 hap2.2
        have HO : endsOf q ++ [(((framesS q).size : Int) + ((frameS s).size : Int))] = endsOf (q ++ [s]) := by rw [HEN.out, HES.out, HSU.out]; rfl
        rw [HO] at OI3
        clear HO hown3 hgrow3 OS2 OI2 C2 hap2 hel'
        go_wp2
        go_roundw
        case rel => exact ⟨k + 1, q ++ [s], by go_num, by omega, by simp; omega, HA2.out, by rw [HES.out], OI3, OS3, C3⟩
        case measure => simp [intOf]; omega
      · have hk1 := Lib.hid (show framesS q = framesS q from rfl)
        go_wp2_with fail
        go_roundw
        case rel => exact ⟨k + 1, q, by go_num, by omega, h20, HA.out, rfl, OI, OS, hbl⟩
        case measure => simp [intOf]; omega
    · have hx : (k < ss.length ∧ 20 ≤ q.length) ∨ ss.length ≤ k := by omega
      clear hgo
      obtain ⟨ae, cape, rfl, hine⟩ := OI.argS
      rw [endsOf_len] at *
      have hT : (framesS q).size ≤ 100000 := by omega
      have HSP : Hid (∀ w, Calls Try.prog 13 #[.string (framesS q)] w (SplitPost q ByteArray.empty w)) := Lib.hid fun w => split_whole q w (fun b hb => by have := HA.out b hb; omega) (by omega) (by omega)
      obtain ⟨f, hf1, hf2⟩ := tmod_at cut (framesS q).size hT
      have HF2 := Lib.hid hf2
      clear hf2
      rcases hx with ⟨hx1, hx2⟩ | hx1
      all_goals
        go_wp2_with fail
        refine (HSP.out _).mono ?_
        rintro e w1 ⟨a1, cap1, rfl, hin1, B1⟩
        have hin2' := hin2.below B1
        have hine' := hine.below B1
        have C1 := below_add hbl hlow B1
        go_wp2_with fail
        refine (strs_same a1 a2 cap1 cap2 q _ (by omega) hin1 hin2').mono ?_
        rintro e w2 ⟨rfl, B2⟩
        have hin3 := hin2'.below B2
        have hine3 := hine'.below B2
        have C2 := below_add C1 C1.size B2
        clear hin1 hin2' hine' hin2 hine B1 B2 C1
        go_wp2
        rw [HF2.out]
        go_loop [14] (fun i => ∃ n : Nat, i = .int .i64 (n : Int) ∧ n ≤ q.length ∧ (framesS (q.take n)).size ≤ f) (fun i => q.length - (intOf i).toNat)
        case atStart => exact ⟨0, rfl, by omega, Nat.zero_le _⟩
        case round =>
          obtain ⟨n, rfl, hn, hnf⟩ := hrel
          by_cases hlt : n < q.length
          · rcases hine3 with h | ⟨be, oe, rfl, hbe, hce⟩
            · have := endsOf_len q; rw [h] at this; simp at this; omega
            have hcell := hce n (by rw [endsOf_len]; exact hlt)
            rw [endsOf_get hlt] at hcell
            obtain ⟨E, hE⟩ : ∃ E, (framesS (q.take (n + 1))).size = E := ⟨_, rfl⟩
            rw [hE] at hcell
            have HE := Lib.hid hE
            clear hE hce
            by_cases hle : E ≤ f
            · go_wp2_with fail
              go_round
              case rel => exact ⟨n + 1, by go_num, by omega, by rw [HE.out]; exact hle⟩
              case measure => simp [intOf]; omega
            · have h3 : n = q.length ∨ f < (framesS (q.take (n + 1))).size := by first | (left; omega) | (right; rw [HE.out]; omega)
              have hn' : (q.take n).length = n := by rw [List.length_take]; omega
              obtain ⟨r, hr1, hr2⟩ := framesS_cut (fun b hb => by have := HA.out b hb; omega) hn hnf h3
              have hrs : ((framesS q).extract 0 f).size ≤ 100000 := by rw [ba_size, ba_take, List.length_take, ← ba_size]; omega
              have HS2 : Hid (∀ w, Calls Try.prog 13 #[.string ((framesS q).extract 0 f)] w (SplitPostN n (q.take n) r w)) := Lib.hid fun w => by
                rw [hr1] at hrs ⊢
                exact (split_any (q.take n) r w (fun b hb => by have := HA.out b (List.mem_of_mem_take hb); omega) hr2 (by omega) (by omega)).mono fun _ _ ⟨a, c, h1, h2⟩ => ⟨a, c, by rw [h1, hn'], h2⟩
              have HSM : Hid (∀ (a1 a2 : Option Addr) (c1 c2 : Nat) (w : World), StrsIn w a1 (q.take n) → StrsIn w a2 (q.take n) → Calls Try.prog 14 #[.slice a1 n c1, .slice a2 n c2] w (TruePost w)) := Lib.hid fun a1 a2 c1 c2 w h1 h2 => by
                have := strs_same a1 a2 c1 c2 (q.take n) w (by omega) h1 h2
                rw [hn'] at this
                exact this
              have hnc : n ≤ cap2 := by omega
              have hin4 := hin3.take n
              clear hr1 hr2 h3 hn' hrs
              go_wp2_with fail
              refine (HS2.out _).mono ?_
              rintro e w3 ⟨a5, cap5, rfl, hin5, B3⟩
              have hin6 := hin4.below B3
              have C3 := below_add C2 C2.size B3
              clear hin4 B3
              go_wp2_with (first
                | (go_at_call 8; refine (awake2_any _).mono ?_; rintro e w4 ⟨rfl, B4⟩; have hin7 := hin6.below B4; have hin8 := hin5.below B4; have C4 := below_add C3 C3.size B4)
                | (go_at_call 14; refine (HSM.out _ _ _ _ _ hin8 hin7).mono ?_; rintro e w5 ⟨rfl, B5⟩))
              go_ret
              exact ⟨rfl, below_add C4 C4.size B5⟩
          · have h3 : n = q.length ∨ f < (framesS (q.take (n + 1))).size := by first | (left; omega) | (right; rw [HE.out]; omega)
            have hn' : (q.take n).length = n := by rw [List.length_take]; omega
            obtain ⟨r, hr1, hr2⟩ := framesS_cut (fun b hb => by have := HA.out b hb; omega) hn hnf h3
            have hrs : ((framesS q).extract 0 f).size ≤ 100000 := by rw [ba_size, ba_take, List.length_take, ← ba_size]; omega
            have HS2 : Hid (∀ w, Calls Try.prog 13 #[.string ((framesS q).extract 0 f)] w (SplitPostN n (q.take n) r w)) := Lib.hid fun w => by
              rw [hr1] at hrs ⊢
              exact (split_any (q.take n) r w (fun b hb => by have := HA.out b (List.mem_of_mem_take hb); omega) hr2 (by omega) (by omega)).mono fun _ _ ⟨a, c, h1, h2⟩ => ⟨a, c, by rw [h1, hn'], h2⟩
            have HSM : Hid (∀ (a1 a2 : Option Addr) (c1 c2 : Nat) (w : World), StrsIn w a1 (q.take n) → StrsIn w a2 (q.take n) → Calls Try.prog 14 #[.slice a1 n c1, .slice a2 n c2] w (TruePost w)) := Lib.hid fun a1 a2 c1 c2 w h1 h2 => by
              have := strs_same a1 a2 c1 c2 (q.take n) w (by omega) h1 h2
              rw [hn'] at this
              exact this
            have hnc : n ≤ cap2 := by omega
            have hin4 := hin3.take n
            clear hr1 hr2 h3 hn' hrs
            go_wp2_with fail
            refine (HS2.out _).mono ?_
            rintro e w3 ⟨a5, cap5, rfl, hin5, B3⟩
            have hin6 := hin4.below B3
            have C3 := below_add C2 C2.size B3
            clear hin4 B3
            go_wp2_with (first
              | (go_at_call 8; refine (awake2_any _).mono ?_; rintro e w4 ⟨rfl, B4⟩; have hin7 := hin6.below B4; have hin8 := hin5.below B4; have C4 := below_add C3 C3.size B4)
              | (go_at_call 14; refine (HSM.out _ _ _ _ _ hin8 hin7).mono ?_; rintro e w5 ⟨rfl, B5⟩))
            go_ret
            exact ⟨rfl, below_add C4 C4.size B5⟩
end Go.Proofs.Ytjeeplacolbihab
