/-
  BAGS: BagOnce's walk (written by wip/tools/mkBgS.py).
-/
import Derived.Test.YtbonokhldonciaaBgR
namespace Go.Proofs.Ytbonokhldonciaa
open Go.RowKit Go.Maps Go.ChangeMaps Go.ChangeShapes Go.WideShapes Go.Deep

set_option maxRecDepth 100000 in
set_option maxHeartbeats 4000000 in
theorem bagOnce_walk (a : Option Addr) (len cap : Nat) (l : List AcB) (w : World) (hA : AcArg w a len cap l) :
    Calls Try.prog 4 #[.slice a len cap] w (TruePost w) := by
  obtain ⟨i0, hi0, hz0, hz1, hz2⟩ := info_parts Try.infoStr
  obtain ⟨j0, hj0, hy0, hy1, hy2⟩ := info_parts Try.infoInt
  obtain rfl := hA.len
  have hcap := hA.cap
  replace hA := Lib.hid hA
  go_enter Try.func4, Try.ntmps4
  go_wp2_with (first
    | (go_at_call 9; (with_reducible refine (new_any _).mono ?_); rintro e w1 ⟨p, mb, ab, rfl, h1, p1, p2, p3, b1⟩)
    | (go_at_call 10; (with_reducible refine (awake10_any _).mono ?_); rintro e w2 ⟨rfl, b2⟩; (have h2 := h1.same b2); (have c2 := b1.trans (b2.mono b1.size))))
  obtain ⟨l1, l2, l3⟩ := h2.lt
  have hO : Ro w w2.heap.size p mb ab newB [] [] (.slice (some ⟨w2.heap.size, 0, none⟩) 1 1) (.slice none 0 0) (w2.alloc (.cells #[.string ⟨#[]⟩] 9)) :=
    ⟨⟨⟨by simp, .inr ⟨w2.heap.size, 1, #[.string ⟨#[]⟩], rfl, Nat.le_refl _, heap_alloc_new _ _, Nat.le_refl _, by decide, rfl, rfl⟩⟩, OwnsI.nil _ _, c2.trans (((Below.refl _ _).alloc (Nat.le_refl _) _).mono c2.size), by simp, c2.size, ⟨l1, p1⟩, ⟨l2, p2⟩, ⟨l3, p3⟩⟩, h2.same ((Below.refl _ _).alloc (Nat.le_refl _) _), onc_new⟩
  clear h1 h2 l1 l2 l3 b1 b2 c2 p1 p2 p3
  go_loopw [4, 5, 6, 7] (fun lv v u i wr => ∃ (k : Nat) (s : Bs) (q : List ByteArray) (gone : List Int), i = .int .i64 (k : Int) ∧ lv = .int .i64 (q.length : Int) ∧ k ≤ l.length ∧ k ≤ 200 ∧ q.length ≤ k ∧ gone.length ≤ k ∧ Hid (Ro w w2.heap.size p mb ab s q gone v u wr)) (fun _ _ _ i _ => l.length - (intOf i).toNat)
  case atStart => exact ⟨0, newB, [], [], rfl, rfl, Nat.zero_le _, by decide, Nat.zero_le _, Nat.zero_le _, Lib.hid hO⟩
  case round =>
    clear hO
    obtain ⟨k, s, q, gone, rfl, rfl, hk, hk2, hq, hg, HR⟩ := hrel
    obtain ⟨wo, rfl⟩ : ∃ wo, wo = wr := ⟨_, rfl⟩
    by_cases hgo : k < l.length ∧ k < 200
    · obtain ⟨hlt, h200⟩ := hgo
      have zl : (k : Int) < (l.length : Int) := by omega
      have z2 : (k : Int) < 200 := by omega
      obtain ⟨b, off, rfl, hb, u0, u1, u2, u3, u4⟩ := hA.out.cells HR.out.two.low hlt
      have hok := hA.out.ok _ (List.getElem_mem hlt)
      generalize l[k] = x at hok u0 u1 u2 u3 u4
      obtain ⟨kd, xa, xb, xs, on⟩ := x
      obtain ⟨_, hwa, _, hts⟩ := hok
      dsimp only at hwa hts u0 u1 u2 u3 u4
      obtain ⟨⟨n1, n1'⟩, ⟨n2, n2'⟩, n3, n3'⟩ := And.intro HR.out.two.b1 (And.intro HR.out.two.b2 HR.out.two.b3)
      have hbs := HR.out.two.size
      replace n1 : wo.heap.size ≠ p := by omega
      replace n2 : wo.heap.size ≠ mb := by omega
      replace n3 : wo.heap.size ≠ ab := by omega
      clear n1' n2' n3' hbs
      by_cases hk0 : kd = 0
      · subst hk0
        obtain ⟨W1, hW1⟩ : ∃ W, wo.alloc (.cells #[.int .i64 0, .int .i64 xa, .int .i64 xb, .string xs, .bool on] 31) = W := ⟨_, rfl⟩
        have hR := HR.out.alloc (.cells #[.int .i64 0, .int .i64 xa, .int .i64 xb, .string xs, .bool on] 31)
        rw [hW1] at hR
        replace hR := Lib.hid hR
        have hx := heap_alloc_new wo (.cells #[.int .i64 0, .int .i64 xa, .int .i64 xb, .string xs, .bool on] 31)
        have hxl : wo.heap.size < W1.heap.size := by rw [← hW1]; simp
        rw [hW1] at hx
        obtain ⟨y0, y1, y2, y3⟩ := And.intro (cell_of_row _ _ 0 _ _ _ hx) (And.intro (cell_of_row _ _ 1 _ _ _ hx) (And.intro (cell_of_row _ _ 2 _ _ _ hx) (cell_of_row _ _ 3 _ _ _ hx)))
        replace hx := Lib.hid hx
        have hBag := hR.out.bag
        have hl9 := sendS_last hR.out.onc (by omega)
        clear HR
        rcases onc_send hR.out.onc xa xb xs with ⟨v, e1, e2, hv⟩ | ⟨s', e1, e2, hO, h3⟩
        · have v1 : (v == 0) = false := by simpa using hv
          replace e1 := Lib.hid e1
          replace e2 := Lib.hid e2
          go_wp2_with (go_at_call 13; (with_reducible refine (sendE hBag hl9 e1.out e2.out hts).mono ?_); rintro e w4 ⟨rfl, h4, b4⟩)
          go_roundw
          case rel => exact ⟨k + 1, s, q, gone, by go_num, rfl, by omega, by omega, by omega, by omega, Lib.hid ⟨hR.out.two.but b4, h4, hR.out.onc⟩⟩
          case measure => simp [intOf]; omega
        · replace e1 := Lib.hid e1
          replace e2 := Lib.hid e2
          have hl4 : (q ++ [xs]).length = q.length + 1 := by simp
          go_wp2_with (first
            | (go_at_call 13; (with_reducible refine (sendE hBag hl9 e1.out e2.out hts).mono ?_); rintro e w4 ⟨rfl, h4, b4⟩; (have T4 := hR.out.two.but b4); (have x4 := (b4.block _ hxl n1 n2 n3).trans hx.out); (have z3 := cell_of_row _ _ 3 _ _ _ x4); replace T4 := Lib.hid T4)
            | (at_builtin; refine wpList_append_own _ rfl _ _ 36 rfl w2.heap.size 9 i0 (.string ByteArray.empty) 1 16 Try.underlying36 hi0 hz0 hz1 hz2 rfl (by decide) _ _ _ rfl (World.ownsRow.alloc T4.out.rowS _) ⟨w4.heap.size, 0, none⟩ 1 1 [.string xs] rfl rfl ?c1 ?c2 ?c3 ?c4 ?c5 ?_))
          case c1 => exact cell_one_new _ _ _
          case c2 => intro x hx; simp at hx; subst hx; rfl
          case c3 => unfold maxLen; simp; omega
          case c4 => simp; omega
          case c5 => have := T4.out.size; simp; omega
          intro v' w9 hown hgrow _
          have R9 := Lib.hid (Ro.pushS T4.out h4 hO hown hgrow)
          clear hown hgrow h4 x4 z3 T4
          go_wp2
          go_roundw
          case rel => exact ⟨k + 1, s', q ++ [xs], gone, by go_num, by rw [hl4]; go_num, by omega, by omega, by omega, by omega, R9⟩
          case measure => simp [intOf]; omega
      have ne0 : (kd == 0) = false := by simpa using hk0
      by_cases hk1 : kd = 1
      · subst hk1
        obtain ⟨W1, hW1⟩ : ∃ W, wo.alloc (.cells #[.int .i64 1, .int .i64 xa, .int .i64 xb, .string xs, .bool on] 31) = W := ⟨_, rfl⟩
        have hR := HR.out.alloc (.cells #[.int .i64 1, .int .i64 xa, .int .i64 xb, .string xs, .bool on] 31)
        rw [hW1] at hR
        replace hR := Lib.hid hR
        have hx := heap_alloc_new wo (.cells #[.int .i64 1, .int .i64 xa, .int .i64 xb, .string xs, .bool on] 31)
        have hxl : wo.heap.size < W1.heap.size := by rw [← hW1]; simp
        rw [hW1] at hx
        obtain ⟨y0, y1, y2, y3⟩ := And.intro (cell_of_row _ _ 0 _ _ _ hx) (And.intro (cell_of_row _ _ 1 _ _ _ hx) (And.intro (cell_of_row _ _ 2 _ _ _ hx) (cell_of_row _ _ 3 _ _ _ hx)))
        replace hx := Lib.hid hx
        have hBag := hR.out.bag
        have hl9 := sendS_last hR.out.onc (by omega)
        clear HR
        rcases onc_take hBag hR.out.onc xa with ⟨m, v, e1, e2, hv⟩ | ⟨s', m, e1, e2, hO, hid, htx, h1, h2, hng⟩
        · have v1 : (v == 0) = false := by simpa using hv
          replace e1 := Lib.hid e1
          replace e2 := Lib.hid e2
          go_wp2_with (go_at_call 14; (with_reducible refine (takeE hBag hwa e1.out e2.out).mono ?_); rintro e w4 ⟨rfl, h4, b4⟩)
          go_roundw
          case rel => exact ⟨k + 1, s, q, gone, by go_num, rfl, by omega, by omega, by omega, by omega, Lib.hid (Ro.alloc ⟨hR.out.two.but b4, h4, hR.out.onc⟩ _)⟩
          case measure => simp [intOf]; omega
        · obtain ⟨g, cp, rfl, hcp1, hcp2, hgb, hgl, hcells⟩ := hR.out.two.rowS.arg (by simp)
          obtain ⟨ga, gc, rfl, hgc, hgone⟩ := hR.out.two.rowI.arg
          obtain ⟨mi, mf, mt, mx⟩ := m
          dsimp only at hid htx
          subst hid
          have hlen' : (ByteArray.empty :: q).length = q.length + 1 := by simp
          have hcell := hcells mi.toNat (by rw [hlen']; omega)
          have ec : (ByteArray.empty :: q).getD mi.toNat ByteArray.empty = q.getD (mi.toNat - 1) ⟨#[]⟩ := by (obtain ⟨m, hm⟩ : ∃ m, mi.toNat = m + 1 := ⟨mi.toNat - 1, by omega⟩); rw [hm]; rfl
          rw [ec, ← htx] at hcell
          clear htx ec
          obtain ⟨na, rfl⟩ : ∃ na : Nat, mi = (na : Int) := ⟨mi.toNat, by omega⟩
          have en : ((na : Int)).toNat = na := by omega
          rw [en] at hcell
          replace e1 := Lib.hid e1
          replace e2 := Lib.hid e2
          replace hng := Lib.hid hng
          replace hgone := Lib.hid hgone
          have hl4 : (gone ++ [(na : Int)]).length = gone.length + 1 := by simp
          have z6 : (na : Int) < (q.length : Int) + 1 := by omega
          have z7 : ¬ (na : Int) < 1 := by omega
          have z9 : ¬ (q.length : Int) < (na : Int) := by omega
          have z0 : 0 ≤ (na : Int) := by omega
          rw [hlen'] at *
          clear hcells en hlen'
          go_wp2_with (go_at_call 14; (with_reducible refine (takeE hBag hwa e1.out e2.out).mono ?_); rintro e w4 ⟨rfl, h4, b4⟩; (have T5 := (hR.out.two.but b4).alloc (boxM ⟨(na : Int), mf, mt, mx⟩)); (have B5 := belowM w4 ⟨(na : Int), mf, mt, mx⟩); (have h5 := h4.same B5); (have m5 := heap_alloc_new w4 (boxM ⟨(na : Int), mf, mt, mx⟩)); (have x4 := (b4.block _ hxl n1 n2 n3).trans hx.out); (have x5 := (B5.block _ (Array.getElem?_eq_some_iff.1 x4).1).trans x4); (have hgl4 := Nat.lt_of_lt_of_le hgl b4.size); (have hcell5 := (B5.cell (p := ⟨g, na, none⟩) hgl4).trans ((b4.cellO (p' := ⟨g, na, none⟩) hgl (by show g ≠ p; have := hR.out.two.b1; omega) (by show g ≠ mb; have := hR.out.two.b2; omega) (by show g ≠ ab; have := hR.out.two.b3; omega)).trans hcell)); (have hgl5 := Nat.lt_of_lt_of_le hgl4 B5.size); obtain ⟨W5, hW5⟩ : ∃ W, w4.alloc (.cells #[.int .i64 (na : Int), .int .i64 mf, .int .i64 mt, .string mx] 42) = W := ⟨_, rfl⟩; simp only [boxM] at B5 h5 T5 m5 x5 hcell5 hgl5; rw [hW5] at B5 h5 T5 m5 x5 hcell5 hgl5)
          replace hW5 := Lib.hid hW5
          have KS : Hid (∀ W', Below W5.heap.size W5 W' → W'.cell? ⟨wo.heap.size, 1, none⟩ = some (.int .i64 (na : Int)) ∧ W'.cell? ⟨w4.heap.size, 0, none⟩ = some (.int .i64 (na : Int)) ∧ W'.cell? ⟨w4.heap.size, 3, none⟩ = some (.string mx) ∧ W'.cell? ⟨g, na, none⟩ = some (.string mx)) := Lib.hid fun W' hB' => by
            obtain ⟨q0, _, _, q3⟩ := cellsM ((hB'.block _ (Array.getElem?_eq_some_iff.1 m5).1).trans m5)
            exact ⟨cell_of_row _ _ 1 _ _ _ ((hB'.block _ (Array.getElem?_eq_some_iff.1 x5).1).trans x5), q0, q3, (hB'.cell (p := ⟨g, na, none⟩) hgl5).trans hcell5⟩
          have hgon5 : Hid (∀ W', Below W5.heap.size W5 W' → ∀ j, j < gone.length → ∃ g', ga = some ⟨g', 0, none⟩ ∧ W'.cell? ⟨g', j, none⟩ = some (.int .i64 (gone.getD j 0))) := Lib.hid fun W' hB' j hj => by
            obtain ⟨a', c', e', _, hh⟩ := T5.rowI.arg
            obtain ⟨g', e1, _, e3⟩ := hh j hj
            simp only [Value.slice.injEq] at e'
            exact ⟨g', by rw [e'.1]; exact e1, (hB'.cell (World.block_lt_of_cell? _ _ e3)).trans e3⟩
          replace T5 := Lib.hid T5
          replace h5 := Lib.hid h5
          clear hcell hcell5 m5 x4 x5 h4 b4 B5 hgl5 hgl4 hgone
          go_loopw [13] (fun i wy => ∃ (j : Nat), i = .int .i64 (j : Int) ∧ j ≤ gone.length ∧ Hid (Below W5.heap.size W5 wy)) (fun i _ => gone.length - (intOf i).toNat)
          case atStart => exact ⟨0, rfl, Nat.zero_le _, Lib.hid (Below.refl _ _)⟩
          case round =>
            obtain ⟨j, rfl, hj, hD⟩ := hrel
            obtain ⟨y1, v0, v3, y9⟩ := KS.out _ hD.out
            by_cases hlt2 : j < gone.length
            · have z5 : (j : Int) < (gone.length : Int) := by omega
              obtain ⟨g', rfl, hcj⟩ := hgon5.out _ hD.out j hlt2
              have hne : gone.getD j 0 ≠ (na : Int) := fun e => hng.out (by rw [← e, List.getD_eq_getElem?_getD, List.getElem?_eq_getElem hlt2]; exact List.getElem_mem hlt2)
              generalize gone.getD j 0 = gj at hcj hne
              have hne1 : (gj == (na : Int)) = false := by simpa using hne
              go_wp2_with fail
              go_quiet (fail)
              have b8 := below_refl_drewN wr nq
              have hD8 := Lib.hid (hD.out.trans (b8.mono hD.out.size))
              go_wp2
              go_roundw
              case rel => exact ⟨j + 1, by go_num, by omega, hD8⟩
              case measure => simp [intOf]; omega
            · have hjq : j = gone.length := by omega
              subst hjq
              have T6 := T5.out.but (But.of_below hD.out)
              have h6 := h5.out.same hD.out
              have q1 : ¬ na < 1 := by omega
              have q2 : ¬ na = 0 := by omega
              have q3 : ¬ q.length < na := by omega
              have q4 : na ≤ q.length := by omega
              go_wp2_with fail
              go_quiet (fail)
              have b8 := below_refl_drewN wr nq
              have T8 := T6.but (But.of_below b8)
              have h8 := h6.same b8
              have y8 := (KS.out _ (hD.out.trans (b8.mono hD.out.size))).1
              replace T8 := Lib.hid T8
              clear T6 h6 y1 v0 v3 y9
              go_wp2_with (at_builtin; refine wpList_append_own _ rfl _ _ 37 rfl w2.heap.size 3 j0 (.int .i64 0) 1 8 Try.underlying37 hj0 hy0 hy1 hy2 rfl (by decide) _ _ _ rfl (World.ownsRow.alloc T8.out.rowI _) ⟨(wr.drewN nq).heap.size, 0, none⟩ 1 1 [.int .i64 (na : Int)] rfl rfl ?c1 ?c2 ?c3 ?c4 ?c5 ?_)
              case c1 => exact cell_one_new _ _ _
              case c2 => intro x hx; simp at hx; subst hx; rfl
              case c3 => unfold maxLen; first | omega | (simp; omega)
              case c4 => first | omega | (simp; omega)
              case c5 => have := T8.out.size; simp at *; omega
              intro v' w9 hown hgrow _
              have R9 := Lib.hid (Ro.pushI T8.out h8 hO hown hgrow)
              clear hown hgrow h8 T8
              go_wp2
              go_roundw
              case rel => exact ⟨k + 1, s', q, gone ++ [(na : Int)], by go_num, rfl, by omega, by omega, by omega, by omega, R9⟩
              case measure => simp [intOf]; omega
      have ne1 : (kd == 1) = false := by simpa using hk1
      by_cases hk2 : kd = 2
      · subst hk2
        obtain ⟨W1, hW1⟩ : ∃ W, wo.alloc (.cells #[.int .i64 2, .int .i64 xa, .int .i64 xb, .string xs, .bool on] 31) = W := ⟨_, rfl⟩
        have hR := HR.out.alloc (.cells #[.int .i64 2, .int .i64 xa, .int .i64 xb, .string xs, .bool on] 31)
        rw [hW1] at hR
        replace hR := Lib.hid hR
        have hx := heap_alloc_new wo (.cells #[.int .i64 2, .int .i64 xa, .int .i64 xb, .string xs, .bool on] 31)
        have hxl : wo.heap.size < W1.heap.size := by rw [← hW1]; simp
        rw [hW1] at hx
        obtain ⟨y0, y1, y2, y3⟩ := And.intro (cell_of_row _ _ 0 _ _ _ hx) (And.intro (cell_of_row _ _ 1 _ _ _ hx) (And.intro (cell_of_row _ _ 2 _ _ _ hx) (cell_of_row _ _ 3 _ _ _ hx)))
        replace hx := Lib.hid hx
        have hBag := hR.out.bag
        have hl9 := sendS_last hR.out.onc (by omega)
        clear HR
        rcases onc_lose hBag hR.out.onc xa with ⟨v, e1, e2, hv⟩ | ⟨s', e1, e2, hO⟩
        · have v1 : (v == 0) = false := by simpa using hv
          replace e1 := Lib.hid e1
          replace e2 := Lib.hid e2
          go_wp2_with (go_at_call 15; (with_reducible refine (loseE hBag hwa e1.out e2.out).mono ?_); rintro e w4 ⟨rfl, h4, b4⟩)
          go_roundw
          case rel => exact ⟨k + 1, s, q, gone, by go_num, rfl, by omega, by omega, by omega, by omega, Lib.hid ⟨hR.out.two.but b4, h4, hR.out.onc⟩⟩
          case measure => simp [intOf]; omega
        · replace e1 := Lib.hid e1
          replace e2 := Lib.hid e2
          have hl4 : (gone ++ [xa]).length = gone.length + 1 := by simp
          go_wp2_with (first
            | (go_at_call 15; (with_reducible refine (loseE hBag hwa e1.out e2.out).mono ?_); rintro e w4 ⟨rfl, h4, b4⟩; (have T4 := hR.out.two.but b4); (have x4 := (b4.block _ hxl n1 n2 n3).trans hx.out); (have z1 := cell_of_row _ _ 1 _ _ _ x4); replace T4 := Lib.hid T4)
            | (at_builtin; refine wpList_append_own _ rfl _ _ 37 rfl w2.heap.size 3 j0 (.int .i64 0) 1 8 Try.underlying37 hj0 hy0 hy1 hy2 rfl (by decide) _ _ _ rfl (World.ownsRow.alloc T4.out.rowI _) ⟨w4.heap.size, 0, none⟩ 1 1 [.int .i64 xa] rfl rfl ?c1 ?c2 ?c3 ?c4 ?c5 ?_))
          case c1 => exact cell_one_new _ _ _
          case c2 => intro x hx; simp at hx; subst hx; rfl
          case c3 => unfold maxLen; first | omega | (simp; omega)
          case c4 => first | omega | (simp; omega)
          case c5 => have := T4.out.size; simp; omega
          intro v' w9 hown hgrow _
          have R9 := Lib.hid (Ro.pushI T4.out h4 hO hown hgrow)
          clear hown hgrow h4 x4 z1 T4
          go_wp2
          go_roundw
          case rel => exact ⟨k + 1, s', q, gone ++ [xa], by go_num, rfl, by omega, by omega, by omega, by omega, R9⟩
          case measure => simp [intOf]; omega
      have ne2 : (kd == 2) = false := by simpa using hk2
      by_cases hk3 : kd = 3
      · subst hk3
        obtain ⟨W1, hW1⟩ : ∃ W, wo.alloc (.cells #[.int .i64 3, .int .i64 xa, .int .i64 xb, .string xs, .bool on] 31) = W := ⟨_, rfl⟩
        have hR := HR.out.alloc (.cells #[.int .i64 3, .int .i64 xa, .int .i64 xb, .string xs, .bool on] 31)
        rw [hW1] at hR
        replace hR := Lib.hid hR
        have hx := heap_alloc_new wo (.cells #[.int .i64 3, .int .i64 xa, .int .i64 xb, .string xs, .bool on] 31)
        have hxl : wo.heap.size < W1.heap.size := by rw [← hW1]; simp
        rw [hW1] at hx
        obtain ⟨y0, y1, y2, y3⟩ := And.intro (cell_of_row _ _ 0 _ _ _ hx) (And.intro (cell_of_row _ _ 1 _ _ _ hx) (And.intro (cell_of_row _ _ 2 _ _ _ hx) (cell_of_row _ _ 3 _ _ _ hx)))
        replace hx := Lib.hid hx
        have hBag := hR.out.bag
        have hl9 := sendS_last hR.out.onc (by omega)
        clear HR
        rcases onc_twice hR.out.onc xa with ⟨v, e1, e2, hv⟩ | ⟨s', e1, e2, hO, h1, h2⟩
        · have v1 : (v == 0) = false := by simpa using hv
          replace e1 := Lib.hid e1
          replace e2 := Lib.hid e2
          go_wp2_with (go_at_call 16; (with_reducible refine (twiceE hBag hl9 hwa e1.out e2.out).mono ?_); rintro e w4 ⟨rfl, h4, b4⟩)
          go_roundw
          case rel => exact ⟨k + 1, s, q, gone, by go_num, rfl, by omega, by omega, by omega, by omega, Lib.hid ⟨hR.out.two.but b4, h4, hR.out.onc⟩⟩
          case measure => simp [intOf]; omega
        · obtain ⟨g, cp, rfl, hcp1, hcp2, hgb, hgl, hcells⟩ := hR.out.two.rowS.arg (by simp)
          have hlen' : (ByteArray.empty :: q).length = q.length + 1 := by simp
          have hcell := hcells xa.toNat (by rw [hlen']; omega)
          have ec : (ByteArray.empty :: q).getD xa.toNat ByteArray.empty = q.getD (xa.toNat - 1) ⟨#[]⟩ := by (obtain ⟨m, hm⟩ : ∃ m, xa.toNat = m + 1 := ⟨xa.toNat - 1, by omega⟩); rw [hm]; rfl
          rw [ec] at hcell
          generalize q.getD (xa.toNat - 1) ⟨#[]⟩ = t at hO hcell
          obtain ⟨na, rfl⟩ : ∃ na : Nat, xa = (na : Int) := ⟨xa.toNat, by omega⟩
          have en : ((na : Int)).toNat = na := by omega
          rw [en] at hcell
          replace e1 := Lib.hid e1
          replace e2 := Lib.hid e2
          have hl4 : (q ++ [t]).length = q.length + 1 := by simp
          have z6 : (na : Int) < (q.length : Int) + 1 := by omega
          have z7 : ¬ (na : Int) < 1 := by omega
          have z8 : ¬ (q.length : Int) + 1 < (na : Int) := by omega
          have z9 : ¬ (q.length : Int) < (na : Int) := by omega
          have z0 : 0 ≤ (na : Int) := by omega
          rw [hlen'] at *
          clear hcells ec en hlen'
          go_wp2_with (first
            | (go_at_call 16; (with_reducible refine (twiceE hBag hl9 hwa e1.out e2.out).mono ?_); rintro e w4 ⟨rfl, h4, b4⟩; (have T4 := hR.out.two.but b4); (have x4 := (b4.block _ hxl n1 n2 n3).trans hx.out); (have y1 := cell_of_row _ _ 1 _ _ _ x4); (have hcell4 := (b4.cellO (p' := ⟨g, na, none⟩) hgl (by show g ≠ p; have := hR.out.two.b1; omega) (by show g ≠ mb; have := hR.out.two.b2; omega) (by show g ≠ ab; have := hR.out.two.b3; omega)).trans hcell); replace T4 := Lib.hid T4)
            | (at_builtin; refine wpList_append_own _ rfl _ _ 36 rfl w2.heap.size 9 i0 (.string ByteArray.empty) 1 16 Try.underlying36 hi0 hz0 hz1 hz2 rfl (by decide) _ _ _ rfl (World.ownsRow.alloc T4.out.rowS _) ⟨w4.heap.size, 0, none⟩ 1 1 [.string t] rfl rfl ?c1 ?c2 ?c3 ?c4 ?c5 ?_))
          case c1 => exact cell_one_new _ _ _
          case c2 => intro x hx; simp at hx; subst hx; rfl
          case c3 => unfold maxLen; simp; omega
          case c4 => simp; omega
          case c5 => have := T4.out.size; simp; omega
          intro v' w9 hown hgrow _
          have R9 := Lib.hid (Ro.pushS T4.out h4 hO hown hgrow)
          clear hown hgrow h4 x4 y1 T4
          go_wp2
          go_roundw
          case rel => exact ⟨k + 1, s', q ++ [t], gone, by go_num, by rw [hl4]; go_num, by omega, by omega, by omega, by omega, R9⟩
          case measure => simp [intOf]; omega
      have ne3 : (kd == 3) = false := by simpa using hk3
      go_wp2_with fail
      go_roundw
      case rel => exact ⟨k + 1, s, q, gone, by go_num, rfl, by omega, by omega, by omega, by omega, Lib.hid (HR.out.alloc _)⟩
      case measure => simp [intOf]; omega
    · have hends : ¬ ((k : Int) < (l.length : Int)) ∨ ((k : Int) < (l.length : Int) ∧ ¬ (k : Int) < 200) := by omega
      obtain ⟨ga, gc, rfl, hgc, _⟩ := HR.out.two.rowI.arg
      have hI := (ids_any HR.out.bag).1
      have hn : (idsL s.G s.last).length = q.length - gone.length := (ids_any HR.out.bag).2.trans (by have := HR.out.onc.left; omega)
      have hgq : gone.length ≤ q.length := by have := HR.out.onc.left; omega
      have hwr : IntKind.i64.wrap ((q.length : Int) - (gone.length : Int)) = ((q.length - gone.length : Nat) : Int) := by rw [IntWalk.i64_in _ (by omega)]; omega
      replace hn := Lib.hid hn
      have hlow := HR.out.two.low
      rcases hends with z1 | ⟨z1, z2⟩
      all_goals
        go_wp2_with (go_at_call 17; (with_reducible refine hI.mono ?_); rintro e w5 ⟨a5, c5, rfl, _, b5⟩; rw [hn.out])
        go_ret
        exact ⟨by simp, hlow.trans (b5.mono hlow.size)⟩
end Go.Proofs.Ytbonokhldonciaa
