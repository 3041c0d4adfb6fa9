/-
  BAGS: sending, losing, doubling, setting apart.
-/
import Derived.Test.YtbonokhldonciaaBgD
namespace Go.Proofs.Ytbonokhldonciaa
open Go.RowKit Go.Maps Go.ChangeMaps

theorem getE {w : World} {p mb ab : Nat} {s : Bs} {k v : Int} {m : Ml} (h : Bg w p mb ab s) (hk : (Lit.int .i64 k).wf = true) (e : getM s k = (m, v)) :
    Calls Try.prog 31 #[.pointer (some ⟨p, 0, none⟩), .int .i64 k] w (RPost (.tuple #[.agg #[.int .i64 m.id, .int .i64 m.fr, .int .i64 m.to, .string m.tx], .int .i64 v]) w) := by
  have := get_any h hk
  rwa [e] at this
theorem freeM {W : World} {b : Nat} {i f t x : Value} {ty : TypeId} (h : W.heap[b]? = some (.cells #[i, f, t, x] ty)) :
    W.frozen? ⟨b, 0, none⟩ = false ∧ W.frozen? ⟨b, 1, none⟩ = false ∧ W.frozen? ⟨b, 2, none⟩ = false ∧ W.frozen? ⟨b, 3, none⟩ = false :=
  ⟨frozen_of_row _ _ 0 _ _ h, frozen_of_row _ _ 1 _ _ h, frozen_of_row _ _ 2 _ _ h, frozen_of_row _ _ 3 _ _ h⟩
theorem Bg.set {W : World} {p mb ab b : Nat} {s : Bs} (h : Bg W p mb ab s) (h1 : b ≠ p) (h2 : b ≠ mb) (h3 : b ≠ ab) (i : Nat) (v : Value) : Bg (W.setCell ⟨b, i, none⟩ v) p mb ab s :=
  h.keep (fun k hk => Below.heap_setCell _ _ _ _ (by show k ≠ b; omega))
def sendS (s : Bs) (f t : Int) (x : ByteArray) : Bs := if addrB f = false ∨ addrB t = false ∨ 65536 < x.size then s else addS s ⟨0, f, t, x⟩
def sendV (s : Bs) (f t : Int) (x : ByteArray) : Int × Int := if addrB f = false ∨ addrB t = false then (0, 1) else if 65536 < x.size then (0, 2) else addV s
theorem addrB_in {n : Int} (h : addrB n = true) : 0 ≤ n ∧ n ≤ 63 := by unfold addrB at h; simpa using h
set_option maxRecDepth 100000 in
set_option maxHeartbeats 1000000 in
theorem send_any {w : World} {p mb ab : Nat} {s : Bs} (h : Bg w p mb ab s) (hL : s.last < 100000) (f t : Int) (x : ByteArray) (hx : x.size ≤ maxLen) :
    Calls Try.prog 13 #[.pointer (some ⟨p, 0, none⟩), .int .i64 f, .int .i64 t, .string x] w (SPost p mb ab (.tuple #[.int .i64 (sendV s f t x).1, .int .i64 (sendV s f t x).2]) (sendS s f t x) w) := by
  unfold maxLen at hx
  rcases Bool.eq_false_or_eq_true (addrB f) with hf | hf
  · rcases Bool.eq_false_or_eq_true (addrB t) with ht | ht
    · by_cases h6 : 65536 < x.size
      · have hz : (65536 : Int) < (x.size : Int) := by omega
        have e1 : sendS s f t x = s := by simp [sendS, hf, ht, h6]
        have e2 : sendV s f t x = (0, 2) := by simp [sendV, hf, ht, h6]
        rw [e1, e2]
        go_enter Try.func13, Try.ntmps13
        go_wp2_with (first
          | (go_at_call 29; (with_reducible refine (addr_any f _).mono ?_); rintro e w2 ⟨rfl, hw2⟩; subst w2; rw [hf])
          | (go_at_call 29; (with_reducible refine (addr_any t _).mono ?_); rintro e w2 ⟨rfl, hw2⟩; subst w2; rw [ht]))
        go_ret2
        exact ⟨rfl, h, But.refl _ _ _ _⟩
      · have hz : ¬ (65536 : Int) < (x.size : Int) := by omega
        have e1 : sendS s f t x = addS s ⟨0, f, t, x⟩ := by simp [sendS, hf, ht]; omega
        have e2 : sendV s f t x = addV s := by simp [sendV, hf, ht]; omega
        rw [e1, e2]
        go_enter Try.func13, Try.ntmps13
        go_wp2_with (first
          | (go_at_call 29; (with_reducible refine (addr_any f _).mono ?_); rintro e w2 ⟨rfl, hw2⟩; subst w2; rw [hf])
          | (go_at_call 29; (with_reducible refine (addr_any t _).mono ?_); rintro e w2 ⟨rfl, hw2⟩; subst w2; rw [ht])
          | (go_at_call 30; refine (add_any h hL ⟨0, f, t, x⟩ (addrB_in hf) (addrB_in ht)).mono ?_; rintro e w2 ⟨rfl, h2, b2⟩))
        go_ret2
        exact ⟨rfl, h2, b2⟩
    · have e1 : sendS s f t x = s := by simp [sendS, ht]
      have e2 : sendV s f t x = (0, 1) := by simp [sendV, ht]
      rw [e1, e2]
      go_enter Try.func13, Try.ntmps13
      go_wp2_with (first
        | (go_at_call 29; (with_reducible refine (addr_any f _).mono ?_); rintro e w2 ⟨rfl, hw2⟩; subst w2; rw [hf])
        | (go_at_call 29; (with_reducible refine (addr_any t _).mono ?_); rintro e w2 ⟨rfl, hw2⟩; subst w2; rw [ht]))
      go_ret2
      exact ⟨rfl, h, But.refl _ _ _ _⟩
  · have e1 : sendS s f t x = s := by simp [sendS, hf]
    have e2 : sendV s f t x = (0, 1) := by simp [sendV, hf]
    rw [e1, e2]
    go_enter Try.func13, Try.ntmps13
    go_wp2_with (go_at_call 29; (with_reducible refine (addr_any f _).mono ?_); rintro e w2 ⟨rfl, hw2⟩; subst w2; rw [hf])
    go_ret2
    exact ⟨rfl, h, But.refl _ _ _ _⟩
theorem send_nil (f t : Int) (x : ByteArray) (w : World) : Calls Try.prog 13 #[.pointer none, .int .i64 f, .int .i64 t, .string x] w fun e w' => e = .returned (.tuple #[.int .i64 0, .int .i64 1]) ∧ w' = w := by
  go_enter Try.func13, Try.ntmps13
  go_wp2
  go_ret2
  exact ⟨rfl, rfl⟩
/-- Striking a mail. -/
def dropS (s : Bs) (k : Int) : Bs := { s with G := putG s.G k none, n := s.n - 1 }
theorem drop_ok {W : World} {p mb ab : Nat} {s : Bs} {k : Int} {m : Ml} (h : Bg W p mb ab s) (hk : (Lit.int .i64 k).wf = true) (hg : s.G k = some m) :
    ∃ W', (Builtin.delete_ #[58, 3] 0 #[.map (some mb), .int .i64 k]).run Try.prog W = .ok (.tuple #[]) W' ∧ Bg W' p mb ab (dropS s k) ∧ W.mapTurned W' mb := by
  obtain ⟨W5, hrun5, hm5, ht5⟩ := h.hm.drop hk hg 0
  refine ⟨W5, hrun5, h.turnM ht5 hm5 (by have := h.n4; omega) (fun j m' hj => ?_), ht5⟩
  unfold putG at hj
  split at hj
  · cases hj
  · exact h.keys j m' hj
def loseS (s : Bs) (k : Int) : Bs := match s.G k with | some _ => dropS s k | none => s
def loseV (s : Bs) (k : Int) : Int := match s.G k with | some _ => 0 | none => 4
set_option maxRecDepth 100000 in
set_option maxHeartbeats 1000000 in
theorem lose_any {w : World} {p mb ab : Nat} {s : Bs} (h : Bg w p mb ab s) {k : Int} (hk : (Lit.int .i64 k).wf = true) :
    Calls Try.prog 15 #[.pointer (some ⟨p, 0, none⟩), .int .i64 k] w (SPost p mb ab (.int .i64 (loseV s k)) (loseS s k) w) := by
  unfold loseS loseV
  cases e : s.G k with
  | none =>
    dsimp only
    obtain ⟨m, hm⟩ : ∃ m, m0 = m := ⟨_, rfl⟩
    have eg : getM s k = (m, 4) := by unfold getM; rw [e, ← hm]
    clear hm
    go_enter Try.func15, Try.ntmps15
    go_wp2_with (go_at_call 31; (with_reducible refine (getE h hk eg).mono ?_); rintro e w2 ⟨rfl, b2⟩)
    go_ret
    exact ⟨rfl, h.same (b2.trans ((belowM w2 m).mono b2.size)), But.of_below (b2.trans ((belowM w2 m).mono b2.size))⟩
  | some m =>
    dsimp only
    have eg : getM s k = (m, 0) := by unfold getM; rw [e]
    go_enter Try.func15, Try.ntmps15
    go_wp2_with (go_at_call 31; (with_reducible refine (getE h hk eg).mono ?_); rintro e w2 ⟨rfl, b2⟩; (have b3 := b2.trans ((belowM w2 m).mono b2.size)); (have h3 := h.same b3); obtain ⟨W3, hW3⟩ : ∃ W3, w2.alloc (.cells #[.int .i64 m.id, .int .i64 m.fr, .int .i64 m.to, .string m.tx] 42) = W3 := ⟨_, rfl⟩; simp only [boxM] at h3 b3; rw [hW3] at h3 b3; obtain ⟨c0, c1, c2⟩ := h3.cells; obtain ⟨W5, hrun5, h5, ht5⟩ := drop_ok h3 hk (by assumption))
    go_ret
    exact ⟨rfl, h5, (But.of_below b3).grown ht5.grown (.inr (.inl rfl))⟩
theorem lose_nil (k : Int) (w : World) : Calls Try.prog 15 #[.pointer none, .int .i64 k] w (RPost (.int .i64 1) w) := by
  obtain ⟨m, hm⟩ : ∃ m, m0 = m := ⟨_, rfl⟩
  have hg := get_nil k w
  rw [hm] at hg
  clear hm
  go_enter Try.func15, Try.ntmps15
  go_wp2_with (go_at_call 31; (with_reducible refine hg.mono ?_); rintro e w2 ⟨rfl, b2⟩)
  go_ret
  exact ⟨rfl, b2.trans ((belowM w2 m).mono b2.size)⟩
def twiceS (s : Bs) (k : Int) : Bs := match s.G k with | some m => addS s m | none => s
def twiceV (s : Bs) (k : Int) : Int × Int := match s.G k with | some _ => addV s | none => (0, 4)
set_option maxRecDepth 100000 in
set_option maxHeartbeats 1000000 in
theorem twice_any {w : World} {p mb ab : Nat} {s : Bs} (h : Bg w p mb ab s) (hL : s.last < 100000) {k : Int} (hk : (Lit.int .i64 k).wf = true) :
    Calls Try.prog 16 #[.pointer (some ⟨p, 0, none⟩), .int .i64 k] w (SPost p mb ab (.tuple #[.int .i64 (twiceV s k).1, .int .i64 (twiceV s k).2]) (twiceS s k) w) := by
  unfold twiceS twiceV
  cases e : s.G k with
  | none =>
    dsimp only
    obtain ⟨m, hm⟩ : ∃ m, m0 = m := ⟨_, rfl⟩
    have eg : getM s k = (m, 4) := by unfold getM; rw [e, ← hm]
    clear hm
    go_enter Try.func16, Try.ntmps16
    go_wp2_with (go_at_call 31; (with_reducible refine (getE h hk eg).mono ?_); rintro e w2 ⟨rfl, b2⟩)
    go_ret2
    exact ⟨rfl, h.same (b2.trans ((belowM w2 m).mono b2.size)), But.of_below (b2.trans ((belowM w2 m).mono b2.size))⟩
  | some m =>
    dsimp only
    have eg : getM s k = (m, 0) := by unfold getM; rw [e]
    obtain ⟨hf, ht⟩ := (h.keys k m e).2.2.2
    go_enter Try.func16, Try.ntmps16
    go_wp2_with (first
      | (go_at_call 31; (with_reducible refine (getE h hk eg).mono ?_); rintro e w2 ⟨rfl, b2⟩; (have b3 := b2.trans ((belowM w2 m).mono b2.size)); (have h3 := h.same b3); (have hx := heap_alloc_new w2 (boxM m)); obtain ⟨W3, hW3⟩ : ∃ W3, w2.alloc (.cells #[.int .i64 m.id, .int .i64 m.fr, .int .i64 m.to, .string m.tx] 42) = W3 := ⟨_, rfl⟩; simp only [boxM] at h3 b3 hx; rw [hW3] at h3 b3 hx; obtain ⟨z0, z1, z2, z3⟩ := cellsM hx)
      | (go_at_call 30; (with_reducible refine (add_any h3 hL m hf ht).mono ?_); rintro e w4 ⟨rfl, h4, b4⟩))
    go_ret2
    exact ⟨rfl, h4, (But.of_below b3).trans b4⟩
theorem twice_nil (k : Int) (w : World) : Calls Try.prog 16 #[.pointer none, .int .i64 k] w (RPost (.tuple #[.int .i64 0, .int .i64 1]) w) := by
  obtain ⟨m, hm⟩ : ∃ m, m0 = m := ⟨_, rfl⟩
  have hg := get_nil k w
  rw [hm] at hg
  clear hm
  go_enter Try.func16, Try.ntmps16
  go_wp2_with (go_at_call 31; (with_reducible refine hg.mono ?_); rintro e w2 ⟨rfl, b2⟩)
  go_ret2
  exact ⟨rfl, b2.trans ((belowM w2 m).mono b2.size)⟩
end Go.Proofs.Ytbonokhldonciaa
