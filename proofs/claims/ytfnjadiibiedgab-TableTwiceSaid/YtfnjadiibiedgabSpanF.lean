/-
  CONTRACTS of Join, Meet, Less; of Touch and its closure.
-/
import Derived.Test.YtfnjadiibiedgabSpanE
namespace Go.Proofs.Ytfnjadiibiedgab
open Go.RowKit Go.Shelf

set_option maxRecDepth 100000 in
set_option maxHeartbeats 1000000 in
theorem combine_bad (gk : Nat) (A B : List Sp) (aA aB : Option Addr) (cA cB : Nat) (w : World) (zA : (A.length : Int) ≤ 9223372036854775807) (zB : (B.length : Int) ≤ 9223372036854775807)
    (pA : PIn w w.heap.size aA A) (pB : PIn w w.heap.size aB B) (hbad : chkB A = false ∨ (chkB A = true ∧ chkB B = false)) :
    Calls Try.prog 53 #[.slice aA A.length cA, .slice aB B.length cB, .func (.func gk) #[] #[]] w (SetPost w ([], 1)) := by
  have HPA := Lib.hid pA
  have HPB := Lib.hid pB
  obtain ⟨W1, hW1⟩ : ∃ W1, w.alloc (.cells #[.func (.func gk) #[] #[]] 109) = W1 := ⟨_, rfl⟩
  have b1 : Below w.heap.size w W1 := by rw [← hW1]; exact (Below.refl _ _).alloc (Nat.le_refl _) _
  clear pA pB
  rcases hbad with hA | ⟨hA, hB⟩
  · replace hA := Lib.hid hA
    go_enter Try.func53, Try.ntmps53
    go_wp2_with (first | (go_at_call 58; (with_reducible refine (check_any aA cA A _ zA (HPA.out.belowMore b1)).mono ?_); rw [hA.out]; rintro e w2 ⟨rfl, b2⟩; have b12 := below_next b1 b2))
    go_ret2
    exact SetPost.nil b12
  · replace hA := Lib.hid hA
    replace hB := Lib.hid hB
    go_enter Try.func53, Try.ntmps53
    go_wp2_with (first | (go_at_call 58; (with_reducible refine (check_any aA cA A _ zA (HPA.out.belowMore b1)).mono ?_); rw [hA.out]; rintro e w2 ⟨rfl, b2⟩; have b12 := below_next b1 b2) | (go_at_call 58; (with_reducible refine (check_any aB cB B _ zB (HPB.out.belowMore b12)).mono ?_); rw [hB.out]; rintro e w3 ⟨rfl, b3⟩; have b13 := below_next b12 b3))
    go_ret2
    exact SetPost.nil b13

/-- A slice of spans that a call may be given. -/
def Arg (w : World) (a : Option Addr) (n c : Nat) (l : List Sp) : Prop := n = l.length ∧ (l.length : Int) ≤ 9223372036854775807 ∧ l.length ≤ c ∧ c ≤ maxLen ∧ PIn w w.heap.size a l
theorem Arg.below {w w' : World} {a : Option Addr} {n c : Nat} {l : List Sp} (h : Arg w a n c l) (hb : Below w.heap.size w w') : Arg w' a n c l := ⟨h.1, h.2.1, h.2.2.1, h.2.2.2.1, h.2.2.2.2.belowMore hb⟩
/-- A set that was given, and its error, as arguments show it. -/
def SetArg (w : World) (r : List Sp × Int) (e : Ending) (w' : World) : Prop := ∃ a n c, e = .returned (.tuple #[.slice a n c, .int .i64 r.2]) ∧ Arg w' a n c r.1 ∧ Below w.heap.size w w'
theorem SetPost.arg {w w' : World} {r : List Sp × Int} {e : Ending} (h : SetPost w r e w') : SetArg w r e w' := by
  obtain ⟨a, c, he, h1, h2, h3, h4⟩ := h
  exact ⟨a, _, c, he, ⟨rfl, by unfold maxLen at h2; omega, h1, h2, h3⟩, h4⟩

theorem combine_any (gk : Nat) (f : Bool → Bool → Bool) (eg : ∀ args w, (callFunc gk args).run Try.prog w = .ok (.enter gk args) w) (hk : Keeps gk f) (hf : f false false = false)
    (A B : List Sp) (aA aB : Option Addr) (nA nB cA cB : Nat) (w : World) (hA : Arg w aA nA cA A) (hB : Arg w aB nB cB B) :
    Calls Try.prog 53 #[.slice aA nA cA, .slice aB nB cB, .func (.func gk) #[] #[]] w (SetArg w (mixP f A B)) := by
  obtain ⟨rfl, zA, kA, mA, pA⟩ := hA
  obtain ⟨rfl, zB, kB, mB, pB⟩ := hB
  refine Calls.mono ?_ fun _ _ h => SetPost.arg h
  cases hA : chkB A
  · rw [show mixP f A B = ([], 1) from if_neg (by rw [hA]; simp)]
    exact combine_bad gk A B aA aB cA cB w zA zB pA pB (.inl hA)
  · cases hB : chkB B
    · rw [show mixP f A B = ([], 1) from if_neg (by rw [hB]; simp)]
      exact combine_bad gk A B aA aB cA cB w zA zB pA pB (.inr ⟨hA, hB⟩)
    · rw [show mixP f A B = limP (setOf fun j => f (hasB A j) (hasB B j)) from if_pos ⟨hA, hB⟩]
      exact combine_ok gk f eg hk hf A B aA aB cA cB w zA zB kA kB mA mB pA pB hA hB

def joinP (A B : List Sp) : List Sp × Int := mixP (fun x y => x || y) A B
def meetP (A B : List Sp) : List Sp × Int := mixP (fun x y => x && y) A B
def lessP (A B : List Sp) : List Sp × Int := mixP (fun x y => x && !y) A B

theorem meet_any (A B : List Sp) (aA aB : Option Addr) (nA nB cA cB : Nat) (w : World) (hA : Arg w aA nA cA A) (hB : Arg w aB nB cB B) :
    Calls Try.prog 98 #[.slice aA nA cA, .slice aB nB cB] w (SetArg w (meetP A B)) := by
  have C := Lib.hid (combine_any 126 _ (enters_of Try.func126 (by kernel_rfl) rfl) meet1 rfl A B aA aB nA nB cA cB w hA hB)
  clear hA hB
  go_enter Try.func98, Try.ntmps98
  go_wp2_with (go_at_call 53; (with_reducible refine C.out.mono ?_); rintro e w' ⟨a, n, c, rfl, h1, h2⟩)
  go_ret2
  exact ⟨a, n, c, rfl, h1, h2⟩
theorem less_any (A B : List Sp) (aA aB : Option Addr) (nA nB cA cB : Nat) (w : World) (hA : Arg w aA nA cA A) (hB : Arg w aB nB cB B) :
    Calls Try.prog 14 #[.slice aA nA cA, .slice aB nB cB] w (SetArg w (lessP A B)) := by
  have C := Lib.hid (combine_any 54 _ (enters_of Try.func54 (by kernel_rfl) rfl) less1 rfl A B aA aB nA nB cA cB w hA hB)
  clear hA hB
  go_enter Try.func14, Try.ntmps14
  go_wp2_with (go_at_call 53; (with_reducible refine C.out.mono ?_); rintro e w' ⟨a, n, c, rfl, h1, h2⟩)
  go_ret2
  exact ⟨a, n, c, rfl, h1, h2⟩

/-- The worlds between Touch's visits: nothing in common was found below lo. -/
def TInv (A B : List Sp) (bf : Nat) (w0 : World) (lo : Int) (W : World) : Prop :=
  W.cell? ⟨bf, 0, none⟩ = some (.bool false) ∧ W.frozen? ⟨bf, 0, none⟩ = false ∧ (∀ j, j < lo → (hasB A j && hasB B j) = false) ∧ Below w0.heap.size w0 W
def TFin (A B : List Sp) (bf : Nat) (w0 : World) (W : World) : Prop :=
  W.cell? ⟨bf, 0, none⟩ = some (.bool true) ∧ (∃ j, (hasB A j && hasB B j) = true) ∧ Below w0.heap.size w0 W

set_option maxRecDepth 100000 in
set_option maxHeartbeats 1000000 in
theorem touch1 (A B : List Sp) (bf : Nat) (w0 : World) (k1 : w0.heap.size ≤ bf) :
    Vis 71 #[.pointer (some ⟨bf, 0, none⟩)] A B w0.heap.size (TInv A B bf w0) (TFin A B bf w0) := by
  intro W lo hi x y h0 h1 h2 hs ⟨cf, ff, hn, hbl⟩
  have hbf : bf < W.heap.size := World.block_lt_of_cell? _ _ cf
  obtain ⟨W1, hW1⟩ : ∃ W1, W.alloc (.cells #[.int .i64 lo, .int .i64 hi] 24) = W1 := ⟨_, rfl⟩
  have cf1 : W1.cell? ⟨bf, 0, none⟩ = some (.bool false) := by rw [← hW1]; exact (World.cell?_alloc_lt W _ ⟨bf, 0, none⟩ hbf).trans cf
  have ff1 : W1.frozen? ⟨bf, 0, none⟩ = false := by rw [← hW1]; exact (((Below.refl W.heap.size W).alloc (Nat.le_refl _) _).frozen (p := ⟨bf, 0, none⟩) hbf).trans ff
  have hbl1 : Below w0.heap.size w0 W1 := by rw [← hW1]; exact hbl.alloc hbl.size _
  have hbW1 : Below w0.heap.size W W1 := by rw [← hW1]; exact (Below.refl _ _).alloc hbl.size _
  have hz : W1.cell? ⟨bf, 0, none⟩ = some (.bool false) := cf1
  replace hz := Lib.hid hz
  replace hn := Lib.hid hn
  replace hs := Lib.hid hs
  clear cf ff
  have fin : (x && y) = true → TFin A B bf w0 (W1.setCell ⟨bf, 0, none⟩ (.bool true)) := fun h => ⟨World.cell?_setCell_same _ _ _ hz.out, ⟨lo, by obtain ⟨e1, e2⟩ := hs.out lo (Int.le_refl _) h1; rw [e1, e2]; exact h⟩, hbl1.setCell k1 _⟩
  have go : (x && y) = false → TInv A B bf w0 hi (W1.setCell ⟨bf, 0, none⟩ (.bool false)) := fun h => by
    refine ⟨World.cell?_setCell_same _ _ _ hz.out, by rw [World.frozen?_setCell]; exact ff1, fun j hj => ?_, hbl1.setCell k1 _⟩
    by_cases hjl : j < lo
    · exact hn.out j hjl
    · obtain ⟨e1, e2⟩ := hs.out j (by omega) hj
      rw [e1, e2]; exact h
  replace fin := Lib.hid fin
  replace go := Lib.hid go
  cases x <;> cases y
  all_goals
    go_enter Try.func71, Try.ntmps71
    go_wp2
    go_ret
    refine ⟨_, rfl, ?_, hbW1.setCell k1 _⟩
    first
      | exact ⟨fun _ => go.out rfl, (fun h => by cases h)⟩
      | exact ⟨(fun h => by cases h), fun _ => fin.out rfl⟩

/-- Have two sets a key in common? -/
def meets (A B : List Sp) : Bool := decide (∃ k : Nat, k < 4096 ∧ (hasB A k && hasB B k) = true)
def touchB (A B : List Sp) : Bool := chkB A && chkB B && meets A B
theorem meets_yes {A B : List Sp} {j : Int} (h : (hasB A j && hasB B j) = true) : meets A B = true := by
  have h' := hasB_range (Bool.and_eq_true _ _ ▸ h).1
  exact decide_eq_true ⟨j.toNat, by omega, by rw [show ((j.toNat : Nat) : Int) = j by omega]; exact h⟩
theorem meets_no {A B : List Sp} (h : ∀ j, (hasB A j && hasB B j) = false) : meets A B = false :=
  decide_eq_false fun ⟨k, _, hk⟩ => by rw [h] at hk; cases hk

theorem touch_end {A B : List Sp} {b : Nat} {w w4 : World} {r : Bool} (hr : meets A B = r) (h : TFin A B b w w4 ∨ ∃ lo, TInv A B b w lo w4 ∧ ∀ j, lo ≤ j → hasB A j = false ∧ hasB B j = false) :
    ∃ c, w4.cell? ⟨b, 0, none⟩ = some (.bool c) ∧ Hid (c = r) ∧ Below w.heap.size w w4 := by
  rcases h with ⟨h1, ⟨j, hj⟩, h3⟩ | ⟨lo, ⟨h1, _, h3, h4⟩, h5⟩
  · exact ⟨true, h1, Lib.hid ((meets_yes hj).symm.trans hr), h3⟩
  · refine ⟨false, h1, Lib.hid ((meets_no fun j => ?_).symm.trans hr), h4⟩
    by_cases hj : j < lo
    · exact h3 j hj
    · rw [(h5 j (by omega)).1]; rfl

set_option maxRecDepth 100000 in
set_option maxHeartbeats 1000000 in
theorem touch_ok (A B : List Sp) (aA aB : Option Addr) (cA cB : Nat) (w : World) (zA : (A.length : Int) ≤ 9223372036854775807) (zB : (B.length : Int) ≤ 9223372036854775807) (kA : A.length ≤ cA) (kB : B.length ≤ cB) (mA : cA ≤ maxLen) (mB : cB ≤ maxLen)
    (pA : PIn w w.heap.size aA A) (pB : PIn w w.heap.size aB B) (hA : chkB A = true) (hB : chkB B = true) :
    Calls Try.prog 30 #[.slice aA A.length cA, .slice aB B.length cB] w (Gives w (.bool (meets A B))) := by
  have HA := Lib.hid hA
  have HB := Lib.hid hB
  have HPA := Lib.hid pA
  have HPB := Lib.hid pB
  have PC : ∀ w3, Below w.heap.size w w3 → Calls Try.prog 70 #[.slice aA A.length cA, .slice aB B.length cB, .func (.func 71) #[] #[.pointer (some ⟨w3.heap.size, 0, none⟩)]] (w3.alloc (.cells #[.bool false] 4))
      (PcPost A B (TInv A B w3.heap.size w) (TFin A B w3.heap.size w)) := fun w3 b3 => by
    have b4 : Below w.heap.size w (w3.alloc (.cells #[.bool false] 4)) := b3.alloc b3.size _
    exact pieces_any _ _ A B aA aB cA cB w.heap.size _ _ _ (enters_of Try.func71 (by kernel_rfl) rfl) (chkB_can hA).1 (chkB_can hB).1 kA kB mA mB (pA.below b4) (pB.below b4)
      (touch1 A B w3.heap.size w b3.size) ⟨by simp, by simp, fun j hj => by
        cases h : (hasB A j && hasB B j)
        · rfl
        · have := hasB_range (Bool.and_eq_true _ _ ▸ h).1; omega, b4⟩
  have HPC := Lib.hid PC
  obtain ⟨r, hr⟩ : ∃ r, meets A B = r := ⟨_, rfl⟩
  rw [hr]
  have HR := Lib.hid hr
  clear hA hB pA pB PC hr
  go_enter Try.func30, Try.ntmps30
  go_wp2_with (first | (go_at_call 58; (with_reducible refine (check_any aA cA A _ zA HPA.out).mono ?_); rw [HA.out]; rintro e w2 ⟨rfl, b2⟩) | (go_at_call 58; (with_reducible refine (check_any aB cB B _ zB (HPB.out.belowMore b2)).mono ?_); rw [HB.out]; rintro e w3 ⟨rfl, b3⟩; have b13 := below_next b2 b3) | (go_at_call 70; refine (HPC.out _ b13).mono ?_; rintro e w4 ⟨rfl, hF⟩; have hF' : ∃ c, w4.cell? ⟨w3.heap.size, 0, none⟩ = some (.bool c) ∧ Hid (c = r) ∧ Below w.heap.size w w4 := touch_end HR.out hF; obtain ⟨c, hc4, HC4, b4⟩ := hF'))
  go_ret
  exact ⟨ret_bool HC4.out, b4⟩

set_option maxRecDepth 100000 in
theorem touch_bad (A B : List Sp) (aA aB : Option Addr) (cA cB : Nat) (w : World) (zA : (A.length : Int) ≤ 9223372036854775807) (zB : (B.length : Int) ≤ 9223372036854775807)
    (pA : PIn w w.heap.size aA A) (pB : PIn w w.heap.size aB B) (hbad : chkB A = false ∨ (chkB A = true ∧ chkB B = false)) :
    Calls Try.prog 30 #[.slice aA A.length cA, .slice aB B.length cB] w (Gives w (.bool false)) := by
  have HPA := Lib.hid pA
  have HPB := Lib.hid pB
  clear pA pB
  rcases hbad with hA | ⟨hA, hB⟩
  · replace hA := Lib.hid hA
    go_enter Try.func30, Try.ntmps30
    go_wp2_with (first | (go_at_call 58; (with_reducible refine (check_any aA cA A _ zA HPA.out).mono ?_); rw [hA.out]; rintro e w2 ⟨rfl, b2⟩))
    go_ret
    exact ⟨rfl, b2⟩
  · replace hA := Lib.hid hA
    replace hB := Lib.hid hB
    go_enter Try.func30, Try.ntmps30
    go_wp2_with (first | (go_at_call 58; (with_reducible refine (check_any aA cA A _ zA HPA.out).mono ?_); rw [hA.out]; rintro e w2 ⟨rfl, b2⟩) | (go_at_call 58; (with_reducible refine (check_any aB cB B _ zB (HPB.out.belowMore b2)).mono ?_); rw [hB.out]; rintro e w3 ⟨rfl, b3⟩; have b13 := below_next b2 b3))
    go_ret
    exact ⟨rfl, b13⟩

theorem touch_any (A B : List Sp) (aA aB : Option Addr) (nA nB cA cB : Nat) (w : World) (hA : Arg w aA nA cA A) (hB : Arg w aB nB cB B) :
    Calls Try.prog 30 #[.slice aA nA cA, .slice aB nB cB] w (Gives w (.bool (touchB A B))) := by
  obtain ⟨rfl, zA, kA, mA, pA⟩ := hA
  obtain ⟨rfl, zB, kB, mB, pB⟩ := hB
  cases hA : chkB A
  · rw [show touchB A B = false by unfold touchB; rw [hA]; rfl]
    exact touch_bad A B aA aB cA cB w zA zB pA pB (.inl hA)
  · cases hB : chkB B
    · rw [show touchB A B = false by unfold touchB; rw [hA, hB]; rfl]
      exact touch_bad A B aA aB cA cB w zA zB pA pB (.inr ⟨hA, hB⟩)
    · rw [show touchB A B = meets A B by unfold touchB; rw [hA, hB, Bool.true_and, Bool.true_and]]
      exact touch_ok A B aA aB cA cB w zA zB kA kB mA mB pA pB hA hB
theorem check_arg (A : List Sp) (aA : Option Addr) (nA cA : Nat) (w : World) (hA : Arg w aA nA cA A) : Calls Try.prog 58 #[.slice aA nA cA] w (Gives w (.bool (chkB A))) := by
  obtain ⟨rfl, zA, kA, mA, pA⟩ := hA
  exact check_any aA cA A w zA pA
end Go.Proofs.Ytfnjadiibiedgab
