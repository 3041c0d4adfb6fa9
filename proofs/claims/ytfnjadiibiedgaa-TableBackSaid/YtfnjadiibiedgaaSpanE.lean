/-
  CONTRACTS of combine and its closure; Join, Meet, Less, Touch.
-/
import Derived.Test.YtfnjadiibiedgaaSpanD
namespace Go.Proofs.Ytfnjadiibiedgaa
open Go.RowKit Go.Shelf

/-- A test that is handed to combine. -/
def Keeps (gk : Nat) (f : Bool → Bool → Bool) : Prop :=
  ∀ (x y : Bool) (w : World), Calls Try.prog gk #[.bool x, .bool y] w fun e w' => e = .returned (.bool (f x y)) ∧ w = w'
theorem meet1 : Keeps 136 (fun x y => x && y) := fun x y w => by
  cases x <;> cases y
  all_goals
    go_enter Try.func136, Try.ntmps136
    go_wp2
    go_ret
    exact ⟨rfl, rfl⟩
/-- The set as combine has built it, below the key lo. -/
def Built (A B : List Sp) (f : Bool → Bool → Bool) (lo : Int) (l : List Sp) : Prop :=
  canB (-1) l = true ∧ loOf l ≤ lo ∧ ∀ j, hasB l j = (decide (0 ≤ j ∧ j < lo) && f (hasB A j) (hasB B j))
theorem Built.start (A B : List Sp) (f : Bool → Bool → Bool) : Built A B f 0 [] := ⟨rfl, Int.le_refl _, fun j => by rw [hasB_nil, decide_eq_false (by omega)]; rfl⟩
theorem Built.skip {A B l : List Sp} {f : Bool → Bool → Bool} {lo hi : Int} {x y : Bool} (h : Built A B f lo l) (h1 : lo < hi) (hs : ∀ j, lo ≤ j → j < hi → hasB A j = x ∧ hasB B j = y) (hf : f x y = false) : Built A B f hi l := by
  refine ⟨h.1, by have := h.2.1; omega, fun j => ?_⟩
  rw [h.2.2 j]
  by_cases hj : lo ≤ j ∧ j < hi
  · obtain ⟨e1, e2⟩ := hs j hj.1 hj.2
    rw [e1, e2, hf, Bool.and_false, Bool.and_false]
  · rw [show decide (0 ≤ j ∧ j < lo) = decide (0 ≤ j ∧ j < hi) from decide_eq_decide.2 (by omega)]
theorem Built.add {A B l : List Sp} {f : Bool → Bool → Bool} {lo hi : Int} {x y : Bool} (h : Built A B f lo l) (h0 : 0 ≤ lo) (h1 : lo < hi) (h2 : hi ≤ 4096) (hs : ∀ j, lo ≤ j → j < hi → hasB A j = x ∧ hasB B j = y) (hf : f x y = true) : Built A B f hi (ext l (lo, hi)) := by
  obtain ⟨e1, e2, e3⟩ := ext_can (s := (lo, hi)) h.1 ((oneB_iff _).2 ⟨h0, h1, h2⟩) h.2.1
  refine ⟨e1, by dsimp only at e3; omega, fun j => ?_⟩
  rw [e2, h.2.2 j]
  by_cases hj : lo ≤ j ∧ j < hi
  · obtain ⟨g1, g2⟩ := hs j hj.1 hj.2
    rw [g1, g2, hf, (inB_iff (lo, hi) j).2 (by dsimp only; omega), Bool.or_true, decide_eq_true (by omega)]; rfl
  · have : inB (lo, hi) j = false := by
      cases hi' : inB (lo, hi) j
      · rfl
      · rw [inB_iff] at hi'; dsimp only at hi'; omega
    rw [this, Bool.or_false, show decide (0 ≤ j ∧ j < lo) = decide (0 ≤ j ∧ j < hi) from decide_eq_decide.2 (by omega)]
theorem Built.len {A B l : List Sp} {f : Bool → Bool → Bool} {lo : Int} (h : Built A B f lo l) : l.length ≤ 4097 := by
  by_cases hl : l = []
  · subst hl; simp
  · have := canB_len l _ h.1 hl; omega
theorem Built.len' {A B l : List Sp} {f : Bool → Bool → Bool} {lo : Int} (h : Built A B f lo l) : l.length ≤ 5000 := by have := h.len; omega
theorem Built.done {A B l : List Sp} {f : Bool → Bool → Bool} {lo : Int} (h : Built A B f lo l) (hf : f false false = false) (hd : ∀ j, lo ≤ j → hasB A j = false ∧ hasB B j = false) : l = setOf fun j => f (hasB A j) (hasB B j) :=
  setOf_eq h.1 fun j h0 _ => by
    rw [h.2.2 j]
    by_cases hj : j < lo
    · rw [decide_eq_true ⟨h0, hj⟩, Bool.true_and]
    · obtain ⟨e1, e2⟩ := hd j (by omega)
      rw [e1, e2, hf, Bool.and_false]

/-- The worlds between combine's visits: the set in its box, the test in its own. -/
def CInv (A B : List Sp) (f : Bool → Bool → Bool) (gk bk bs base : Nat) (w0 : World) (lo : Int) (W : World) : Prop :=
  ∃ a cap l, OwnsP 24 W base (.slice a l.length cap) l ∧ W.cell? ⟨bs, 0, none⟩ = some (.slice a l.length cap) ∧ W.frozen? ⟨bs, 0, none⟩ = false ∧ W.cell? ⟨bk, 0, none⟩ = some (.func (.func gk) #[] #[]) ∧
    Built A B f lo l ∧ Below w0.heap.size w0 W ∧ base ≤ W.heap.size

set_option maxRecDepth 100000 in
set_option maxHeartbeats 2000000 in
theorem combine1 (A B : List Sp) (f : Bool → Bool → Bool) (gk bk bs base : Nat) (w0 : World) (eg : ∀ args w, (callFunc gk args).run Try.prog w = .ok (.enter gk args) w) (hk : Keeps gk f)
    (k1 : w0.heap.size ≤ bk) (k2 : w0.heap.size ≤ bs) (k3 : bk < base) (k4 : bs < base) (k5 : bk ≠ bs) :
    Vis 159 #[.pointer (some ⟨bk, 0, none⟩), .pointer (some ⟨bs, 0, none⟩)] A B w0.heap.size (CInv A B f gk bk bs base w0) (fun _ => False) := by
  intro W lo hi x y h0 h1 h2 hs ⟨a, cap, l, ho, cs, fs, ck, hb, hbl, hsz⟩
  have HK := fun w => hk x y w
  have hlen := hb.len
  have hbW : W.heap.size ≤ (W.alloc (.cells #[.int .i64 lo, .int .i64 hi] 24)).heap.size := by simp
  have hbs : bs < W.heap.size := World.block_lt_of_cell? _ _ cs
  have hbk : bk < W.heap.size := World.block_lt_of_cell? _ _ ck
  obtain ⟨W1, hW1⟩ : ∃ W1, W.alloc (.cells #[.int .i64 lo, .int .i64 hi] 24) = W1 := ⟨_, rfl⟩
  have cs1 : W1.cell? ⟨bs, 0, none⟩ = some (.slice a l.length cap) := by rw [← hW1]; exact (World.cell?_alloc_lt W _ ⟨bs, 0, none⟩ hbs).trans cs
  have ck1 : W1.cell? ⟨bk, 0, none⟩ = some (.func (.func gk) #[] #[]) := by rw [← hW1]; exact (World.cell?_alloc_lt W _ ⟨bk, 0, none⟩ hbk).trans ck
  have fs1 : W1.frozen? ⟨bs, 0, none⟩ = false := by rw [← hW1]; exact (((Below.refl W.heap.size W).alloc (Nat.le_refl _) _).frozen (p := ⟨bs, 0, none⟩) hbs).trans fs
  have c0 : W1.cell? ⟨W.heap.size, 0, none⟩ = some (.int .i64 lo) := by rw [← hW1]; simp
  have c1 : W1.cell? ⟨W.heap.size, 1, none⟩ = some (.int .i64 hi) := by rw [← hW1]; simp
  have ho1 : OwnsP 24 W1 base (.slice a l.length cap) l := by rw [← hW1]; exact World.ownsRow.alloc ho _
  have hbl1 : Below w0.heap.size w0 W1 := by rw [← hW1]; exact hbl.alloc hbl.size _
  have hbW1 : Below w0.heap.size W W1 := by rw [← hW1]; exact (Below.refl _ _).alloc hbl.size _
  have hsz1 : base ≤ W1.heap.size := by rw [← hW1]; simp; omega
  have EX := fun s => extend_any (.slice a l.length cap) base l s W1 (by omega) hsz1 ho1
  obtain ⟨n, hn⟩ : ∃ n, l.length = n := ⟨_, rfl⟩
  rw [hn] at cs1 EX ho1 hlen
  replace hn := Lib.hid hn
  replace EX := Lib.hid EX
  replace ho1 := Lib.hid ho1
  replace hb := Lib.hid hb
  replace hs := Lib.hid hs
  clear ho cs fs ck
  cases hxy : f x y
  · simp only [hxy] at HK
    replace hxy := Lib.hid hxy
    replace HK := Lib.hid HK
    go_enter Try.func159, Try.ntmps159
    go_wp2_with (go_at_fn gk; (with_reducible refine (HK.out _).mono ?_); rintro e w' ⟨rfl, rfl⟩)
    go_ret
    refine ⟨true, rfl, ⟨fun _ => ⟨a, cap, l, by rw [hn.out]; exact ho1.out, by rw [hn.out]; exact cs1, fs1, ck1, hb.out.skip h1 hs.out hxy.out, hbl1, hsz1⟩, fun h => by cases h⟩, hbW1⟩
  · simp only [hxy] at HK
    replace hxy := Lib.hid hxy
    replace HK := Lib.hid HK
    go_enter Try.func159, Try.ntmps159
    go_wp2_with (first | (go_at_fn gk; (with_reducible refine (HK.out _).mono ?_); rintro e w' ⟨rfl, rfl⟩) | (go_at_call 100; refine (EX.out (lo, hi)).mono ?_; rintro e w2 ⟨v2, rfl, ho2, hb2⟩; obtain ⟨a2, cap2, rfl, hcap2, hmax2, hp2, hform⟩ := ho2.arg; have cs2 := (hb2.cell (p := ⟨bs, 0, none⟩) k4).trans cs1; have fs2 := (hb2.frozen (p := ⟨bs, 0, none⟩) k4).trans fs1; have ck2 := (hb2.cell (p := ⟨bk, 0, none⟩) k3).trans ck1))
    go_ret
    refine ⟨true, rfl, ⟨fun _ => ⟨a2, cap2, ext l (lo, hi), ?_, ?_, ?_, ?_, hb.out.add h0 h1 h2 hs.out hxy.out, ?_, ?_⟩, fun h => by cases h⟩, ?_⟩
    · exact ownsRow_setCell_below ho2 (a := ⟨bs, 0, none⟩) k4 _
    · exact World.cell?_setCell_same _ _ _ cs2
    · rw [World.frozen?_setCell]; exact fs2
    · exact (World.cell?_setCell_other _ _ ⟨bk, 0, none⟩ _ (fun e => k5 (by cases e; rfl))).trans ck2
    · exact (hbl1.trans (hb2.mono (by omega))).setCell k2 _
    · exact Nat.le_trans (Nat.le_trans hsz1 hb2.size) ((Below.refl 0 w2).setCell (Nat.zero_le _) _).size
    · exact (hbW1.trans (hb2.mono (by omega))).setCell k2 _

def limP (L : List Sp) : List Sp × Int := if L.length ≤ 64 then (L, 0) else ([], 2)
def mixP (f : Bool → Bool → Bool) (A B : List Sp) : List Sp × Int := if chkB A = true ∧ chkB B = true then limP (setOf fun j => f (hasB A j) (hasB B j)) else ([], 1)
/-- A set, and its error. -/
def SetPost (w : World) (r : List Sp × Int) (e : Ending) (w' : World) : Prop :=
  ∃ a cap, e = .returned (.tuple #[.slice a r.1.length cap, .int .i64 r.2]) ∧ r.1.length ≤ cap ∧ cap ≤ maxLen ∧ PIn w' w'.heap.size a r.1 ∧ Below w.heap.size w w'
theorem SetPost.nil {w w' : World} {x : Int} (hb : Below w.heap.size w w') : SetPost w ([], x) (.returned (.tuple #[.slice none 0 0, .int .i64 x])) w' := ⟨none, 0, rfl, Nat.le_refl _, Nat.zero_le _, PIn.nil _ _ _, hb⟩

theorem limit_yes (a : Option Addr) (n cap : Nat) (w : World) (h : n ≤ 64) : Calls Try.prog 101 #[.slice a n cap] w fun e w' => e = .returned (.tuple #[.slice a n cap, .int .i64 0]) ∧ w = w' :=
  (limit_any a n cap w (by omega)).mono fun _ _ ⟨he, hw⟩ => ⟨by rw [he, if_pos h], hw⟩
theorem limit_no (a : Option Addr) (n cap : Nat) (w : World) (h : ¬ n ≤ 64) (hz : n ≤ 5000) : Calls Try.prog 101 #[.slice a n cap] w fun e w' => e = .returned (.tuple #[.slice none 0 0, .int .i64 2]) ∧ w = w' :=
  (limit_any a n cap w (by omega)).mono fun _ _ ⟨he, hw⟩ => ⟨by rw [he, if_neg h], hw⟩

theorem combine_call (gk : Nat) (f : Bool → Bool → Bool) (eg : ∀ args w, (callFunc gk args).run Try.prog w = .ok (.enter gk args) w) (hk : Keeps gk f)
    (A B : List Sp) (aA aB : Option Addr) (cA cB : Nat) (w w3 : World) (kA : A.length ≤ cA) (kB : B.length ≤ cB) (mA : cA ≤ maxLen) (mB : cB ≤ maxLen)
    (pA : PIn w w.heap.size aA A) (pB : PIn w w.heap.size aB B) (hA : chkB A = true) (hB : chkB B = true) (b13 : Below w.heap.size w w3) (hlt : w.heap.size < w3.heap.size) (k3 : w3.cell? ⟨w.heap.size, 0, none⟩ = some (.func (.func gk) #[] #[])) :
    Calls Try.prog 158 #[.slice aA A.length cA, .slice aB B.length cB, .func (.func 159) #[] #[.pointer (some ⟨w.heap.size, 0, none⟩), .pointer (some ⟨w3.heap.size, 0, none⟩)]] (w3.alloc (.cells #[.slice none 0 0] 29))
      (PcPost A B (CInv A B f gk w.heap.size w3.heap.size (w3.heap.size + 1) w) (fun _ => False)) := by
  have b4 : Below w.heap.size w (w3.alloc (.cells #[.slice none 0 0] 29)) := b13.alloc b13.size _
  refine pieces_any _ _ A B aA aB cA cB w.heap.size _ _ _ (enters_of Try.func159 (by kernel_rfl) rfl) (chkB_can hA).1 (chkB_can hB).1 kA kB mA mB (pA.below b4) (pB.below b4)
    (combine1 A B f gk w.heap.size w3.heap.size (w3.heap.size + 1) w eg hk (Nat.le_refl _) b13.size (by omega) (by omega) (by omega)) ?_
  refine ⟨none, 0, [], OwnsP.nil _ _ _, by simp, by simp, ?_, Built.start _ _ _, b4, by simp⟩
  exact (World.cell?_alloc_lt w3 _ ⟨w.heap.size, 0, none⟩ hlt).trans k3

set_option maxRecDepth 100000 in
set_option maxHeartbeats 2000000 in
theorem combine_ok (gk : Nat) (f : Bool → Bool → Bool) (eg : ∀ args w, (callFunc gk args).run Try.prog w = .ok (.enter gk args) w) (hk : Keeps gk f) (hf : f false false = false)
    (A B : List Sp) (aA aB : Option Addr) (cA cB : Nat) (w : World) (zA : (A.length : Int) ≤ 9223372036854775807) (zB : (B.length : Int) ≤ 9223372036854775807) (kA : A.length ≤ cA) (kB : B.length ≤ cB) (mA : cA ≤ maxLen) (mB : cB ≤ maxLen)
    (pA : PIn w w.heap.size aA A) (pB : PIn w w.heap.size aB B) (hA : chkB A = true) (hB : chkB B = true) :
    Calls Try.prog 135 #[.slice aA A.length cA, .slice aB B.length cB, .func (.func gk) #[] #[]] w (SetPost w (limP (setOf fun j => f (hasB A j) (hasB B j)))) := by
  have HA := Lib.hid hA
  have HB := Lib.hid hB
  have HPA := Lib.hid pA
  have HPB := Lib.hid pB
  have HK := Lib.hid hk
  have HF := Lib.hid hf
  have HE := Lib.hid eg
  obtain ⟨W1, hW1⟩ : ∃ W1, w.alloc (.cells #[.func (.func gk) #[] #[]] 172) = W1 := ⟨_, rfl⟩
  have b1 : Below w.heap.size w W1 := by rw [← hW1]; exact (Below.refl _ _).alloc (Nat.le_refl _) _
  have s1 : w.heap.size < W1.heap.size := by rw [← hW1]; simp
  have k1 : W1.cell? ⟨w.heap.size, 0, none⟩ = some (.func (.func gk) #[] #[]) := by rw [← hW1]; simp
  replace k1 := Lib.hid k1
  clear hA hB pA pB hk hf eg
  obtain ⟨S, hS⟩ : ∃ S, (setOf fun j => f (hasB A j) (hasB B j)) = S := ⟨_, rfl⟩
  rw [hS]
  have HS := Lib.hid hS
  clear hS
  by_cases hL : S.length ≤ 64
  · rw [show limP S = (S, 0) from if_pos hL]
    go_enter Try.func135, Try.ntmps135
    go_wp2_with (first | (go_at_call 19; (with_reducible refine (check_any aA cA A _ zA (HPA.out.belowMore b1)).mono ?_); rw [HA.out]; rintro e w2 ⟨rfl, b2⟩; have b12 := below_next b1 b2) | (go_at_call 19; (with_reducible refine (check_any aB cB B _ zB (HPB.out.belowMore b12)).mono ?_); rw [HB.out]; rintro e w3 ⟨rfl, b3⟩; have b13 := below_next b12 b3; have k3 := Lib.hid ((b3.cell (p := ⟨w.heap.size, 0, none⟩) (Nat.lt_of_lt_of_le s1 b2.size)).trans ((b2.cell (p := ⟨w.heap.size, 0, none⟩) s1).trans k1.out)); have s3 := Nat.lt_of_lt_of_le s1 (Nat.le_trans b2.size b3.size)) | (go_at_call 158; refine (combine_call gk f HE.out HK.out A B aA aB cA cB w w3 kA kB mA mB HPA.out HPB.out HA.out HB.out b13 s3 k3.out).mono ?_; rintro e w4 ⟨rfl, hF⟩; obtain ⟨lo, ⟨a4, c4, l4, o4, cs4, fs4, ck4, bt4, bl4, sz4⟩, hd4⟩ := hF.resolve_left id; have hl4 := (bt4.done HF.out hd4).trans HS.out; subst hl4; replace hL := Lib.hid hL) | (go_at_call 101; refine (limit_yes _ _ _ _ hL.out).mono ?_; rintro e w5 ⟨rfl, rfl⟩))
    go_ret2
    obtain ⟨a', c', hv, h1, h2, h3, _⟩ := o4.arg
    cases hv
    exact ⟨_, _, rfl, h1, h2, h3, bl4⟩
  · rw [show limP S = ([], 2) from if_neg hL]
    go_enter Try.func135, Try.ntmps135
    go_wp2_with (first | (go_at_call 19; (with_reducible refine (check_any aA cA A _ zA (HPA.out.belowMore b1)).mono ?_); rw [HA.out]; rintro e w2 ⟨rfl, b2⟩; have b12 := below_next b1 b2) | (go_at_call 19; (with_reducible refine (check_any aB cB B _ zB (HPB.out.belowMore b12)).mono ?_); rw [HB.out]; rintro e w3 ⟨rfl, b3⟩; have b13 := below_next b12 b3; have k3 := Lib.hid ((b3.cell (p := ⟨w.heap.size, 0, none⟩) (Nat.lt_of_lt_of_le s1 b2.size)).trans ((b2.cell (p := ⟨w.heap.size, 0, none⟩) s1).trans k1.out)); have s3 := Nat.lt_of_lt_of_le s1 (Nat.le_trans b2.size b3.size)) | (go_at_call 158; refine (combine_call gk f HE.out HK.out A B aA aB cA cB w w3 kA kB mA mB HPA.out HPB.out HA.out HB.out b13 s3 k3.out).mono ?_; rintro e w4 ⟨rfl, hF⟩; obtain ⟨lo, ⟨a4, c4, l4, o4, cs4, fs4, ck4, bt4, bl4, sz4⟩, hd4⟩ := hF.resolve_left id; have hl4 := (bt4.done HF.out hd4).trans HS.out; subst hl4; replace hL := Lib.hid hL) | (go_at_call 101; refine (limit_no _ _ _ _ hL.out bt4.len').mono ?_; rintro e w5 ⟨rfl, rfl⟩))
    go_ret2
    exact SetPost.nil bl4
end Go.Proofs.Ytfnjadiibiedgaa
