/-
  DELTA, plain: the document's Read, as it may be read and written again, is the program's.
-/
import Derived.Test.YtnjlbgnojlmmlaaDeP
import Derived.Test.YtnjlbgnojlmmlaaVB
namespace Go.Proofs.Ytnjlbgnojlmmlaa

/-- A number, or the limit that it is beyond. -/
def wiN (n : Int) : Int := if 4398046511104 < n then 4398046511104 else if n < -4398046511104 then -4398046511104 else n
theorem wiN_bd (n : Int) : -4398046511104 ≤ wiN n ∧ wiN n ≤ 4398046511104 := by unfold wiN; split <;> (try split) <;> omega
theorem wiN_in {n : Int} (h1 : -4398046511104 ≤ n) (h2 : n ≤ 4398046511104) : wiN n = n := by unfold wiN; rw [if_neg (by omega), if_neg (by omega)]
def mo4 (x : Int) : Int := if 4096 < x then 4096 else x
theorem mo4_bd {x : Int} (h : 0 ≤ x) : 0 ≤ mo4 x ∧ mo4 x ≤ 4096 := by unfold mo4; split <;> omega
theorem mo4_bd2 {x : Int} (h : -1 ≤ x) : -1 ≤ mo4 x ∧ mo4 x ≤ 4096 := by unfold mo4; split <;> omega
def dCell (b : Bool) (s : ByteArray) (e : Int) : Int × ByteArray × Int := if b = true then rWhole s e else (0, s, e)
/-- One turn, as the document reads it. -/
def dTurn (z : Int) (t : ByteArray) : Tn × ByteArray × Int :=
  ((z + 1 + mo4 (rNum t 0).1, ((dCell (decide ((rNum (rNum t 0).2.1 (rNum t 0).2.2).1 % 2 = 1)) (rNum (rNum t 0).2.1 (rNum t 0).2.2).2.1 (rNum (rNum t 0).2.1 (rNum t 0).2.2).2.2).1, decide ((rNum (rNum t 0).2.1 (rNum t 0).2.2).1 % 2 = 1)),
    (if decide ((rNum (rNum t 0).2.1 (rNum t 0).2.2).1 / 2 % 2 = 1) = true then wiN (dCell (decide ((rNum (rNum t 0).2.1 (rNum t 0).2.2).1 / 2 % 2 = 1)) (dCell (decide ((rNum (rNum t 0).2.1 (rNum t 0).2.2).1 % 2 = 1)) (rNum (rNum t 0).2.1 (rNum t 0).2.2).2.1 (rNum (rNum t 0).2.1 (rNum t 0).2.2).2.2).2.1 (dCell (decide ((rNum (rNum t 0).2.1 (rNum t 0).2.2).1 % 2 = 1)) (rNum (rNum t 0).2.1 (rNum t 0).2.2).2.1 (rNum (rNum t 0).2.1 (rNum t 0).2.2).2.2).2.2).1 + wiN (dCell (decide ((rNum (rNum t 0).2.1 (rNum t 0).2.2).1 % 2 = 1)) (rNum (rNum t 0).2.1 (rNum t 0).2.2).2.1 (rNum (rNum t 0).2.1 (rNum t 0).2.2).2.2).1 else 0, decide ((rNum (rNum t 0).2.1 (rNum t 0).2.2).1 / 2 % 2 = 1))),
    (dCell (decide ((rNum (rNum t 0).2.1 (rNum t 0).2.2).1 / 2 % 2 = 1)) (dCell (decide ((rNum (rNum t 0).2.1 (rNum t 0).2.2).1 % 2 = 1)) (rNum (rNum t 0).2.1 (rNum t 0).2.2).2.1 (rNum (rNum t 0).2.1 (rNum t 0).2.2).2.2).2.1 (dCell (decide ((rNum (rNum t 0).2.1 (rNum t 0).2.2).1 % 2 = 1)) (rNum (rNum t 0).2.1 (rNum t 0).2.2).2.1 (rNum (rNum t 0).2.1 (rNum t 0).2.2).2.2).2.2).2)
theorem dTurn_eq {z x y v u e3 e4 e5 e6 : Int} {t a1 a2 a3 a4 : ByteArray} {b0 b1 : Bool} (hA : rNum t 0 = (x, a1, e3)) (hB : rNum a1 e3 = (y, a2, e4)) (h0 : decide (y % 2 = 1) = b0) (h1 : decide (y / 2 % 2 = 1) = b1) (hC : dCell b0 a2 e4 = (v, a3, e5)) (hD : dCell b1 a3 e5 = (u, a4, e6)) :
    dTurn z t = ((z + 1 + mo4 x, (v, b0), (if b1 = true then wiN u + wiN v else 0, b1)), a4, e6) := by
  unfold dTurn
  rw [hA]; dsimp only
  rw [hB]; dsimp only
  rw [h0, hC]; dsimp only
  rw [h1, hD]
def dTs : Nat → List Tn → Int → ByteArray → Int → List Tn × ByteArray × Int
  | 0, acc, _, t, e => (acc, t, e)
  | n + 1, acc, z, t, e => if e = 0 then dTs n (acc ++ [(dTurn z t).1]) (mo4 (dTurn z t).1.1) (dTurn z t).2.1 (dTurn z t).2.2 else (acc, t, e)
theorem dTs_err (n : Nat) (acc : List Tn) (z : Int) (t : ByteArray) {e : Int} (h : e ≠ 0) : dTs n acc z t e = (acc, t, e) := by
  cases n with
  | zero => rfl
  | succ n => rw [dTs, if_neg h]
theorem dTs_go {n : Nat} {acc : List Tn} {z : Int} {t s2 : ByteArray} {e2 : Int} {q : Tn} (h : dTurn z t = (q, s2, e2)) : dTs (n + 1) acc z t 0 = dTs n (acc ++ [q]) (mo4 q.1) s2 e2 := by
  rw [dTs, if_pos rfl, h]
def docD (s : ByteArray) : List Tn × Int :=
  if rEnd (dTs (rNum s 0).1.toNat [] (-1) (rNum s 0).2.1 (rNum s 0).2.2).2.1 (dTs (rNum s 0).1.toNat [] (-1) (rNum s 0).2.1 (rNum s 0).2.2).2.2 = 0 ∧ ofL (textD (dTs (rNum s 0).1.toNat [] (-1) (rNum s 0).2.1 (rNum s 0).2.2).1) = s then ((dTs (rNum s 0).1.toNat [] (-1) (rNum s 0).2.1 (rNum s 0).2.2).1, 0) else ([], 3)
theorem docD_eq {s t u : ByteArray} {n e e1 : Int} {l : List Tn} (hN : rNum s 0 = (n, u, e1)) (hT : dTs n.toNat [] (-1) u e1 = (l, t, e)) : docD s = if rEnd t e = 0 ∧ ofL (textD l) = s then (l, 0) else ([], 3) := by
  unfold docD
  rw [hN]; dsimp only
  rw [hT]
theorem dTurn_back {z : Int} {t : Tn} (hz : -1 ≤ z) (h1 : z < t.1) (h2 : t.1 < 4096) (c1 : cellB t.2.1 = true) (c2 : cellB t.2.2 = true) (hne : t.2.1 ≠ t.2.2) (r : ByteArray) :
    dTurn z (ofL (turnT z t) ++ r) = (t, r, 0) := by
  obtain ⟨k, ⟨v, a⟩, ⟨u, b⟩⟩ := t
  dsimp only at h1 h2
  have hv := cellB_bd c1
  have hu := cellB_bd c2
  obtain ⟨f3, f1, f2, _⟩ := turnT_ba z k v u r
  have g0 : ∀ q, rNum (numS (k - z - 1) ++ q) 0 = (k - z - 1, q, 0) := fun q => rNum_back (by omega) (by omega) q
  have mv : mayZ v = true := by unfold mayZ; exact decide_eq_true (by omega)
  have mu : mayZ (u - v) = true := by unfold mayZ; exact decide_eq_true (by omega)
  have hm : mo4 (k - z - 1) = k - z - 1 := by unfold mo4; rw [if_neg (by omega)]
  have hk : z + 1 + (k - z - 1) = k := by omega
  cases a with
  | true =>
    cases b with
    | true =>
      rw [f3, dTurn_eq (g0 _) (rNum_back (n := 3) (by omega) (by omega) _) (b0 := true) (b1 := true) (by decide) (by decide) (show dCell true _ _ = _ from rWhole_back mv _) (show dCell true _ _ = _ from rWhole_back mu _), hm, hk, if_pos rfl, wiN_in (n := u - v) (by omega) (by omega), wiN_in (n := v) (by omega) (by omega), show u - v + v = u by omega]
    | false =>
      have hu0 : u = 0 := by unfold cellB at c2; simpa using c2
      subst hu0
      rw [f1, dTurn_eq (g0 _) (rNum_back (n := 1) (by omega) (by omega) _) (b0 := true) (b1 := false) (by decide) (by decide) (show dCell true _ _ = _ from rWhole_back mv _) (show dCell false _ _ = _ from rfl), hm, hk, if_neg (by simp)]
  | false =>
    have hv0 : v = 0 := by unfold cellB at c1; simpa using c1
    subst hv0
    cases b with
    | true =>
      rw [f2, dTurn_eq (g0 _) (rNum_back (n := 2) (by omega) (by omega) _) (b0 := false) (b1 := true) (by decide) (by decide) (show dCell false _ _ = _ from rfl) (show dCell true _ _ = _ from rWhole_back mu _), hm, hk, if_pos rfl, wiN_in (n := u - 0) (by omega) (by omega), wiN_in (n := 0) (by omega) (by omega), show u - 0 + 0 = u by omega]
    | false =>
      have hu0 : u = 0 := by unfold cellB at c2; simpa using c2
      exact absurd (by rw [hu0]) hne
theorem dTs_back : ∀ (m acc : List Tn) (z : Int) (r : ByteArray), -1 ≤ z → chkF z m = true → dTs m.length acc z (ofL (turnsT z m) ++ r) 0 = (acc ++ m, r, 0)
  | [], acc, z, r, _, _ => by
    rw [List.append_nil]
    show (acc, ofL [] ++ r, (0 : Int)) = _
    rw [ofL_nil]
  | t :: m, acc, z, r, hz, h => by
    obtain ⟨h1, h2, h3, h4, h5, h6⟩ := chkF_cons h
    have e : ofL (turnsT z (t :: m)) ++ r = ofL (turnT z t) ++ (ofL (turnsT t.1 m) ++ r) := by
      show ofL (turnT z t ++ turnsT t.1 m) ++ r = _
      rw [ofL_app, ba_assoc]
    have hm : mo4 t.1 = t.1 := by unfold mo4; rw [if_neg (by omega)]
    rw [e, List.length_cons, dTs_go (dTurn_back hz h1 h2 h3 h4 h5 _), hm, dTs_back m (acc ++ [t]) t.1 r (by omega) h6]
    simp
theorem docD_back {l : List Tn} (h : chkB l = true) (hl : l.length ≤ 100000) : docD (ofL (textD l)) = (l, 0) := by
  have hN : rNum (ofL (textD l)) 0 = ((l.length : Int), ofL (turnsT (-1) l), 0) := by
    rw [show textD l = bl (numS (l.length : Int)) ++ turnsT (-1) l from if_pos h, ofL_app, ofL_bl, rNum_back (by omega) (by omega)]
  have hT := dTs_back l [] (-1) (ofL []) (by omega) h
  rw [show ofL (turnsT (-1) l) ++ ofL [] = ofL (turnsT (-1) l) by rw [← ofL_app, List.append_nil], List.nil_append] at hT
  rw [docD_eq hN (show dTs ((l.length : Int)).toNat [] (-1) (ofL (turnsT (-1) l)) 0 = (l, ofL [], 0) by rw [Int.toNat_natCast]; exact hT), if_pos ⟨rfl, rfl⟩]
theorem docD_is (s : ByteArray) (hs : s.size ≤ 100000) (hl : (readD s).2 = 0 → (readD s).1.length ≤ 100000) : docD s = readD s := by
  rcases readD_err s with h0 | ⟨h3, hn⟩
  · obtain ⟨w1, w2⟩ := readD_once h0
    have := docD_back w1 (hl h0)
    rw [w2] at this
    rw [this, ← h0]
  · have hr : readD s = ([], 3) := by rw [← hn, ← h3]
    rw [hr]
    obtain ⟨n, u, e1, hN⟩ : ∃ n u e1, rNum s 0 = (n, u, e1) := ⟨_, _, _, rfl⟩
    obtain ⟨l, t, e, hT⟩ : ∃ l t e, dTs n.toNat [] (-1) u e1 = (l, t, e) := ⟨_, _, _, rfl⟩
    rw [docD_eq hN hT]
    apply if_neg
    rintro ⟨he, ht⟩
    cases hc : chkB l with
    | true =>
      by_cases hln : l.length ≤ 100000
      · have := readD_back hc hln
        rw [ht, hr] at this
        cases congrArg Prod.snd this
      · have h1 := congrArg ByteArray.size ht
        rw [ofL_size, show textD l = bl (numS (l.length : Int)) ++ turnsT (-1) l from if_pos hc, List.length_append] at h1
        have h2 := turnsT_lo l (-1)
        omega
    | false =>
      rw [show textD l = [] from if_neg (by rw [hc]; simp)] at ht
      have hsz : s.size = 0 := by rw [← ht]; rfl
      have he1 : e1 ≠ 0 := fun q => by
        have := rNum_less (s := s) (e := 0) (by rw [hN]; exact q)
        omega
      rw [dTs_err _ _ _ _ he1] at hT
      cases hT
      unfold rEnd at he
      rw [if_neg he1] at he
      exact he1 he
end Go.Proofs.Ytnjlbgnojlmmlaa
