/-
  CONTRACT of the document's Same, where the two lists are the same; and THE WALK of the law VintBack.
-/
import Derived.Test.YtjeeplacolbihaaLawC
import Derived.Deep.QuietTactic
import Derived.BigQuiet
namespace Go.Proofs.Ytjeeplacolbihaa
open Go.RowKit

theorem same_nil (a b : Option Addr) (ca cb : Nat) (w : World) :
    Calls Try.prog 36 #[.slice a 0 ca, .slice b 0 cb] w (TruePost w) := by
  go_enter Try.func36, Try.ntmps36
  go_wp2
  refine wp_loop_rounds 1 ?_
  rw [rounds_succ]
  go_wp2
  go_ret
  exact ⟨rfl, Below.refl _ _⟩

theorem below_drewN {B : Nat} {a w : World} (h : Below B a w) (n : Nat) : Below B a (w.drewN n) := ⟨h.os, h.tape, h.output, h.size, h.block⟩

set_option maxHeartbeats 1000000 in
theorem same_some (b1 o1 c1 b2 o2 c2 : Nat) (zs : List Int) (w : World) (hz : (zs.length : Int) ≤ 1000000000000) (hb1 : b1 < w.heap.size) (hb2 : b2 < w.heap.size)
    (hc1 : ∀ k, k < zs.length → w.cell? ⟨b1, o1 + k, none⟩ = some (.int .i64 (zs.getD k 0)))
    (hc2 : ∀ k, k < zs.length → w.cell? ⟨b2, o2 + k, none⟩ = some (.int .i64 (zs.getD k 0))) :
    Calls Try.prog 36 #[.slice (some ⟨b1, o1, none⟩) zs.length c1, .slice (some ⟨b2, o2, none⟩) zs.length c2] w (TruePost w) := by
  go_enter Try.func36, Try.ntmps36
  go_wp2
  go_loopw [5] (fun i wr => ∃ (k : Nat), i = .int .i64 (k : Int) ∧ k ≤ zs.length ∧ Below w.heap.size w wr)
    (fun i _ => zs.length - (intOf i).toNat)
  case atStart => exact ⟨0, rfl, by omega, Below.refl _ _⟩
  case round =>
    obtain ⟨k, rfl, hk, hbl⟩ := hrel
    by_cases hlt : k < zs.length
    · have d1 : wr.cell? ⟨b1, o1 + k, none⟩ = some (.int .i64 (zs.getD k 0)) := (hbl.cell (by exact hb1)).trans (hc1 k hlt)
      have d2 : wr.cell? ⟨b2, o2 + k, none⟩ = some (.int .i64 (zs.getD k 0)) := (hbl.cell (by exact hb2)).trans (hc2 k hlt)
      obtain ⟨z, hzk⟩ : ∃ z, zs.getD k 0 = z := ⟨_, rfl⟩
      rw [hzk] at d1 d2
      clear hzk hc1 hc2
      have hlt' : (k : Int) < (zs.length : Int) := by omega
      have h0 : (0 : Int) ≤ (k : Int) := by omega
      go_wp2_with fail
      go_quiet (fail)
      go_wp2
      go_roundw
      case rel => exact ⟨k + 1, by go_num, by omega, below_drewN hbl _⟩
      case measure => simp [intOf]; omega
    · go_wp2
      go_ret
      exact ⟨rfl, hbl⟩

theorem same_any (a1 a2 : Option Addr) (c1 c2 : Nat) (zs : List Int) (w : World) (hz : (zs.length : Int) ≤ 1000000000000) (h1 : IntsIn w a1 zs) (h2 : IntsIn w a2 zs) :
    Calls Try.prog 36 #[.slice a1 zs.length c1, .slice a2 zs.length c2] w (TruePost w) := by
  by_cases h0 : zs = []
  · subst h0; exact same_nil a1 a2 c1 c2 w
  · rcases h1 with h | ⟨b1, o1, rfl, hb1, hc1⟩
    · exact absurd h h0
    · rcases h2 with h | ⟨b2, o2, rfl, hb2, hc2⟩
      · exact absurd h h0
      · exact same_some b1 o1 c1 b2 o2 c2 zs w hz hb1 hb2 hc1 hc2

/-- May z be, and the first k numbers? -/
def goodB (z : Int) (zs : List Int) (k : Nat) : Bool := mayZ z && (zs.take k).all mayZ
theorem goodB_zero (z : Int) (zs : List Int) : goodB z zs 0 = mayZ z := by simp [goodB]
theorem goodB_succ {z : Int} {zs : List Int} {k : Nat} (h : k < zs.length) : goodB z zs (k + 1) = (goodB z zs k && mayZ (zs.getD k 0)) := by
  unfold goodB
  rw [take_more h, List.all_append]
  simp [Bool.and_assoc]
theorem goodB_all {z : Int} {zs : List Int} (h : goodB z zs zs.length = true) : mayZ z = true ∧ ∀ y ∈ zs, mayZ y = true := by
  unfold goodB at h
  rw [List.take_length] at h
  simpa using h

def behind : ByteArray := ⟨#[98, 101, 104, 105, 110, 100]⟩
def written (z : Int) (s : ByteArray) (zs : List Int) : ByteArray := wholeS z ++ textS s ++ listS zs ++ flagS true ++ behind
theorem written_eq (z : Int) (s : ByteArray) (zs : List Int) : written z s zs = wholeS z ++ (textS s ++ (listS zs ++ (⟨#[1]⟩ ++ behind))) := by
  unfold written
  rw [ba_assoc, ba_assoc, ba_assoc]
  rfl
theorem size_app (a b : ByteArray) : (a ++ b).size = a.size + b.size := by rw [ba_size, ba_app, List.length_append, ← ba_size, ← ba_size]

/-- A list was read, as an argument shows it, and it lies in new memory. -/
def RowPost (w : World) (g : Nat) (l : List Int) (r : ByteArray × Int) (e : Ending) (w' : World) : Prop :=
  ∃ a cap, e = .returned (.slice a l.length cap) ∧ OwnsI w' w.heap.size (.slice a l.length cap) l ∧ Rd w' g r.1 r.2 ∧ w.grownBy w' (some g)
theorem ListPost.row {w : World} {g : Nat} {l : List Int} {r : ByteArray × Int} {e : Ending} {w' : World} (h : ListPost w g l r e w') : RowPost w g l r e w' := by
  obtain ⟨v, he, ho, hr, hg⟩ := h
  obtain ⟨a, cap, hv, _⟩ := ho.arg
  subst hv
  exact ⟨a, cap, he, ho, hr, hg⟩
theorem OwnsI.ints {w : World} {base n cap : Nat} {a : Option Addr} {l : List Int} (h : OwnsI w base (.slice a n cap) l) : IntsIn w a l := by
  obtain ⟨a', cap', hv, hi⟩ := h.arg
  injection hv with h1 h2 h3
  subst h1
  exact hi
theorem OwnsI.past {w w' : World} {base g : Nat} {v : Value} {l : List Int} (h : OwnsI w base v l) (hg : w.grownBy w' (some g)) (hlt : g < base) : OwnsI w' base v l :=
  World.ownsRow.kept h hg (by right; intro he; have := (h.lt g he).1; omega)
end Go.Proofs.Ytjeeplacolbihaa
