/- The contracts of glob's Fold and of what must come whatever the input is. -/
import Derived.Test.YtaglcpjjekaohaaMatch
import Derived.Test.YtaglcpjjekaohaaQuote
import Derived.Test.YtaglcpjjekaohaaFold
namespace Go.Proofs.Ytaglcpjjekaohaa.Sure
open Go.RowKit
open Go.Proofs.Ytaglcpjjekaohaa.Math
open Go.Proofs.Ytaglcpjjekaohaa.Class
open Go.Proofs.Ytaglcpjjekaohaa.Match
open Go.Proofs.Ytaglcpjjekaohaa.QuoteMath
open Go.Proofs.Ytaglcpjjekaohaa.Quote
open Go.Proofs.Ytaglcpjjekaohaa.Fold
set_option linter.unusedVariables false

theorem below_drewN {B : Nat} {a w : World} (h : Below B a w) (n : Nat) : Below B a (w.drewN n) := h.trans ⟨rfl, rfl, rfl, Nat.le_refl _, fun _ _ => rfl⟩
theorem below_go {w w1 w2 : World} (h : Below w.heap.size w w1) (k : Below w1.heap.size w1 w2) : Below w.heap.size w w2 := h.trans (k.mono h.size)

set_option maxHeartbeats 400000 in
theorem fold_any (p s : ByteArray) (w : World) (hp : p.size ≤ 1000000000) (hs : s.size ≤ 1000000000) :
    Calls Try.prog 12 #[.string p, .string s] w fun e w' => e = .returned (.bool (MM (lowS p) (lowS s) 0 0)) ∧ Below w.heap.size w w' := by
  have h1 := lowS_size p
  have h2 := lowS_size s
  go_enter Try.func12, Try.ntmps12
  go_wp2_with fail
  refine (small_any p _ hp).mono ?_
  rintro e w1 ⟨rfl, b1⟩
  go_wp2_with fail
  refine (small_any s _ hs).mono ?_
  rintro e w2 ⟨rfl, b2⟩
  go_wp2_with fail
  refine (match_any (lowS p) (lowS s) _ (by omega) (by omega)).mono ?_
  rintro e w3 ⟨rfl, m, rfl⟩
  go_wp2
  go_ret
  exact ⟨rfl, below_drewN (below_go b1 b2) m⟩

def cA : ByteArray := { data := #[97, 92, 42, 98] }
def cB : ByteArray := { data := #[97, 42, 98] }
def cP : ByteArray := { data := #[104, 91, 94, 97, 45, 99, 93, 108, 42] }
def cS : ByteArray := { data := #[104, 100, 108, 108, 111] }
def ca : ByteArray := { data := #[97] }
def cb : ByteArray := { data := #[98] }
def cC : ByteArray := { data := #[91, 65, 45, 67, 93] }
def cstar : ByteArray := { data := #[42] }
def cq : ByteArray := { data := #[92, 42] }
theorem plain_A : plain (bs cA) = some [97, 42, 98] := by
  show plain [97, 92, 42, 98] = _
  simp [plain, isO]
theorem pS_A : pS (bs cA) = cB := by unfold pS; rw [plain_A]; rfl
theorem pB_A : pB (bs cA) = true := by unfold pB; rw [plain_A]; rfl
theorem M_1 : MM cP cS 0 0 = true := by
  show M [104, 91, 94, 97, 45, 99, 93, 108, 42] [104, 100, 108, 108, 111] = true
  simp [M, ptak, plen, hat, clen, cnam]
theorem M_2 : MM ca cb 0 0 = false := by
  show M [97] [98] = false
  simp [M, ptak, plen]
theorem M_3 : MM (lowS cC) (lowS cb) 0 0 = true := by
  show M [91, 97, 45, 99, 93] [98] = true
  simp [M, ptak, plen, hat, clen, cnam]
theorem q_star : (⟨(quote (bs cstar)).toArray⟩ : ByteArray) = cq := rfl

set_option maxHeartbeats 1000000 in
theorem sure_any (w : World) : Calls Try.prog 9 #[] w fun e w' => e = .returned (.bool true) ∧ Below w.heap.size w w' := by
  have H1 : Hid (∀ w, Calls Try.prog 14 #[.string cA] w fun e w' => e = .returned (.tuple #[.string cB, .bool true]) ∧ Below w.heap.size w w') := by
    intro w
    have := plain_any cA w (by decide)
    rwa [pS_A, pB_A] at this
  have H2 : Hid (∀ w, Calls Try.prog 10 #[.string cP, .string cS] w fun e w' => e = .returned (.bool true) ∧ ∃ m, w' = w.drewN m) := by
    intro w
    have := match_any cP cS w (by decide) (by decide)
    rwa [M_1] at this
  have H3 : Hid (∀ w, Calls Try.prog 10 #[.string ca, .string cb] w fun e w' => e = .returned (.bool false) ∧ ∃ m, w' = w.drewN m) := by
    intro w
    have := match_any ca cb w (by decide) (by decide)
    rwa [M_2] at this
  have H4 : Hid (∀ w, Calls Try.prog 12 #[.string cC, .string cb] w fun e w' => e = .returned (.bool true) ∧ Below w.heap.size w w') := by
    intro w
    have := fold_any cC cb w (by decide) (by decide)
    rwa [M_3] at this
  have H5 : Hid (∀ w, Calls Try.prog 16 #[.string cstar] w fun e w' => e = .returned (.string cq) ∧ Below w.heap.size w w') := by
    intro w
    have := quote_any cstar w (by decide)
    rwa [q_star] at this
  have hB : cB.toList = [97, 42, 98] := by rw [Lib.toList_data]; rfl
  have hQ : cq.toList = [92, 42] := by rw [Lib.toList_data]; rfl
  go_enter Try.func9, Try.ntmps9
  go_wp2_with fail
  refine (H1.out _).mono ?_
  rintro e w1 ⟨rfl, b1⟩
  go_wp2_with fail
  refine (H2.out _).mono ?_
  rintro e w2 ⟨rfl, m2, rfl⟩
  go_wp2_with fail
  refine (H3.out _).mono ?_
  rintro e w3 ⟨rfl, m3, rfl⟩
  go_wp2_with fail
  refine (H4.out _).mono ?_
  rintro e w4 ⟨rfl, b4⟩
  go_wp2_with fail
  refine (H5.out _).mono ?_
  rintro e w5 ⟨rfl, b5⟩
  go_wp2
  go_ret
  exact ⟨rfl, below_go (below_go (below_drewN b1 _) b4) b5⟩
end Go.Proofs.Ytaglcpjjekaohaa.Sure
