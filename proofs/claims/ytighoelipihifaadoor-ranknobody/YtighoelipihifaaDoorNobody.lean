/- A rank that Of did not give. -/
import Derived.Test.YtighoelipihifaaDoorSure
namespace Go.Proofs.YtighoelipihifaaDoor.Nobody
open Go.RowKit Go.Maps Go.Sort
open Go.Proofs.YtighoelipihifaaDoor.MapMath
open Go.Proofs.YtighoelipihifaaDoor.RankMath
open Go.Proofs.YtighoelipihifaaDoor.RankMath2
open Go.Proofs.YtighoelipihifaaDoor.RankMath3
open Go.Proofs.YtighoelipihifaaDoor.Base
open Go.Proofs.YtighoelipihifaaDoor.Rank1
open Go.Proofs.YtighoelipihifaaDoor.Run
open Go.Proofs.YtighoelipihifaaDoor.Bound
open Go.Proofs.YtighoelipihifaaDoor.Seek
open Go.Proofs.YtighoelipihifaaDoor.Scores
open Go.Proofs.YtighoelipihifaaDoor.Names
open Go.Proofs.YtighoelipihifaaDoor.Sure
open Go.Proofs.YtighoelipihifaaDoor.Parse (Has)
set_option linter.unusedVariables false

set_option maxHeartbeats 1000000 in
set_option maxRecDepth 100000 in
theorem pop_nil (n : Int) (g : Bool) (w : World) : Calls Tryd.prog 17 #[.pointer none, .int .i64 n, .bool g] w fun e w' => RunE [] w e w' := by
  have H1 := hid_of (len_nil w)
  have H2 := hid_of (run_zero (.pointer none) 0 g w)
  obtain ⟨X, hX⟩ : ∃ X, X = max n 0 := ⟨_, rfl⟩
  have e1 : max n 0 = X := hX.symm
  have e2 : min X 0 = 0 := by omega
  clear hX
  go_enter Tryd.func17, Tryd.ntmps17
  go_wp2_with fail
  refine H1.out.mono ?_
  rintro e w0 hw0
  obtain ⟨rfl, hww⟩ := hw0
  rw [hww]
  clear hww w0 H1
  go_wp2_with fail
  refine H2.out.mono ?_
  rintro e w1 hw1
  have HZ := hid_of hw1
  obtain ⟨v1, rfl, o1, b1⟩ := hw1
  obtain ⟨a, c, hv1, hcap, _⟩ := fs_row o1
  rw [show ([] : EL).length = 0 from rfl] at hv1
  subst hv1
  clear o1 b1
  go_wp2_with fail
  go_loopg [20] 0 (fun gg si wx => si = .int .i64 0 ∧ wx = w1)
  case atStart => exact ⟨rfl, rfl⟩
  case round =>
    obtain ⟨rfl, hwx⟩ := hrel
    rw [hwx]
    clear hwx
    go_wp2_with fail
    go_ret
    exact HZ.out
set_option maxHeartbeats 4000000 in
set_option maxRecDepth 100000 in
theorem nobody_call (s : ByteArray) (n : Int) (w : World) (hh : Has w) (h1 : -9223372036854775808 ≤ n) (h2 : n ≤ 9223372036854775807) : Calls Tryd.prog 4 #[.string s, .int .i64 n] w fun e w' => e = .returned (.bool true) ∧ Below w.heap.size w w' := by
  have HH := hid_of hh
  have H1 := hid_of (set_nil s n w)
  have H2 := hid_of (score_nil s w)
  have H3 := hid_of (place_nil s true w)
  obtain ⟨V, hV⟩ : ∃ V, V = w.alloc (.cells #[.int .i64 (-1), .bool false, .int .i64 0, .string ⟨#[]⟩] 23) := ⟨_, rfl⟩
  have bV : Below w.heap.size w V := by rw [hV]; exact bnew w _
  have HT : Hid (∀ W, Below V.heap.size V W → W.cell? ⟨w.heap.size, 0, none⟩ = some (.int .i64 (-1)) ∧ W.cell? ⟨w.heap.size, 1, none⟩ = some (.bool false) ∧ W.cell? ⟨w.heap.size, 2, none⟩ = some (.int .i64 0) ∧ W.cell? ⟨w.heap.size, 3, none⟩ = some (.string ⟨#[]⟩)) := hid_of fun W hW => ⟨cell_on hW (by rw [hV]; simp), cell_on hW (by rw [hV]; simp), cell_on hW (by rw [hV]; simp), cell_on hW (by rw [hV]; simp)⟩
  have H4 := hid_of (drop_nil s V)
  have H5 := hid_of (len_nil V)
  have H6 := hid_of (list_nil V)
  have HBV := hid_of bV
  have HV := hid_of hV
  clear hV bV hh
  go_enter Tryd.func4, Tryd.ntmps4
  go_wp2_with fail
  refine H1.out.mono ?_
  rintro e w0 hw0
  obtain ⟨rfl, hww⟩ := hw0
  rw [hww]
  clear hww w0 H1
  go_wp2_with fail
  refine H2.out.mono ?_
  rintro e w0 hw0
  obtain ⟨rfl, hww⟩ := hw0
  rw [hww]
  clear hww w0 H2
  go_wp2_with fail
  refine H3.out.mono ?_
  rintro e w0 hw0
  obtain ⟨rfl, hww⟩ := hw0
  rw [hww]
  clear hww w0 H3
  go_wp2_with fail
  rw [← HV.out]
  refine H4.out.mono ?_
  rintro e w0 hw0
  obtain ⟨rfl, hww⟩ := hw0
  rw [hww]
  clear hww w0 H4
  go_wp2_with fail
  refine H5.out.mono ?_
  rintro e w0 hw0
  obtain ⟨rfl, hww⟩ := hw0
  rw [hww]
  clear hww w0 H5
  go_wp2_with fail
  refine H6.out.mono ?_
  rintro e w1 ⟨v1, rfl, o1, b1⟩
  obtain ⟨a1, c1, hv1, _, _⟩ := fs_row o1
  rw [show ([] : EL).length = 0 from rfl] at hv1
  subst hv1
  have B1 := hid_of b1
  have H7 := hid_of (slice_nil 0 n false w1 (by omega) (by omega) h1 h2)
  clear o1 b1 H6
  go_wp2_with fail
  refine H7.out.mono ?_
  rintro e w2 ⟨v2, rfl, o2, b2⟩
  obtain ⟨a2, c2, hv2, _, _⟩ := fs_row o2
  rw [show ([] : EL).length = 0 from rfl] at hv2
  subst hv2
  have B2 := hid_of (Base.bel B1.out b2 (Nat.le_refl _))
  have H8 := hid_of (pop_nil n true w2)
  clear o2 b2 H7 B1
  go_wp2_with fail
  refine H8.out.mono ?_
  rintro e w3 ⟨v3, rfl, o3, b3⟩
  obtain ⟨a3, c3, hv3, _, _⟩ := fs_row o3
  rw [show ([] : EL).length = 0 from rfl] at hv3
  subst hv3
  have B3 := hid_of (Base.bel B2.out b3 (Nat.le_refl _))
  obtain ⟨t0, t1, t2, t3⟩ := HT.out w3 B3.out
  have H9 := hid_of (scores_nil inf1 inf1 false 0 n w3)
  unfold bV at H9
  rw [show mk inf1.name = ⟨#[]⟩ from rfl] at H9
  clear o3 b3 H8 B2
  go_wp2_with fail
  refine H9.out.mono ?_
  rintro e w4 ⟨v4, rfl, o4, b4⟩
  obtain ⟨a4, c4, hv4, _, _⟩ := fs_row o4
  rw [show ([] : EL).length = 0 from rfl] at hv4
  subst hv4
  have B4 := hid_of (Base.bel B3.out b4 (Nat.le_refl _))
  obtain ⟨u0, u1, u2, u3⟩ := HT.out w4 B4.out
  have H10 := hid_of (names_nil inf1 inf1 true 0 n w4)
  unfold bV at H10
  rw [show mk inf1.name = ⟨#[]⟩ from rfl] at H10
  clear o4 b4 H9 B3 t0 t1 t2 t3
  go_wp2_with fail
  refine H10.out.mono ?_
  rintro e w5 ⟨v5, rfl, o5, b5⟩
  obtain ⟨a5, c5, hv5, _, _⟩ := fs_row o5
  rw [show ([] : EL).length = 0 from rfl] at hv5
  subst hv5
  have B5 : Hid (Below w.heap.size w w5) := hid_of (Base.bel HBV.out (Base.bel B4.out b5 (Nat.le_refl _)) (Nat.le_refl _))
  have H11 := hid_of (sure_call w5 (HH.out.later B5.out))
  clear o5 b5 H10 B4 u0 u1 u2 u3
  go_wp2_with fail
  refine H11.out.mono ?_
  rintro e w6 hw6
  obtain ⟨rfl, b6⟩ := hw6
  have B6 := hid_of (Base.bel B5.out b6 (Nat.le_refl _))
  clear b6
  go_wp2_with fail
  go_ret
  exact ⟨rfl, B6.out⟩
end Go.Proofs.YtighoelipihifaaDoor.Nobody
