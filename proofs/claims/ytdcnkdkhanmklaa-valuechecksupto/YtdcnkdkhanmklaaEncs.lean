/- The law ValueEncodes. -/
import Derived.Test.YtdcnkdkhanmklaaKept
import Derived.Test.YtdcnkdkhanmklaaBack
import Derived.Test.YtdcnkdkhanmklaaREncF
namespace Go.Proofs.Ytdcnkdkhanmklaa.Encs
open Go.RowKit Go.Maps
open Go.Proofs.Ytdcnkdkhanmklaa.SetMath
open Go.Proofs.Ytdcnkdkhanmklaa.BytesMath
open Go.Proofs.Ytdcnkdkhanmklaa.FixMath
open Go.Proofs.Ytdcnkdkhanmklaa.ValueMath
open Go.Proofs.Ytdcnkdkhanmklaa.Base
open Go.Proofs.Ytdcnkdkhanmklaa.Vals
open Go.Proofs.Ytdcnkdkhanmklaa.Check0
open Go.Proofs.Ytdcnkdkhanmklaa.Enc
open Go.Proofs.Ytdcnkdkhanmklaa.Apart
open Go.Proofs.Ytdcnkdkhanmklaa.Spare
open Go.Proofs.Ytdcnkdkhanmklaa.Kept
set_option linter.unusedVariables false
set_option linter.unusedSimpArgs false
theorem room {x : Vl} (nx : Nc x) : List.length x.fields + 1 ≤ FRow.big ∧ List.length x.ranked + 1 ≤ ERow.big := by
  obtain ⟨h1, h2, h3⟩ := nx.sm
  unfold FRow.big ERow.big
  exact ⟨by omega, by omega⟩
set_option maxHeartbeats 4000000 in
set_option maxRecDepth 100000 in
theorem encodes_call {w : World} {u : Value} {x : Vl} (h : VA w u x) (nx : Nc x) :
    Calls Try.prog 4 #[u] w fun e w' => e = .returned (.bool true) ∧ Below w.heap.size w w' := by
  have HS := hid_of fun (W : World) (hW : Below w.heap.size w W) => spare_call (h.below hW) nx.wel.toFit nx.wel.toFit.l (room nx).1 (room nx).2
  have HE := hid_of fun (W : World) (v' : Value) (hv : VA W v' x) => encode_call hv nx.wel nx.sm (Nat.le_trans nx.len (by decide))
  have HR := hid_of fun (W : World) (hW : Below w.heap.size w W) => REncF.rencode_call (h.below hW) nx.wel nx.sm (Nat.le_trans nx.len (by decide))
  have HA := hid_of fun W => Awake.awake_call W
  have HK := hid_of fun (B : Nat) (W : World) (g1 c1 g2 c2 g3 c3 : Nat) (hW : Below w.heap.size w W) (hs : SP B W x g1 c1 g2 c2 g3 c3) => kept_call hs (h.below hW) nx.wel.toFit
  have HVS := hid_of fun (B : Nat) (W : World) (g1 c1 g2 c2 g3 c3 : Nat) (hs : SP B W x g1 c1 g2 c2 g3 c3) => va_sp hs
  obtain ⟨a, b, c, rfl, h1, h2, h3⟩ := h
  obtain ⟨aa, ac, rfl, _, _⟩ := id h1
  obtain ⟨ba, bc, rfl, _, _⟩ := id h2
  obtain ⟨ca, cc, rfl, _, _⟩ := id h3
  have hee := str_eq (encV x) (encV x)
  rw [decide_eq_true rfl] at hee
  clear h1 h2 h3 nx
  unfold spV at HS HK HVS
  generalize mk (encV x) = T at *
  generalize chk x = cx at *
  generalize x.list.length = n1 at *
  generalize List.length x.fields = n2 at *
  generalize List.length x.ranked = n3 at *
  generalize mk x.text = X at *
  generalize x.kind = xk at *
  obtain ⟨V, hV⟩ : ∃ V, V = w.alloc (.cells #[.int .i64 xk, .string X, .slice aa n1 ac, .slice ba n2 bc, .slice ca n3 cc] 26) := ⟨_, rfl⟩
  have bV : Below w.heap.size w V := by rw [hV]; exact FRow.bnew w _
  have v0 : V.heap[w.heap.size]? = some (.cells #[.int .i64 xk, .string X, .slice aa n1 ac, .slice ba n2 bc, .slice ca n3 cc] 26 (0, 0)) := by rw [hV]; exact heap_alloc_new w _
  have HV := hid_of hV
  have HB := hid_of bV
  have HV0 := hid_of v0
  clear v0 bV hV
  go_enter Try.func4, Try.ntmps4
  go_wp2_with fail
  rw [← HV.out]
  refine (HS.out V HB.out).mono ?_
  rintro e w1 ⟨g1, c1, g2, c2, g3, c3, rfl, N1⟩
  obtain ⟨W, hW⟩ : ∃ W, W = w1.alloc (.cells #[.int .i64 xk, .string X, .slice (some ⟨g1, 0, none⟩) n1 c1, .slice (some ⟨g2, 0, none⟩) n2 c2, .slice (some ⟨g3, 0, none⟩) n3 c3] 26) := ⟨_, rfl⟩
  have bW : Below w1.heap.size w1 W := by rw [hW]; exact FRow.bnew w1 _
  have x1 : W.heap[w1.heap.size]? = some (.cells #[.int .i64 xk, .string X, .slice (some ⟨g1, 0, none⟩) n1 c1, .slice (some ⟨g2, 0, none⟩) n2 c2, .slice (some ⟨g3, 0, none⟩) n3 c3] 26 (0, 0)) := by rw [hW]; exact heap_alloc_new w1 _
  have b1 : Below V.heap.size V W := FRow.bel N1.out.2 bW (Nat.le_refl _)
  have x0 := (b1.block _ (lt_of HV0.out)).trans HV0.out
  have HSP := hid_of (SPbelow N1.out.1 bW)
  have BW := hid_of (FRow.bel HB.out b1 (Nat.le_refl _))
  have HE2 := hid_of (HE.out W _ (HVS.out _ W _ _ _ _ _ _ HSP.out))
  have HW := hid_of hW
  have X0 := hid_of x0
  have X1 := hid_of x1
  clear bW b1 x0 x1 hW N1 HE HVS HS HV0
  go_wp2_with fail
  rw [← HW.out]
  refine HE2.out.mono ?_
  rintro e w2 ⟨rfl, b2⟩
  have BB2 := hid_of (FRow.bel BW.out b2 (Nat.le_refl _))
  have K2 := hid_of b2
  obtain ⟨⟨i0, i1, i2, i3, i4⟩, _⟩ := box5 ((b2.block _ (lt_of X0.out)).trans X0.out)
  clear b2 HE2
  go_wp2_with fail
  refine (HR.out w2 BB2.out).mono ?_
  rintro e w3 ⟨rfl, b3⟩
  have BB3 := hid_of (FRow.bel BB2.out b3 (Nat.le_refl _))
  have K3 : Below W.heap.size W w3 := FRow.bel K2.out b3 (Nat.le_refl _)
  have HSP3 := SPbelow HSP.out K3
  obtain ⟨⟨j0, j1, j2, j3, j4⟩, _⟩ := box5 ((K3.block _ (lt_of X0.out)).trans X0.out)
  obtain ⟨⟨k0, k1, k2, k3, k4⟩, _⟩ := box5 ((K3.block _ (lt_of X1.out)).trans X1.out)
  have HK3 := hid_of (HK.out _ w3 _ _ _ _ _ _ BB3.out HSP3)
  clear b3 K3 HSP3 HK HR i0 i1 i2 i3 i4
  go_wp2_with fail
  refine HK3.out.mono ?_
  rintro e w4 ⟨rfl, b4⟩
  have BB4 := hid_of (FRow.bel BB3.out b4 (Nat.le_refl _))
  clear b4 HK3
  go_wp2_with fail
  refine (HA.out w4).mono ?_
  rintro e w5 ⟨rfl, b5⟩
  have BB5 := hid_of (FRow.bel BB4.out b5 (Nat.le_refl _))
  clear b5
  go_wp2_with fail
  go_ret
  exact ⟨rfl, BB5.out⟩
end Go.Proofs.Ytdcnkdkhanmklaa.Encs
