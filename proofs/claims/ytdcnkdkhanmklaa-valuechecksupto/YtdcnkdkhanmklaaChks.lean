/- The law ValueChecks. -/
import Derived.Test.YtdcnkdkhanmklaaKept
import Derived.Test.YtdcnkdkhanmklaaBack
import Derived.Test.YtdcnkdkhanmklaaEncs
import Derived.Test.YtdcnkdkhanmklaaWgt
import Derived.Test.YtdcnkdkhanmklaaNames
namespace Go.Proofs.Ytdcnkdkhanmklaa.Chks
open Go.RowKit Go.Maps
open Go.Proofs.Ytdcnkdkhanmklaa.SetMath
open Go.Proofs.Ytdcnkdkhanmklaa.BytesMath
open Go.Proofs.Ytdcnkdkhanmklaa.FixMath
open Go.Proofs.Ytdcnkdkhanmklaa.ValueMath
open Go.Proofs.Ytdcnkdkhanmklaa.Base
open Go.Proofs.Ytdcnkdkhanmklaa.Vals
open Go.Proofs.Ytdcnkdkhanmklaa.Check0
open Go.Proofs.Ytdcnkdkhanmklaa.Enc
open Go.Proofs.Ytdcnkdkhanmklaa.Apart
open Go.Proofs.Ytdcnkdkhanmklaa.Spare
open Go.Proofs.Ytdcnkdkhanmklaa.Kept
set_option linter.unusedVariables false
set_option linter.unusedSimpArgs false
open Go.Proofs.Ytdcnkdkhanmklaa.Encs (room)
open Go.Proofs.Ytdcnkdkhanmklaa.Names
set_option maxHeartbeats 4000000 in
set_option maxRecDepth 100000 in
theorem checks_call {w : World} {u : Value} {x : Vl} (kd : Int) (h : VA w u x) (nx : Nc x) :
    Calls Try.prog 3 #[u, .int .i64 kd] w fun e w' => e = .returned (.bool true) ∧ Below w.heap.size w w' := by
  have HS := hid_of fun (W : World) (hW : Below w.heap.size w W) => spare_call (h.below hW) nx.wel.toFit nx.wel.toFit.l (room nx).1 (room nx).2
  have HC := hid_of fun (W : World) (v' : Value) (hv : VA W v' x) => Check.check_call hv nx.wel
  have HRC := hid_of fun (W : World) (hW : Below w.heap.size w W) => RCheck.rcheck_call (h.below hW) nx.wel
  have HW8 := hid_of fun (W : World) (v' : Value) (hv : VA W v' x) => Wgt.weight_call hv nx.wel nx.sm (Nat.le_trans nx.len (by decide))
  have HR := hid_of fun (W : World) (hW : Below w.heap.size w W) => REncF.rencode_call (h.below hW) nx.wel nx.sm (Nat.le_trans nx.len (by decide))
  have HA := hid_of fun W => Awake.awake_call W
  have HK := hid_of fun (B : Nat) (W : World) (g1 c1 g2 c2 g3 c3 : Nat) (hW : Below w.heap.size w W) (hs : SP B W x g1 c1 g2 c2 g3 c3) => kept_call hs (h.below hW) nx.wel.toFit
  have HVS := hid_of fun (B : Nat) (W : World) (g1 c1 g2 c2 g3 c3 : Nat) (hs : SP B W x g1 c1 g2 c2 g3 c3) => va_sp hs
  have HN1 := hid_of fun W => vname_call kd W
  have HN2 := hid_of fun W => rname_call kd W
  obtain ⟨a, b, c, rfl, h1, h2, h3⟩ := h
  obtain ⟨aa, ac, rfl, _, _⟩ := id h1
  obtain ⟨ba, bc, rfl, _, _⟩ := id h2
  obtain ⟨ca, cc, rfl, _, _⟩ := id h3
  have hT : (mk (encV x)).size = (encV x).length := by show (encV x).toArray.size = _; simp
  clear h1 h2 h3 nx
  unfold spV at HS HK HVS
  generalize (encV x).length = Nw at *
  generalize mk (encV x) = T at *
  generalize chk x = cx at *
  generalize x.list.length = n1 at *
  generalize List.length x.fields = n2 at *
  generalize List.length x.ranked = n3 at *
  generalize mk x.text = X at *
  generalize x.kind = xk at *
  generalize nameB kd = NB at *
  have hnn : (NB.toList == NB.toList) = true := by simp
  have HE1 := hid_of fun (aa ba ca : Option Addr) (ac bc cc : Nat) (U : World) => vempty_raw xk X aa ba ca n1 n2 n3 ac bc cc U
  have HE2 := hid_of fun (aa ba ca : Option Addr) (ac bc cc : Nat) (U : World) => RChk.empty_raw xk X aa ba ca n1 n2 n3 ac bc cc U
  generalize (if xk = 1 then false else if xk = 2 ∨ xk = 4 then decide (n1 = 0) else if xk = 3 then decide (n2 = 0) else if xk = 5 then decide (n3 = 0) else true) = d at *
  have hdd : (d == d) = true := by cases d <;> rfl
  obtain ⟨V, hV⟩ : ∃ V, V = w.alloc (.cells #[.int .i64 xk, .string X, .slice aa n1 ac, .slice ba n2 bc, .slice ca n3 cc] 26) := ⟨_, rfl⟩
  have bV : Below w.heap.size w V := by rw [hV]; exact FRow.bnew w _
  have v0 : V.heap[w.heap.size]? = some (.cells #[.int .i64 xk, .string X, .slice aa n1 ac, .slice ba n2 bc, .slice ca n3 cc] 26 (0, 0)) := by rw [hV]; exact heap_alloc_new w _
  have HV := hid_of hV
  have HB := hid_of bV
  have HV0 := hid_of v0
  clear v0 bV hV
  go_enter Try.func3, Try.ntmps3
  go_wp2_with fail
  rw [← HV.out]
  refine (HS.out V HB.out).mono ?_
  rintro e w1 ⟨g1, c1, g2, c2, g3, c3, rfl, N1⟩
  obtain ⟨W, hW⟩ : ∃ W, W = w1.alloc (.cells #[.int .i64 xk, .string X, .slice (some ⟨g1, 0, none⟩) n1 c1, .slice (some ⟨g2, 0, none⟩) n2 c2, .slice (some ⟨g3, 0, none⟩) n3 c3] 26) := ⟨_, rfl⟩
  have bW : Below w1.heap.size w1 W := by rw [hW]; exact FRow.bnew w1 _
  have x1 : W.heap[w1.heap.size]? = some (.cells #[.int .i64 xk, .string X, .slice (some ⟨g1, 0, none⟩) n1 c1, .slice (some ⟨g2, 0, none⟩) n2 c2, .slice (some ⟨g3, 0, none⟩) n3 c3] 26 (0, 0)) := by rw [hW]; exact heap_alloc_new w1 _
  have b1 : Below V.heap.size V W := FRow.bel N1.out.2 bW (Nat.le_refl _)
  have x0 := (b1.block _ (lt_of HV0.out)).trans HV0.out
  have HSP := hid_of (SPbelow N1.out.1 bW)
  have BW := hid_of (FRow.bel HB.out b1 (Nat.le_refl _))
  have HW := hid_of hW
  obtain ⟨⟨i0, i1, i2, i3, i4⟩, _⟩ := box5 x0
  rw [hW] at i0 i1 i2 i3 i4
  have X0 := hid_of x0
  have X1 := hid_of x1
  clear bW b1 x0 x1 hW N1 HS HV0
  go_wp2_with fail
  rw [← HW.out]
  refine (HR.out W BW.out).mono ?_
  rintro e Y ⟨rfl, b3⟩
  have HYW := hid_of fun (U : World) (hU : Below Y.heap.size Y U) => FRow.bel b3 hU (Nat.le_refl _)
  have BBU := hid_of fun (U : World) (hU : Below Y.heap.size Y U) => FRow.bel (FRow.bel BW.out b3 (Nat.le_refl _)) hU (Nat.le_refl _)
  have HX : Hid (∀ U, Below Y.heap.size Y U → (U.cell? ⟨w.heap.size, 0, none⟩ = some (.int .i64 xk) ∧ U.cell? ⟨w.heap.size, 1, none⟩ = some (.string X) ∧ U.cell? ⟨w.heap.size, 2, none⟩ = some (.slice aa n1 ac) ∧ U.cell? ⟨w.heap.size, 3, none⟩ = some (.slice ba n2 bc) ∧ U.cell? ⟨w.heap.size, 4, none⟩ = some (.slice ca n3 cc)) ∧ (U.cell? ⟨w1.heap.size, 0, none⟩ = some (.int .i64 xk) ∧ U.cell? ⟨w1.heap.size, 1, none⟩ = some (.string X) ∧ U.cell? ⟨w1.heap.size, 2, none⟩ = some (.slice (some ⟨g1, 0, none⟩) n1 c1) ∧ U.cell? ⟨w1.heap.size, 3, none⟩ = some (.slice (some ⟨g2, 0, none⟩) n2 c2) ∧ U.cell? ⟨w1.heap.size, 4, none⟩ = some (.slice (some ⟨g3, 0, none⟩) n3 c3))) := hid_of fun U hU => And.intro (box5 (((HYW.out U hU).block _ (lt_of X0.out)).trans X0.out)).1 (box5 (((HYW.out U hU).block _ (lt_of X1.out)).trans X1.out)).1
  have HC2 := hid_of fun (U : World) (hU : Below Y.heap.size Y U) => HC.out U _ (HVS.out _ U _ _ _ _ _ _ (SPbelow HSP.out (HYW.out U hU)))
  have HW2 := hid_of fun (U : World) (hU : Below Y.heap.size Y U) => HW8.out U _ (HVS.out _ U _ _ _ _ _ _ (SPbelow HSP.out (HYW.out U hU)))
  have HR2 := hid_of fun (U : World) (hU : Below Y.heap.size Y U) => HRC.out U (BBU.out U hU)
  have HK2 := hid_of fun (U : World) (hU : Below Y.heap.size Y U) => HK.out _ U _ _ _ _ _ _ (BBU.out U hU) (SPbelow HSP.out (HYW.out U hU))
  have K := hid_of (Below.refl Y.heap.size Y).drew
  clear b3 HC HW8 HRC HK HVS HR i0 i1 i2 i3 i4 HYW
  go_wp2_with fail
  go_region_held3 (fun U => (U.cell? ⟨w.heap.size, 0, none⟩ = some (.int .i64 xk) ∧ U.cell? ⟨w.heap.size, 1, none⟩ = some (.string X) ∧ U.cell? ⟨w.heap.size, 2, none⟩ = some (.slice aa n1 ac) ∧ U.cell? ⟨w.heap.size, 3, none⟩ = some (.slice ba n2 bc) ∧ U.cell? ⟨w.heap.size, 4, none⟩ = some (.slice ca n3 cc)) ∧ (U.cell? ⟨w1.heap.size, 0, none⟩ = some (.int .i64 xk) ∧ U.cell? ⟨w1.heap.size, 1, none⟩ = some (.string X) ∧ U.cell? ⟨w1.heap.size, 2, none⟩ = some (.slice (some ⟨g1, 0, none⟩) n1 c1) ∧ U.cell? ⟨w1.heap.size, 3, none⟩ = some (.slice (some ⟨g2, 0, none⟩) n2 c2) ∧ U.cell? ⟨w1.heap.size, 4, none⟩ = some (.slice (some ⟨g3, 0, none⟩) n3 c3)))
    (exact HX.out _ K.out)
    (first
    | (go_at_call 11; refine (HC2.out _ K.out).mono ?_; rintro e U ⟨rfl, q⟩; have K := hid_of (FRow.bel K.out q (Nat.le_refl _)); clear q)
    | (go_at_call 12; refine (HR2.out _ K.out).mono ?_; rintro e U ⟨rfl, q⟩; have K := hid_of (FRow.bel K.out q (Nat.le_refl _)); clear q)
    | (go_at_call 13; refine (HE1.out _ _ _ _ _ _ _).mono ?_; rintro e U ⟨rfl, q⟩; have K := hid_of (FRow.bel K.out q (Nat.le_refl _)); clear q)
    | (go_at_call 14; refine (HE2.out _ _ _ _ _ _ _).mono ?_; rintro e U ⟨rfl, q⟩; have K := hid_of (FRow.bel K.out q (Nat.le_refl _)); clear q)
    | (go_at_call 15; refine (HW2.out _ K.out).mono ?_; rintro e U ⟨rfl, q⟩; have K := hid_of (FRow.bel K.out q (Nat.le_refl _)); clear q)
    | (go_at_call 16; refine (HN1.out _).mono ?_; rintro e U ⟨rfl, q⟩; have K := hid_of (FRow.bel K.out q (Nat.le_refl _)); clear q)
    | (go_at_call 17; refine (HN2.out _).mono ?_; rintro e U ⟨rfl, q⟩; have K := hid_of (FRow.bel K.out q (Nat.le_refl _)); clear q)
    | (go_at_call 18; refine (HK2.out _ K.out).mono ?_; rintro e U ⟨rfl, q⟩; have K := hid_of (FRow.bel K.out q (Nat.le_refl _)); clear q)
    | (go_at_call 19; refine (HA.out _).mono ?_; rintro e U ⟨rfl, q⟩; have K := hid_of (FRow.bel K.out q (Nat.le_refl _)); clear q))
  all_goals go_wp2_with fail
  all_goals go_ret
  all_goals exact ⟨rfl, BBU.out _ K.out⟩
end Go.Proofs.Ytdcnkdkhanmklaa.Chks
