/- The document's take: an effect without a value. The document's take: an effect with a deadline. -/
import Derived.Test.YtpnigkjmofhmbabGreatRCheckM
import Derived.Test.YtpnigkjmofhmbabGreatDFixM
import Derived.Deep.RegionHeld3
section
namespace Go.Proofs.YtpnigkjmofhmbabGreat.DTake2
open Go.RowKit Go.Maps
open Go.Proofs.YtpnigkjmofhmbabGreat.SetMath
open Go.Proofs.YtpnigkjmofhmbabGreat.BytesMath
open Go.Proofs.YtpnigkjmofhmbabGreat.FixMath
open Go.Proofs.YtpnigkjmofhmbabGreat.ValueMath
open Go.Proofs.YtpnigkjmofhmbabGreat.ReadMath
open Go.Proofs.YtpnigkjmofhmbabGreat.Base
open Go.Proofs.YtpnigkjmofhmbabGreat.Vals
open Go.Proofs.YtpnigkjmofhmbabGreat.Check0
open Go.Proofs.YtpnigkjmofhmbabGreat.Dec
open Go.Proofs.YtpnigkjmofhmbabGreat.SBase (Ef)
open Go.Proofs.YtpnigkjmofhmbabGreat.SFind (alb)
open Go.Proofs.YtpnigkjmofhmbabGreat.SSet (box8)
open Go.Proofs.YtpnigkjmofhmbabGreat.EMay
open Go.Proofs.YtpnigkjmofhmbabGreat.EAll (fO)
open Go.Proofs.YtpnigkjmofhmbabGreat.ERd
open Go.Proofs.YtpnigkjmofhmbabGreat.EEff
open Go.Proofs.YtpnigkjmofhmbabGreat.EDec
open Go.Proofs.YtpnigkjmofhmbabGreat.DFix
open Go.Proofs.YtpnigkjmofhmbabGreat.DTakM
open Go.Proofs.YtpnigkjmofhmbabGreat.DTake
set_option linter.unusedVariables false
set_option linter.unusedSimpArgs false
set_option maxHeartbeats 4000000 in
set_option maxRecDepth 100000 in
theorem t_two (c : UInt8) (r u : Bs) (N : Nat) (w : World) (hl : r.length < 549755813888) (h4 : (c.toNat : Int) ≠ 4) (h1 : (c.toNat : Int) ≠ 1) (h3 : (c.toNat : Int) ≠ 3) (hf : fxS r = ((N : Int), u, true)) (hN : N ≤ u.length) (hq0 : mayE ⟨(c.toNat : Int), u.take N, zV, 0⟩ = false → bad (c :: r)) (hq1 : mayE ⟨(c.toNat : Int), u.take N, zV, 0⟩ = true → ¬ bad (c :: r) ∧ efS (c :: r, false) = (⟨(c.toNat : Int), u.take N, zV, 0⟩, u.drop N, false)) : Calls Tryz.prog 26 #[.string (mk (c :: r))] w (TkE (c :: r) w) := by
  obtain ⟨W0, hW0⟩ : ∃ W0, W0 = (w.alloc zF).alloc (fO (c.toNat : Int) 0 0 ⟨#[]⟩ ⟨#[]⟩ (.slice none 0 0) (.slice none 0 0) (.slice none 0 0)) := ⟨_, rfl⟩
  have H0 := hid_of (show Bx w W0 (c.toNat : Int) 0 0 ⟨#[]⟩ ⟨#[]⟩ (.slice none 0 0) (.slice none 0 0) (.slice none 0 0) by rw [hW0]; exact bx0 w _)
  have HW0 := hid_of hW0
  have HF := hid_of (fix_call r W0 (by omega))
  have hI := cons_ix c r
  have hS := cons_cut c r
  have hcv : IntKind.i64.wrap (c.toNat : Int) = (c.toNat : Int) := IntWalk.i64_in _ (by have := UInt8.toNat_lt c; omega)
  have hsz := mk_size u
  have hlen : ¬ ((mk u).size : Int) < (N : Int) := by rw [hsz]; omega
  have i1 := icut_to u N hN
  have i2 := icut_from u N hN
  rw [hf] at HF
  simp only at HF
  have hk4 : ((c.toNat : Int) == 4) = false := by simp [h4]
  have hk1 : ((c.toNat : Int) == 1) = false := by simp [h1]
  have hk3 : ((c.toNat : Int) == 3) = false := by simp [h3]
  have HM := hid_of fun (W : World) => FMay.rmay_call (f := ⟨(c.toNat : Int), u.take N, zV, 0⟩) (vz 0 W).va EDec.welz
  simp only at HM
  have HQ0 := hid_of hq0
  have HQ1 := hid_of hq1
  unfold TkE
  clear hW0 hl h4 h1 h3 hf hq0 hq1 hsz hN
  obtain ⟨my, hmy⟩ : ∃ my, mayE ⟨(c.toNat : Int), u.take N, zV, 0⟩ = my := ⟨_, rfl⟩
  rw [hmy] at HQ0 HQ1 HM
  clear hmy
  generalize hT1 : mk (u.take N) = T1 at *
  generalize hU2 : mk (u.drop N) = U2 at *
  generalize mk u = U at *
  have HT := hid_of (And.intro hT1 hU2)
  clear hT1 hU2
  generalize ((c.toNat : Nat) : Int) = kd at *
  generalize mk (c :: r) = X at *
  generalize mk r = Y at *
  go_enter Tryz.func26, Tryz.ntmps26
  go_wp2_with fail
  rw [← HW0.out]
  refine HF.out.mono ?_
  rintro e w1 ⟨rfl, b1⟩
  have H1 := hid_of (H0.out.low b1)
  clear b1 HF H0 HW0
  obtain ⟨⟨x0, x1, x2, x3, x4, x5, x6, x7⟩, fx⟩ := box8 H1.out.e
  obtain ⟨⟨y0, y1, y2, y3, y4, y5, y6, y7⟩, fy⟩ := box8 H1.out.r
  have fx0 := fx 0
  have fy0 := fy 0
  have fx1 := fx 1
  have fy1 := fy 1
  have fx2 := fx 2
  have fy2 := fy 2
  have fx3 := fx 3
  have fy3 := fy 3
  have fx4 := fx 4
  have fy4 := fy 4
  have fx5 := fx 5
  have fy5 := fy 5
  have fx6 := fx 6
  have fy6 := fy 6
  have fx7 := fx 7
  have fy7 := fy 7
  clear fx fy
  go_wp2_with fail
  go_region
  obtain ⟨V, hV⟩ : ∃ V, V = (w1.setCell ⟨w.heap.size + 1, 1, none⟩ (.string T1)).drew := ⟨_, rfl⟩
  have HVX := hid_of (show Bx w V kd 0 0 T1 ⟨#[]⟩ (.slice none 0 0) (.slice none 0 0) (.slice none 0 0) by rw [hV]; exact H1.out.key T1)
  rw [← hV]
  clear hV
  clear x0 x1 x2 x3 x4 x5 x6 x7 y0 y1 y2 y3 y4 y5 y6 y7 fx0 fy0 fx1 fy1 fx2 fy2 fx3 fy3 fx4 fy4 fx5 fy5 fx6 fy6 fx7 fy7
  have HVN := hid_of (vz (w.heap.size + 1) V)
  obtain ⟨⟨x0, x1, x2, x3, x4, x5, x6, x7⟩, fx⟩ := box8 HVX.out.e
  obtain ⟨⟨y0, y1, y2, y3, y4, y5, y6, y7⟩, fy⟩ := box8 HVX.out.r
  have fx0 := fx 0
  have fy0 := fy 0
  have fx1 := fx 1
  have fy1 := fy 1
  have fx2 := fx 2
  have fy2 := fy 2
  have fx3 := fx 3
  have fy3 := fy 3
  have fx4 := fx 4
  have fy4 := fy 4
  have fx5 := fx 5
  have fy5 := fy 5
  have fx6 := fx 6
  have fy6 := fy 6
  have fx7 := fx 7
  have fy7 := fy 7
  clear fx fy
  go_wp2_with fail
  clear x0 x1 x2 x3 x4 x5 x6 x7 y0 y1 y2 y3 y4 y5 y6 y7 fx0 fy0 fx1 fy1 fx2 fy2 fx3 fy3 fx4 fy4 fx5 fy5 fx6 fy6 fx7 fy7
  obtain ⟨⟨x0, x1, x2, x3, x4, x5, x6, x7⟩, fx⟩ := box8 HVX.out.e
  obtain ⟨⟨y0, y1, y2, y3, y4, y5, y6, y7⟩, fy⟩ := box8 HVX.out.r
  have fx0 := fx 0
  have fy0 := fy 0
  have fx1 := fx 1
  have fy1 := fy 1
  have fx2 := fx 2
  have fy2 := fy 2
  have fx3 := fx 3
  have fy3 := fy 3
  have fx4 := fx 4
  have fy4 := fy 4
  have fx5 := fx 5
  have fy5 := fy 5
  have fx6 := fx 6
  have fy6 := fy 6
  have fx7 := fx 7
  have fy7 := fy 7
  clear fx fy
  have s0 : V.drew.cell? ⟨w.heap.size + 1, 0, none⟩ = some (.int .i64 kd) ∧ V.drew.cell? ⟨w.heap.size + 1, 1, none⟩ = some (.string T1) ∧ V.drew.cell? ⟨w.heap.size + 1, 2, none⟩ = some (.int .i64 0) ∧ V.drew.cell? ⟨w.heap.size + 1, 3, none⟩ = some (.string ⟨#[]⟩) ∧ V.drew.cell? ⟨w.heap.size + 1, 4, none⟩ = some (.slice none 0 0) ∧ V.drew.cell? ⟨w.heap.size + 1, 5, none⟩ = some (.slice none 0 0) ∧ V.drew.cell? ⟨w.heap.size + 1, 6, none⟩ = some (.slice none 0 0) ∧ V.drew.cell? ⟨w.heap.size + 1, 7, none⟩ = some (.int .i64 0) := ⟨x0, x1, x2, x3, x4, x5, x6, x7⟩
  go_region_held3 (fun W => W.cell? ⟨w.heap.size + 1, 0, none⟩ = some (.int .i64 kd) ∧ W.cell? ⟨w.heap.size + 1, 1, none⟩ = some (.string T1) ∧ W.cell? ⟨w.heap.size + 1, 2, none⟩ = some (.int .i64 0) ∧ W.cell? ⟨w.heap.size + 1, 3, none⟩ = some (.string ⟨#[]⟩) ∧ W.cell? ⟨w.heap.size + 1, 4, none⟩ = some (.slice none 0 0) ∧ W.cell? ⟨w.heap.size + 1, 5, none⟩ = some (.slice none 0 0) ∧ W.cell? ⟨w.heap.size + 1, 6, none⟩ = some (.slice none 0 0) ∧ W.cell? ⟨w.heap.size + 1, 7, none⟩ = some (.int .i64 0)) (first | with_reducible exact s0 | with_reducible exact s5 | with_reducible exact k5) (first
    | (go_at_call 12; refine (HM.out V.drew).mono ?_; rintro e w5 ⟨rfl, b5⟩; have H5 := hid_of (HVX.out.drew.low b5); have HW5 := hid_of (HVN.out.below (FRow.bel (Below.refl _ V).drew b5 (Nat.le_refl _))); obtain ⟨⟨z0, z1, z2, z3, z4, z5, z6, z7⟩, fz⟩ := box8 H5.out.r; have fz0 := fz 0; have fz1 := fz 1; have fz2 := fz 2; have fz3 := fz 3; have fz4 := fz 4; have fz5 := fz 5; have fz6 := fz 6; have fz7 := fz 7; have s5 : w5.cell? ⟨w.heap.size + 1, 0, none⟩ = some (.int .i64 kd) ∧ w5.cell? ⟨w.heap.size + 1, 1, none⟩ = some (.string T1) ∧ w5.cell? ⟨w.heap.size + 1, 2, none⟩ = some (.int .i64 0) ∧ w5.cell? ⟨w.heap.size + 1, 3, none⟩ = some (.string ⟨#[]⟩) ∧ w5.cell? ⟨w.heap.size + 1, 4, none⟩ = some (.slice none 0 0) ∧ w5.cell? ⟨w.heap.size + 1, 5, none⟩ = some (.slice none 0 0) ∧ w5.cell? ⟨w.heap.size + 1, 6, none⟩ = some (.slice none 0 0) ∧ w5.cell? ⟨w.heap.size + 1, 7, none⟩ = some (.int .i64 0) := (box8 H5.out.e).1; have k5 : ((((((((w5.setCell ⟨w.heap.size, 0, none⟩ (.int .i64 kd)).setCell ⟨w.heap.size, 1, none⟩ (.string T1)).setCell ⟨w.heap.size, 2, none⟩ (.int .i64 0)).setCell ⟨w.heap.size, 3, none⟩ (.string ⟨#[]⟩)).setCell ⟨w.heap.size, 4, none⟩ (.slice none 0 0)).setCell ⟨w.heap.size, 5, none⟩ (.slice none 0 0)).setCell ⟨w.heap.size, 6, none⟩ (.slice none 0 0)).setCell ⟨w.heap.size, 7, none⟩ (.int .i64 0)).cell? ⟨w.heap.size + 1, 0, none⟩ = some (.int .i64 kd) ∧ ((((((((w5.setCell ⟨w.heap.size, 0, none⟩ (.int .i64 kd)).setCell ⟨w.heap.size, 1, none⟩ (.string T1)).setCell ⟨w.heap.size, 2, none⟩ (.int .i64 0)).setCell ⟨w.heap.size, 3, none⟩ (.string ⟨#[]⟩)).setCell ⟨w.heap.size, 4, none⟩ (.slice none 0 0)).setCell ⟨w.heap.size, 5, none⟩ (.slice none 0 0)).setCell ⟨w.heap.size, 6, none⟩ (.slice none 0 0)).setCell ⟨w.heap.size, 7, none⟩ (.int .i64 0)).cell? ⟨w.heap.size + 1, 1, none⟩ = some (.string T1) ∧ ((((((((w5.setCell ⟨w.heap.size, 0, none⟩ (.int .i64 kd)).setCell ⟨w.heap.size, 1, none⟩ (.string T1)).setCell ⟨w.heap.size, 2, none⟩ (.int .i64 0)).setCell ⟨w.heap.size, 3, none⟩ (.string ⟨#[]⟩)).setCell ⟨w.heap.size, 4, none⟩ (.slice none 0 0)).setCell ⟨w.heap.size, 5, none⟩ (.slice none 0 0)).setCell ⟨w.heap.size, 6, none⟩ (.slice none 0 0)).setCell ⟨w.heap.size, 7, none⟩ (.int .i64 0)).cell? ⟨w.heap.size + 1, 2, none⟩ = some (.int .i64 0) ∧ ((((((((w5.setCell ⟨w.heap.size, 0, none⟩ (.int .i64 kd)).setCell ⟨w.heap.size, 1, none⟩ (.string T1)).setCell ⟨w.heap.size, 2, none⟩ (.int .i64 0)).setCell ⟨w.heap.size, 3, none⟩ (.string ⟨#[]⟩)).setCell ⟨w.heap.size, 4, none⟩ (.slice none 0 0)).setCell ⟨w.heap.size, 5, none⟩ (.slice none 0 0)).setCell ⟨w.heap.size, 6, none⟩ (.slice none 0 0)).setCell ⟨w.heap.size, 7, none⟩ (.int .i64 0)).cell? ⟨w.heap.size + 1, 3, none⟩ = some (.string ⟨#[]⟩) ∧ ((((((((w5.setCell ⟨w.heap.size, 0, none⟩ (.int .i64 kd)).setCell ⟨w.heap.size, 1, none⟩ (.string T1)).setCell ⟨w.heap.size, 2, none⟩ (.int .i64 0)).setCell ⟨w.heap.size, 3, none⟩ (.string ⟨#[]⟩)).setCell ⟨w.heap.size, 4, none⟩ (.slice none 0 0)).setCell ⟨w.heap.size, 5, none⟩ (.slice none 0 0)).setCell ⟨w.heap.size, 6, none⟩ (.slice none 0 0)).setCell ⟨w.heap.size, 7, none⟩ (.int .i64 0)).cell? ⟨w.heap.size + 1, 4, none⟩ = some (.slice none 0 0) ∧ ((((((((w5.setCell ⟨w.heap.size, 0, none⟩ (.int .i64 kd)).setCell ⟨w.heap.size, 1, none⟩ (.string T1)).setCell ⟨w.heap.size, 2, none⟩ (.int .i64 0)).setCell ⟨w.heap.size, 3, none⟩ (.string ⟨#[]⟩)).setCell ⟨w.heap.size, 4, none⟩ (.slice none 0 0)).setCell ⟨w.heap.size, 5, none⟩ (.slice none 0 0)).setCell ⟨w.heap.size, 6, none⟩ (.slice none 0 0)).setCell ⟨w.heap.size, 7, none⟩ (.int .i64 0)).cell? ⟨w.heap.size + 1, 5, none⟩ = some (.slice none 0 0) ∧ ((((((((w5.setCell ⟨w.heap.size, 0, none⟩ (.int .i64 kd)).setCell ⟨w.heap.size, 1, none⟩ (.string T1)).setCell ⟨w.heap.size, 2, none⟩ (.int .i64 0)).setCell ⟨w.heap.size, 3, none⟩ (.string ⟨#[]⟩)).setCell ⟨w.heap.size, 4, none⟩ (.slice none 0 0)).setCell ⟨w.heap.size, 5, none⟩ (.slice none 0 0)).setCell ⟨w.heap.size, 6, none⟩ (.slice none 0 0)).setCell ⟨w.heap.size, 7, none⟩ (.int .i64 0)).cell? ⟨w.heap.size + 1, 6, none⟩ = some (.slice none 0 0) ∧ ((((((((w5.setCell ⟨w.heap.size, 0, none⟩ (.int .i64 kd)).setCell ⟨w.heap.size, 1, none⟩ (.string T1)).setCell ⟨w.heap.size, 2, none⟩ (.int .i64 0)).setCell ⟨w.heap.size, 3, none⟩ (.string ⟨#[]⟩)).setCell ⟨w.heap.size, 4, none⟩ (.slice none 0 0)).setCell ⟨w.heap.size, 5, none⟩ (.slice none 0 0)).setCell ⟨w.heap.size, 6, none⟩ (.slice none 0 0)).setCell ⟨w.heap.size, 7, none⟩ (.int .i64 0)).cell? ⟨w.heap.size + 1, 7, none⟩ = some (.int .i64 0) := (box8 ((set8_ne (Nat.succ_ne_self _)).trans H5.out.e)).1; clear fz b5))
  go_wp2_with fail
  have hz := set8_at H5.out.r (.int .i64 kd) (.string T1) (.int .i64 0) (.string ⟨#[]⟩) (.slice none 0 0) (.slice none 0 0) (.slice none 0 0) (.int .i64 0)
  have hb := set8_bel H5.out.b (Nat.le_refl w.heap.size) (y0 := .int .i64 kd) (y1 := .string T1) (y2 := .int .i64 0) (y3 := .string ⟨#[]⟩) (y4 := .slice none 0 0) (y5 := .slice none 0 0) (y6 := .slice none 0 0) (y7 := .int .i64 0)
  have hv := set8_vn (q := w.heap.size) HW5.out (Nat.lt_succ_self _) (y0 := .int .i64 kd) (y1 := .string T1) (y2 := .int .i64 0) (y3 := .string ⟨#[]⟩) (y4 := .slice none 0 0) (y5 := .slice none 0 0) (y6 := .slice none 0 0) (y7 := .int .i64 0)
  have g0 := Lib.cell_of_heap hz 0
  have g1 := Lib.cell_of_heap hz 1
  have g2 := Lib.cell_of_heap hz 2
  have g3 := Lib.cell_of_heap hz 3
  have g4 := Lib.cell_of_heap hz 4
  have g5 := Lib.cell_of_heap hz 5
  have g6 := Lib.cell_of_heap hz 6
  have g7 := Lib.cell_of_heap hz 7
  unfold set8 at g0 g1 g2 g3 g4 g5 g6 g7 hb hv
  refine bodyPost_ret (v := .tuple #[.agg #[.int .i64 kd, .string T1, .int .i64 0, .string ⟨#[]⟩, .slice none 0 0, .slice none 0 0, .slice none 0 0, .int .i64 0], .string U2, .bool my]) (by simp [results, Tryz.results26, go_sem, g0, g1, g2, g3, g4, g5, g6, g7]) rfl ?_
  refine ⟨_, _, _, _, _, _, _, _, _, _, _, _, _, _, _, _, rfl, hb, ?_⟩
  cases my
  · exact .inl ⟨rfl, HQ0.out rfl⟩
  · obtain ⟨q0, q1⟩ := HQ1.out rfl
    refine .inr ⟨rfl, q0, ?_⟩
    rw [q1]
    exact ⟨rfl, HT.out.1.symm, rfl, HT.out.2.symm, hv.mono (Nat.le_succ _)⟩
end Go.Proofs.YtpnigkjmofhmbabGreat.DTake2
end
section
namespace Go.Proofs.YtpnigkjmofhmbabGreat.DTake3
open Go.RowKit Go.Maps
open Go.Proofs.YtpnigkjmofhmbabGreat.SetMath
open Go.Proofs.YtpnigkjmofhmbabGreat.BytesMath
open Go.Proofs.YtpnigkjmofhmbabGreat.FixMath
open Go.Proofs.YtpnigkjmofhmbabGreat.ValueMath
open Go.Proofs.YtpnigkjmofhmbabGreat.ReadMath
open Go.Proofs.YtpnigkjmofhmbabGreat.Base
open Go.Proofs.YtpnigkjmofhmbabGreat.Vals
open Go.Proofs.YtpnigkjmofhmbabGreat.Check0
open Go.Proofs.YtpnigkjmofhmbabGreat.Dec
open Go.Proofs.YtpnigkjmofhmbabGreat.SBase (Ef)
open Go.Proofs.YtpnigkjmofhmbabGreat.SFind (alb)
open Go.Proofs.YtpnigkjmofhmbabGreat.SSet (box8)
open Go.Proofs.YtpnigkjmofhmbabGreat.EMay
open Go.Proofs.YtpnigkjmofhmbabGreat.EAll (fO)
open Go.Proofs.YtpnigkjmofhmbabGreat.ERd
open Go.Proofs.YtpnigkjmofhmbabGreat.EEff
open Go.Proofs.YtpnigkjmofhmbabGreat.EDec
open Go.Proofs.YtpnigkjmofhmbabGreat.DFix
open Go.Proofs.YtpnigkjmofhmbabGreat.DTakM
open Go.Proofs.YtpnigkjmofhmbabGreat.DTake
set_option linter.unusedVariables false
set_option linter.unusedSimpArgs false
set_option maxHeartbeats 4000000 in
set_option maxRecDepth 100000 in
theorem t_due1 (c : UInt8) (r u : Bs) (N : Nat) (w : World) (hl : r.length < 549755813888) (hc : (c.toNat : Int) = 1) (hf : fxS r = ((N : Int), u, true)) (hN : N ≤ u.length) (hul : u.length ≤ r.length) (hf2 : (fxS (u.drop N)).2.2 = false) (hb : bad (c :: r)) : Calls Tryz.prog 26 #[.string (mk (c :: r))] w (TkE (c :: r) w) := by
  obtain ⟨W0, hW0⟩ : ∃ W0, W0 = (w.alloc zF).alloc (fO (c.toNat : Int) 0 0 ⟨#[]⟩ ⟨#[]⟩ (.slice none 0 0) (.slice none 0 0) (.slice none 0 0)) := ⟨_, rfl⟩
  have H0 := hid_of (show Bx w W0 (c.toNat : Int) 0 0 ⟨#[]⟩ ⟨#[]⟩ (.slice none 0 0) (.slice none 0 0) (.slice none 0 0) by rw [hW0]; exact bx0 w _)
  have HW0 := hid_of hW0
  have HF := hid_of (fix_call r W0 (by omega))
  have hI := cons_ix c r
  have hS := cons_cut c r
  have hcv : IntKind.i64.wrap (c.toNat : Int) = (c.toNat : Int) := IntWalk.i64_in _ (by have := UInt8.toNat_lt c; omega)
  have hsz := mk_size u
  have hlen : ¬ ((mk u).size : Int) < (N : Int) := by rw [hsz]; omega
  have i1 := icut_to u N hN
  have i2 := icut_from u N hN
  rw [hf] at HF
  simp only at HF
  have hk4 : ((c.toNat : Int) == 4) = false := by simp [hc]
  have hk1 : ((c.toNat : Int) == 1) = true := by simp [hc]
  have HF2 := hid_of fun (W : World) => fix_call (u.drop N) W (by rw [List.length_drop]; omega)
  rw [hf2] at HF2
  have HB := hid_of hb
  unfold TkE
  clear hW0 hl hc hf hb hsz hN hul hf2
  generalize (fxS (u.drop N)).1 = n2 at *
  generalize mk (fxS (u.drop N)).2.1 = U9 at *
  generalize mk (u.take N) = T1 at *
  generalize mk (u.drop N) = U2 at *
  generalize mk u = U at *
  generalize ((c.toNat : Nat) : Int) = kd at *
  generalize mk (c :: r) = X at *
  generalize mk r = Y at *
  go_enter Tryz.func26, Tryz.ntmps26
  go_wp2_with fail
  rw [← HW0.out]
  refine HF.out.mono ?_
  rintro e w1 ⟨rfl, b1⟩
  have H1 := hid_of (H0.out.low b1)
  clear b1 HF H0 HW0
  obtain ⟨⟨x0, x1, x2, x3, x4, x5, x6, x7⟩, fx⟩ := box8 H1.out.e
  obtain ⟨⟨y0, y1, y2, y3, y4, y5, y6, y7⟩, fy⟩ := box8 H1.out.r
  have fx0 := fx 0
  have fy0 := fy 0
  have fx1 := fx 1
  have fy1 := fy 1
  have fx2 := fx 2
  have fy2 := fy 2
  have fx3 := fx 3
  have fy3 := fy 3
  have fx4 := fx 4
  have fy4 := fy 4
  have fx5 := fx 5
  have fy5 := fy 5
  have fx6 := fx 6
  have fy6 := fy 6
  have fx7 := fx 7
  have fy7 := fy 7
  clear fx fy
  go_wp2_with fail
  go_region
  obtain ⟨V, hV⟩ : ∃ V, V = (w1.setCell ⟨w.heap.size + 1, 1, none⟩ (.string T1)).drew := ⟨_, rfl⟩
  have HVX := hid_of (show Bx w V kd 0 0 T1 ⟨#[]⟩ (.slice none 0 0) (.slice none 0 0) (.slice none 0 0) by rw [hV]; exact H1.out.key T1)
  rw [← hV]
  clear hV
  clear x0 x1 x2 x3 x4 x5 x6 x7 y0 y1 y2 y3 y4 y5 y6 y7 fx0 fy0 fx1 fy1 fx2 fy2 fx3 fy3 fx4 fy4 fx5 fy5 fx6 fy6 fx7 fy7
  obtain ⟨⟨x0, x1, x2, x3, x4, x5, x6, x7⟩, fx⟩ := box8 HVX.out.e
  obtain ⟨⟨y0, y1, y2, y3, y4, y5, y6, y7⟩, fy⟩ := box8 HVX.out.r
  have fx0 := fx 0
  have fy0 := fy 0
  have fx1 := fx 1
  have fy1 := fy 1
  have fx2 := fx 2
  have fy2 := fy 2
  have fx3 := fx 3
  have fy3 := fy 3
  have fx4 := fx 4
  have fy4 := fy 4
  have fx5 := fx 5
  have fy5 := fy 5
  have fx6 := fx 6
  have fy6 := fy 6
  have fx7 := fx 7
  have fy7 := fy 7
  clear fx fy
  go_wp2_with fail
  refine (HF2.out V).mono ?_
  rintro e w2 ⟨rfl, b2⟩
  have H2 := hid_of (HVX.out.low b2)
  clear b2 HF2
  clear x0 x1 x2 x3 x4 x5 x6 x7 y0 y1 y2 y3 y4 y5 y6 y7 fx0 fy0 fx1 fy1 fx2 fy2 fx3 fy3 fx4 fy4 fx5 fy5 fx6 fy6 fx7 fy7
  obtain ⟨⟨x0, x1, x2, x3, x4, x5, x6, x7⟩, fx⟩ := box8 H2.out.e
  obtain ⟨⟨y0, y1, y2, y3, y4, y5, y6, y7⟩, fy⟩ := box8 H2.out.r
  have fx0 := fx 0
  have fy0 := fy 0
  have fx1 := fx 1
  have fy1 := fy 1
  have fx2 := fx 2
  have fy2 := fy 2
  have fx3 := fx 3
  have fy3 := fy 3
  have fx4 := fx 4
  have fy4 := fy 4
  have fx5 := fx 5
  have fy5 := fy 5
  have fx6 := fx 6
  have fy6 := fy 6
  have fx7 := fx 7
  have fy7 := fy 7
  clear fx fy
  go_wp2_with fail
  have hz := set8_at (H2.out.due n2).r (.int .i64 kd) (.string T1) (.int .i64 0) (.string ⟨#[]⟩) (.slice none 0 0) (.slice none 0 0) (.slice none 0 0) (.int .i64 n2)
  have hb := set8_bel (H2.out.due n2).b (Nat.le_refl w.heap.size) (y0 := .int .i64 kd) (y1 := .string T1) (y2 := .int .i64 0) (y3 := .string ⟨#[]⟩) (y4 := .slice none 0 0) (y5 := .slice none 0 0) (y6 := .slice none 0 0) (y7 := .int .i64 n2)
  have g0 := Lib.cell_of_heap hz 0
  have g1 := Lib.cell_of_heap hz 1
  have g2 := Lib.cell_of_heap hz 2
  have g3 := Lib.cell_of_heap hz 3
  have g4 := Lib.cell_of_heap hz 4
  have g5 := Lib.cell_of_heap hz 5
  have g6 := Lib.cell_of_heap hz 6
  have g7 := Lib.cell_of_heap hz 7
  unfold set8 at g0 g1 g2 g3 g4 g5 g6 g7 hb
  refine bodyPost_ret (v := .tuple #[.agg #[.int .i64 kd, .string T1, .int .i64 0, .string ⟨#[]⟩, .slice none 0 0, .slice none 0 0, .slice none 0 0, .int .i64 n2], .string ⟨#[]⟩, .bool false]) (by simp [results, Tryz.results26, go_sem, g0, g1, g2, g3, g4, g5, g6, g7]) rfl ?_
  exact ⟨_, _, _, _, _, _, _, _, _, _, _, _, _, _, _, _, rfl, hb, .inl ⟨rfl, HB.out⟩⟩
set_option maxHeartbeats 4000000 in
set_option maxRecDepth 100000 in
theorem t_due3 (c : UInt8) (r u : Bs) (N : Nat) (w : World) (hl : r.length < 549755813888) (hc : (c.toNat : Int) = 3) (hf : fxS r = ((N : Int), u, true)) (hN : N ≤ u.length) (hul : u.length ≤ r.length) (hf2 : (fxS (u.drop N)).2.2 = false) (hb : bad (c :: r)) : Calls Tryz.prog 26 #[.string (mk (c :: r))] w (TkE (c :: r) w) := by
  obtain ⟨W0, hW0⟩ : ∃ W0, W0 = (w.alloc zF).alloc (fO (c.toNat : Int) 0 0 ⟨#[]⟩ ⟨#[]⟩ (.slice none 0 0) (.slice none 0 0) (.slice none 0 0)) := ⟨_, rfl⟩
  have H0 := hid_of (show Bx w W0 (c.toNat : Int) 0 0 ⟨#[]⟩ ⟨#[]⟩ (.slice none 0 0) (.slice none 0 0) (.slice none 0 0) by rw [hW0]; exact bx0 w _)
  have HW0 := hid_of hW0
  have HF := hid_of (fix_call r W0 (by omega))
  have hI := cons_ix c r
  have hS := cons_cut c r
  have hcv : IntKind.i64.wrap (c.toNat : Int) = (c.toNat : Int) := IntWalk.i64_in _ (by have := UInt8.toNat_lt c; omega)
  have hsz := mk_size u
  have hlen : ¬ ((mk u).size : Int) < (N : Int) := by rw [hsz]; omega
  have i1 := icut_to u N hN
  have i2 := icut_from u N hN
  rw [hf] at HF
  simp only at HF
  have hk4 : ((c.toNat : Int) == 4) = false := by simp [hc]
  have hk1 : ((c.toNat : Int) == 1) = false := by simp [hc]
  have hk3 : ((c.toNat : Int) == 3) = true := by simp [hc]
  have HF2 := hid_of fun (W : World) => fix_call (u.drop N) W (by rw [List.length_drop]; omega)
  rw [hf2] at HF2
  have HB := hid_of hb
  unfold TkE
  clear hW0 hl hc hf hb hsz hN hul hf2
  generalize (fxS (u.drop N)).1 = n2 at *
  generalize mk (fxS (u.drop N)).2.1 = U9 at *
  generalize mk (u.take N) = T1 at *
  generalize mk (u.drop N) = U2 at *
  generalize mk u = U at *
  generalize ((c.toNat : Nat) : Int) = kd at *
  generalize mk (c :: r) = X at *
  generalize mk r = Y at *
  go_enter Tryz.func26, Tryz.ntmps26
  go_wp2_with fail
  rw [← HW0.out]
  refine HF.out.mono ?_
  rintro e w1 ⟨rfl, b1⟩
  have H1 := hid_of (H0.out.low b1)
  clear b1 HF H0 HW0
  obtain ⟨⟨x0, x1, x2, x3, x4, x5, x6, x7⟩, fx⟩ := box8 H1.out.e
  obtain ⟨⟨y0, y1, y2, y3, y4, y5, y6, y7⟩, fy⟩ := box8 H1.out.r
  have fx0 := fx 0
  have fy0 := fy 0
  have fx1 := fx 1
  have fy1 := fy 1
  have fx2 := fx 2
  have fy2 := fy 2
  have fx3 := fx 3
  have fy3 := fy 3
  have fx4 := fx 4
  have fy4 := fy 4
  have fx5 := fx 5
  have fy5 := fy 5
  have fx6 := fx 6
  have fy6 := fy 6
  have fx7 := fx 7
  have fy7 := fy 7
  clear fx fy
  go_wp2_with fail
  go_region
  obtain ⟨V, hV⟩ : ∃ V, V = (w1.setCell ⟨w.heap.size + 1, 1, none⟩ (.string T1)).drew := ⟨_, rfl⟩
  have HVX := hid_of (show Bx w V kd 0 0 T1 ⟨#[]⟩ (.slice none 0 0) (.slice none 0 0) (.slice none 0 0) by rw [hV]; exact H1.out.key T1)
  rw [← hV]
  clear hV
  clear x0 x1 x2 x3 x4 x5 x6 x7 y0 y1 y2 y3 y4 y5 y6 y7 fx0 fy0 fx1 fy1 fx2 fy2 fx3 fy3 fx4 fy4 fx5 fy5 fx6 fy6 fx7 fy7
  obtain ⟨⟨x0, x1, x2, x3, x4, x5, x6, x7⟩, fx⟩ := box8 HVX.out.e
  obtain ⟨⟨y0, y1, y2, y3, y4, y5, y6, y7⟩, fy⟩ := box8 HVX.out.r
  have fx0 := fx 0
  have fy0 := fy 0
  have fx1 := fx 1
  have fy1 := fy 1
  have fx2 := fx 2
  have fy2 := fy 2
  have fx3 := fx 3
  have fy3 := fy 3
  have fx4 := fx 4
  have fy4 := fy 4
  have fx5 := fx 5
  have fy5 := fy 5
  have fx6 := fx 6
  have fy6 := fy 6
  have fx7 := fx 7
  have fy7 := fy 7
  clear fx fy
  go_wp2_with fail
  refine (HF2.out V).mono ?_
  rintro e w2 ⟨rfl, b2⟩
  have H2 := hid_of (HVX.out.low b2)
  clear b2 HF2
  clear x0 x1 x2 x3 x4 x5 x6 x7 y0 y1 y2 y3 y4 y5 y6 y7 fx0 fy0 fx1 fy1 fx2 fy2 fx3 fy3 fx4 fy4 fx5 fy5 fx6 fy6 fx7 fy7
  obtain ⟨⟨x0, x1, x2, x3, x4, x5, x6, x7⟩, fx⟩ := box8 H2.out.e
  obtain ⟨⟨y0, y1, y2, y3, y4, y5, y6, y7⟩, fy⟩ := box8 H2.out.r
  have fx0 := fx 0
  have fy0 := fy 0
  have fx1 := fx 1
  have fy1 := fy 1
  have fx2 := fx 2
  have fy2 := fy 2
  have fx3 := fx 3
  have fy3 := fy 3
  have fx4 := fx 4
  have fy4 := fy 4
  have fx5 := fx 5
  have fy5 := fy 5
  have fx6 := fx 6
  have fy6 := fy 6
  have fx7 := fx 7
  have fy7 := fy 7
  clear fx fy
  go_wp2_with fail
  have hz := set8_at (H2.out.due n2).r (.int .i64 kd) (.string T1) (.int .i64 0) (.string ⟨#[]⟩) (.slice none 0 0) (.slice none 0 0) (.slice none 0 0) (.int .i64 n2)
  have hb := set8_bel (H2.out.due n2).b (Nat.le_refl w.heap.size) (y0 := .int .i64 kd) (y1 := .string T1) (y2 := .int .i64 0) (y3 := .string ⟨#[]⟩) (y4 := .slice none 0 0) (y5 := .slice none 0 0) (y6 := .slice none 0 0) (y7 := .int .i64 n2)
  have g0 := Lib.cell_of_heap hz 0
  have g1 := Lib.cell_of_heap hz 1
  have g2 := Lib.cell_of_heap hz 2
  have g3 := Lib.cell_of_heap hz 3
  have g4 := Lib.cell_of_heap hz 4
  have g5 := Lib.cell_of_heap hz 5
  have g6 := Lib.cell_of_heap hz 6
  have g7 := Lib.cell_of_heap hz 7
  unfold set8 at g0 g1 g2 g3 g4 g5 g6 g7 hb
  refine bodyPost_ret (v := .tuple #[.agg #[.int .i64 kd, .string T1, .int .i64 0, .string ⟨#[]⟩, .slice none 0 0, .slice none 0 0, .slice none 0 0, .int .i64 n2], .string ⟨#[]⟩, .bool false]) (by simp [results, Tryz.results26, go_sem, g0, g1, g2, g3, g4, g5, g6, g7]) rfl ?_
  exact ⟨_, _, _, _, _, _, _, _, _, _, _, _, _, _, _, _, rfl, hb, .inl ⟨rfl, HB.out⟩⟩
set_option maxHeartbeats 4000000 in
set_option maxRecDepth 100000 in
theorem t_three (c : UInt8) (r u u3 : Bs) (N : Nat) (M : Int) (w : World) (hl : r.length < 549755813888) (hc : (c.toNat : Int) = 3) (hf : fxS r = ((N : Int), u, true)) (hN : N ≤ u.length) (hul : u.length ≤ r.length) (hf2 : fxS (u.drop N) = (M, u3, true)) (hq0 : mayE ⟨(c.toNat : Int), u.take N, zV, M⟩ = false → bad (c :: r)) (hq1 : mayE ⟨(c.toNat : Int), u.take N, zV, M⟩ = true → ¬ bad (c :: r) ∧ efS (c :: r, false) = (⟨(c.toNat : Int), u.take N, zV, M⟩, u3, false)) : Calls Tryz.prog 26 #[.string (mk (c :: r))] w (TkE (c :: r) w) := by
  obtain ⟨W0, hW0⟩ : ∃ W0, W0 = (w.alloc zF).alloc (fO (c.toNat : Int) 0 0 ⟨#[]⟩ ⟨#[]⟩ (.slice none 0 0) (.slice none 0 0) (.slice none 0 0)) := ⟨_, rfl⟩
  have H0 := hid_of (show Bx w W0 (c.toNat : Int) 0 0 ⟨#[]⟩ ⟨#[]⟩ (.slice none 0 0) (.slice none 0 0) (.slice none 0 0) by rw [hW0]; exact bx0 w _)
  have HW0 := hid_of hW0
  have HF := hid_of (fix_call r W0 (by omega))
  have hI := cons_ix c r
  have hS := cons_cut c r
  have hcv : IntKind.i64.wrap (c.toNat : Int) = (c.toNat : Int) := IntWalk.i64_in _ (by have := UInt8.toNat_lt c; omega)
  have hsz := mk_size u
  have hlen : ¬ ((mk u).size : Int) < (N : Int) := by rw [hsz]; omega
  have i1 := icut_to u N hN
  have i2 := icut_from u N hN
  rw [hf] at HF
  simp only at HF
  have hk4 : ((c.toNat : Int) == 4) = false := by simp [hc]
  have hk1 : ((c.toNat : Int) == 1) = false := by simp [hc]
  have hk3 : ((c.toNat : Int) == 3) = true := by simp [hc]
  have HF2 := hid_of fun (W : World) => fix_call (u.drop N) W (by rw [List.length_drop]; omega)
  rw [hf2] at HF2
  simp only at HF2
  have HM := hid_of fun (W : World) => FMay.rmay_call (f := ⟨(c.toNat : Int), u.take N, zV, M⟩) (vz 0 W).va EDec.welz
  simp only at HM
  have HQ0 := hid_of hq0
  have HQ1 := hid_of hq1
  unfold TkE
  clear hW0 hl hc hf hq0 hq1 hsz hN hul hf2
  obtain ⟨my, hmy⟩ : ∃ my, mayE ⟨(c.toNat : Int), u.take N, zV, M⟩ = my := ⟨_, rfl⟩
  rw [hmy] at HQ0 HQ1 HM
  clear hmy
  generalize hT1 : mk (u.take N) = T1 at *
  generalize hU3 : mk u3 = U3 at *
  generalize mk (u.drop N) = U2 at *
  generalize mk u = U at *
  have HT := hid_of (And.intro hT1 hU3)
  clear hT1 hU3
  generalize ((c.toNat : Nat) : Int) = kd at *
  generalize mk (c :: r) = X at *
  generalize mk r = Y at *
  go_enter Tryz.func26, Tryz.ntmps26
  go_wp2_with fail
  rw [← HW0.out]
  refine HF.out.mono ?_
  rintro e w1 ⟨rfl, b1⟩
  have H1 := hid_of (H0.out.low b1)
  clear b1 HF H0 HW0
  obtain ⟨⟨x0, x1, x2, x3, x4, x5, x6, x7⟩, fx⟩ := box8 H1.out.e
  obtain ⟨⟨y0, y1, y2, y3, y4, y5, y6, y7⟩, fy⟩ := box8 H1.out.r
  have fx0 := fx 0
  have fy0 := fy 0
  have fx1 := fx 1
  have fy1 := fy 1
  have fx2 := fx 2
  have fy2 := fy 2
  have fx3 := fx 3
  have fy3 := fy 3
  have fx4 := fx 4
  have fy4 := fy 4
  have fx5 := fx 5
  have fy5 := fy 5
  have fx6 := fx 6
  have fy6 := fy 6
  have fx7 := fx 7
  have fy7 := fy 7
  clear fx fy
  go_wp2_with fail
  go_region
  obtain ⟨V1, hV⟩ : ∃ V1, V1 = (w1.setCell ⟨w.heap.size + 1, 1, none⟩ (.string T1)).drew := ⟨_, rfl⟩
  have HV1 := hid_of (show Bx w V1 kd 0 0 T1 ⟨#[]⟩ (.slice none 0 0) (.slice none 0 0) (.slice none 0 0) by rw [hV]; exact H1.out.key T1)
  rw [← hV]
  clear hV
  clear x0 x1 x2 x3 x4 x5 x6 x7 y0 y1 y2 y3 y4 y5 y6 y7 fx0 fy0 fx1 fy1 fx2 fy2 fx3 fy3 fx4 fy4 fx5 fy5 fx6 fy6 fx7 fy7
  obtain ⟨⟨x0, x1, x2, x3, x4, x5, x6, x7⟩, fx⟩ := box8 HV1.out.e
  obtain ⟨⟨y0, y1, y2, y3, y4, y5, y6, y7⟩, fy⟩ := box8 HV1.out.r
  have fx0 := fx 0
  have fy0 := fy 0
  have fx1 := fx 1
  have fy1 := fy 1
  have fx2 := fx 2
  have fy2 := fy 2
  have fx3 := fx 3
  have fy3 := fy 3
  have fx4 := fx 4
  have fy4 := fy 4
  have fx5 := fx 5
  have fy5 := fy 5
  have fx6 := fx 6
  have fy6 := fy 6
  have fx7 := fx 7
  have fy7 := fy 7
  clear fx fy
  go_wp2_with fail
  refine (HF2.out V1).mono ?_
  rintro e w2 ⟨rfl, b2⟩
  have H2 := hid_of (HV1.out.low b2)
  clear b2 HF2
  clear x0 x1 x2 x3 x4 x5 x6 x7 y0 y1 y2 y3 y4 y5 y6 y7 fx0 fy0 fx1 fy1 fx2 fy2 fx3 fy3 fx4 fy4 fx5 fy5 fx6 fy6 fx7 fy7
  obtain ⟨⟨x0, x1, x2, x3, x4, x5, x6, x7⟩, fx⟩ := box8 H2.out.e
  obtain ⟨⟨y0, y1, y2, y3, y4, y5, y6, y7⟩, fy⟩ := box8 H2.out.r
  have fx0 := fx 0
  have fy0 := fy 0
  have fx1 := fx 1
  have fy1 := fy 1
  have fx2 := fx 2
  have fy2 := fy 2
  have fx3 := fx 3
  have fy3 := fy 3
  have fx4 := fx 4
  have fy4 := fy 4
  have fx5 := fx 5
  have fy5 := fy 5
  have fx6 := fx 6
  have fy6 := fy 6
  have fx7 := fx 7
  have fy7 := fy 7
  clear fx fy
  go_wp2_with fail
  obtain ⟨V, hV⟩ : ∃ V, V = w2.setCell ⟨w.heap.size + 1, 7, none⟩ (.int .i64 M) := ⟨_, rfl⟩
  have HVX := hid_of (show Bx w V kd 0 M T1 ⟨#[]⟩ (.slice none 0 0) (.slice none 0 0) (.slice none 0 0) by rw [hV]; exact H2.out.due M)
  rw [← hV]
  clear hV
  have HVN := hid_of (vz (w.heap.size + 1) V)
  clear x0 x1 x2 x3 x4 x5 x6 x7 y0 y1 y2 y3 y4 y5 y6 y7 fx0 fy0 fx1 fy1 fx2 fy2 fx3 fy3 fx4 fy4 fx5 fy5 fx6 fy6 fx7 fy7
  obtain ⟨⟨x0, x1, x2, x3, x4, x5, x6, x7⟩, fx⟩ := box8 HVX.out.e
  obtain ⟨⟨y0, y1, y2, y3, y4, y5, y6, y7⟩, fy⟩ := box8 HVX.out.r
  have fx0 := fx 0
  have fy0 := fy 0
  have fx1 := fx 1
  have fy1 := fy 1
  have fx2 := fx 2
  have fy2 := fy 2
  have fx3 := fx 3
  have fy3 := fy 3
  have fx4 := fx 4
  have fy4 := fy 4
  have fx5 := fx 5
  have fy5 := fy 5
  have fx6 := fx 6
  have fy6 := fy 6
  have fx7 := fx 7
  have fy7 := fy 7
  clear fx fy
  have s0 : V.drew.cell? ⟨w.heap.size + 1, 0, none⟩ = some (.int .i64 kd) ∧ V.drew.cell? ⟨w.heap.size + 1, 1, none⟩ = some (.string T1) ∧ V.drew.cell? ⟨w.heap.size + 1, 2, none⟩ = some (.int .i64 0) ∧ V.drew.cell? ⟨w.heap.size + 1, 3, none⟩ = some (.string ⟨#[]⟩) ∧ V.drew.cell? ⟨w.heap.size + 1, 4, none⟩ = some (.slice none 0 0) ∧ V.drew.cell? ⟨w.heap.size + 1, 5, none⟩ = some (.slice none 0 0) ∧ V.drew.cell? ⟨w.heap.size + 1, 6, none⟩ = some (.slice none 0 0) ∧ V.drew.cell? ⟨w.heap.size + 1, 7, none⟩ = some (.int .i64 M) := ⟨x0, x1, x2, x3, x4, x5, x6, x7⟩
  go_region_held3 (fun W => W.cell? ⟨w.heap.size + 1, 0, none⟩ = some (.int .i64 kd) ∧ W.cell? ⟨w.heap.size + 1, 1, none⟩ = some (.string T1) ∧ W.cell? ⟨w.heap.size + 1, 2, none⟩ = some (.int .i64 0) ∧ W.cell? ⟨w.heap.size + 1, 3, none⟩ = some (.string ⟨#[]⟩) ∧ W.cell? ⟨w.heap.size + 1, 4, none⟩ = some (.slice none 0 0) ∧ W.cell? ⟨w.heap.size + 1, 5, none⟩ = some (.slice none 0 0) ∧ W.cell? ⟨w.heap.size + 1, 6, none⟩ = some (.slice none 0 0) ∧ W.cell? ⟨w.heap.size + 1, 7, none⟩ = some (.int .i64 M)) (first | with_reducible exact s0 | with_reducible exact s5 | with_reducible exact k5) (first
    | (go_at_call 12; refine (HM.out V.drew).mono ?_; rintro e w5 ⟨rfl, b5⟩; have H5 := hid_of (HVX.out.drew.low b5); have HW5 := hid_of (HVN.out.below (FRow.bel (Below.refl _ V).drew b5 (Nat.le_refl _))); obtain ⟨⟨z0, z1, z2, z3, z4, z5, z6, z7⟩, fz⟩ := box8 H5.out.r; have fz0 := fz 0; have fz1 := fz 1; have fz2 := fz 2; have fz3 := fz 3; have fz4 := fz 4; have fz5 := fz 5; have fz6 := fz 6; have fz7 := fz 7; have s5 : w5.cell? ⟨w.heap.size + 1, 0, none⟩ = some (.int .i64 kd) ∧ w5.cell? ⟨w.heap.size + 1, 1, none⟩ = some (.string T1) ∧ w5.cell? ⟨w.heap.size + 1, 2, none⟩ = some (.int .i64 0) ∧ w5.cell? ⟨w.heap.size + 1, 3, none⟩ = some (.string ⟨#[]⟩) ∧ w5.cell? ⟨w.heap.size + 1, 4, none⟩ = some (.slice none 0 0) ∧ w5.cell? ⟨w.heap.size + 1, 5, none⟩ = some (.slice none 0 0) ∧ w5.cell? ⟨w.heap.size + 1, 6, none⟩ = some (.slice none 0 0) ∧ w5.cell? ⟨w.heap.size + 1, 7, none⟩ = some (.int .i64 M) := (box8 H5.out.e).1; have k5 : ((((((((w5.setCell ⟨w.heap.size, 0, none⟩ (.int .i64 kd)).setCell ⟨w.heap.size, 1, none⟩ (.string T1)).setCell ⟨w.heap.size, 2, none⟩ (.int .i64 0)).setCell ⟨w.heap.size, 3, none⟩ (.string ⟨#[]⟩)).setCell ⟨w.heap.size, 4, none⟩ (.slice none 0 0)).setCell ⟨w.heap.size, 5, none⟩ (.slice none 0 0)).setCell ⟨w.heap.size, 6, none⟩ (.slice none 0 0)).setCell ⟨w.heap.size, 7, none⟩ (.int .i64 M)).cell? ⟨w.heap.size + 1, 0, none⟩ = some (.int .i64 kd) ∧ ((((((((w5.setCell ⟨w.heap.size, 0, none⟩ (.int .i64 kd)).setCell ⟨w.heap.size, 1, none⟩ (.string T1)).setCell ⟨w.heap.size, 2, none⟩ (.int .i64 0)).setCell ⟨w.heap.size, 3, none⟩ (.string ⟨#[]⟩)).setCell ⟨w.heap.size, 4, none⟩ (.slice none 0 0)).setCell ⟨w.heap.size, 5, none⟩ (.slice none 0 0)).setCell ⟨w.heap.size, 6, none⟩ (.slice none 0 0)).setCell ⟨w.heap.size, 7, none⟩ (.int .i64 M)).cell? ⟨w.heap.size + 1, 1, none⟩ = some (.string T1) ∧ ((((((((w5.setCell ⟨w.heap.size, 0, none⟩ (.int .i64 kd)).setCell ⟨w.heap.size, 1, none⟩ (.string T1)).setCell ⟨w.heap.size, 2, none⟩ (.int .i64 0)).setCell ⟨w.heap.size, 3, none⟩ (.string ⟨#[]⟩)).setCell ⟨w.heap.size, 4, none⟩ (.slice none 0 0)).setCell ⟨w.heap.size, 5, none⟩ (.slice none 0 0)).setCell ⟨w.heap.size, 6, none⟩ (.slice none 0 0)).setCell ⟨w.heap.size, 7, none⟩ (.int .i64 M)).cell? ⟨w.heap.size + 1, 2, none⟩ = some (.int .i64 0) ∧ ((((((((w5.setCell ⟨w.heap.size, 0, none⟩ (.int .i64 kd)).setCell ⟨w.heap.size, 1, none⟩ (.string T1)).setCell ⟨w.heap.size, 2, none⟩ (.int .i64 0)).setCell ⟨w.heap.size, 3, none⟩ (.string ⟨#[]⟩)).setCell ⟨w.heap.size, 4, none⟩ (.slice none 0 0)).setCell ⟨w.heap.size, 5, none⟩ (.slice none 0 0)).setCell ⟨w.heap.size, 6, none⟩ (.slice none 0 0)).setCell ⟨w.heap.size, 7, none⟩ (.int .i64 M)).cell? ⟨w.heap.size + 1, 3, none⟩ = some (.string ⟨#[]⟩) ∧ ((((((((w5.setCell ⟨w.heap.size, 0, none⟩ (.int .i64 kd)).setCell ⟨w.heap.size, 1, none⟩ (.string T1)).setCell ⟨w.heap.size, 2, none⟩ (.int .i64 0)).setCell ⟨w.heap.size, 3, none⟩ (.string ⟨#[]⟩)).setCell ⟨w.heap.size, 4, none⟩ (.slice none 0 0)).setCell ⟨w.heap.size, 5, none⟩ (.slice none 0 0)).setCell ⟨w.heap.size, 6, none⟩ (.slice none 0 0)).setCell ⟨w.heap.size, 7, none⟩ (.int .i64 M)).cell? ⟨w.heap.size + 1, 4, none⟩ = some (.slice none 0 0) ∧ ((((((((w5.setCell ⟨w.heap.size, 0, none⟩ (.int .i64 kd)).setCell ⟨w.heap.size, 1, none⟩ (.string T1)).setCell ⟨w.heap.size, 2, none⟩ (.int .i64 0)).setCell ⟨w.heap.size, 3, none⟩ (.string ⟨#[]⟩)).setCell ⟨w.heap.size, 4, none⟩ (.slice none 0 0)).setCell ⟨w.heap.size, 5, none⟩ (.slice none 0 0)).setCell ⟨w.heap.size, 6, none⟩ (.slice none 0 0)).setCell ⟨w.heap.size, 7, none⟩ (.int .i64 M)).cell? ⟨w.heap.size + 1, 5, none⟩ = some (.slice none 0 0) ∧ ((((((((w5.setCell ⟨w.heap.size, 0, none⟩ (.int .i64 kd)).setCell ⟨w.heap.size, 1, none⟩ (.string T1)).setCell ⟨w.heap.size, 2, none⟩ (.int .i64 0)).setCell ⟨w.heap.size, 3, none⟩ (.string ⟨#[]⟩)).setCell ⟨w.heap.size, 4, none⟩ (.slice none 0 0)).setCell ⟨w.heap.size, 5, none⟩ (.slice none 0 0)).setCell ⟨w.heap.size, 6, none⟩ (.slice none 0 0)).setCell ⟨w.heap.size, 7, none⟩ (.int .i64 M)).cell? ⟨w.heap.size + 1, 6, none⟩ = some (.slice none 0 0) ∧ ((((((((w5.setCell ⟨w.heap.size, 0, none⟩ (.int .i64 kd)).setCell ⟨w.heap.size, 1, none⟩ (.string T1)).setCell ⟨w.heap.size, 2, none⟩ (.int .i64 0)).setCell ⟨w.heap.size, 3, none⟩ (.string ⟨#[]⟩)).setCell ⟨w.heap.size, 4, none⟩ (.slice none 0 0)).setCell ⟨w.heap.size, 5, none⟩ (.slice none 0 0)).setCell ⟨w.heap.size, 6, none⟩ (.slice none 0 0)).setCell ⟨w.heap.size, 7, none⟩ (.int .i64 M)).cell? ⟨w.heap.size + 1, 7, none⟩ = some (.int .i64 M) := (box8 ((set8_ne (Nat.succ_ne_self _)).trans H5.out.e)).1; clear fz b5))
  go_wp2_with fail
  have hz := set8_at H5.out.r (.int .i64 kd) (.string T1) (.int .i64 0) (.string ⟨#[]⟩) (.slice none 0 0) (.slice none 0 0) (.slice none 0 0) (.int .i64 M)
  have hb := set8_bel H5.out.b (Nat.le_refl w.heap.size) (y0 := .int .i64 kd) (y1 := .string T1) (y2 := .int .i64 0) (y3 := .string ⟨#[]⟩) (y4 := .slice none 0 0) (y5 := .slice none 0 0) (y6 := .slice none 0 0) (y7 := .int .i64 M)
  have hv := set8_vn (q := w.heap.size) HW5.out (Nat.lt_succ_self _) (y0 := .int .i64 kd) (y1 := .string T1) (y2 := .int .i64 0) (y3 := .string ⟨#[]⟩) (y4 := .slice none 0 0) (y5 := .slice none 0 0) (y6 := .slice none 0 0) (y7 := .int .i64 M)
  have g0 := Lib.cell_of_heap hz 0
  have g1 := Lib.cell_of_heap hz 1
  have g2 := Lib.cell_of_heap hz 2
  have g3 := Lib.cell_of_heap hz 3
  have g4 := Lib.cell_of_heap hz 4
  have g5 := Lib.cell_of_heap hz 5
  have g6 := Lib.cell_of_heap hz 6
  have g7 := Lib.cell_of_heap hz 7
  unfold set8 at g0 g1 g2 g3 g4 g5 g6 g7 hb hv
  refine bodyPost_ret (v := .tuple #[.agg #[.int .i64 kd, .string T1, .int .i64 0, .string ⟨#[]⟩, .slice none 0 0, .slice none 0 0, .slice none 0 0, .int .i64 M], .string U3, .bool my]) (by simp [results, Tryz.results26, go_sem, g0, g1, g2, g3, g4, g5, g6, g7]) rfl ?_
  refine ⟨_, _, _, _, _, _, _, _, _, _, _, _, _, _, _, _, rfl, hb, ?_⟩
  cases my
  · exact .inl ⟨rfl, HQ0.out rfl⟩
  · obtain ⟨q0, q1⟩ := HQ1.out rfl
    refine .inr ⟨rfl, q0, ?_⟩
    rw [q1]
    exact ⟨rfl, HT.out.1.symm, rfl, HT.out.2.symm, hv.mono (Nat.le_succ _)⟩
end Go.Proofs.YtpnigkjmofhmbabGreat.DTake3
end
