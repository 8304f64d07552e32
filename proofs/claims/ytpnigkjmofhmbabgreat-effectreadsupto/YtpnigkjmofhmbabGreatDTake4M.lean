/- The document's take: an effect with a value. The document's take: all clear; all kinds. -/
import Derived.Test.YtpnigkjmofhmbabGreatRCheckM
import Derived.Test.YtpnigkjmofhmbabGreatDFixM
import Derived.Test.YtpnigkjmofhmbabGreatRDec5M
import Derived.Deep.RegionHeld3
import Derived.Test.YtpnigkjmofhmbabGreatDTake2M
section
namespace Go.Proofs.YtpnigkjmofhmbabGreat.DTake4
open Go.RowKit Go.Maps
open Go.Proofs.YtpnigkjmofhmbabGreat.SetMath
open Go.Proofs.YtpnigkjmofhmbabGreat.BytesMath
open Go.Proofs.YtpnigkjmofhmbabGreat.FixMath
open Go.Proofs.YtpnigkjmofhmbabGreat.ValueMath
open Go.Proofs.YtpnigkjmofhmbabGreat.ReadMath
open Go.Proofs.YtpnigkjmofhmbabGreat.Base
open Go.Proofs.YtpnigkjmofhmbabGreat.Vals
open Go.Proofs.YtpnigkjmofhmbabGreat.Check0
open Go.Proofs.YtpnigkjmofhmbabGreat.Dec
open Go.Proofs.YtpnigkjmofhmbabGreat.SBase (Ef)
open Go.Proofs.YtpnigkjmofhmbabGreat.SFind (alb)
open Go.Proofs.YtpnigkjmofhmbabGreat.SSet (box8)
open Go.Proofs.YtpnigkjmofhmbabGreat.EMay
open Go.Proofs.YtpnigkjmofhmbabGreat.EAll (fO)
open Go.Proofs.YtpnigkjmofhmbabGreat.ERd
open Go.Proofs.YtpnigkjmofhmbabGreat.EEff
open Go.Proofs.YtpnigkjmofhmbabGreat.EDec
open Go.Proofs.YtpnigkjmofhmbabGreat.DFix
open Go.Proofs.YtpnigkjmofhmbabGreat.DTakM
open Go.Proofs.YtpnigkjmofhmbabGreat.DTake
set_option linter.unusedVariables false
set_option linter.unusedSimpArgs false
set_option maxHeartbeats 4000000 in
set_option maxRecDepth 100000 in
theorem t_dec (c : UInt8) (r u u3 : Bs) (N m : Nat) (M f : Int) (x : Vl) (w : World) (hl : r.length < 549755813888) (hc : (c.toNat : Int) = 1) (hf : fxS r = ((N : Int), u, true)) (hN : N ≤ u.length) (hul : u.length ≤ r.length) (hf2 : fxS (u.drop N) = (M, u3, true)) (hul3 : u3.length ≤ u.length) (hd : decV u3 = (x, m, f)) (hz : f ≠ 0) (hb : bad (c :: r)) : Calls Tryz.prog 26 #[.string (mk (c :: r))] w (TkE (c :: r) w) := by
  obtain ⟨W0, hW0⟩ : ∃ W0, W0 = (w.alloc zF).alloc (fO (c.toNat : Int) 0 0 ⟨#[]⟩ ⟨#[]⟩ (.slice none 0 0) (.slice none 0 0) (.slice none 0 0)) := ⟨_, rfl⟩
  have H0 := hid_of (show Bx w W0 (c.toNat : Int) 0 0 ⟨#[]⟩ ⟨#[]⟩ (.slice none 0 0) (.slice none 0 0) (.slice none 0 0) by rw [hW0]; exact bx0 w _)
  have HW0 := hid_of hW0
  have HF := hid_of (fix_call r W0 (by omega))
  have hI := cons_ix c r
  have hS := cons_cut c r
  have hcv : IntKind.i64.wrap (c.toNat : Int) = (c.toNat : Int) := IntWalk.i64_in _ (by have := UInt8.toNat_lt c; omega)
  have hsz := mk_size u
  have hlen : ¬ ((mk u).size : Int) < (N : Int) := by rw [hsz]; omega
  have i1 := icut_to u N hN
  have i2 := icut_from u N hN
  rw [hf] at HF
  simp only at HF
  have hk4 : ((c.toNat : Int) == 4) = false := by simp [hc]
  have hk1 : ((c.toNat : Int) == 1) = true := by simp [hc]
  have HF2 := hid_of fun (W : World) => fix_call (u.drop N) W (by rw [List.length_drop]; omega)
  rw [hf2] at HF2
  simp only at HF2
  have HDC := hid_of fun (W : World) => RDec0.rdecode_call u3 W (by omega)
  unfold RT at HDC
  rw [hd] at HDC
  simp only at HDC
  have hz0 : (f == 0) = false := by simp [hz]
  have HB := hid_of hb
  unfold TkE
  clear hW0 hl hc hf hb hsz hN hul hf2 hul3 hd hz
  generalize mk (u.take N) = T1 at *
  generalize mk u3 = U3 at *
  generalize mk (u.drop N) = U2 at *
  generalize mk u = U at *
  generalize ((c.toNat : Nat) : Int) = kd at *
  generalize mk (c :: r) = X at *
  generalize mk r = Y at *
  go_enter Tryz.func26, Tryz.ntmps26
  go_wp2_with fail
  rw [← HW0.out]
  refine HF.out.mono ?_
  rintro e w1 ⟨rfl, b1⟩
  have H1 := hid_of (H0.out.low b1)
  clear b1 HF H0 HW0
  obtain ⟨⟨x0, x1, x2, x3, x4, x5, x6, x7⟩, fx⟩ := box8 H1.out.e
  obtain ⟨⟨y0, y1, y2, y3, y4, y5, y6, y7⟩, fy⟩ := box8 H1.out.r
  have fx0 := fx 0
  have fy0 := fy 0
  have fx1 := fx 1
  have fy1 := fy 1
  have fx2 := fx 2
  have fy2 := fy 2
  have fx3 := fx 3
  have fy3 := fy 3
  have fx4 := fx 4
  have fy4 := fy 4
  have fx5 := fx 5
  have fy5 := fy 5
  have fx6 := fx 6
  have fy6 := fy 6
  have fx7 := fx 7
  have fy7 := fy 7
  clear fx fy
  go_wp2_with fail
  go_region
  obtain ⟨V1, hV⟩ : ∃ V1, V1 = (w1.setCell ⟨w.heap.size + 1, 1, none⟩ (.string T1)).drew := ⟨_, rfl⟩
  have HV1 := hid_of (show Bx w V1 kd 0 0 T1 ⟨#[]⟩ (.slice none 0 0) (.slice none 0 0) (.slice none 0 0) by rw [hV]; exact H1.out.key T1)
  rw [← hV]
  clear hV
  clear x0 x1 x2 x3 x4 x5 x6 x7 y0 y1 y2 y3 y4 y5 y6 y7 fx0 fy0 fx1 fy1 fx2 fy2 fx3 fy3 fx4 fy4 fx5 fy5 fx6 fy6 fx7 fy7
  obtain ⟨⟨x0, x1, x2, x3, x4, x5, x6, x7⟩, fx⟩ := box8 HV1.out.e
  obtain ⟨⟨y0, y1, y2, y3, y4, y5, y6, y7⟩, fy⟩ := box8 HV1.out.r
  have fx0 := fx 0
  have fy0 := fy 0
  have fx1 := fx 1
  have fy1 := fy 1
  have fx2 := fx 2
  have fy2 := fy 2
  have fx3 := fx 3
  have fy3 := fy 3
  have fx4 := fx 4
  have fy4 := fy 4
  have fx5 := fx 5
  have fy5 := fy 5
  have fx6 := fx 6
  have fy6 := fy 6
  have fx7 := fx 7
  have fy7 := fy 7
  clear fx fy
  go_wp2_with fail
  refine (HF2.out V1).mono ?_
  rintro e w2 ⟨rfl, b2⟩
  have H2 := hid_of (HV1.out.low b2)
  clear b2 HF2
  obtain ⟨V2, hV2⟩ : ∃ V2, V2 = w2.setCell ⟨w.heap.size + 1, 7, none⟩ (.int .i64 M) := ⟨_, rfl⟩
  have HX2 := hid_of (show Bx w V2 kd 0 M T1 ⟨#[]⟩ (.slice none 0 0) (.slice none 0 0) (.slice none 0 0) by rw [hV2]; exact H2.out.due M)
  have HV2 := hid_of hV2
  clear hV2
  clear x0 x1 x2 x3 x4 x5 x6 x7 y0 y1 y2 y3 y4 y5 y6 y7 fx0 fy0 fx1 fy1 fx2 fy2 fx3 fy3 fx4 fy4 fx5 fy5 fx6 fy6 fx7 fy7
  obtain ⟨⟨x0, x1, x2, x3, x4, x5, x6, x7⟩, fx⟩ := box8 H2.out.e
  obtain ⟨⟨y0, y1, y2, y3, y4, y5, y6, y7⟩, fy⟩ := box8 H2.out.r
  have fx0 := fx 0
  have fy0 := fy 0
  have fx1 := fx 1
  have fy1 := fy 1
  have fx2 := fx 2
  have fy2 := fy 2
  have fx3 := fx 3
  have fy3 := fy 3
  have fx4 := fx 4
  have fy4 := fy 4
  have fx5 := fx 5
  have fy5 := fy 5
  have fx6 := fx 6
  have fy6 := fy 6
  have fx7 := fx 7
  have fy7 := fy 7
  clear fx fy
  go_wp2_with fail
  rw [← HV2.out]
  refine (HDC.out V2).mono ?_
  rintro e w3 ⟨v, rfl, hv, b3⟩
  obtain ⟨j2, J, a1, n1, c1, a2, n2, c2, a3, n3, c3, rfl⟩ := vn_shape hv
  have H3 := hid_of (HX2.out.low b3)
  have HN3 := hid_of (hv.mono (show w.heap.size + 2 ≤ V2.heap.size by have := lt_of HX2.out.e; omega))
  obtain ⟨V3, hV3⟩ : ∃ V3, V3 = w3.alloc (.cells #[.int .i64 j2, .string J, .slice a1 n1 c1, .slice a2 n2 c2, .slice a3 n3 c3] 38) := ⟨_, rfl⟩
  have bV3 : Below w3.heap.size w3 V3 := by rw [hV3]; exact alb _ _
  have HX3 := hid_of (H3.out.low bV3)
  have HV3 := hid_of hV3
  have HVB := hid_of (show V3.heap[w3.heap.size]? = some (.cells #[.int .i64 j2, .string J, .slice a1 n1 c1, .slice a2 n2 c2, .slice a3 n3 c3] 38 (0, 0)) by rw [hV3]; exact heap_alloc_new w3 _)
  have HNV := hid_of (HN3.out.below bV3)
  have hl3 : w.heap.size + 1 < w3.heap.size := lt_of H3.out.e
  clear b3 hv hV3 bV3 HDC H2
  clear x0 x1 x2 x3 x4 x5 x6 x7 y0 y1 y2 y3 y4 y5 y6 y7 fx0 fy0 fx1 fy1 fx2 fy2 fx3 fy3 fx4 fy4 fx5 fy5 fx6 fy6 fx7 fy7
  obtain ⟨⟨x0, x1, x2, x3, x4, x5, x6, x7⟩, fx⟩ := box8 H3.out.e
  obtain ⟨⟨y0, y1, y2, y3, y4, y5, y6, y7⟩, fy⟩ := box8 H3.out.r
  have fx0 := fx 0
  have fy0 := fy 0
  have fx1 := fx 1
  have fy1 := fy 1
  have fx2 := fx 2
  have fy2 := fy 2
  have fx3 := fx 3
  have fy3 := fy 3
  have fx4 := fx 4
  have fy4 := fy 4
  have fx5 := fx 5
  have fy5 := fy 5
  have fx6 := fx 6
  have fy6 := fy 6
  have fx7 := fx 7
  have fy7 := fy 7
  clear fx fy
  have hl3' : w.heap.size < w3.heap.size := by omega
  have hne3 : w.heap.size ≠ w3.heap.size := by omega
  go_wp2_with fail
  have hz := set8_at HX3.out.r (.int .i64 kd) (.string T1) (.int .i64 0) (.string ⟨#[]⟩) (.slice none 0 0) (.slice none 0 0) (.slice none 0 0) (.int .i64 M)
  have hb := set8_bel HX3.out.b (Nat.le_refl w.heap.size) (y0 := .int .i64 kd) (y1 := .string T1) (y2 := .int .i64 0) (y3 := .string ⟨#[]⟩) (y4 := .slice none 0 0) (y5 := .slice none 0 0) (y6 := .slice none 0 0) (y7 := .int .i64 M)
  rw [HV3.out, set8_alloc _ _ _ hl3'] at hz hb
  have g0 := Lib.cell_of_heap hz 0
  have g1 := Lib.cell_of_heap hz 1
  have g2 := Lib.cell_of_heap hz 2
  have g3 := Lib.cell_of_heap hz 3
  have g4 := Lib.cell_of_heap hz 4
  have g5 := Lib.cell_of_heap hz 5
  have g6 := Lib.cell_of_heap hz 6
  have g7 := Lib.cell_of_heap hz 7
  unfold set8 at g0 g1 g2 g3 g4 g5 g6 g7 hb
  refine bodyPost_ret (v := .tuple #[.agg #[.int .i64 kd, .string T1, .int .i64 0, .string ⟨#[]⟩, .slice none 0 0, .slice none 0 0, .slice none 0 0, .int .i64 M], .string ⟨#[]⟩, .bool false]) (by simp [results, Tryz.results26, go_sem, g0, g1, g2, g3, g4, g5, g6, g7]) rfl ?_
  exact ⟨_, _, _, _, _, _, _, _, _, _, _, _, _, _, _, _, rfl, hb, .inl ⟨rfl, HB.out⟩⟩
set_option maxHeartbeats 4000000 in
set_option maxRecDepth 100000 in
theorem t_one (c : UInt8) (r u u3 : Bs) (N m : Nat) (M : Int) (x : Vl) (w : World) (hl : r.length < 549755813888) (hc : (c.toNat : Int) = 1) (hf : fxS r = ((N : Int), u, true)) (hN : N ≤ u.length) (hul : u.length ≤ r.length) (hf2 : fxS (u.drop N) = (M, u3, true)) (hul3 : u3.length ≤ u.length) (hd : decV u3 = (x, m, 0)) (hx : Wel x) (hq0 : mayE ⟨(c.toNat : Int), u.take N, x, M⟩ = false → bad (c :: r)) (hq1 : mayE ⟨(c.toNat : Int), u.take N, x, M⟩ = true → ¬ bad (c :: r) ∧ efS (c :: r, false) = (⟨(c.toNat : Int), u.take N, x, M⟩, u3.drop m, false)) : Calls Tryz.prog 26 #[.string (mk (c :: r))] w (TkE (c :: r) w) := by
  obtain ⟨W0, hW0⟩ : ∃ W0, W0 = (w.alloc zF).alloc (fO (c.toNat : Int) 0 0 ⟨#[]⟩ ⟨#[]⟩ (.slice none 0 0) (.slice none 0 0) (.slice none 0 0)) := ⟨_, rfl⟩
  have H0 := hid_of (show Bx w W0 (c.toNat : Int) 0 0 ⟨#[]⟩ ⟨#[]⟩ (.slice none 0 0) (.slice none 0 0) (.slice none 0 0) by rw [hW0]; exact bx0 w _)
  have HW0 := hid_of hW0
  have HF := hid_of (fix_call r W0 (by omega))
  have hI := cons_ix c r
  have hS := cons_cut c r
  have hcv : IntKind.i64.wrap (c.toNat : Int) = (c.toNat : Int) := IntWalk.i64_in _ (by have := UInt8.toNat_lt c; omega)
  have hsz := mk_size u
  have hlen : ¬ ((mk u).size : Int) < (N : Int) := by rw [hsz]; omega
  have i1 := icut_to u N hN
  have i2 := icut_from u N hN
  rw [hf] at HF
  simp only at HF
  have hk4 : ((c.toNat : Int) == 4) = false := by simp [hc]
  have hk1 : ((c.toNat : Int) == 1) = true := by simp [hc]
  have HF2 := hid_of fun (W : World) => fix_call (u.drop N) W (by rw [List.length_drop]; omega)
  rw [hf2] at HF2
  simp only at HF2
  have HDC := hid_of fun (W : World) => RDec0.rdecode_call u3 W (by omega)
  unfold RT at HDC
  rw [hd] at HDC
  simp only at HDC
  have hm := dec_le hd
  have i3 := icut_from u3 m hm
  have hz0 : ((0 : Int) == 0) = true := rfl
  have HM := hid_of fun (W : World) {a1 a2 a3 : Option Addr} {n1 c1 n2 c2 n3 c3 : Nat} {T : ByteArray} {k2 : Int} (hv : VA W (.agg #[.int .i64 k2, .string T, .slice a1 n1 c1, .slice a2 n2 c2, .slice a3 n3 c3]) x) => FMay.rmay_call (f := ⟨(c.toNat : Int), u.take N, x, M⟩) hv hx
  simp only at HM
  have HQ0 := hid_of hq0
  have HQ1 := hid_of hq1
  unfold TkE
  clear hW0 hl hc hf hq0 hq1 hsz hN hul hf2 hul3 hd hx hm
  obtain ⟨my, hmy⟩ : ∃ my, mayE ⟨(c.toNat : Int), u.take N, x, M⟩ = my := ⟨_, rfl⟩
  rw [hmy] at HQ0 HQ1 HM
  clear hmy
  generalize hT1 : mk (u.take N) = T1 at *
  generalize hU4 : mk (u3.drop m) = U4 at *
  generalize mk u3 = U3 at *
  generalize mk (u.drop N) = U2 at *
  generalize mk u = U at *
  have HT := hid_of (And.intro hT1 hU4)
  clear hT1 hU4
  generalize ((c.toNat : Nat) : Int) = kd at *
  generalize mk (c :: r) = X at *
  generalize mk r = Y at *
  go_enter Tryz.func26, Tryz.ntmps26
  go_wp2_with fail
  rw [← HW0.out]
  refine HF.out.mono ?_
  rintro e w1 ⟨rfl, b1⟩
  have H1 := hid_of (H0.out.low b1)
  clear b1 HF H0 HW0
  obtain ⟨⟨x0, x1, x2, x3, x4, x5, x6, x7⟩, fx⟩ := box8 H1.out.e
  obtain ⟨⟨y0, y1, y2, y3, y4, y5, y6, y7⟩, fy⟩ := box8 H1.out.r
  have fx0 := fx 0
  have fy0 := fy 0
  have fx1 := fx 1
  have fy1 := fy 1
  have fx2 := fx 2
  have fy2 := fy 2
  have fx3 := fx 3
  have fy3 := fy 3
  have fx4 := fx 4
  have fy4 := fy 4
  have fx5 := fx 5
  have fy5 := fy 5
  have fx6 := fx 6
  have fy6 := fy 6
  have fx7 := fx 7
  have fy7 := fy 7
  clear fx fy
  go_wp2_with fail
  go_region
  obtain ⟨V1, hV⟩ : ∃ V1, V1 = (w1.setCell ⟨w.heap.size + 1, 1, none⟩ (.string T1)).drew := ⟨_, rfl⟩
  have HV1 := hid_of (show Bx w V1 kd 0 0 T1 ⟨#[]⟩ (.slice none 0 0) (.slice none 0 0) (.slice none 0 0) by rw [hV]; exact H1.out.key T1)
  rw [← hV]
  clear hV
  clear x0 x1 x2 x3 x4 x5 x6 x7 y0 y1 y2 y3 y4 y5 y6 y7 fx0 fy0 fx1 fy1 fx2 fy2 fx3 fy3 fx4 fy4 fx5 fy5 fx6 fy6 fx7 fy7
  obtain ⟨⟨x0, x1, x2, x3, x4, x5, x6, x7⟩, fx⟩ := box8 HV1.out.e
  obtain ⟨⟨y0, y1, y2, y3, y4, y5, y6, y7⟩, fy⟩ := box8 HV1.out.r
  have fx0 := fx 0
  have fy0 := fy 0
  have fx1 := fx 1
  have fy1 := fy 1
  have fx2 := fx 2
  have fy2 := fy 2
  have fx3 := fx 3
  have fy3 := fy 3
  have fx4 := fx 4
  have fy4 := fy 4
  have fx5 := fx 5
  have fy5 := fy 5
  have fx6 := fx 6
  have fy6 := fy 6
  have fx7 := fx 7
  have fy7 := fy 7
  clear fx fy
  go_wp2_with fail
  refine (HF2.out V1).mono ?_
  rintro e w2 ⟨rfl, b2⟩
  have H2 := hid_of (HV1.out.low b2)
  clear b2 HF2
  obtain ⟨V2, hV2⟩ : ∃ V2, V2 = w2.setCell ⟨w.heap.size + 1, 7, none⟩ (.int .i64 M) := ⟨_, rfl⟩
  have HX2 := hid_of (show Bx w V2 kd 0 M T1 ⟨#[]⟩ (.slice none 0 0) (.slice none 0 0) (.slice none 0 0) by rw [hV2]; exact H2.out.due M)
  have HV2 := hid_of hV2
  clear hV2
  clear x0 x1 x2 x3 x4 x5 x6 x7 y0 y1 y2 y3 y4 y5 y6 y7 fx0 fy0 fx1 fy1 fx2 fy2 fx3 fy3 fx4 fy4 fx5 fy5 fx6 fy6 fx7 fy7
  obtain ⟨⟨x0, x1, x2, x3, x4, x5, x6, x7⟩, fx⟩ := box8 H2.out.e
  obtain ⟨⟨y0, y1, y2, y3, y4, y5, y6, y7⟩, fy⟩ := box8 H2.out.r
  have fx0 := fx 0
  have fy0 := fy 0
  have fx1 := fx 1
  have fy1 := fy 1
  have fx2 := fx 2
  have fy2 := fy 2
  have fx3 := fx 3
  have fy3 := fy 3
  have fx4 := fx 4
  have fy4 := fy 4
  have fx5 := fx 5
  have fy5 := fy 5
  have fx6 := fx 6
  have fy6 := fy 6
  have fx7 := fx 7
  have fy7 := fy 7
  clear fx fy
  go_wp2_with fail
  rw [← HV2.out]
  refine (HDC.out V2).mono ?_
  rintro e w3 ⟨v, rfl, hv, b3⟩
  obtain ⟨j2, J, a1, n1, c1, a2, n2, c2, a3, n3, c3, rfl⟩ := vn_shape hv
  have H3 := hid_of (HX2.out.low b3)
  have HN3 := hid_of (hv.mono (show w.heap.size + 2 ≤ V2.heap.size by have := lt_of HX2.out.e; omega))
  obtain ⟨V3, hV3⟩ : ∃ V3, V3 = w3.alloc (.cells #[.int .i64 j2, .string J, .slice a1 n1 c1, .slice a2 n2 c2, .slice a3 n3 c3] 38) := ⟨_, rfl⟩
  have bV3 : Below w3.heap.size w3 V3 := by rw [hV3]; exact alb _ _
  have HX3 := hid_of (H3.out.low bV3)
  have HV3 := hid_of hV3
  have HVB := hid_of (show V3.heap[w3.heap.size]? = some (.cells #[.int .i64 j2, .string J, .slice a1 n1 c1, .slice a2 n2 c2, .slice a3 n3 c3] 38 (0, 0)) by rw [hV3]; exact heap_alloc_new w3 _)
  have HNV := hid_of (HN3.out.below bV3)
  have hl3 : w.heap.size + 1 < w3.heap.size := lt_of H3.out.e
  clear b3 hv hV3 bV3 HDC H2
  clear x0 x1 x2 x3 x4 x5 x6 x7 y0 y1 y2 y3 y4 y5 y6 y7 fx0 fy0 fx1 fy1 fx2 fy2 fx3 fy3 fx4 fy4 fx5 fy5 fx6 fy6 fx7 fy7
  obtain ⟨⟨x0, x1, x2, x3, x4, x5, x6, x7⟩, fx⟩ := box8 H3.out.e
  obtain ⟨⟨y0, y1, y2, y3, y4, y5, y6, y7⟩, fy⟩ := box8 H3.out.r
  have fx0 := fx 0
  have fy0 := fy 0
  have fx1 := fx 1
  have fy1 := fy 1
  have fx2 := fx 2
  have fy2 := fy 2
  have fx3 := fx 3
  have fy3 := fy 3
  have fx4 := fx 4
  have fy4 := fy 4
  have fx5 := fx 5
  have fy5 := fy 5
  have fx6 := fx 6
  have fy6 := fy 6
  have fx7 := fx 7
  have fy7 := fy 7
  clear fx fy
  go_wp2_with fail
  rw [← HV3.out]
  clear x0 x1 x2 x3 x4 x5 x6 x7 y0 y1 y2 y3 y4 y5 y6 y7 fx0 fy0 fx1 fy1 fx2 fy2 fx3 fy3 fx4 fy4 fx5 fy5 fx6 fy6 fx7 fy7
  obtain ⟨⟨x0, x1, x2, x3, x4, x5, x6, x7⟩, fx⟩ := box8 HX3.out.e
  obtain ⟨⟨y0, y1, y2, y3, y4, y5, y6, y7⟩, fy⟩ := box8 HX3.out.r
  have fx0 := fx 0
  have fy0 := fy 0
  have fx1 := fx 1
  have fy1 := fy 1
  have fx2 := fx 2
  have fy2 := fy 2
  have fx3 := fx 3
  have fy3 := fy 3
  have fx4 := fx 4
  have fy4 := fy 4
  have fx5 := fx 5
  have fy5 := fy 5
  have fx6 := fx 6
  have fy6 := fy 6
  have fx7 := fx 7
  have fy7 := fy 7
  clear fx fy
  obtain ⟨⟨p0, p1, p2, p3, p4⟩, -⟩ := box5 HVB.out
  go_region
  obtain ⟨V, hV⟩ : ∃ V, V = (((((V3.setCell ⟨w.heap.size + 1, 2, none⟩ (.int .i64 j2)).setCell ⟨w.heap.size + 1, 3, none⟩ (.string J)).setCell ⟨w.heap.size + 1, 4, none⟩ (.slice a1 n1 c1)).setCell ⟨w.heap.size + 1, 5, none⟩ (.slice a2 n2 c2)).setCell ⟨w.heap.size + 1, 6, none⟩ (.slice a3 n3 c3)).drew := ⟨_, rfl⟩
  have HVX := hid_of (show Bx w V kd j2 M T1 J (.slice a1 n1 c1) (.slice a2 n2 c2) (.slice a3 n3 c3) by rw [hV]; exact (HX3.out.val j2 J _ _ _).drew)
  have HVN := hid_of (show VN (w.heap.size + 1) V (.agg #[.int .i64 j2, .string J, .slice a1 n1 c1, .slice a2 n2 c2, .slice a3 n3 c3]) x by
    rw [hV]
    exact (VN.below (vn_set (vn_set (vn_set (vn_set (vn_set HNV.out (Nat.lt_succ_self _) _) (Nat.lt_succ_self _) _) (Nat.lt_succ_self _) _) (Nat.lt_succ_self _) _) (Nat.lt_succ_self _) _) (Below.refl _ _).drew).mono (Nat.le_succ _))
  rw [← hV]
  clear hV p0 p1 p2 p3 p4
  have HMV := hid_of (HM.out V.drew (HVN.out.below (Below.refl _ V).drew).va)
  clear x0 x1 x2 x3 x4 x5 x6 x7 y0 y1 y2 y3 y4 y5 y6 y7 fx0 fy0 fx1 fy1 fx2 fy2 fx3 fy3 fx4 fy4 fx5 fy5 fx6 fy6 fx7 fy7
  obtain ⟨⟨x0, x1, x2, x3, x4, x5, x6, x7⟩, fx⟩ := box8 HVX.out.e
  obtain ⟨⟨y0, y1, y2, y3, y4, y5, y6, y7⟩, fy⟩ := box8 HVX.out.r
  have fx0 := fx 0
  have fy0 := fy 0
  have fx1 := fx 1
  have fy1 := fy 1
  have fx2 := fx 2
  have fy2 := fy 2
  have fx3 := fx 3
  have fy3 := fy 3
  have fx4 := fx 4
  have fy4 := fy 4
  have fx5 := fx 5
  have fy5 := fy 5
  have fx6 := fx 6
  have fy6 := fy 6
  have fx7 := fx 7
  have fy7 := fy 7
  clear fx fy
  go_wp2_with fail
  clear x0 x1 x2 x3 x4 x5 x6 x7 y0 y1 y2 y3 y4 y5 y6 y7 fx0 fy0 fx1 fy1 fx2 fy2 fx3 fy3 fx4 fy4 fx5 fy5 fx6 fy6 fx7 fy7
  obtain ⟨⟨x0, x1, x2, x3, x4, x5, x6, x7⟩, fx⟩ := box8 HVX.out.e
  obtain ⟨⟨y0, y1, y2, y3, y4, y5, y6, y7⟩, fy⟩ := box8 HVX.out.r
  have fx0 := fx 0
  have fy0 := fy 0
  have fx1 := fx 1
  have fy1 := fy 1
  have fx2 := fx 2
  have fy2 := fy 2
  have fx3 := fx 3
  have fy3 := fy 3
  have fx4 := fx 4
  have fy4 := fy 4
  have fx5 := fx 5
  have fy5 := fy 5
  have fx6 := fx 6
  have fy6 := fy 6
  have fx7 := fx 7
  have fy7 := fy 7
  clear fx fy
  have s0 : V.drew.cell? ⟨w.heap.size + 1, 0, none⟩ = some (.int .i64 kd) ∧ V.drew.cell? ⟨w.heap.size + 1, 1, none⟩ = some (.string T1) ∧ V.drew.cell? ⟨w.heap.size + 1, 2, none⟩ = some (.int .i64 j2) ∧ V.drew.cell? ⟨w.heap.size + 1, 3, none⟩ = some (.string J) ∧ V.drew.cell? ⟨w.heap.size + 1, 4, none⟩ = some (.slice a1 n1 c1) ∧ V.drew.cell? ⟨w.heap.size + 1, 5, none⟩ = some (.slice a2 n2 c2) ∧ V.drew.cell? ⟨w.heap.size + 1, 6, none⟩ = some (.slice a3 n3 c3) ∧ V.drew.cell? ⟨w.heap.size + 1, 7, none⟩ = some (.int .i64 M) := ⟨x0, x1, x2, x3, x4, x5, x6, x7⟩
  go_region_held3 (fun W => W.cell? ⟨w.heap.size + 1, 0, none⟩ = some (.int .i64 kd) ∧ W.cell? ⟨w.heap.size + 1, 1, none⟩ = some (.string T1) ∧ W.cell? ⟨w.heap.size + 1, 2, none⟩ = some (.int .i64 j2) ∧ W.cell? ⟨w.heap.size + 1, 3, none⟩ = some (.string J) ∧ W.cell? ⟨w.heap.size + 1, 4, none⟩ = some (.slice a1 n1 c1) ∧ W.cell? ⟨w.heap.size + 1, 5, none⟩ = some (.slice a2 n2 c2) ∧ W.cell? ⟨w.heap.size + 1, 6, none⟩ = some (.slice a3 n3 c3) ∧ W.cell? ⟨w.heap.size + 1, 7, none⟩ = some (.int .i64 M)) (first | with_reducible exact s0 | with_reducible exact s5 | with_reducible exact k5) (first
    | (go_at_call 12; refine HMV.out.mono ?_; rintro e w5 ⟨rfl, b5⟩; have H5 := hid_of (HVX.out.drew.low b5); have HW5 := hid_of (HVN.out.below (FRow.bel (Below.refl _ V).drew b5 (Nat.le_refl _))); obtain ⟨⟨z0, z1, z2, z3, z4, z5, z6, z7⟩, fz⟩ := box8 H5.out.r; have fz0 := fz 0; have fz1 := fz 1; have fz2 := fz 2; have fz3 := fz 3; have fz4 := fz 4; have fz5 := fz 5; have fz6 := fz 6; have fz7 := fz 7; have s5 : w5.cell? ⟨w.heap.size + 1, 0, none⟩ = some (.int .i64 kd) ∧ w5.cell? ⟨w.heap.size + 1, 1, none⟩ = some (.string T1) ∧ w5.cell? ⟨w.heap.size + 1, 2, none⟩ = some (.int .i64 j2) ∧ w5.cell? ⟨w.heap.size + 1, 3, none⟩ = some (.string J) ∧ w5.cell? ⟨w.heap.size + 1, 4, none⟩ = some (.slice a1 n1 c1) ∧ w5.cell? ⟨w.heap.size + 1, 5, none⟩ = some (.slice a2 n2 c2) ∧ w5.cell? ⟨w.heap.size + 1, 6, none⟩ = some (.slice a3 n3 c3) ∧ w5.cell? ⟨w.heap.size + 1, 7, none⟩ = some (.int .i64 M) := (box8 H5.out.e).1; have k5 : ((((((((w5.setCell ⟨w.heap.size, 0, none⟩ (.int .i64 kd)).setCell ⟨w.heap.size, 1, none⟩ (.string T1)).setCell ⟨w.heap.size, 2, none⟩ (.int .i64 j2)).setCell ⟨w.heap.size, 3, none⟩ (.string J)).setCell ⟨w.heap.size, 4, none⟩ (.slice a1 n1 c1)).setCell ⟨w.heap.size, 5, none⟩ (.slice a2 n2 c2)).setCell ⟨w.heap.size, 6, none⟩ (.slice a3 n3 c3)).setCell ⟨w.heap.size, 7, none⟩ (.int .i64 M)).cell? ⟨w.heap.size + 1, 0, none⟩ = some (.int .i64 kd) ∧ ((((((((w5.setCell ⟨w.heap.size, 0, none⟩ (.int .i64 kd)).setCell ⟨w.heap.size, 1, none⟩ (.string T1)).setCell ⟨w.heap.size, 2, none⟩ (.int .i64 j2)).setCell ⟨w.heap.size, 3, none⟩ (.string J)).setCell ⟨w.heap.size, 4, none⟩ (.slice a1 n1 c1)).setCell ⟨w.heap.size, 5, none⟩ (.slice a2 n2 c2)).setCell ⟨w.heap.size, 6, none⟩ (.slice a3 n3 c3)).setCell ⟨w.heap.size, 7, none⟩ (.int .i64 M)).cell? ⟨w.heap.size + 1, 1, none⟩ = some (.string T1) ∧ ((((((((w5.setCell ⟨w.heap.size, 0, none⟩ (.int .i64 kd)).setCell ⟨w.heap.size, 1, none⟩ (.string T1)).setCell ⟨w.heap.size, 2, none⟩ (.int .i64 j2)).setCell ⟨w.heap.size, 3, none⟩ (.string J)).setCell ⟨w.heap.size, 4, none⟩ (.slice a1 n1 c1)).setCell ⟨w.heap.size, 5, none⟩ (.slice a2 n2 c2)).setCell ⟨w.heap.size, 6, none⟩ (.slice a3 n3 c3)).setCell ⟨w.heap.size, 7, none⟩ (.int .i64 M)).cell? ⟨w.heap.size + 1, 2, none⟩ = some (.int .i64 j2) ∧ ((((((((w5.setCell ⟨w.heap.size, 0, none⟩ (.int .i64 kd)).setCell ⟨w.heap.size, 1, none⟩ (.string T1)).setCell ⟨w.heap.size, 2, none⟩ (.int .i64 j2)).setCell ⟨w.heap.size, 3, none⟩ (.string J)).setCell ⟨w.heap.size, 4, none⟩ (.slice a1 n1 c1)).setCell ⟨w.heap.size, 5, none⟩ (.slice a2 n2 c2)).setCell ⟨w.heap.size, 6, none⟩ (.slice a3 n3 c3)).setCell ⟨w.heap.size, 7, none⟩ (.int .i64 M)).cell? ⟨w.heap.size + 1, 3, none⟩ = some (.string J) ∧ ((((((((w5.setCell ⟨w.heap.size, 0, none⟩ (.int .i64 kd)).setCell ⟨w.heap.size, 1, none⟩ (.string T1)).setCell ⟨w.heap.size, 2, none⟩ (.int .i64 j2)).setCell ⟨w.heap.size, 3, none⟩ (.string J)).setCell ⟨w.heap.size, 4, none⟩ (.slice a1 n1 c1)).setCell ⟨w.heap.size, 5, none⟩ (.slice a2 n2 c2)).setCell ⟨w.heap.size, 6, none⟩ (.slice a3 n3 c3)).setCell ⟨w.heap.size, 7, none⟩ (.int .i64 M)).cell? ⟨w.heap.size + 1, 4, none⟩ = some (.slice a1 n1 c1) ∧ ((((((((w5.setCell ⟨w.heap.size, 0, none⟩ (.int .i64 kd)).setCell ⟨w.heap.size, 1, none⟩ (.string T1)).setCell ⟨w.heap.size, 2, none⟩ (.int .i64 j2)).setCell ⟨w.heap.size, 3, none⟩ (.string J)).setCell ⟨w.heap.size, 4, none⟩ (.slice a1 n1 c1)).setCell ⟨w.heap.size, 5, none⟩ (.slice a2 n2 c2)).setCell ⟨w.heap.size, 6, none⟩ (.slice a3 n3 c3)).setCell ⟨w.heap.size, 7, none⟩ (.int .i64 M)).cell? ⟨w.heap.size + 1, 5, none⟩ = some (.slice a2 n2 c2) ∧ ((((((((w5.setCell ⟨w.heap.size, 0, none⟩ (.int .i64 kd)).setCell ⟨w.heap.size, 1, none⟩ (.string T1)).setCell ⟨w.heap.size, 2, none⟩ (.int .i64 j2)).setCell ⟨w.heap.size, 3, none⟩ (.string J)).setCell ⟨w.heap.size, 4, none⟩ (.slice a1 n1 c1)).setCell ⟨w.heap.size, 5, none⟩ (.slice a2 n2 c2)).setCell ⟨w.heap.size, 6, none⟩ (.slice a3 n3 c3)).setCell ⟨w.heap.size, 7, none⟩ (.int .i64 M)).cell? ⟨w.heap.size + 1, 6, none⟩ = some (.slice a3 n3 c3) ∧ ((((((((w5.setCell ⟨w.heap.size, 0, none⟩ (.int .i64 kd)).setCell ⟨w.heap.size, 1, none⟩ (.string T1)).setCell ⟨w.heap.size, 2, none⟩ (.int .i64 j2)).setCell ⟨w.heap.size, 3, none⟩ (.string J)).setCell ⟨w.heap.size, 4, none⟩ (.slice a1 n1 c1)).setCell ⟨w.heap.size, 5, none⟩ (.slice a2 n2 c2)).setCell ⟨w.heap.size, 6, none⟩ (.slice a3 n3 c3)).setCell ⟨w.heap.size, 7, none⟩ (.int .i64 M)).cell? ⟨w.heap.size + 1, 7, none⟩ = some (.int .i64 M) := (box8 ((set8_ne (Nat.succ_ne_self _)).trans H5.out.e)).1; clear fz b5))
  go_wp2_with fail
  have hz := set8_at H5.out.r (.int .i64 kd) (.string T1) (.int .i64 j2) (.string J) (.slice a1 n1 c1) (.slice a2 n2 c2) (.slice a3 n3 c3) (.int .i64 M)
  have hb := set8_bel H5.out.b (Nat.le_refl w.heap.size) (y0 := .int .i64 kd) (y1 := .string T1) (y2 := .int .i64 j2) (y3 := .string J) (y4 := .slice a1 n1 c1) (y5 := .slice a2 n2 c2) (y6 := .slice a3 n3 c3) (y7 := .int .i64 M)
  have hv := set8_vn (q := w.heap.size) HW5.out (Nat.lt_succ_self _) (y0 := .int .i64 kd) (y1 := .string T1) (y2 := .int .i64 j2) (y3 := .string J) (y4 := .slice a1 n1 c1) (y5 := .slice a2 n2 c2) (y6 := .slice a3 n3 c3) (y7 := .int .i64 M)
  have g0 := Lib.cell_of_heap hz 0
  have g1 := Lib.cell_of_heap hz 1
  have g2 := Lib.cell_of_heap hz 2
  have g3 := Lib.cell_of_heap hz 3
  have g4 := Lib.cell_of_heap hz 4
  have g5 := Lib.cell_of_heap hz 5
  have g6 := Lib.cell_of_heap hz 6
  have g7 := Lib.cell_of_heap hz 7
  unfold set8 at g0 g1 g2 g3 g4 g5 g6 g7 hb hv
  refine bodyPost_ret (v := .tuple #[.agg #[.int .i64 kd, .string T1, .int .i64 j2, .string J, .slice a1 n1 c1, .slice a2 n2 c2, .slice a3 n3 c3, .int .i64 M], .string U4, .bool my]) (by simp [results, Tryz.results26, go_sem, g0, g1, g2, g3, g4, g5, g6, g7]) rfl ?_
  refine ⟨_, _, _, _, _, _, _, _, _, _, _, _, _, _, _, _, rfl, hb, ?_⟩
  cases my
  · exact .inl ⟨rfl, HQ0.out rfl⟩
  · obtain ⟨q0, q1⟩ := HQ1.out rfl
    refine .inr ⟨rfl, q0, ?_⟩
    rw [q1]
    exact ⟨rfl, HT.out.1.symm, rfl, HT.out.2.symm, hv.mono (Nat.le_succ _)⟩
end Go.Proofs.YtpnigkjmofhmbabGreat.DTake4
end
section
namespace Go.Proofs.YtpnigkjmofhmbabGreat.DTake5
open Go.RowKit Go.Maps
open Go.Proofs.YtpnigkjmofhmbabGreat.SetMath
open Go.Proofs.YtpnigkjmofhmbabGreat.BytesMath
open Go.Proofs.YtpnigkjmofhmbabGreat.FixMath
open Go.Proofs.YtpnigkjmofhmbabGreat.ValueMath
open Go.Proofs.YtpnigkjmofhmbabGreat.ReadMath
open Go.Proofs.YtpnigkjmofhmbabGreat.Base
open Go.Proofs.YtpnigkjmofhmbabGreat.Vals
open Go.Proofs.YtpnigkjmofhmbabGreat.Check0
open Go.Proofs.YtpnigkjmofhmbabGreat.Dec
open Go.Proofs.YtpnigkjmofhmbabGreat.SBase (Ef)
open Go.Proofs.YtpnigkjmofhmbabGreat.SFind (alb)
open Go.Proofs.YtpnigkjmofhmbabGreat.SSet (box8)
open Go.Proofs.YtpnigkjmofhmbabGreat.EMay
open Go.Proofs.YtpnigkjmofhmbabGreat.EAll (fO)
open Go.Proofs.YtpnigkjmofhmbabGreat.ERd
open Go.Proofs.YtpnigkjmofhmbabGreat.EEff
open Go.Proofs.YtpnigkjmofhmbabGreat.EDec
open Go.Proofs.YtpnigkjmofhmbabGreat.DFix
open Go.Proofs.YtpnigkjmofhmbabGreat.DTakM
open Go.Proofs.YtpnigkjmofhmbabGreat.DTake
set_option linter.unusedVariables false
set_option linter.unusedSimpArgs false
set_option maxHeartbeats 4000000 in
set_option maxRecDepth 100000 in
theorem t_four (r : Bs) (w : World) (hl : r.length < 549755813888) : Calls Tryz.prog 26 #[.string (mk (4 :: r))] w (TkE (4 :: r) w) := by
  have hI := cons_ix 4 r
  have hS := cons_cut 4 r
  have hcv : IntKind.i64.wrap 4 = 4 := IntWalk.i64_in _ (by omega)
  simp only [show (((4 : UInt8).toNat : Nat) : Int) = 4 from rfl] at hI
  have HG := hid_of (g4 r)
  have hmy : mayE ⟨4, [], zV, 0⟩ = true := by decide
  have HNB := hid_of (show ¬ bad (4 :: r) from fun h => by rw [no_bad (g4 r), hmy] at h; cases h)
  clear hmy hl
  unfold TkE
  generalize hX : mk (4 :: r) = X at *
  generalize hY : mk r = Y at *
  have HT := hid_of hY
  clear hX hY
  have hz : ((w.alloc (fO 4 0 0 ⟨#[]⟩ ⟨#[]⟩ (.slice none 0 0) (.slice none 0 0) (.slice none 0 0))).alloc (fO 4 0 0 ⟨#[]⟩ ⟨#[]⟩ (.slice none 0 0) (.slice none 0 0) (.slice none 0 0))).heap[w.heap.size]? = some (fO 4 0 0 ⟨#[]⟩ ⟨#[]⟩ (.slice none 0 0) (.slice none 0 0) (.slice none 0 0)) := by
    rw [Below.heap_alloc _ _ _ (by simp)]
    exact heap_alloc_new w _
  go_enter Tryz.func26, Tryz.ntmps26
  go_wp2_with fail
  have g0 := Lib.cell_of_heap hz 0
  have g1 := Lib.cell_of_heap hz 1
  have g2 := Lib.cell_of_heap hz 2
  have g3 := Lib.cell_of_heap hz 3
  have g4 := Lib.cell_of_heap hz 4
  have g5 := Lib.cell_of_heap hz 5
  have g6 := Lib.cell_of_heap hz 6
  have g7 := Lib.cell_of_heap hz 7
  refine bodyPost_ret (v := .tuple #[.agg #[.int .i64 4, .string ⟨#[]⟩, .int .i64 0, .string ⟨#[]⟩, .slice none 0 0, .slice none 0 0, .slice none 0 0, .int .i64 0], .string Y, .bool true]) (by simp [results, Tryz.results26, go_sem, g0, g1, g2, g3, g4, g5, g6, g7]) rfl ?_
  refine ⟨_, _, _, _, _, _, _, _, _, _, _, _, _, _, _, _, rfl, FRow.bel (alb _ _) (alb _ _) (Nat.le_refl _), .inr ⟨rfl, HNB.out, ?_⟩⟩
  rw [HG.out]
  exact ⟨rfl, rfl, rfl, HT.out.symm, vz _ _⟩
set_option maxHeartbeats 4000000 in
set_option maxRecDepth 100000 in
theorem t_long (c : UInt8) (r u : Bs) (N : Nat) (w : World) (hl : r.length < 549755813888) (h4 : (c.toNat : Int) ≠ 4) (hf : fxS r = ((N : Int), u, true)) (hN : u.length < N) (hb : bad (c :: r)) : Calls Tryz.prog 26 #[.string (mk (c :: r))] w (TkE (c :: r) w) := by
  obtain ⟨W0, hW0⟩ : ∃ W0, W0 = (w.alloc zF).alloc (fO (c.toNat : Int) 0 0 ⟨#[]⟩ ⟨#[]⟩ (.slice none 0 0) (.slice none 0 0) (.slice none 0 0)) := ⟨_, rfl⟩
  have H0 := hid_of (show Bx w W0 (c.toNat : Int) 0 0 ⟨#[]⟩ ⟨#[]⟩ (.slice none 0 0) (.slice none 0 0) (.slice none 0 0) by rw [hW0]; exact bx0 w _)
  have HW0 := hid_of hW0
  have HF := hid_of (fix_call r W0 (by omega))
  have hI := cons_ix c r
  have hS := cons_cut c r
  have hcv : IntKind.i64.wrap (c.toNat : Int) = (c.toNat : Int) := IntWalk.i64_in _ (by have := UInt8.toNat_lt c; omega)
  have hk4 : ((c.toNat : Int) == 4) = false := by simp [h4]
  have hsz := mk_size u
  have hlen : ((mk u).size : Int) < (N : Int) := by rw [hsz]; omega
  have HB := hid_of hb
  rw [hf] at HF
  simp only at HF
  unfold TkE
  clear hW0 hl h4 hf hb hN hsz
  generalize mk u = U at *
  generalize ((c.toNat : Nat) : Int) = kd at *
  generalize mk (c :: r) = X at *
  generalize mk r = Y at *
  go_enter Tryz.func26, Tryz.ntmps26
  go_wp2_with fail
  rw [← HW0.out]
  refine HF.out.mono ?_
  rintro e w1 ⟨rfl, b1⟩
  have H1 := hid_of (H0.out.low b1)
  clear b1 HF H0 HW0
  obtain ⟨⟨x0, x1, x2, x3, x4, x5, x6, x7⟩, fx⟩ := box8 H1.out.e
  obtain ⟨⟨y0, y1, y2, y3, y4, y5, y6, y7⟩, fy⟩ := box8 H1.out.r
  have fx0 := fx 0
  have fy0 := fy 0
  have fx1 := fx 1
  have fy1 := fy 1
  have fx2 := fx 2
  have fy2 := fy 2
  have fx3 := fx 3
  have fy3 := fy 3
  have fx4 := fx 4
  have fy4 := fy 4
  have fx5 := fx 5
  have fy5 := fy 5
  have fx6 := fx 6
  have fy6 := fy 6
  have fx7 := fx 7
  have fy7 := fy 7
  clear fx fy
  go_wp2_with fail
  have hz := set8_at H1.out.r (.int .i64 kd) (.string ⟨#[]⟩) (.int .i64 0) (.string ⟨#[]⟩) (.slice none 0 0) (.slice none 0 0) (.slice none 0 0) (.int .i64 0)
  have hb := set8_bel H1.out.b (Nat.le_refl w.heap.size) (y0 := .int .i64 kd) (y1 := .string ⟨#[]⟩) (y2 := .int .i64 0) (y3 := .string ⟨#[]⟩) (y4 := .slice none 0 0) (y5 := .slice none 0 0) (y6 := .slice none 0 0) (y7 := .int .i64 0)
  have g0 := Lib.cell_of_heap hz 0
  have g1 := Lib.cell_of_heap hz 1
  have g2 := Lib.cell_of_heap hz 2
  have g3 := Lib.cell_of_heap hz 3
  have g4 := Lib.cell_of_heap hz 4
  have g5 := Lib.cell_of_heap hz 5
  have g6 := Lib.cell_of_heap hz 6
  have g7 := Lib.cell_of_heap hz 7
  unfold set8 at g0 g1 g2 g3 g4 g5 g6 g7 hb
  refine bodyPost_ret (v := .tuple #[.agg #[.int .i64 kd, .string ⟨#[]⟩, .int .i64 0, .string ⟨#[]⟩, .slice none 0 0, .slice none 0 0, .slice none 0 0, .int .i64 0], .string ⟨#[]⟩, .bool false]) (by simp [results, Tryz.results26, go_sem, g0, g1, g2, g3, g4, g5, g6, g7]) rfl ?_
  exact ⟨_, _, _, _, _, _, _, _, _, _, _, _, _, _, _, _, rfl, hb, .inl ⟨rfl, HB.out⟩⟩
theorem u8_of {c : UInt8} {d : UInt8} (h : (c.toNat : Int) = (d.toNat : Int)) : c = d := UInt8.toNat_inj.1 (by omega)
theorem pk_ok {k : Int} (h : okK k = true) (h4 : k ≠ 4) : pkK k = true := by
  rcases EBackM.four h with rfl | rfl | rfl | rfl
  · decide
  · decide
  · decide
  · exact absurd rfl h4
theorem key_bad {c : UInt8} {r : Bs} (h4 : (c.toNat : Int) ≠ 4) (h : (kyS (r, false)).2.2 = true) : bad (c :: r) := by
  cases ho : okK (c.toNat : Int) with
  | false => exact g_other ho
  | true => exact b_key (pk_ok ho h4) h
theorem take_call (s : Bs) (w : World) (hs : s ≠ []) (hl : s.length < 549755813888) : Calls Tryz.prog 26 #[.string (mk s)] w (TkE s w) := by
  cases s with
  | nil => exact absurd rfl hs
  | cons c r =>
    have hr : r.length < 549755813888 := by simp at hl; omega
    by_cases h4 : (c.toNat : Int) = 4
    · obtain rfl := u8_of (d := 4) h4
      exact t_four r w hr
    · rcases fx_split r with ⟨N, u, hf, hN0, hn8, hul⟩ | ⟨hf, _⟩
      · by_cases hN : u.length < N
        · exact t_long c r u N w hr h4 hf hN (key_bad h4 (ky_long hf (by omega)))
        · have hN' : N ≤ u.length := Nat.le_of_not_lt hN
          obtain ⟨N', e, hk1, hk2, hk⟩ := ky_ok hf (by omega)
          obtain rfl : N = N' := by omega
          by_cases h1 : (c.toNat : Int) = 1
          · obtain rfl := u8_of (d := 1) h1
            rcases fx_split (u.drop N) with ⟨M, u3, hf2, hM, hm8, hul3⟩ | ⟨hf2, _⟩
            · have hl3 : u3.length ≤ u.length := by rw [List.length_drop] at hul3; omega
              obtain ⟨x, m, f, hd⟩ : ∃ x m f, decV u3 = (x, m, f) := ⟨_, _, _, rfl⟩
              by_cases hz : f = 0
              · subst hz
                have hg := g1 hk hf2 hd (dec_le hd)
                have hx : Wel x := by have := EDec.ef_wel (1 :: r, false); rw [hg] at this; exact this
                refine DTake4.t_one 1 r u u3 N m M x w hr h1 hf hN' (by omega) hf2 hl3 hd hx (fun q => (no_bad hg).2 q) (fun q => ⟨fun hb => ?_, hg⟩)
                have := (no_bad hg).1 hb
                rw [show mayE ⟨1, u.take N, x, (M : Int)⟩ = true from q] at this
                cases this
              · exact DTake4.t_dec 1 r u u3 N m M f x w hr h1 hf hN' (by omega) hf2 hl3 hd hz (b_val hk hf2 hd hz)
            · exact DTake3.t_due1 1 r u N w hr h1 hf hN' (by omega) (by rw [hf2]) (b_due (c := 1) (by decide) (by decide) hk (by rw [hf2]))
          · by_cases h3 : (c.toNat : Int) = 3
            · obtain rfl := u8_of (d := 3) h3
              rcases fx_split (u.drop N) with ⟨M, u3, hf2, hM, hm8, hul3⟩ | ⟨hf2, _⟩
              · have hg := g3 hk hf2
                refine DTake3.t_three 3 r u u3 N M w hr h3 hf hN' (by omega) hf2 (fun q => (no_bad hg).2 q) (fun q => ⟨fun hb => ?_, hg⟩)
                have := (no_bad hg).1 hb
                rw [show mayE ⟨3, u.take N, zV, (M : Int)⟩ = true from q] at this
                cases this
              · exact DTake3.t_due3 3 r u N w hr h3 hf hN' (by omega) (by rw [hf2]) (b_due (c := 3) (by decide) (by decide) hk (by rw [hf2]))
            · by_cases h2 : (c.toNat : Int) = 2
              · obtain rfl := u8_of (d := 2) h2
                have hg := g2 hk
                refine DTake2.t_two 2 r u N w hr h4 h1 h3 hf hN' (fun q => (no_bad hg).2 q) (fun q => ⟨fun hb => ?_, hg⟩)
                have := (no_bad hg).1 hb
                rw [show mayE ⟨2, u.take N, zV, 0⟩ = true from q] at this
                cases this
              · have ho : okK (c.toNat : Int) = false := by simp [okK, h1, h2, h3, h4]
                exact DTake2.t_two c r u N w hr h4 h1 h3 hf hN' (fun _ => g_other ho) (fun q => by rw [may_kd (f := ⟨(c.toNat : Int), u.take N, zV, 0⟩) ho] at q; cases q)
      · exact t_key c r w hr h4 (by rw [hf]) (key_bad h4 (ky_fx (by omega) (by rw [hf])))
end Go.Proofs.YtpnigkjmofhmbabGreat.DTake5
end
