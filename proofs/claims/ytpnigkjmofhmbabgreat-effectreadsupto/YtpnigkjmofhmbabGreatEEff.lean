/- The reader of effects: an effect. -/
import Derived.Test.YtpnigkjmofhmbabGreatERd
namespace Go.Proofs.YtpnigkjmofhmbabGreat.EEff
open Go.RowKit Go.Maps
open Go.Proofs.YtpnigkjmofhmbabGreat.BytesMath
open Go.Proofs.YtpnigkjmofhmbabGreat.ValueMath (Vl chk small sm enc decS)
open Go.Proofs.YtpnigkjmofhmbabGreat.ReadMath
open Go.Proofs.YtpnigkjmofhmbabGreat.Base
open Go.Proofs.YtpnigkjmofhmbabGreat.Vals
open Go.Proofs.YtpnigkjmofhmbabGreat.Dec (zV decV vn_set vn_shape vz)
open Go.Proofs.YtpnigkjmofhmbabGreat.Rdr (At fr_go fr_b)
open Go.Proofs.YtpnigkjmofhmbabGreat.SBase (Ef vV Bs)
open Go.Proofs.YtpnigkjmofhmbabGreat.SFind (alb)
open Go.Proofs.YtpnigkjmofhmbabGreat.SSet (box8)
open Go.Proofs.YtpnigkjmofhmbabGreat.EMay
open Go.Proofs.YtpnigkjmofhmbabGreat.EAll (fO pO)
open Go.Proofs.YtpnigkjmofhmbabGreat.ERd
set_option linter.unusedVariables false
set_option linter.unusedSimpArgs false
def rK (s : RS) : Int := ((nbS 1 s).1 : Int)
def r1 (s : RS) : Bs × RS := if pkK (rK s) then kyS (nbS 1 s).2 else ([], (nbS 1 s).2)
def r2 (s : RS) : Int × RS := if pdK (rK s) then (IntKind.i64.wrap (nbS 8 (r1 s).2).1, (nbS 8 (r1 s).2).2) else (0, (r1 s).2)
def r3 (s : RS) : Vl × RS := if pvK (rK s) then vlS (r2 s).2 else (zV, (r2 s).2)
def efS (s : RS) : Ef × RS := (⟨rK s, (r1 s).1, (r3 s).1, (r2 s).1⟩, (r3 s).2)
theorem r1_le (s : RS) : (r1 s).2.1.length ≤ s.1.length ∧ (r1 s).1.length ≤ s.1.length := by
  have h := nb_le 1 s
  unfold r1
  split
  · have := ky_le (nbS 1 s).2; omega
  · exact ⟨h, by simp⟩
theorem r2_le (s : RS) : (r2 s).2.1.length ≤ s.1.length := by
  have h := (r1_le s).1
  unfold r2
  split
  · have := nb_le 8 (r1 s).2; exact Nat.le_trans this h
  · exact h
theorem r3_le (s : RS) : (r3 s).2.1.length ≤ s.1.length := by
  have h := r2_le s
  unfold r3
  split
  · have := vl_le (r2 s).2; exact Nat.le_trans this h
  · exact h
def EfE (b : Nat) (s : RS) (w : World) (e : Ending) (w' : World) : Prop := ∃ k2 T a1 n1 c1 a2 n2 c2 a3 n3 c3, e = .returned (.agg #[.int .i64 (efS s).1.kind, .string (mk (efS s).1.key), .int .i64 k2, .string T, .slice a1 n1 c1, .slice a2 n2 c2, .slice a3 n3 c3, .int .i64 (efS s).1.due]) ∧ VN w.heap.size w' (.agg #[.int .i64 k2, .string T, .slice a1 n1 c1, .slice a2 n2 c2, .slice a3 n3 c3]) (efS s).1.val ∧ RDe b (efS s).2 w' ∧ Fr (At b) w w'
def set8 (w : World) (q : Nat) (y0 y1 y2 y3 y4 y5 y6 y7 : Value) : World := (((((((w.setCell ⟨q, 0, none⟩ y0).setCell ⟨q, 1, none⟩ y1).setCell ⟨q, 2, none⟩ y2).setCell ⟨q, 3, none⟩ y3).setCell ⟨q, 4, none⟩ y4).setCell ⟨q, 5, none⟩ y5).setCell ⟨q, 6, none⟩ y6).setCell ⟨q, 7, none⟩ y7
theorem set8_at {w : World} {q : Nat} {x0 x1 x2 x3 x4 x5 x6 x7 : Value} {t : TypeId} (h : w.heap[q]? = some (.cells #[x0, x1, x2, x3, x4, x5, x6, x7] t (0, 0))) (y0 y1 y2 y3 y4 y5 y6 y7 : Value) : (set8 w q y0 y1 y2 y3 y4 y5 y6 y7).heap[q]? = some (.cells #[y0, y1, y2, y3, y4, y5, y6, y7] t (0, 0)) := by
  unfold set8
  simpa using set_at (i := 7) (set_at (i := 6) (set_at (i := 5) (set_at (i := 4) (set_at (i := 3) (set_at (i := 2) (set_at (i := 1) (set_at (i := 0) h y0) y1) y2) y3) y4) y5) y6) y7
theorem set8_ne {w : World} {q k : Nat} (h : k ≠ q) {y0 y1 y2 y3 y4 y5 y6 y7 : Value} : (set8 w q y0 y1 y2 y3 y4 y5 y6 y7).heap[k]? = w.heap[k]? := by
  unfold set8
  rw [set_ne h, set_ne h, set_ne h, set_ne h, set_ne h, set_ne h, set_ne h, set_ne h]
theorem set8_fr {b : Nat} {w w' : World} (h : Fr (At b) w w') {q : Nat} (hq : w.heap.size ≤ q) {y0 y1 y2 y3 y4 y5 y6 y7 : Value} : Fr (At b) w (set8 w' q y0 y1 y2 y3 y4 y5 y6 y7) := frs (frs (frs (frs (frs (frs (frs (frs h hq _) hq _) hq _) hq _) hq _) hq _) hq _) hq _
theorem set8_vn {B q : Nat} {w : World} {v : Value} {x : Vl} (h : VN B w v x) (hq : q < B) {y0 y1 y2 y3 y4 y5 y6 y7 : Value} : VN B (set8 w q y0 y1 y2 y3 y4 y5 y6 y7) v x := vn_set (vn_set (vn_set (vn_set (vn_set (vn_set (vn_set (vn_set h hq _) hq _) hq _) hq _) hq _) hq _) hq _) hq _
theorem set8_alloc (w : World) (o : Obj) (q : Nat) (h : q < w.heap.size) (y0 y1 y2 y3 y4 y5 y6 y7 : Value) : set8 (w.alloc o) q y0 y1 y2 y3 y4 y5 y6 y7 = (set8 w q y0 y1 y2 y3 y4 y5 y6 y7).alloc o := by
  unfold set8
  rw [alloc_set _ _ _ _ h _, alloc_set _ _ _ _ (by rw [size_set]; exact h) _, alloc_set _ _ _ _ (by rw [size_set, size_set]; exact h) _, alloc_set _ _ _ _ (by rw [size_set, size_set, size_set]; exact h) _, alloc_set _ _ _ _ (by rw [size_set, size_set, size_set, size_set]; exact h) _, alloc_set _ _ _ _ (by rw [size_set, size_set, size_set, size_set, size_set]; exact h) _, alloc_set _ _ _ _ (by rw [size_set, size_set, size_set, size_set, size_set, size_set]; exact h) _, alloc_set _ _ _ _ (by rw [size_set, size_set, size_set, size_set, size_set, size_set, size_set]; exact h) _]
abbrev zF : Obj := fO 0 0 0 ⟨#[]⟩ ⟨#[]⟩ (.slice none 0 0) (.slice none 0 0) (.slice none 0 0)
set_option maxHeartbeats 4000000 in
set_option maxRecDepth 100000 in
theorem eff4 (b : Nat) (s : RS) (w : World) (h : RDe b s w) (hl : s.1.length ≤ 140737488355328) (e1 : pkK (rK s) = false) (e2 : pdK (rK s) = false) (e3 : pvK (rK s) = false) : Calls Tryz.prog 24 #[ptr b] w (EfE b s w) := by
  have HEF : Hid (efS s = (⟨rK s, [], zV, 0⟩, (nbS 1 s).2)) := hid_of (by
    unfold efS r3 r2 r1
    simp only [e1, e2, e3, if_true, if_false, Bool.false_eq_true])
  have hbl := lt_of h
  obtain ⟨W0, hW0⟩ : ∃ W0, W0 = w.alloc zF := ⟨_, rfl⟩
  have b0 : Below w.heap.size w W0 := by rw [hW0]; exact alb _ _
  have HN := hid_of (number_call b 1 s W0 (h.fr b0) hl)
  have hk256 := nb_lt 1 s (by decide)
  have HZ0 := hid_of (show W0.heap[w.heap.size]? = some zF by rw [hW0]; exact heap_alloc_new w _)
  have z0 : W0.heap.size = w.heap.size + 1 := by rw [hW0]; simp
  have HZs := hid_of z0
  have HB0 := hid_of b0
  have HW0 := hid_of hW0
  have HPT := hid_of (parts_call (rK s))
  rw [e1, e2, e3] at HPT
  have HL1 := hid_of (nb_le 1 s)
  have hwk : IntKind.i64.wrap ((nbS 1 s).1 : Int) = ((nbS 1 s).1 : Int) := IntWalk.i64_in _ (by omega)
  unfold rK at HPT HEF
  clear h hW0 b0 z0 e1 e2 e3
  unfold EfE
  generalize (nbS 1 s).2 = s1 at *
  generalize (nbS 1 s).1 = kn at *
  generalize okK (kn : Int) = ok at *
  go_enter Tryz.func24, Tryz.ntmps24
  go_wp2_with fail
  rw [← HW0.out]
  refine HN.out.mono ?_
  rintro e w1 ⟨rfl, d1, f1⟩
  have z1 := (f1.block _ (lt_of HZ0.out) (by show ¬ w.heap.size = b; omega)).trans HZ0.out
  have sz1 : w.heap.size < w1.heap.size := lt_of z1
  obtain ⟨V1, hV1⟩ : ∃ V1, V1 = w1.alloc (fO (kn : Int) 0 0 ⟨#[]⟩ ⟨#[]⟩ (.slice none 0 0) (.slice none 0 0) (.slice none 0 0)) := ⟨_, rfl⟩
  have bV1 : Below w1.heap.size w1 V1 := by rw [hV1]; exact alb _ _
  have HX1 := hid_of (show V1.heap[w1.heap.size]? = some (fO (kn : Int) 0 0 ⟨#[]⟩ ⟨#[]⟩ (.slice none 0 0) (.slice none 0 0) (.slice none 0 0)) by rw [hV1]; exact heap_alloc_new w1 _)
  have HZ1 := hid_of ((bV1.block _ sz1).trans z1)
  have HD1 := hid_of (d1.fr bV1)
  have HF1 := hid_of (fr_b (fr_go (Fr.of_below HB0.out) f1) bV1)
  have HV1 := hid_of hV1
  have HP1 := hid_of (HPT.out V1)
  clear d1 f1 z1 bV1 hV1 HN HPT HZ0
  go_wp2_with fail
  rw [← HV1.out]
  refine HP1.out.mono ?_
  rintro e w2 ⟨rfl, hb2⟩
  obtain ⟨V2, hV2⟩ : ∃ V2, V2 = w2.alloc (pO false false false) := ⟨_, rfl⟩
  have bV2 : Below V1.heap.size V1 V2 := by rw [hV2]; exact hb2.trans ((alb w2 _).mono hb2.size)
  have x2 := (hb2.block _ (lt_of HX1.out)).trans HX1.out
  have sz2 : w1.heap.size < w2.heap.size := lt_of x2
  have HX2 := hid_of ((bV2.block _ (lt_of HX1.out)).trans HX1.out)
  have HZ2 := hid_of ((bV2.block _ (lt_of HZ1.out)).trans HZ1.out)
  have HD2 := hid_of (HD1.out.fr bV2)
  have HF2 := hid_of (fr_b HF1.out bV2)
  have HQ2 := hid_of (show V2.heap[w2.heap.size]? = some (pO false false false) by rw [hV2]; exact heap_alloc_new w2 _)
  have HV2 := hid_of hV2
  have bw1 : b < w1.heap.size := by omega
  have hbx : w1.heap.size ≠ b := by omega
  have hbz : w.heap.size ≠ b := by omega
  have hbp : w2.heap.size ≠ b := by omega
  have hxz : w.heap.size ≠ w1.heap.size := by omega
  have hxp : w2.heap.size ≠ w1.heap.size := by omega
  have hzp : w2.heap.size ≠ w.heap.size := by omega
  have szw2 : w.heap.size < w2.heap.size := by omega
  clear hb2 bV2 hV2 HX1 HZ1 HD1 HF1 HP1
  obtain ⟨⟨y0, y1, y2, y3, y4, y5, y6, y7⟩, fzx⟩ := box8 x2
  have xz0 := fzx 0
  have xz1 := fzx 1
  have xz7 := fzx 7
  clear fzx x2
  have zx : w2.heap[w.heap.size]? = some zF := by
    have q := HZ2.out
    rw [HV2.out, Below.heap_alloc _ _ _ (by omega)] at q
    exact q
  obtain ⟨⟨t0, t1, t2, t3, t4, t5, t6, t7⟩, fzz⟩ := box8 zx
  have zz0 := fzz 0
  have zz1 := fzz 1
  have zz2 := fzz 2
  have zz3 := fzz 3
  have zz4 := fzz 4
  have zz5 := fzz 5
  have zz6 := fzz 6
  have zz7 := fzz 7
  clear fzz zx
  go_wp2_with fail
  have hz := set8_at HZ2.out (.int .i64 (kn : Int)) (.string ⟨#[]⟩) (.int .i64 0) (.string ⟨#[]⟩) (.slice none 0 0) (.slice none 0 0) (.slice none 0 0) (.int .i64 0)
  have HFin := (set8_fr (q := w.heap.size) HF2.out (Nat.le_refl _) (y0 := (.int .i64 (kn : Int))) (y1 := (.string ⟨#[]⟩)) (y2 := (.int .i64 0)) (y3 := (.string ⟨#[]⟩)) (y4 := (.slice none 0 0)) (y5 := (.slice none 0 0)) (y6 := (.slice none 0 0)) (y7 := (.int .i64 0)))
  have HRd := (show RDe b s1 (set8 V2 w.heap.size (.int .i64 (kn : Int)) (.string ⟨#[]⟩) (.int .i64 0) (.string ⟨#[]⟩) (.slice none 0 0) (.slice none 0 0) (.slice none 0 0) (.int .i64 0)) from (set8_ne (Ne.symm hbz)).trans HD2.out)
  have HVv := (show VN w.heap.size (set8 V2 w.heap.size (.int .i64 (kn : Int)) (.string ⟨#[]⟩) (.int .i64 0) (.string ⟨#[]⟩) (.slice none 0 0) (.slice none 0 0) (.slice none 0 0) (.int .i64 0)) (.agg #[.int .i64 0, .string ⟨#[]⟩, .slice none 0 0, .slice none 0 0, .slice none 0 0]) zV from vz _ _)
  rw [HV2.out, set8_alloc _ _ _ szw2] at hz HFin HRd HVv
  have f0 := Lib.cell_of_heap hz 0
  have f1 := Lib.cell_of_heap hz 1
  have f2 := Lib.cell_of_heap hz 2
  have f3 := Lib.cell_of_heap hz 3
  have f4 := Lib.cell_of_heap hz 4
  have f5 := Lib.cell_of_heap hz 5
  have f6 := Lib.cell_of_heap hz 6
  have f7 := Lib.cell_of_heap hz 7
  unfold set8 at f0 f1 f2 f3 f4 f5 f6 f7 HFin HRd HVv
  refine bodyPost_ret (v := .agg #[.int .i64 (kn : Int), .string ⟨#[]⟩, .int .i64 0, .string ⟨#[]⟩, .slice none 0 0, .slice none 0 0, .slice none 0 0, .int .i64 0]) (by simp [results, Tryz.results24, go_sem, f0, f1, f2, f3, f4, f5, f6, f7]) rfl ?_
  rw [HEF.out]
  dsimp only
  exact ⟨_, _, _, _, _, _, _, _, _, _, _, rfl, HVv, HRd, HFin⟩
set_option maxHeartbeats 4000000 in
set_option maxRecDepth 100000 in
theorem eff2 (b : Nat) (s : RS) (w : World) (h : RDe b s w) (hl : s.1.length ≤ 140737488355328) (e1 : pkK (rK s) = true) (e2 : pdK (rK s) = false) (e3 : pvK (rK s) = false) : Calls Tryz.prog 24 #[ptr b] w (EfE b s w) := by
  have HEF : Hid (efS s = (⟨rK s, (kyS (nbS 1 s).2).1, zV, 0⟩, (kyS (nbS 1 s).2).2)) := hid_of (by
    unfold efS r3 r2 r1
    simp only [e1, e2, e3, if_true, if_false, Bool.false_eq_true])
  have hbl := lt_of h
  obtain ⟨W0, hW0⟩ : ∃ W0, W0 = w.alloc zF := ⟨_, rfl⟩
  have b0 : Below w.heap.size w W0 := by rw [hW0]; exact alb _ _
  have HN := hid_of (number_call b 1 s W0 (h.fr b0) hl)
  have hk256 := nb_lt 1 s (by decide)
  have HZ0 := hid_of (show W0.heap[w.heap.size]? = some zF by rw [hW0]; exact heap_alloc_new w _)
  have z0 : W0.heap.size = w.heap.size + 1 := by rw [hW0]; simp
  have HZs := hid_of z0
  have HB0 := hid_of b0
  have HW0 := hid_of hW0
  have HPT := hid_of (parts_call (rK s))
  rw [e1, e2, e3] at HPT
  have HL1 := hid_of (nb_le 1 s)
  have hwk : IntKind.i64.wrap ((nbS 1 s).1 : Int) = ((nbS 1 s).1 : Int) := IntWalk.i64_in _ (by omega)
  unfold rK at HPT HEF
  clear h hW0 b0 z0 e1 e2 e3
  unfold EfE
  generalize (nbS 1 s).2 = s1 at *
  generalize (nbS 1 s).1 = kn at *
  generalize okK (kn : Int) = ok at *
  go_enter Tryz.func24, Tryz.ntmps24
  go_wp2_with fail
  rw [← HW0.out]
  refine HN.out.mono ?_
  rintro e w1 ⟨rfl, d1, f1⟩
  have z1 := (f1.block _ (lt_of HZ0.out) (by show ¬ w.heap.size = b; omega)).trans HZ0.out
  have sz1 : w.heap.size < w1.heap.size := lt_of z1
  obtain ⟨V1, hV1⟩ : ∃ V1, V1 = w1.alloc (fO (kn : Int) 0 0 ⟨#[]⟩ ⟨#[]⟩ (.slice none 0 0) (.slice none 0 0) (.slice none 0 0)) := ⟨_, rfl⟩
  have bV1 : Below w1.heap.size w1 V1 := by rw [hV1]; exact alb _ _
  have HX1 := hid_of (show V1.heap[w1.heap.size]? = some (fO (kn : Int) 0 0 ⟨#[]⟩ ⟨#[]⟩ (.slice none 0 0) (.slice none 0 0) (.slice none 0 0)) by rw [hV1]; exact heap_alloc_new w1 _)
  have HZ1 := hid_of ((bV1.block _ sz1).trans z1)
  have HD1 := hid_of (d1.fr bV1)
  have HF1 := hid_of (fr_b (fr_go (Fr.of_below HB0.out) f1) bV1)
  have HV1 := hid_of hV1
  have HP1 := hid_of (HPT.out V1)
  clear d1 f1 z1 bV1 hV1 HN HPT HZ0
  go_wp2_with fail
  rw [← HV1.out]
  refine HP1.out.mono ?_
  rintro e w2 ⟨rfl, hb2⟩
  obtain ⟨V2, hV2⟩ : ∃ V2, V2 = w2.alloc (pO true false false) := ⟨_, rfl⟩
  have bV2 : Below V1.heap.size V1 V2 := by rw [hV2]; exact hb2.trans ((alb w2 _).mono hb2.size)
  have x2 := (hb2.block _ (lt_of HX1.out)).trans HX1.out
  have sz2 : w1.heap.size < w2.heap.size := lt_of x2
  have HX2 := hid_of ((bV2.block _ (lt_of HX1.out)).trans HX1.out)
  have HZ2 := hid_of ((bV2.block _ (lt_of HZ1.out)).trans HZ1.out)
  have HD2 := hid_of (HD1.out.fr bV2)
  have HF2 := hid_of (fr_b HF1.out bV2)
  have HQ2 := hid_of (show V2.heap[w2.heap.size]? = some (pO true false false) by rw [hV2]; exact heap_alloc_new w2 _)
  have HV2 := hid_of hV2
  have bw1 : b < w1.heap.size := by omega
  have hbx : w1.heap.size ≠ b := by omega
  have hbz : w.heap.size ≠ b := by omega
  have hbp : w2.heap.size ≠ b := by omega
  have hxz : w.heap.size ≠ w1.heap.size := by omega
  have hxp : w2.heap.size ≠ w1.heap.size := by omega
  have hzp : w2.heap.size ≠ w.heap.size := by omega
  have szw2 : w.heap.size < w2.heap.size := by omega
  clear hb2 bV2 hV2 HX1 HZ1 HD1 HF1 HP1
  obtain ⟨⟨y0, y1, y2, y3, y4, y5, y6, y7⟩, fzx⟩ := box8 x2
  have xz0 := fzx 0
  have xz1 := fzx 1
  have xz7 := fzx 7
  clear fzx x2
  have HKy := hid_of (key_call b s1 V2 HD2.out (Nat.le_trans HL1.out hl))
  have HL2 := hid_of (Nat.le_trans (ky_le s1).1 HL1.out)
  obtain ⟨KS, HKS⟩ : ∃ KS, Hid (mk (kyS s1).1 = KS) := ⟨_, hid_of rfl⟩
  rw [HKS.out] at HKy
  generalize (kyS s1).2 = s2 at *
  go_wp2_with fail
  rw [← HV2.out]
  refine HKy.out.mono ?_
  rintro e w3 ⟨rfl, d3, f3⟩
  have x3 := (f3.block _ (lt_of HX2.out) (by show ¬ w1.heap.size = b; omega)).trans HX2.out
  have q3 := (f3.block _ (lt_of HQ2.out) (by show ¬ w2.heap.size = b; omega)).trans HQ2.out
  have z3 := (f3.block _ (lt_of HZ2.out) (by show ¬ w.heap.size = b; omega)).trans HZ2.out
  obtain ⟨V3, hV3⟩ : ∃ V3, V3 = w3.setCell ⟨w1.heap.size, 1, none⟩ (.string KS) := ⟨_, rfl⟩
  have HX3 := hid_of (show V3.heap[w1.heap.size]? = some (fO (kn : Int) 0 0 KS ⟨#[]⟩ (.slice none 0 0) (.slice none 0 0) (.slice none 0 0)) by rw [hV3]; simpa using set_at (i := 1) x3 (.string KS))
  have HQ3 := hid_of (show V3.heap[w2.heap.size]? = some (pO true false false) by rw [hV3, set_ne hxp]; exact q3)
  have HZ3 := hid_of (show V3.heap[w.heap.size]? = some zF by rw [hV3, set_ne hxz]; exact z3)
  have HD3 := hid_of (show RDe b s2 V3 by rw [hV3]; exact (set_ne (Ne.symm hbx) _).trans d3)
  have HF3 := hid_of (show Fr (At b) w V3 by rw [hV3]; exact frs (fr_go HF2.out f3) (by omega) _)
  have HV3 := hid_of hV3
  clear y0 y1 y2 y3 y4 y5 y6 y7 xz0 xz1 xz7 hV3 d3 f3 HKy
  obtain ⟨⟨y0, y1, y2, y3, y4, y5, y6, y7⟩, fzx⟩ := box8 x3
  have xz1 := fzx 1
  clear fzx x3 z3
  obtain ⟨⟨g0, g1, g2⟩, -⟩ := box3 q3
  clear q3
  have zx : w3.heap[w.heap.size]? = some zF := by
    have q := HZ3.out
    rw [HV3.out, set_ne hxz] at q
    exact q
  obtain ⟨⟨t0, t1, t2, t3, t4, t5, t6, t7⟩, fzz⟩ := box8 zx
  have zz0 := fzz 0
  have zz1 := fzz 1
  have zz2 := fzz 2
  have zz3 := fzz 3
  have zz4 := fzz 4
  have zz5 := fzz 5
  have zz6 := fzz 6
  have zz7 := fzz 7
  clear fzz zx
  go_wp2_with fail
  rw [← HV3.out]
  have hz := set8_at HZ3.out (.int .i64 (kn : Int)) (.string KS) (.int .i64 0) (.string ⟨#[]⟩) (.slice none 0 0) (.slice none 0 0) (.slice none 0 0) (.int .i64 0)
  have HFin := (set8_fr (q := w.heap.size) HF3.out (Nat.le_refl _) (y0 := (.int .i64 (kn : Int))) (y1 := (.string KS)) (y2 := (.int .i64 0)) (y3 := (.string ⟨#[]⟩)) (y4 := (.slice none 0 0)) (y5 := (.slice none 0 0)) (y6 := (.slice none 0 0)) (y7 := (.int .i64 0)))
  have HRd := (show RDe b s2 (set8 V3 w.heap.size (.int .i64 (kn : Int)) (.string KS) (.int .i64 0) (.string ⟨#[]⟩) (.slice none 0 0) (.slice none 0 0) (.slice none 0 0) (.int .i64 0)) from (set8_ne (Ne.symm hbz)).trans HD3.out)
  have HVv := (show VN w.heap.size (set8 V3 w.heap.size (.int .i64 (kn : Int)) (.string KS) (.int .i64 0) (.string ⟨#[]⟩) (.slice none 0 0) (.slice none 0 0) (.slice none 0 0) (.int .i64 0)) (.agg #[.int .i64 0, .string ⟨#[]⟩, .slice none 0 0, .slice none 0 0, .slice none 0 0]) zV from vz _ _)
  have f0 := Lib.cell_of_heap hz 0
  have f1 := Lib.cell_of_heap hz 1
  have f2 := Lib.cell_of_heap hz 2
  have f3 := Lib.cell_of_heap hz 3
  have f4 := Lib.cell_of_heap hz 4
  have f5 := Lib.cell_of_heap hz 5
  have f6 := Lib.cell_of_heap hz 6
  have f7 := Lib.cell_of_heap hz 7
  unfold set8 at f0 f1 f2 f3 f4 f5 f6 f7 HFin HRd HVv
  refine bodyPost_ret (v := .agg #[.int .i64 (kn : Int), .string KS, .int .i64 0, .string ⟨#[]⟩, .slice none 0 0, .slice none 0 0, .slice none 0 0, .int .i64 0]) (by simp [results, Tryz.results24, go_sem, f0, f1, f2, f3, f4, f5, f6, f7]) rfl ?_
  rw [HEF.out]
  dsimp only
  exact ⟨_, _, _, _, _, _, _, _, _, _, _, (by rw [HKS.out]), HVv, HRd, HFin⟩
set_option maxHeartbeats 4000000 in
set_option maxRecDepth 100000 in
theorem eff3 (b : Nat) (s : RS) (w : World) (h : RDe b s w) (hl : s.1.length ≤ 140737488355328) (e1 : pkK (rK s) = true) (e2 : pdK (rK s) = true) (e3 : pvK (rK s) = false) : Calls Tryz.prog 24 #[ptr b] w (EfE b s w) := by
  have HEF : Hid (efS s = (⟨rK s, (kyS (nbS 1 s).2).1, zV, IntKind.i64.wrap (nbS 8 (kyS (nbS 1 s).2).2).1⟩, (nbS 8 (kyS (nbS 1 s).2).2).2)) := hid_of (by
    unfold efS r3 r2 r1
    simp only [e1, e2, e3, if_true, if_false, Bool.false_eq_true])
  have hbl := lt_of h
  obtain ⟨W0, hW0⟩ : ∃ W0, W0 = w.alloc zF := ⟨_, rfl⟩
  have b0 : Below w.heap.size w W0 := by rw [hW0]; exact alb _ _
  have HN := hid_of (number_call b 1 s W0 (h.fr b0) hl)
  have hk256 := nb_lt 1 s (by decide)
  have HZ0 := hid_of (show W0.heap[w.heap.size]? = some zF by rw [hW0]; exact heap_alloc_new w _)
  have z0 : W0.heap.size = w.heap.size + 1 := by rw [hW0]; simp
  have HZs := hid_of z0
  have HB0 := hid_of b0
  have HW0 := hid_of hW0
  have HPT := hid_of (parts_call (rK s))
  rw [e1, e2, e3] at HPT
  have HL1 := hid_of (nb_le 1 s)
  have hwk : IntKind.i64.wrap ((nbS 1 s).1 : Int) = ((nbS 1 s).1 : Int) := IntWalk.i64_in _ (by omega)
  unfold rK at HPT HEF
  clear h hW0 b0 z0 e1 e2 e3
  unfold EfE
  generalize (nbS 1 s).2 = s1 at *
  generalize (nbS 1 s).1 = kn at *
  generalize okK (kn : Int) = ok at *
  go_enter Tryz.func24, Tryz.ntmps24
  go_wp2_with fail
  rw [← HW0.out]
  refine HN.out.mono ?_
  rintro e w1 ⟨rfl, d1, f1⟩
  have z1 := (f1.block _ (lt_of HZ0.out) (by show ¬ w.heap.size = b; omega)).trans HZ0.out
  have sz1 : w.heap.size < w1.heap.size := lt_of z1
  obtain ⟨V1, hV1⟩ : ∃ V1, V1 = w1.alloc (fO (kn : Int) 0 0 ⟨#[]⟩ ⟨#[]⟩ (.slice none 0 0) (.slice none 0 0) (.slice none 0 0)) := ⟨_, rfl⟩
  have bV1 : Below w1.heap.size w1 V1 := by rw [hV1]; exact alb _ _
  have HX1 := hid_of (show V1.heap[w1.heap.size]? = some (fO (kn : Int) 0 0 ⟨#[]⟩ ⟨#[]⟩ (.slice none 0 0) (.slice none 0 0) (.slice none 0 0)) by rw [hV1]; exact heap_alloc_new w1 _)
  have HZ1 := hid_of ((bV1.block _ sz1).trans z1)
  have HD1 := hid_of (d1.fr bV1)
  have HF1 := hid_of (fr_b (fr_go (Fr.of_below HB0.out) f1) bV1)
  have HV1 := hid_of hV1
  have HP1 := hid_of (HPT.out V1)
  clear d1 f1 z1 bV1 hV1 HN HPT HZ0
  go_wp2_with fail
  rw [← HV1.out]
  refine HP1.out.mono ?_
  rintro e w2 ⟨rfl, hb2⟩
  obtain ⟨V2, hV2⟩ : ∃ V2, V2 = w2.alloc (pO true true false) := ⟨_, rfl⟩
  have bV2 : Below V1.heap.size V1 V2 := by rw [hV2]; exact hb2.trans ((alb w2 _).mono hb2.size)
  have x2 := (hb2.block _ (lt_of HX1.out)).trans HX1.out
  have sz2 : w1.heap.size < w2.heap.size := lt_of x2
  have HX2 := hid_of ((bV2.block _ (lt_of HX1.out)).trans HX1.out)
  have HZ2 := hid_of ((bV2.block _ (lt_of HZ1.out)).trans HZ1.out)
  have HD2 := hid_of (HD1.out.fr bV2)
  have HF2 := hid_of (fr_b HF1.out bV2)
  have HQ2 := hid_of (show V2.heap[w2.heap.size]? = some (pO true true false) by rw [hV2]; exact heap_alloc_new w2 _)
  have HV2 := hid_of hV2
  have bw1 : b < w1.heap.size := by omega
  have hbx : w1.heap.size ≠ b := by omega
  have hbz : w.heap.size ≠ b := by omega
  have hbp : w2.heap.size ≠ b := by omega
  have hxz : w.heap.size ≠ w1.heap.size := by omega
  have hxp : w2.heap.size ≠ w1.heap.size := by omega
  have hzp : w2.heap.size ≠ w.heap.size := by omega
  have szw2 : w.heap.size < w2.heap.size := by omega
  clear hb2 bV2 hV2 HX1 HZ1 HD1 HF1 HP1
  obtain ⟨⟨y0, y1, y2, y3, y4, y5, y6, y7⟩, fzx⟩ := box8 x2
  have xz0 := fzx 0
  have xz1 := fzx 1
  have xz7 := fzx 7
  clear fzx x2
  have HKy := hid_of (key_call b s1 V2 HD2.out (Nat.le_trans HL1.out hl))
  have HL2 := hid_of (Nat.le_trans (ky_le s1).1 HL1.out)
  obtain ⟨KS, HKS⟩ : ∃ KS, Hid (mk (kyS s1).1 = KS) := ⟨_, hid_of rfl⟩
  rw [HKS.out] at HKy
  generalize (kyS s1).2 = s2 at *
  go_wp2_with fail
  rw [← HV2.out]
  refine HKy.out.mono ?_
  rintro e w3 ⟨rfl, d3, f3⟩
  have x3 := (f3.block _ (lt_of HX2.out) (by show ¬ w1.heap.size = b; omega)).trans HX2.out
  have q3 := (f3.block _ (lt_of HQ2.out) (by show ¬ w2.heap.size = b; omega)).trans HQ2.out
  have z3 := (f3.block _ (lt_of HZ2.out) (by show ¬ w.heap.size = b; omega)).trans HZ2.out
  obtain ⟨V3, hV3⟩ : ∃ V3, V3 = w3.setCell ⟨w1.heap.size, 1, none⟩ (.string KS) := ⟨_, rfl⟩
  have HX3 := hid_of (show V3.heap[w1.heap.size]? = some (fO (kn : Int) 0 0 KS ⟨#[]⟩ (.slice none 0 0) (.slice none 0 0) (.slice none 0 0)) by rw [hV3]; simpa using set_at (i := 1) x3 (.string KS))
  have HQ3 := hid_of (show V3.heap[w2.heap.size]? = some (pO true true false) by rw [hV3, set_ne hxp]; exact q3)
  have HZ3 := hid_of (show V3.heap[w.heap.size]? = some zF by rw [hV3, set_ne hxz]; exact z3)
  have HD3 := hid_of (show RDe b s2 V3 by rw [hV3]; exact (set_ne (Ne.symm hbx) _).trans d3)
  have HF3 := hid_of (show Fr (At b) w V3 by rw [hV3]; exact frs (fr_go HF2.out f3) (by omega) _)
  have HV3 := hid_of hV3
  clear y0 y1 y2 y3 y4 y5 y6 y7 xz0 xz1 xz7 hV3 d3 f3 HKy
  obtain ⟨⟨y0, y1, y2, y3, y4, y5, y6, y7⟩, fzx⟩ := box8 x3
  have xz1 := fzx 1
  clear fzx x3 z3
  obtain ⟨⟨g0, g1, g2⟩, -⟩ := box3 q3
  clear q3
  have HNd := hid_of (number_call b 8 s2 V3 HD3.out (Nat.le_trans HL2.out hl))
  have HL3 := hid_of (Nat.le_trans (nb_le 8 s2) HL2.out)
  have hn8 := nb_lt 8 s2 (by decide)
  generalize (nbS 8 s2).1 = dn at *
  generalize (nbS 8 s2).2 = s3 at *
  obtain ⟨DU, hDU⟩ : ∃ DU, IntKind.i64.wrap (dn : Int) = DU := ⟨_, rfl⟩
  go_wp2_with fail
  rw [← HV3.out]
  refine HNd.out.mono ?_
  rintro e w4 ⟨rfl, d4, f4⟩
  have x4 := (f4.block _ (lt_of HX3.out) (by show ¬ w1.heap.size = b; omega)).trans HX3.out
  have q4 := (f4.block _ (lt_of HQ3.out) (by show ¬ w2.heap.size = b; omega)).trans HQ3.out
  have z4 := (f4.block _ (lt_of HZ3.out) (by show ¬ w.heap.size = b; omega)).trans HZ3.out
  obtain ⟨V4, hV4⟩ : ∃ V4, V4 = w4.setCell ⟨w1.heap.size, 7, none⟩ (.int .i64 DU) := ⟨_, rfl⟩
  have HX4 := hid_of (show V4.heap[w1.heap.size]? = some (fO (kn : Int) 0 DU KS ⟨#[]⟩ (.slice none 0 0) (.slice none 0 0) (.slice none 0 0)) by rw [hV4]; simpa using set_at (i := 7) x4 (.int .i64 DU))
  have HQ4 := hid_of (show V4.heap[w2.heap.size]? = some (pO true true false) by rw [hV4, set_ne hxp]; exact q4)
  have HZ4 := hid_of (show V4.heap[w.heap.size]? = some zF by rw [hV4, set_ne hxz]; exact z4)
  have HD4 := hid_of (show RDe b s3 V4 by rw [hV4]; exact (set_ne (Ne.symm hbx) _).trans d4)
  have HF4 := hid_of (show Fr (At b) w V4 by rw [hV4]; exact frs (fr_go HF3.out f4) (by omega) _)
  have HV4 := hid_of hV4
  have HDU := hid_of hDU
  clear y0 y1 y2 y3 y4 y5 y6 y7 xz1 g0 g1 g2 hV4 d4 f4 HNd HV3
  obtain ⟨⟨y0, y1, y2, y3, y4, y5, y6, y7⟩, fzx⟩ := box8 x4
  have xz7 := fzx 7
  clear fzx x4 z4
  obtain ⟨⟨g0, g1, g2⟩, -⟩ := box3 q4
  clear q4
  have zx : w4.heap[w.heap.size]? = some zF := by
    have q := HZ4.out
    rw [HV4.out, set_ne hxz] at q
    exact q
  obtain ⟨⟨t0, t1, t2, t3, t4, t5, t6, t7⟩, fzz⟩ := box8 zx
  have zz0 := fzz 0
  have zz1 := fzz 1
  have zz2 := fzz 2
  have zz3 := fzz 3
  have zz4 := fzz 4
  have zz5 := fzz 5
  have zz6 := fzz 6
  have zz7 := fzz 7
  clear fzz zx
  go_wp2_with fail
  rw [← HV4.out]
  have hz := set8_at HZ4.out (.int .i64 (kn : Int)) (.string KS) (.int .i64 0) (.string ⟨#[]⟩) (.slice none 0 0) (.slice none 0 0) (.slice none 0 0) (.int .i64 DU)
  have HFin := (set8_fr (q := w.heap.size) HF4.out (Nat.le_refl _) (y0 := (.int .i64 (kn : Int))) (y1 := (.string KS)) (y2 := (.int .i64 0)) (y3 := (.string ⟨#[]⟩)) (y4 := (.slice none 0 0)) (y5 := (.slice none 0 0)) (y6 := (.slice none 0 0)) (y7 := (.int .i64 DU)))
  have HRd := (show RDe b s3 (set8 V4 w.heap.size (.int .i64 (kn : Int)) (.string KS) (.int .i64 0) (.string ⟨#[]⟩) (.slice none 0 0) (.slice none 0 0) (.slice none 0 0) (.int .i64 DU)) from (set8_ne (Ne.symm hbz)).trans HD4.out)
  have HVv := (show VN w.heap.size (set8 V4 w.heap.size (.int .i64 (kn : Int)) (.string KS) (.int .i64 0) (.string ⟨#[]⟩) (.slice none 0 0) (.slice none 0 0) (.slice none 0 0) (.int .i64 DU)) (.agg #[.int .i64 0, .string ⟨#[]⟩, .slice none 0 0, .slice none 0 0, .slice none 0 0]) zV from vz _ _)
  have f0 := Lib.cell_of_heap hz 0
  have f1 := Lib.cell_of_heap hz 1
  have f2 := Lib.cell_of_heap hz 2
  have f3 := Lib.cell_of_heap hz 3
  have f4 := Lib.cell_of_heap hz 4
  have f5 := Lib.cell_of_heap hz 5
  have f6 := Lib.cell_of_heap hz 6
  have f7 := Lib.cell_of_heap hz 7
  unfold set8 at f0 f1 f2 f3 f4 f5 f6 f7 HFin HRd HVv
  refine bodyPost_ret (v := .agg #[.int .i64 (kn : Int), .string KS, .int .i64 0, .string ⟨#[]⟩, .slice none 0 0, .slice none 0 0, .slice none 0 0, .int .i64 DU]) (by simp [results, Tryz.results24, go_sem, f0, f1, f2, f3, f4, f5, f6, f7]) rfl ?_
  rw [HEF.out]
  dsimp only
  exact ⟨_, _, _, _, _, _, _, _, _, _, _, (by rw [HKS.out, HDU.out]), HVv, HRd, HFin⟩
set_option maxHeartbeats 4000000 in
set_option maxRecDepth 100000 in
theorem eff1 (b : Nat) (s : RS) (w : World) (h : RDe b s w) (hl : s.1.length ≤ 140737488355328) (e1 : pkK (rK s) = true) (e2 : pdK (rK s) = true) (e3 : pvK (rK s) = true) : Calls Tryz.prog 24 #[ptr b] w (EfE b s w) := by
  have HEF : Hid (efS s = (⟨rK s, (kyS (nbS 1 s).2).1, (vlS (nbS 8 (kyS (nbS 1 s).2).2).2).1, IntKind.i64.wrap (nbS 8 (kyS (nbS 1 s).2).2).1⟩, (vlS (nbS 8 (kyS (nbS 1 s).2).2).2).2)) := hid_of (by
    unfold efS r3 r2 r1
    simp only [e1, e2, e3, if_true, if_false, Bool.false_eq_true])
  have hbl := lt_of h
  obtain ⟨W0, hW0⟩ : ∃ W0, W0 = w.alloc zF := ⟨_, rfl⟩
  have b0 : Below w.heap.size w W0 := by rw [hW0]; exact alb _ _
  have HN := hid_of (number_call b 1 s W0 (h.fr b0) hl)
  have hk256 := nb_lt 1 s (by decide)
  have HZ0 := hid_of (show W0.heap[w.heap.size]? = some zF by rw [hW0]; exact heap_alloc_new w _)
  have z0 : W0.heap.size = w.heap.size + 1 := by rw [hW0]; simp
  have HZs := hid_of z0
  have HB0 := hid_of b0
  have HW0 := hid_of hW0
  have HPT := hid_of (parts_call (rK s))
  rw [e1, e2, e3] at HPT
  have HL1 := hid_of (nb_le 1 s)
  have hwk : IntKind.i64.wrap ((nbS 1 s).1 : Int) = ((nbS 1 s).1 : Int) := IntWalk.i64_in _ (by omega)
  unfold rK at HPT HEF
  clear h hW0 b0 z0 e1 e2 e3
  unfold EfE
  generalize (nbS 1 s).2 = s1 at *
  generalize (nbS 1 s).1 = kn at *
  generalize okK (kn : Int) = ok at *
  go_enter Tryz.func24, Tryz.ntmps24
  go_wp2_with fail
  rw [← HW0.out]
  refine HN.out.mono ?_
  rintro e w1 ⟨rfl, d1, f1⟩
  have z1 := (f1.block _ (lt_of HZ0.out) (by show ¬ w.heap.size = b; omega)).trans HZ0.out
  have sz1 : w.heap.size < w1.heap.size := lt_of z1
  obtain ⟨V1, hV1⟩ : ∃ V1, V1 = w1.alloc (fO (kn : Int) 0 0 ⟨#[]⟩ ⟨#[]⟩ (.slice none 0 0) (.slice none 0 0) (.slice none 0 0)) := ⟨_, rfl⟩
  have bV1 : Below w1.heap.size w1 V1 := by rw [hV1]; exact alb _ _
  have HX1 := hid_of (show V1.heap[w1.heap.size]? = some (fO (kn : Int) 0 0 ⟨#[]⟩ ⟨#[]⟩ (.slice none 0 0) (.slice none 0 0) (.slice none 0 0)) by rw [hV1]; exact heap_alloc_new w1 _)
  have HZ1 := hid_of ((bV1.block _ sz1).trans z1)
  have HD1 := hid_of (d1.fr bV1)
  have HF1 := hid_of (fr_b (fr_go (Fr.of_below HB0.out) f1) bV1)
  have HV1 := hid_of hV1
  have HP1 := hid_of (HPT.out V1)
  clear d1 f1 z1 bV1 hV1 HN HPT HZ0
  go_wp2_with fail
  rw [← HV1.out]
  refine HP1.out.mono ?_
  rintro e w2 ⟨rfl, hb2⟩
  obtain ⟨V2, hV2⟩ : ∃ V2, V2 = w2.alloc (pO true true true) := ⟨_, rfl⟩
  have bV2 : Below V1.heap.size V1 V2 := by rw [hV2]; exact hb2.trans ((alb w2 _).mono hb2.size)
  have x2 := (hb2.block _ (lt_of HX1.out)).trans HX1.out
  have sz2 : w1.heap.size < w2.heap.size := lt_of x2
  have HX2 := hid_of ((bV2.block _ (lt_of HX1.out)).trans HX1.out)
  have HZ2 := hid_of ((bV2.block _ (lt_of HZ1.out)).trans HZ1.out)
  have HD2 := hid_of (HD1.out.fr bV2)
  have HF2 := hid_of (fr_b HF1.out bV2)
  have HQ2 := hid_of (show V2.heap[w2.heap.size]? = some (pO true true true) by rw [hV2]; exact heap_alloc_new w2 _)
  have HV2 := hid_of hV2
  have bw1 : b < w1.heap.size := by omega
  have hbx : w1.heap.size ≠ b := by omega
  have hbz : w.heap.size ≠ b := by omega
  have hbp : w2.heap.size ≠ b := by omega
  have hxz : w.heap.size ≠ w1.heap.size := by omega
  have hxp : w2.heap.size ≠ w1.heap.size := by omega
  have hzp : w2.heap.size ≠ w.heap.size := by omega
  have szw2 : w.heap.size < w2.heap.size := by omega
  clear hb2 bV2 hV2 HX1 HZ1 HD1 HF1 HP1
  obtain ⟨⟨y0, y1, y2, y3, y4, y5, y6, y7⟩, fzx⟩ := box8 x2
  have xz0 := fzx 0
  have xz1 := fzx 1
  have xz7 := fzx 7
  clear fzx x2
  have HKy := hid_of (key_call b s1 V2 HD2.out (Nat.le_trans HL1.out hl))
  have HL2 := hid_of (Nat.le_trans (ky_le s1).1 HL1.out)
  obtain ⟨KS, HKS⟩ : ∃ KS, Hid (mk (kyS s1).1 = KS) := ⟨_, hid_of rfl⟩
  rw [HKS.out] at HKy
  generalize (kyS s1).2 = s2 at *
  go_wp2_with fail
  rw [← HV2.out]
  refine HKy.out.mono ?_
  rintro e w3 ⟨rfl, d3, f3⟩
  have x3 := (f3.block _ (lt_of HX2.out) (by show ¬ w1.heap.size = b; omega)).trans HX2.out
  have q3 := (f3.block _ (lt_of HQ2.out) (by show ¬ w2.heap.size = b; omega)).trans HQ2.out
  have z3 := (f3.block _ (lt_of HZ2.out) (by show ¬ w.heap.size = b; omega)).trans HZ2.out
  obtain ⟨V3, hV3⟩ : ∃ V3, V3 = w3.setCell ⟨w1.heap.size, 1, none⟩ (.string KS) := ⟨_, rfl⟩
  have HX3 := hid_of (show V3.heap[w1.heap.size]? = some (fO (kn : Int) 0 0 KS ⟨#[]⟩ (.slice none 0 0) (.slice none 0 0) (.slice none 0 0)) by rw [hV3]; simpa using set_at (i := 1) x3 (.string KS))
  have HQ3 := hid_of (show V3.heap[w2.heap.size]? = some (pO true true true) by rw [hV3, set_ne hxp]; exact q3)
  have HZ3 := hid_of (show V3.heap[w.heap.size]? = some zF by rw [hV3, set_ne hxz]; exact z3)
  have HD3 := hid_of (show RDe b s2 V3 by rw [hV3]; exact (set_ne (Ne.symm hbx) _).trans d3)
  have HF3 := hid_of (show Fr (At b) w V3 by rw [hV3]; exact frs (fr_go HF2.out f3) (by omega) _)
  have HV3 := hid_of hV3
  clear y0 y1 y2 y3 y4 y5 y6 y7 xz0 xz1 xz7 hV3 d3 f3 HKy
  obtain ⟨⟨y0, y1, y2, y3, y4, y5, y6, y7⟩, fzx⟩ := box8 x3
  have xz1 := fzx 1
  clear fzx x3 z3
  obtain ⟨⟨g0, g1, g2⟩, -⟩ := box3 q3
  clear q3
  have HNd := hid_of (number_call b 8 s2 V3 HD3.out (Nat.le_trans HL2.out hl))
  have HL3 := hid_of (Nat.le_trans (nb_le 8 s2) HL2.out)
  have hn8 := nb_lt 8 s2 (by decide)
  generalize (nbS 8 s2).1 = dn at *
  generalize (nbS 8 s2).2 = s3 at *
  obtain ⟨DU, hDU⟩ : ∃ DU, IntKind.i64.wrap (dn : Int) = DU := ⟨_, rfl⟩
  go_wp2_with fail
  rw [← HV3.out]
  refine HNd.out.mono ?_
  rintro e w4 ⟨rfl, d4, f4⟩
  have x4 := (f4.block _ (lt_of HX3.out) (by show ¬ w1.heap.size = b; omega)).trans HX3.out
  have q4 := (f4.block _ (lt_of HQ3.out) (by show ¬ w2.heap.size = b; omega)).trans HQ3.out
  have z4 := (f4.block _ (lt_of HZ3.out) (by show ¬ w.heap.size = b; omega)).trans HZ3.out
  obtain ⟨V4, hV4⟩ : ∃ V4, V4 = w4.setCell ⟨w1.heap.size, 7, none⟩ (.int .i64 DU) := ⟨_, rfl⟩
  have HX4 := hid_of (show V4.heap[w1.heap.size]? = some (fO (kn : Int) 0 DU KS ⟨#[]⟩ (.slice none 0 0) (.slice none 0 0) (.slice none 0 0)) by rw [hV4]; simpa using set_at (i := 7) x4 (.int .i64 DU))
  have HQ4 := hid_of (show V4.heap[w2.heap.size]? = some (pO true true true) by rw [hV4, set_ne hxp]; exact q4)
  have HZ4 := hid_of (show V4.heap[w.heap.size]? = some zF by rw [hV4, set_ne hxz]; exact z4)
  have HD4 := hid_of (show RDe b s3 V4 by rw [hV4]; exact (set_ne (Ne.symm hbx) _).trans d4)
  have HF4 := hid_of (show Fr (At b) w V4 by rw [hV4]; exact frs (fr_go HF3.out f4) (by omega) _)
  have HV4 := hid_of hV4
  have HDU := hid_of hDU
  clear y0 y1 y2 y3 y4 y5 y6 y7 xz1 g0 g1 g2 hV4 d4 f4 HNd HV3
  obtain ⟨⟨y0, y1, y2, y3, y4, y5, y6, y7⟩, fzx⟩ := box8 x4
  have xz7 := fzx 7
  clear fzx x4 z4
  obtain ⟨⟨g0, g1, g2⟩, -⟩ := box3 q4
  clear q4
  have HVl := hid_of (value_call b s3 V4 HD4.out (Nat.le_trans HL3.out hl))
  generalize (vlS s3).1 = VX at *
  generalize (vlS s3).2 = s4 at *
  go_wp2_with fail
  rw [← HV4.out]
  refine HVl.out.mono ?_
  rintro e w5 ⟨v, rfl, hv, d5, f5⟩
  obtain ⟨k2, T, a1, n1, c1, a2, n2, c2, a3, n3, c3, rfl⟩ := vn_shape hv
  have x5 := (f5.block _ (lt_of HX4.out) (by show ¬ w1.heap.size = b; omega)).trans HX4.out
  have z5 := (f5.block _ (lt_of HZ4.out) (by show ¬ w.heap.size = b; omega)).trans HZ4.out
  have hx4 := lt_of HX4.out
  obtain ⟨V5, hV5⟩ : ∃ V5, V5 = ((((w5.setCell ⟨w1.heap.size, 2, none⟩ (.int .i64 k2)).setCell ⟨w1.heap.size, 3, none⟩ (.string T)).setCell ⟨w1.heap.size, 4, none⟩ (.slice a1 n1 c1)).setCell ⟨w1.heap.size, 5, none⟩ (.slice a2 n2 c2)).setCell ⟨w1.heap.size, 6, none⟩ (.slice a3 n3 c3) := ⟨_, rfl⟩
  have HX5 := hid_of (show V5.heap[w1.heap.size]? = some (fO (kn : Int) k2 DU KS T (.slice a1 n1 c1) (.slice a2 n2 c2) (.slice a3 n3 c3)) by rw [hV5]; simpa using set_at (i := 6) (set_at (i := 5) (set_at (i := 4) (set_at (i := 3) (set_at (i := 2) x5 (.int .i64 k2)) (.string T)) (.slice a1 n1 c1)) (.slice a2 n2 c2)) (.slice a3 n3 c3))
  have HZ5 := hid_of (show V5.heap[w.heap.size]? = some zF by rw [hV5, set_ne hxz, set_ne hxz, set_ne hxz, set_ne hxz, set_ne hxz]; exact z5)
  have HD5 := hid_of (show RDe b s4 V5 by rw [hV5]; exact (set_ne (Ne.symm hbx) _).trans ((set_ne (Ne.symm hbx) _).trans ((set_ne (Ne.symm hbx) _).trans ((set_ne (Ne.symm hbx) _).trans ((set_ne (Ne.symm hbx) _).trans d5)))))
  have HF5 := hid_of (show Fr (At b) w V5 by rw [hV5]; exact frs (frs (frs (frs (frs (fr_go HF4.out f5) (by omega) _) (by omega) _) (by omega) _) (by omega) _) (by omega) _)
  have HVN := hid_of (show VN V4.heap.size V5 (.agg #[.int .i64 k2, .string T, .slice a1 n1 c1, .slice a2 n2 c2, .slice a3 n3 c3]) VX by rw [hV5]; exact vn_set (vn_set (vn_set (vn_set (vn_set hv hx4 _) hx4 _) hx4 _) hx4 _) hx4 _)
  have HV5 := hid_of hV5
  have hz4 : w.heap.size < V4.heap.size := lt_of HZ4.out
  clear y0 y1 y2 y3 y4 y5 y6 y7 xz7 g0 g1 g2 hV5 d5 f5 HVl HV4 hv
  obtain ⟨⟨y0, y1, y2, y3, y4, y5, y6, y7⟩, fzx⟩ := box8 x5
  have xz2 := fzx 2
  have xz3 := fzx 3
  have xz4 := fzx 4
  have xz5 := fzx 5
  have xz6 := fzx 6
  obtain ⟨⟨t0, t1, t2, t3, t4, t5, t6, t7⟩, fzz⟩ := box8 z5
  have zz0 := fzz 0
  have zz1 := fzz 1
  have zz2 := fzz 2
  have zz3 := fzz 3
  have zz4 := fzz 4
  have zz5 := fzz 5
  have zz6 := fzz 6
  have zz7 := fzz 7
  clear fzx x5 z5 fzz
  go_wp2_with fail
  rw [← HV5.out]
  have hz := set8_at HZ5.out (.int .i64 (kn : Int)) (.string KS) (.int .i64 k2) (.string T) (.slice a1 n1 c1) (.slice a2 n2 c2) (.slice a3 n3 c3) (.int .i64 DU)
  have HFin := (set8_fr (q := w.heap.size) HF5.out (Nat.le_refl _) (y0 := (.int .i64 (kn : Int))) (y1 := (.string KS)) (y2 := (.int .i64 k2)) (y3 := (.string T)) (y4 := (.slice a1 n1 c1)) (y5 := (.slice a2 n2 c2)) (y6 := (.slice a3 n3 c3)) (y7 := (.int .i64 DU)))
  have HRd := (show RDe b s4 (set8 V5 w.heap.size (.int .i64 (kn : Int)) (.string KS) (.int .i64 k2) (.string T) (.slice a1 n1 c1) (.slice a2 n2 c2) (.slice a3 n3 c3) (.int .i64 DU)) from (set8_ne (Ne.symm hbz)).trans HD5.out)
  have HVv := (show VN w.heap.size (set8 V5 w.heap.size (.int .i64 (kn : Int)) (.string KS) (.int .i64 k2) (.string T) (.slice a1 n1 c1) (.slice a2 n2 c2) (.slice a3 n3 c3) (.int .i64 DU)) (.agg #[.int .i64 k2, .string T, .slice a1 n1 c1, .slice a2 n2 c2, .slice a3 n3 c3]) VX from ((set8_vn HVN.out hz4).mono (by omega)))
  have f0 := Lib.cell_of_heap hz 0
  have f1 := Lib.cell_of_heap hz 1
  have f2 := Lib.cell_of_heap hz 2
  have f3 := Lib.cell_of_heap hz 3
  have f4 := Lib.cell_of_heap hz 4
  have f5 := Lib.cell_of_heap hz 5
  have f6 := Lib.cell_of_heap hz 6
  have f7 := Lib.cell_of_heap hz 7
  unfold set8 at f0 f1 f2 f3 f4 f5 f6 f7 HFin HRd HVv
  refine bodyPost_ret (v := .agg #[.int .i64 (kn : Int), .string KS, .int .i64 k2, .string T, .slice a1 n1 c1, .slice a2 n2 c2, .slice a3 n3 c3, .int .i64 DU]) (by simp [results, Tryz.results24, go_sem, f0, f1, f2, f3, f4, f5, f6, f7]) rfl ?_
  rw [HEF.out]
  dsimp only
  exact ⟨_, _, _, _, _, _, _, _, _, _, _, (by rw [HKS.out, HDU.out]), HVv, HRd, HFin⟩
theorem effect_call (b : Nat) (s : RS) (w : World) (h : RDe b s w) (hl : s.1.length ≤ 140737488355328) : Calls Tryz.prog 24 #[ptr b] w (EfE b s w) := by
  by_cases h1 : rK s = 1
  · exact eff1 b s w h hl (by rw [h1]; rfl) (by rw [h1]; rfl) (by rw [h1]; rfl)
  · by_cases h2 : rK s = 2
    · exact eff2 b s w h hl (by rw [h2]; rfl) (by rw [h2]; rfl) (by rw [h2]; rfl)
    · by_cases h3 : rK s = 3
      · exact eff3 b s w h hl (by rw [h3]; rfl) (by rw [h3]; rfl) (by rw [h3]; rfl)
      · exact eff4 b s w h hl (by simp [pkK, h1, h2, h3]) (by simp [pdK, h1, h3]) (by simp [pvK, h1])
end Go.Proofs.YtpnigkjmofhmbabGreat.EEff
