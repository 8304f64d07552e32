/- What must come whatever the input is. The law EffectWrites. -/
import Derived.Test.YtpnigkjmofhmbaaGreatEDoM
import Derived.Test.YtpnigkjmofhmbaaGreatFSame
import Derived.Test.YtpnigkjmofhmbaaGreatFBytesM
section
namespace Go.Proofs.YtpnigkjmofhmbaaGreat.ESure
open Go.RowKit Go.Maps
open Go.Proofs.YtpnigkjmofhmbaaGreat.SpaceMath (wout withL lkp keys Ris toD)
open Go.Proofs.YtpnigkjmofhmbaaGreat.ValueMath (Vl chk small sm)
open Go.Proofs.YtpnigkjmofhmbaaGreat.Base (mk mk_list mk_size Gr hid_of SL)
open Go.Proofs.YtpnigkjmofhmbaaGreat.Turn
open Go.Proofs.YtpnigkjmofhmbaaGreat.Vals
open Go.Proofs.YtpnigkjmofhmbaaGreat.Check0 (Wel)
open Go.Proofs.YtpnigkjmofhmbaaGreat.Dec (zV)
open Go.Proofs.YtpnigkjmofhmbaaGreat.SBase
open Go.Proofs.YtpnigkjmofhmbaaGreat.SFind
open Go.Proofs.YtpnigkjmofhmbaaGreat.STouch
open Go.Proofs.YtpnigkjmofhmbaaGreat.SDrop
open Go.Proofs.YtpnigkjmofhmbaaGreat.EMay
open Go.Proofs.YtpnigkjmofhmbaaGreat.EAll
open Go.Proofs.YtpnigkjmofhmbaaGreat.EEnc
open Go.Proofs.YtpnigkjmofhmbaaGreat.EDec
open Go.Proofs.YtpnigkjmofhmbaaGreat.EDecC
open Go.Proofs.YtpnigkjmofhmbaaGreat.EDo
open Go.Proofs.YtpnigkjmofhmbaaGreat.EApp
open Go.Proofs.YtpnigkjmofhmbaaGreat.ESnap
set_option linter.unusedVariables false
set_option linter.unusedSimpArgs false
def xV : Vl := ⟨1, [120], [], [], []⟩
def l1 : List Ef := [⟨2, [97], zV, 0⟩, ⟨4, [], zV, 0⟩]
def l2 : List Ef := [⟨1, [97], xV, 0⟩, ⟨2, [113], zV, 0⟩, ⟨3, [97], zV, 7⟩]
theorem e1 : EEnc.encS l1 = [2, 1, 0, 0, 0, 0, 0, 0, 0, 97, 4] := by kernel_rfl
theorem e2 : encN l1 = 0 := by kernel_rfl
theorem d1 : dcN [2, 1, 0, 0, 0, 0, 0, 0, 0, 97, 4] = 0 := by kernel_rfl
theorem d2 : (dcR [2, 1, 0, 0, 0, 0, 0, 0, 0, 97, 4]).length = 2 := by kernel_rfl
theorem d3 : dcN [5] = 160 := by kernel_rfl
theorem a1 : allE l2 = true := by kernel_rfl
theorem s1 : doL ⟨[], 0, none⟩ l2 = ⟨[([97], ⟨xV, 7, 2⟩)], 2, none⟩ := by rfl
theorem va_nil (W : World) (k : Int) (t : Bs) : VA W (.agg #[.int .i64 k, .string (mk t), .slice none 0 0, .slice none 0 0, .slice none 0 0]) ⟨k, t, [], [], []⟩ := ⟨_, _, _, rfl, ⟨none, 0, rfl, Nat.le_refl _, .inl rfl⟩, ⟨none, 0, rfl, Nat.le_refl _, .inl rfl⟩, ⟨none, 0, rfl, Nat.le_refl _, .inl rfl⟩⟩
theorem wel_nil (k : Int) (t : Bs) (h : t.length < 4294967296) : Wel ⟨k, t, [], [], []⟩ := Dec.wel_of ⟨by simp, by simp, by simp⟩ ⟨h, by simp, by simp, by simp⟩
theorem nice_nil (kd : Int) (key : Bs) (k : Int) (t : Bs) (d : Int) (hk : key.length ≤ 140737488355328) (h : t.length < 4294967296) : Nice ⟨kd, key, ⟨k, t, [], [], []⟩, d⟩ := ⟨hk, wel_nil k t h, ⟨by simp, by simp, by simp⟩⟩
abbrev nl : Value := .slice none 0 0
abbrev O1 : Obj := .cells #[.int .i64 2, .string ⟨#[97]⟩, .int .i64 0, .string ⟨#[]⟩, nl, nl, nl, .int .i64 0, .int .i64 4, .string ⟨#[]⟩, .int .i64 0, .string ⟨#[]⟩, nl, nl, nl, .int .i64 0] 78
abbrev O2 : Obj := .cells #[.int .i64 1, .string ⟨#[97]⟩, .int .i64 1, .string ⟨#[120]⟩, nl, nl, nl, .int .i64 0, .int .i64 2, .string ⟨#[113]⟩, .int .i64 0, .string ⟨#[]⟩, nl, nl, nl, .int .i64 0, .int .i64 3, .string ⟨#[97]⟩, .int .i64 0, .string ⟨#[]⟩, nl, nl, nl, .int .i64 7] 78
theorem fat_of {W : World} {g o : Nat} {f : Ef} {k : Int} {t : Bs} (c0 : W.cell? ⟨g, o, none⟩ = some (.int .i64 f.kind)) (c1 : W.cell? ⟨g, o + 1, none⟩ = some (.string (mk f.key))) (c2 : W.cell? ⟨g, o + 2, none⟩ = some (.int .i64 k)) (c3 : W.cell? ⟨g, o + 3, none⟩ = some (.string (mk t))) (c4 : W.cell? ⟨g, o + 4, none⟩ = some nl) (c5 : W.cell? ⟨g, o + 5, none⟩ = some nl) (c6 : W.cell? ⟨g, o + 6, none⟩ = some nl) (c7 : W.cell? ⟨g, o + 7, none⟩ = some (.int .i64 f.due)) (hv : f.val = ⟨k, t, [], [], []⟩) : FAt W g o f :=
  ⟨none, 0, 0, none, 0, 0, none, 0, 0, k, mk t, c0, c1, c2, c3, c4, c5, c6, c7, by rw [hv]; exact va_nil W k t⟩
theorem fs1 {W : World} {g : Nat} (h : W.heap[g]? = some O1) : FSl W (.slice (some ⟨g, 0, none⟩) 2 2) l1 := by
  refine ⟨_, 2, rfl, Nat.le_refl _, .inr ⟨g, 0, rfl, fun k hk => ?_⟩⟩
  have hk : k < 2 := hk
  have c := fun j => Lib.cell_of_heap h j
  match k, hk with
  | 0, _ => exact fat_of (k := 0) (t := []) (c 0) (c 1) (c 2) (c 3) (c 4) (c 5) (c 6) (c 7) rfl
  | 1, _ => exact fat_of (k := 0) (t := []) (c 8) (c 9) (c 10) (c 11) (c 12) (c 13) (c 14) (c 15) rfl
theorem fs2 {W : World} {g : Nat} (h : W.heap[g]? = some O2) : FSl W (.slice (some ⟨g, 0, none⟩) 3 3) l2 := by
  refine ⟨_, 3, rfl, Nat.le_refl _, .inr ⟨g, 0, rfl, fun k hk => ?_⟩⟩
  have hk : k < 3 := hk
  have c := fun j => Lib.cell_of_heap h j
  match k, hk with
  | 0, _ => exact fat_of (k := 1) (t := [120]) (c 0) (c 1) (c 2) (c 3) (c 4) (c 5) (c 6) (c 7) rfl
  | 1, _ => exact fat_of (k := 0) (t := []) (c 8) (c 9) (c 10) (c 11) (c 12) (c 13) (c 14) (c 15) rfl
  | 2, _ => exact fat_of (k := 0) (t := []) (c 16) (c 17) (c 18) (c 19) (c 20) (c 21) (c 22) (c 23) rfl
theorem ni1 : ∀ f ∈ l1, Nice f := fun f hf => by
  simp only [l1, List.mem_cons, List.not_mem_nil, or_false] at hf
  rcases hf with rfl | rfl
  · exact nice_nil _ _ _ _ _ (by decide) (by decide)
  · exact nice_nil _ _ _ _ _ (by decide) (by decide)
theorem ni2 : ∀ f ∈ l2, Nice f ∧ f.kind ≠ 4 := fun f hf => by
  simp only [l2, List.mem_cons, List.not_mem_nil, or_false] at hf
  rcases hf with rfl | rfl | rfl
  · exact ⟨nice_nil _ _ _ _ _ (by decide) (by decide), by decide⟩
  · exact ⟨nice_nil _ _ _ _ _ (by decide) (by decide), by decide⟩
  · exact ⟨nice_nil _ _ _ _ _ (by decide) (by decide), by decide⟩
set_option maxRecDepth 100000 in
theorem text_call (X : ByteArray) (w : World) : Calls Tryz.prog 91 #[.string X] w fun r w' => r = .returned (.agg #[.int .i64 1, .string X, nl, nl, nl]) ∧ Below w.heap.size w w' := by
  go_enter Tryz.func91, Tryz.ntmps91
  go_wp2_with fail
  exact bodyPost_ret (v := .agg #[.int .i64 1, .string X, nl, nl, nl]) (by simp [results, Tryz.results91, go_sem]) rfl ⟨rfl, alb _ _⟩
set_option maxHeartbeats 4000000 in
set_option maxRecDepth 100000 in
theorem sure_call (w : World) : Calls Tryz.prog 50 #[] w fun r w' => r = .returned (.bool true) ∧ Below w.heap.size w w' := by
  obtain ⟨W1, hW1⟩ : ∃ W1, W1 = w.alloc O1 := ⟨_, rfl⟩
  have HE : Hid (Calls Tryz.prog 48 #[.slice (some ⟨w.heap.size, 0, none⟩) 2 2] W1 fun e w' => e = .returned (.tuple #[.string (mk [2, 1, 0, 0, 0, 0, 0, 0, 0, 97, 4]), .int .i64 0]) ∧ Below W1.heap.size W1 w') := hid_of (by
    have := encode_call (w := W1) (v := .slice (some ⟨w.heap.size, 0, none⟩) 2 2) (l := l1) (fs1 (by rw [hW1]; exact heap_alloc_new w _)) ni1 (by decide) (fun _ => by decide)
    rw [e1, e2] at this
    exact this)
  have HD1 : Hid (∀ W, Calls Tryz.prog 89 #[.string (mk [2, 1, 0, 0, 0, 0, 0, 0, 0, 97, 4])] W fun e w' => ∃ a c, e = .returned (.tuple #[.slice a 2 c, .int .i64 0]) ∧ Below W.heap.size W w') := hid_of fun W => by
    refine (decode_call [2, 1, 0, 0, 0, 0, 0, 0, 0, 97, 4] W (by decide)).mono ?_
    rintro e w' ⟨v, rfl, ⟨C, hC⟩, hb⟩
    obtain ⟨a, c, rfl⟩ := dl_shape hC
    rw [d1, d2]
    exact ⟨a, c, rfl, hb⟩
  have HD2 : Hid (∀ W, Calls Tryz.prog 89 #[.string ⟨#[5]⟩] W fun e w' => ∃ v, e = .returned (.tuple #[v, .int .i64 160]) ∧ Below W.heap.size W w') := hid_of fun W => by
    refine (decode_call [5] W (by decide)).mono ?_
    rintro e w' ⟨v, rfl, _, hb⟩
    rw [d3]
    exact ⟨v, rfl, hb⟩
  have HNw := hid_of new_call
  have HTx := hid_of (text_call ⟨#[120]⟩)
  have HB1 := hid_of (show Below w.heap.size w W1 by rw [hW1]; exact alb _ _)
  have HW1 := hid_of hW1
  have y0 : (mk [2, 1, 0, 0, 0, 0, 0, 0, 0, 97, 4]).toList = [2, 1, 0, 0, 0, 0, 0, 0, 0, 97, 4] := mk_list _
  have y1 : ((mk [2, 1, 0, 0, 0, 0, 0, 0, 0, 97, 4]).toList == [2, 1, 0, 0, 0, 0, 0, 0, 0, 97, 4]) = true := by rw [mk_list]; rfl
  clear hW1
  generalize mk [2, 1, 0, 0, 0, 0, 0, 0, 0, 97, 4] = Y at *
  go_enter Tryz.func50, Tryz.ntmps50
  go_wp2_with fail
  rw [← HW1.out]
  refine HE.out.mono ?_
  rintro e w2 ⟨rfl, hb2⟩
  have HB2 := hid_of (HB1.out.trans (hb2.mono HB1.out.size))
  clear hb2 HE
  go_wp2_with fail
  refine (HD1.out w2).mono ?_
  rintro e w3 ⟨a, c, rfl, hb3⟩
  have HB3 := hid_of (HB2.out.trans (hb3.mono HB2.out.size))
  clear hb3 HD1
  go_wp2_with fail
  refine (HD2.out w3).mono ?_
  rintro e w4 ⟨v, rfl, hb4⟩
  have HB4 := hid_of (HB3.out.trans (hb4.mono HB3.out.size))
  clear hb4 HD2
  go_wp2_with fail
  refine (HNw.out w4).mono ?_
  rintro e w5 ⟨F, rfl, hsp, hb5, hF⟩
  have HB5 := hid_of (HB4.out.trans (hb5.mono HB4.out.size))
  have HS5 := hid_of hsp
  have HF := hid_of hF
  have hl4 : w4.heap.size < w5.heap.size := (SPut.sp_cells hsp).1
  clear hb5 hsp hF HNw
  go_wp2_with fail
  refine (HTx.out w5).mono ?_
  rintro e w6 ⟨rfl, hb6⟩
  have HB6 := hid_of hb6
  clear hb6 HTx y0 y1
  obtain ⟨W7, hW7⟩ : ∃ W7, W7 = w6.alloc O2 := ⟨_, rfl⟩
  have B7 : Below w5.heap.size w5 W7 := by rw [hW7]; exact HB6.out.trans ((alb w6 _).mono HB6.out.size)
  have x7 : W7.heap[w6.heap.size]? = some O2 := by rw [hW7]; exact heap_alloc_new w6 _
  have nF : ¬ F w6.heap.size := fun q => by have := HS5.out.lo _ q; have := HB6.out.size; omega
  have HA : Hid (Calls Tryz.prog 90 #[ptr w4.heap.size, .slice (some ⟨w6.heap.size, 0, none⟩) 3 3] W7 fun r w' => r = .returned (.int .i64 0) ∧ Dn F F w4.heap.size W7 w' ⟨[([97], ⟨xV, 7, 2⟩)], 2, none⟩) := hid_of (by
    have := apply_call (HS5.out.below B7) rfl (v := .slice (some ⟨w6.heap.size, 0, none⟩) 3 3) (l := l2) (fun W hW => fs2 ((hW.block _ (lt_of x7) nF).trans x7)) a1 (fun f hf => (ni2 f hf).2) (fun f hf => (ni2 f hf).1) (by decide) (by decide)
    rw [s1] at this
    exact this)
  have HB7 := hid_of B7
  have HW7 := hid_of hW7
  clear hW7 B7 x7 nF
  go_wp2_with fail
  rw [← HW7.out]
  refine HA.out.mono ?_
  rintro r w8 ⟨rfl, F8, s8, ev8, n8⟩
  have HS8 := hid_of s8
  have HB8 := hid_of (show Below w.heap.size w w8 from by
    have q7 := HB5.out.trans (HB7.out.mono HB5.out.size)
    have q8 : Below w4.heap.size W7 w8 := ev8.below (Nat.le_trans (Nat.le_of_lt hl4) HB7.out.size) HF.out
    exact q7.trans (q8.mono HB4.out.size))
  have HDu := hid_of (due_yes s8 [97] (by decide) 0 (e := ⟨xV, 7, 2⟩) rfl rfl)
  rw [show mk [97] = ⟨#[97]⟩ from rfl] at HDu
  clear s8 ev8 n8 HA
  go_wp2_with fail
  refine HDu.out.mono ?_
  rintro r w9 ⟨rfl, hb9⟩
  have HS9 := hid_of (HS8.out.below hb9)
  have HB9 := hid_of (HB8.out.trans (hb9.mono HB8.out.size))
  have HSn := hid_of (snap_call HS9.out (by decide))
  clear hb9 HDu
  go_wp2_with fail
  refine HSn.out.mono ?_
  rintro r w10 ⟨g, C, rfl, hr, hg, hcl, hnf, hb10⟩
  have hcl : C.length = 1 := hcl
  have HCo := hid_of (counter_call (HS9.out.below hb10))
  have HAn := hid_of (apply_nil (.slice none 0 0))
  have HB10 := hid_of (HB9.out.trans (hb10.mono HB9.out.size))
  have c7 : w10.cell? ⟨g, 7, none⟩ = some (.int .i64 7) := by
    have h0 : 0 < C.length := by rw [hcl]; omega
    obtain ⟨k2, T, a1, n1, c1, a2, n2, c2, a3, n3, c3, hcs, _⟩ := hnf 0 h0 (by decide)
    have := hr.cell h0 (j := 7) (by omega)
    rw [hcs] at this
    exact this
  rw [hcl]
  clear hr hg hcl hnf hb10 HSn
  go_wp2_with fail
  refine HCo.out.mono ?_
  rintro r w11 ⟨rfl, rfl⟩
  go_wp2_with fail
  refine (HAn.out w11).mono ?_
  rintro r w12 ⟨rfl, rfl⟩
  go_wp2_with fail
  go_ret
  exact ⟨rfl, HB10.out⟩
end Go.Proofs.YtpnigkjmofhmbaaGreat.ESure
end
section
namespace Go.Proofs.YtpnigkjmofhmbaaGreat.LawE
open Go.RowKit Go.Maps
open Go.Proofs.YtpnigkjmofhmbaaGreat.SetMath
open Go.Proofs.YtpnigkjmofhmbaaGreat.BytesMath
open Go.Proofs.YtpnigkjmofhmbaaGreat.FixMath
open Go.Proofs.YtpnigkjmofhmbaaGreat.ValueMath
open Go.Proofs.YtpnigkjmofhmbaaGreat.Base
open Go.Proofs.YtpnigkjmofhmbaaGreat.Vals
open Go.Proofs.YtpnigkjmofhmbaaGreat.Check0
open Go.Proofs.YtpnigkjmofhmbaaGreat.SBase
open Go.Proofs.YtpnigkjmofhmbaaGreat.EAll
open Go.Proofs.YtpnigkjmofhmbaaGreat.EEnc
open Go.Proofs.YtpnigkjmofhmbaaGreat.EDec
open Go.Proofs.YtpnigkjmofhmbaaGreat.FTwin
set_option linter.unusedVariables false
set_option linter.unusedSimpArgs false
set_option maxHeartbeats 4000000 in
set_option maxRecDepth 100000 in
theorem writes_call {w : World} {v : Value} {l : List Ef} (h : FSl w v l) (hn : ∀ f ∈ l, Nice f) (hl : l.length < 549755813888) (hlen : (encL l).length ≤ 140737488355328) :
    Calls Tryz.prog 8 #[v] w fun e w' => e = .returned (.bool true) ∧ Below w.heap.size w w' := by
  have hf : ∀ f ∈ l, Fit f.val := fun f hf => (hn f hf).wel.toFit
  have HT := hid_of (twin_call h hf hl)
  have HE := hid_of fun (W : World) (u : Value) (hu : FSl W u l) => encode_call hu hn (by omega) (fun _ => hlen)
  have HR := hid_of fun (W : World) (hW : Below w.heap.size w W) => FEnc.rencode_call (h.below hW) hn (by omega) hlen
  have HS := hid_of fun (W : World) (u : Value) (hu : FSl W u l) (hW : Below w.heap.size w W) => FSame.same_call hu (h.below hW) hf hl
  have HA := hid_of fun W => ESure.sure_call W
  obtain ⟨a, c, rfl, hc, h⟩ := h
  have hee := str_eq (EEnc.encS l) (EEnc.encS l)
  rw [decide_eq_true rfl] at hee
  have hnn : (encN l == encN l) = true := by simp
  clear h hn hf hl hlen
  generalize mk (EEnc.encS l) = T at *
  generalize encN l = N at *
  go_enter Tryz.func8, Tryz.ntmps8
  go_wp2_with fail
  refine HT.out.mono ?_
  rintro e w1 ⟨u, rfl, ⟨C, hC⟩, b1⟩
  have HU := hid_of (dl_fsl hC)
  have B1 := hid_of b1
  clear hC b1 HT
  obtain ⟨a1, c1, rfl, -, -⟩ := id HU.out
  go_wp2_with fail
  refine (HE.out w1 _ HU.out).mono ?_
  rintro e w2 ⟨rfl, b2⟩
  have HU2 := hid_of (HU.out.below b2)
  have B2 := hid_of (FRow.bel B1.out b2 (Nat.le_refl _))
  clear b2 HE
  go_wp2_with fail
  refine (HR.out w2 B2.out).mono ?_
  rintro e w3 ⟨rfl, b3⟩
  have HU3 := hid_of (HU2.out.below b3)
  have B3 := hid_of (FRow.bel B2.out b3 (Nat.le_refl _))
  clear b3 HR
  go_wp2_with fail
  refine (HS.out w3 _ HU3.out B3.out).mono ?_
  rintro e w4 ⟨rfl, b4⟩
  have B4 := hid_of (FRow.bel B3.out b4 (Nat.le_refl _))
  clear b4 HS
  go_wp2_with fail
  refine (HA.out w4).mono ?_
  rintro e w5 ⟨rfl, b5⟩
  have B5 := hid_of (FRow.bel B4.out b5 (Nat.le_refl _))
  clear b5
  go_wp2_with fail
  go_ret
  exact ⟨rfl, B5.out⟩
end Go.Proofs.YtpnigkjmofhmbaaGreat.LawE
end
