/- Fields are laid back: call.layBack of hashcmd. Something is done to the fields of a key: call.change of hashcmd. What is asked of the fields of a key: call.read of hashcmd. -/
import Derived.Test.YtcgdnpcegcmboaaGreatDoorRPrintM
import Derived.Test.YtcgdnpcegcmboaaGreatDoorEqualM
import Derived.Test.YtcgdnpcegcmboaaGreatDoorSPutM
import Derived.Test.YtcgdnpcegcmboaaGreatDoorCheckM
import Derived.Deep.RegionHeld3
import Derived.Test.YtcgdnpcegcmboaaGreatDoorRowOfM
section
namespace Go.Proofs.YtcgdnpcegcmboaaGreatDoor.HLay
open Go.RowKit Go.Maps
open Go.Proofs.YtcgdnpcegcmboaaGreatDoor.SpaceMath (wout withL lkp keys toD)
open Go.Proofs.YtcgdnpcegcmboaaGreatDoor.ValueMath (Vl chk small)
open Go.Proofs.YtcgdnpcegcmboaaGreatDoor.Base (mk mk_list mk_size Gr hid_of SL)
open Go.Proofs.YtcgdnpcegcmboaaGreatDoor.Turn
open Go.Proofs.YtcgdnpcegcmboaaGreatDoor.Vals
open Go.Proofs.YtcgdnpcegcmboaaGreatDoor.Check0 (Wel)
open Go.Proofs.YtcgdnpcegcmboaaGreatDoor.SBase
open Go.Proofs.YtcgdnpcegcmboaaGreatDoor.SFind
open Go.Proofs.YtcgdnpcegcmboaaGreatDoor.SPut (vO)
open Go.Proofs.YtcgdnpcegcmboaaGreatDoor.QBase
open Go.Proofs.YtcgdnpcegcmboaaGreatDoor.HCmd
open Go.Proofs.YtcgdnpcegcmboaaGreatDoor.DiBase (DK)
open Go.Proofs.YtcgdnpcegcmboaaGreatDoor.Parse (Has)
set_option linter.unusedVariables false
set_option linter.unusedSimpArgs false
open Go.Proofs.YtcgdnpcegcmboaaGreatDoor.HFld
def hV (l : FL) : Vl := ⟨3, [], [], l, []⟩
def pH (S : Sp) (k : Bs) (l : FL) (d : Int) : Sp := ⟨withL S.l k ⟨hV l, d, S.cnt + 1⟩, S.cnt + 1, none⟩
theorem chk_h {l : FL} (h0 : 0 < l.length) (h : Fit l) : chk (hV l) = 0 := by
  have e1 : (l.all fun p => decide (p.2.length ≤ 1048576)) = true := List.all_eq_true.2 fun p hp => by simpa using (h.len p hp).2
  have e2 : ((l.map (·.1)).all fun t => decide (t.length ≤ 1048576)) = true := List.all_eq_true.2 fun t ht => by
    obtain ⟨p, hp, rfl⟩ := List.mem_map.1 ht
    simpa using (h.len p hp).1
  have e3 : SetMath.Ris (l.map (·.1)) := List.pairwise_map.2 h.ris
  have hm : ValueMath.hashOk l = true := by
    unfold ValueMath.hashOk ValueMath.setOk ValueMath.lOk ValueMath.fnames ValueMath.tOk
    rw [e1, e2]
    simp only [Bool.true_and, Bool.and_eq_true, decide_eq_true_eq]
    exact ⟨by simpa using h0, e3⟩
  unfold chk ValueMath.stray ValueMath.mayBe hV
  simp [hm]
theorem small_h {l : FL} (h : l.length < 4294967296) : small (hV l) := by unfold small hV; simp; omega
theorem wel_h {l : FL} (h : l.length < 4294967296) (ht : Fit l) : Wel (hV l) := Dec.wel_of (small_h h) ⟨by show ([] : Bs).length < _; simp, fun y hy => by simp [hV] at hy, fun p hp => by have := ht.len p hp; omega, fun y hy => by simp [hV] at hy⟩
theorem va_h {w : World} {v : Value} {l : FL} (h : FRow.FS w v l) : VA w (.agg #[.int .i64 3, .string ⟨#[]⟩, .slice none 0 0, v, .slice none 0 0]) (hV l) := ⟨_, _, _, rfl, (Base.NR.sl (.inl ⟨rfl, rfl⟩ : Base.NR 0 w _ [])).mono fun _ _ _ => trivial, h, ERow.fs_row (ERow.or_nil 0 _)⟩
section
variable {F X : Nat → Prop} {b : Nat} {w : World} {S : Sp}
theorem due_bd (h : SP F X b w S) (k : Bs) (now : Int) : 0 ≤ dueV S now k ∧ dueV S now k ≤ 9007199254740992 := by
  unfold dueV
  cases hg : gt S now k with
  | none => simp
  | some e =>
    obtain ⟨FI, bm, bi, mv, L, s, h⟩ := h
    have he := h.ent k
    rw [(gt_some hg).1] at he
    cases q : lkp L k with
    | none => rw [q] at he; exact absurd he (by simp [Two])
    | some v =>
      rw [q] at he
      exact EnAt.due he
set_option maxHeartbeats 4000000 in
set_option maxRecDepth 100000 in
theorem layBack_same (h : SP F X b w S) (k : Bs) (hk : k.length ≤ 281474976710656) (now : Int) (a : Option Addr) (n c : Nat) {L L' : FL} (a1 : Option Addr) (c1 : Nat) (hf : FRow.FS w (.slice a1 L.length c1) L) (a2 : Option Addr) (c2 : Nat) (hf' : FRow.FS w (.slice a2 L'.length c2) L') (hl : L.length ≤ 1099511627776) (he : L = L') :
    Calls Tryz.prog 132 #[cV b now (mk k) a n c, .slice a1 L.length c1, .slice a2 L'.length c2] w fun e w' => e = .returned (.bool true) ∧ Below w.heap.size w w' := by
  have hl' : L'.length ≤ 1099511627776 := by rw [← he]; exact hl
  obtain ⟨W, hW⟩ : ∃ W, W = w.alloc (cO b now (mk k) a n c) := ⟨_, rfl⟩
  have bW : Below w.heap.size w W := by rw [hW]; exact alb _ _
  have x0 : W.heap[w.heap.size]? = some (cO b now (mk k) a n c) := by rw [hW]; exact heap_alloc_new w _
  have HE := hid_of (Equal.eqF_call _ _ L L' W (hf.below bW) (hf'.below bW) (by omega) (by omega))
  have HSP := hid_of (sp_wide h bW)
  have HH := hid_of h
  have HB := hid_of bW
  have HX0 := hid_of x0
  have HW := hid_of hW
  rw [decide_eq_true he] at HE
  clear hW bW x0 h hf hf' he
  generalize mk k = K at *
  go_enter Tryz.func132, Tryz.ntmps132
  go_wp2_with fail
  rw [← HW.out]
  refine HE.out.mono ?_
  rintro e w1 ⟨rfl, b1⟩
  have B1 := hid_of (FRow.bel HB.out b1 (Nat.le_refl _))
  clear b1
  go_wp2_with fail
  go_ret
  exact ⟨rfl, B1.out⟩
set_option maxHeartbeats 4000000 in
set_option maxRecDepth 100000 in
theorem layBack_put (h : SP F X b w S) (k : Bs) (hk : k.length ≤ 281474976710656) (now : Int) (a : Option Addr) (n c : Nat) {L L' : FL} (a1 : Option Addr) (c1 : Nat) (hf : FRow.FS w (.slice a1 L.length c1) L) (a2 : Option Addr) (c2 : Nat) (hf' : FRow.FS w (.slice a2 L'.length c2) L') (hl : L.length ≤ 1099511627776) (hr : Room S) (he : L ≠ L') (h0 : 0 < L'.length) (hn : L'.length < 4294967296) (fit : Fit L') :
    Calls Tryz.prog 132 #[cV b now (mk k) a n c, .slice a1 L.length c1, .slice a2 L'.length c2] w fun e w' => e = .returned (.bool true) ∧ Dn F X b w w' (pH S k L' (dueV S now k)) := by
  have hl' : L'.length ≤ 1099511627776 := by omega
  obtain ⟨W, hW⟩ : ∃ W, W = w.alloc (cO b now (mk k) a n c) := ⟨_, rfl⟩
  have bW : Below w.heap.size w W := by rw [hW]; exact alb _ _
  have x0 : W.heap[w.heap.size]? = some (cO b now (mk k) a n c) := by rw [hW]; exact heap_alloc_new w _
  have HE := hid_of (Equal.eqF_call _ _ L L' W (hf.below bW) (hf'.below bW) (by omega) (by omega))
  have HSP := hid_of (sp_wide h bW)
  have HH := hid_of h
  have HB := hid_of bW
  have HX0 := hid_of x0
  have HW := hid_of hW
  rw [decide_eq_false he] at HE
  have gz : ((L'.length : Int) == 0) = false := beq_false_of_ne (by omega)
  have H2 := hid_of fun (V : World) (hV : Below W.heap.size W V) => due_call (HSP.out.below hV) k hk now
  have hdb := due_bd h k now
  have H4 := hid_of fun (V : World) (hV : Below W.heap.size W V) => SPut.put_ok (HSP.out.below hV) hr.m hr.c hr.n k hk (va_h ((hf'.below bW).below hV)) (wel_h hn fit) (small_h hn) (chk_h h0 fit) (dueV S now k) hdb
  have t0 : HCmd.Tmp w W w.heap.size := ⟨Nat.le_refl _, lt_of x0⟩
  unfold pH
  clear hW bW x0 h hf hf' hdb HSP
  generalize dueV S now k = D at *
  generalize (gt S now k).isSome = Q at *
  generalize mk k = K at *
  go_enter Tryz.func132, Tryz.ntmps132
  go_wp2_with fail
  rw [← HW.out]
  refine HE.out.mono ?_
  rintro e w1 ⟨rfl, b1⟩
  have B1 := hid_of b1
  obtain ⟨⟨p0, p1, p2, p3⟩, -⟩ := box4 ((b1.block _ (lt_of HX0.out)).trans HX0.out)
  clear b1 p3
  go_wp2_with fail
  refine (H2.out w1 B1.out).mono ?_
  rintro e w2 ⟨rfl, b2⟩
  have B2 := hid_of (FRow.bel B1.out b2 (Nat.le_refl _))
  obtain ⟨⟨q0, q1, q2, q3⟩, -⟩ := box4 ((B2.out.block _ (lt_of HX0.out)).trans HX0.out)
  clear b2 p0 p1 p2 q3 q1
  go_wp2_with fail
  refine (H4.out w2 B2.out).mono ?_
  rintro e w3 ⟨rfl, d3⟩
  have D3 := dn_tmp HH.out HB.out (SDrop.dn_after B2.out d3) (Ev.refl _ _)
  clear d3
  go_wp2_with fail
  go_ret
  exact ⟨rfl, D3⟩
set_option maxHeartbeats 4000000 in
set_option maxRecDepth 100000 in
theorem layBack_drop (h : SP F X b w S) (k : Bs) (hk : k.length ≤ 281474976710656) (now : Int) (a : Option Addr) (n c : Nat) {L L' : FL} (a1 : Option Addr) (c1 : Nat) (hf : FRow.FS w (.slice a1 L.length c1) L) (a2 : Option Addr) (c2 : Nat) (hf' : FRow.FS w (.slice a2 L'.length c2) L') (hl : L.length ≤ 1099511627776) (hr : Room S) (he : L ≠ L') (h0 : L' = []) {en : En} (hen : lkp S.l k = some en) :
    Calls Tryz.prog 132 #[cV b now (mk k) a n c, .slice a1 L.length c1, .slice a2 L'.length c2] w fun e w' => e = .returned (.bool true) ∧ Dn F X b w w' ⟨wout S.l k, S.cnt + 1, none⟩ := by
  have hl' : L'.length ≤ 1099511627776 := by rw [h0]; simp
  obtain ⟨W, hW⟩ : ∃ W, W = w.alloc (cO b now (mk k) a n c) := ⟨_, rfl⟩
  have bW : Below w.heap.size w W := by rw [hW]; exact alb _ _
  have x0 : W.heap[w.heap.size]? = some (cO b now (mk k) a n c) := by rw [hW]; exact heap_alloc_new w _
  have HE := hid_of (Equal.eqF_call _ _ L L' W (hf.below bW) (hf'.below bW) (by omega) (by omega))
  have HSP := hid_of (sp_wide h bW)
  have HH := hid_of h
  have HB := hid_of bW
  have HX0 := hid_of x0
  have HW := hid_of hW
  rw [decide_eq_false he] at HE
  have gz : L'.length = 0 := by rw [h0]; rfl
  have H4 := hid_of fun (V : World) (hV : Below W.heap.size W V) => SDrop.drop_yes (HSP.out.below hV) hr.m hr.c k hk hen
  clear hW bW x0 h hf hf' HSP
  rw [gz] at HE ⊢
  generalize wout S.l k = S' at *
  generalize mk k = K at *
  go_enter Tryz.func132, Tryz.ntmps132
  go_wp2_with fail
  rw [← HW.out]
  refine HE.out.mono ?_
  rintro e w1 ⟨rfl, b1⟩
  have B1 := hid_of b1
  obtain ⟨⟨p0, p1, p2, p3⟩, -⟩ := box4 ((b1.block _ (lt_of HX0.out)).trans HX0.out)
  clear b1 p3 p1
  go_wp2_with fail
  refine (H4.out w1 B1.out).mono ?_
  rintro e w3 ⟨rfl, d3⟩
  have D3 := dn_tmp HH.out HB.out (SDrop.dn_after B1.out d3) (Ev.refl _ _)
  clear d3
  go_wp2_with fail
  go_ret
  exact ⟨rfl, D3⟩
end
end Go.Proofs.YtcgdnpcegcmboaaGreatDoor.HLay
end
section
namespace Go.Proofs.YtcgdnpcegcmboaaGreatDoor.HChg
open Go.RowKit Go.Maps
open Go.Proofs.YtcgdnpcegcmboaaGreatDoor.SpaceMath (wout withL lkp keys toD)
open Go.Proofs.YtcgdnpcegcmboaaGreatDoor.ValueMath (Vl chk small)
open Go.Proofs.YtcgdnpcegcmboaaGreatDoor.Base (mk mk_list mk_size Gr hid_of SL)
open Go.Proofs.YtcgdnpcegcmboaaGreatDoor.Turn
open Go.Proofs.YtcgdnpcegcmboaaGreatDoor.Vals
open Go.Proofs.YtcgdnpcegcmboaaGreatDoor.Check0 (Wel)
open Go.Proofs.YtcgdnpcegcmboaaGreatDoor.SBase
open Go.Proofs.YtcgdnpcegcmboaaGreatDoor.SFind
open Go.Proofs.YtcgdnpcegcmboaaGreatDoor.SPut (vO)
open Go.Proofs.YtcgdnpcegcmboaaGreatDoor.QBase
open Go.Proofs.YtcgdnpcegcmboaaGreatDoor.HCmd
open Go.Proofs.YtcgdnpcegcmboaaGreatDoor.DiBase (DK)
open Go.Proofs.YtcgdnpcegcmboaaGreatDoor.Parse (Has)
set_option linter.unusedVariables false
set_option linter.unusedSimpArgs false
open Go.Proofs.YtcgdnpcegcmboaaGreatDoor.HFld
open Go.Proofs.YtcgdnpcegcmboaaGreatDoor.HLay
open Go.Proofs.YtcgdnpcegcmboaaGreatDoor.HRun (Ent)
/-- what the space is behind laying back -/
def Lay (S : Sp) (now : Int) (k : Bs) (L L' : FL) (S' : Sp) : Prop := (L = L' ∧ S' = S) ∨ (L ≠ L' ∧ 0 < L'.length ∧ L'.length < 4294967296 ∧ Fit L' ∧ Room S ∧ S' = pH S k L' (dueV S now k)) ∨ (L ≠ L' ∧ L' = [] ∧ Room S ∧ (∃ en, lkp S.l k = some en) ∧ S' = ⟨wout S.l k, S.cnt + 1, none⟩)
section
variable {F X : Nat → Prop} {b : Nat} {w : World} {S : Sp}
theorem layBack_call (h : SP F X b w S) (k : Bs) (hk : k.length ≤ 281474976710656) (now : Int) (a : Option Addr) (n c : Nat) {L L' : FL} {S' : Sp} (hlay : Lay S now k L L' S') (a1 : Option Addr) (c1 : Nat) (hf : FRow.FS w (.slice a1 L.length c1) L) (a2 : Option Addr) (c2 : Nat) (hf' : FRow.FS w (.slice a2 L'.length c2) L') (hl : L.length ≤ 1099511627776) :
    Calls Tryz.prog 132 #[cV b now (mk k) a n c, .slice a1 L.length c1, .slice a2 L'.length c2] w fun e w' => e = .returned (.bool true) ∧ Dn F X b w w' S' := by
  rcases hlay with ⟨he, rfl⟩ | ⟨he, h0, hn, fit, hr, rfl⟩ | ⟨he, h0, hr, ⟨en, hen⟩, rfl⟩
  · exact (layBack_same h k hk now a n c a1 c1 hf a2 c2 hf' hl he).mono fun e w' ⟨h1, h2⟩ => ⟨h1, Dn.of h h2⟩
  · exact layBack_put h k hk now a n c a1 c1 hf a2 c2 hf' hl hr he h0 hn fit
  · exact layBack_drop h k hk now a n c a1 c1 hf a2 c2 hf' hl hr he h0 hen
set_option maxHeartbeats 8000000 in
set_option maxRecDepth 100000 in
theorem change_ok (h : SP F X b w S) (k : Bs) (hk : k.length ≤ 281474976710656) (now : Int) (a : Option Addr) (n c : Nat) {L L' : FL} {S' : Sp} (hL : flds S now k L) (fit : Fit L) (hn' : L'.length < 8796093022208) (hlay : Lay S now k L L' S') (g : FuncId) (x : Value) (hent : Ent g) (rk : Int) (rT : ByteArray) (rn : Int)
    (hdo : ∀ (B : Nat) (V : World) (d m : Nat), w.heap.size ≤ B → B ≤ V.heap.size → Below w.heap.size w V → DK d m L V → B ≤ d → B ≤ m → Calls Tryz.prog g #[ptr d, x] V fun e w' => e = .returned (rp rk rT rn) ∧ DK d m L' w' ∧ Below B V w') :
    Calls Tryz.prog 86 #[cV b now (mk k) a n c, .func (.func g) #[] #[x]] w fun e w' => e = .returned (rp rk rT rn) ∧ Dn F X b w w' S' := by
  obtain ⟨W, hW⟩ : ∃ W, W = (w.alloc (cO b now (mk k) a n c)).alloc (rO 0 ⟨#[]⟩ 0 (.slice none 0 0)) := ⟨_, rfl⟩
  obtain ⟨bW, x0, x1, sW⟩ := two_boxes w (cO b now (mk k) a n c) (rO 0 ⟨#[]⟩ 0 (.slice none 0 0)) ⟨_, _, rfl⟩
  rw [← hW] at bW x0 x1 sW
  have H1 := hid_of (fields_call (h.below bW) k hk now a n c hL)
  have H2 := hid_of fun (V : World) (a2 : Option Addr) (c2 : Nat) (hf : FRow.FS V (.slice a2 L.length c2) L) => dictOf_call V a2 c2 hf fit
  have H3 := hid_of hdo
  have H4 := hid_of fun (V : World) (d m : Nat) (hd : DK d m L' V) => DiFields.all_fields d m L' V hd hn'
  have HSP := hid_of (sp_wide h bW)
  have hfn := fit.n
  have H5 := hid_of fun (V : World) (hV : Below W.heap.size W V) (a1 : Option Addr) (c1 : Nat) (hf : FRow.FS V (.slice a1 L.length c1) L) (a2 : Option Addr) (c2 : Nat) (hf' : FRow.FS V (.slice a2 L'.length c2) L') => layBack_call (HSP.out.below hV) k hk now a n c hlay a1 c1 hf a2 c2 hf' (by omega)
  have HH := hid_of h
  have HB := hid_of bW
  have HX0 := hid_of x0
  have HX1 := hid_of x1
  have HSW := hid_of sW
  have HW := hid_of hW
  obtain ⟨⟨c0, c1, c2, c3⟩, -⟩ := box4 x0
  have t0 : HCmd.Tmp w W w.heap.size := ⟨Nat.le_refl _, by rw [HSW.out]; omega⟩
  have t1 : HCmd.Tmp w W (w.heap.size + 1) := ⟨by omega, by rw [HSW.out]; omega⟩
  unfold Ent at hent
  clear hW bW x0 x1 sW h hL fit hdo hlay hn' hfn
  generalize mk k = K at *
  go_enter Tryz.func86, Tryz.ntmps86
  go_wp2_with fail
  rw [← HW.out]
  go_wp2_with fail
  refine H1.out.mono ?_
  rintro e w1 ⟨⟨a1, c1', rfl, hf⟩, b1⟩
  have B1 := hid_of b1
  have HF1 := hid_of hf
  clear b1 hf H1 c0 c1 c2 c3
  go_wp2_with fail
  refine (H2.out w1 a1 c1' HF1.out).mono ?_
  rintro e w2 ⟨⟨d, m, rfl, hd, hdl, hml⟩, b2⟩
  have B2 := hid_of (FRow.bel B1.out b2 (Nat.le_refl _))
  have B12 := hid_of b2
  have HQ1 := hid_of (H3.out w1.heap.size w2 d m (Nat.le_trans HB.out.size B1.out.size) b2.size (HB.out.trans (B2.out.mono HB.out.size)) hd hdl hml)
  clear b2 hd H2 H3 hdl hml
  go_wp2_with (go_at_fn g; refine HQ1.out.mono ?_; rintro e w3 ⟨rfl, hd3, b3⟩; have B13 := hid_of (B12.out.trans b3); have HF3 := hid_of (HF1.out.below B13.out); have B3 := hid_of (FRow.bel B1.out B13.out (Nat.le_refl _)); have HD3 := hid_of hd3; clear b3 hd3)
  obtain ⟨W3, hW3⟩ : ∃ W, W = w3.alloc (rO rk rT rn (.slice none 0 0)) := ⟨_, rfl⟩
  have bW3 : Below w3.heap.size w3 W3 := by rw [hW3]; exact alb _ _
  have Z3 := hid_of (show W3.heap[w3.heap.size]? = some (rO rk rT rn (.slice none 0 0)) by rw [hW3]; exact heap_alloc_new w3 _)
  have B4 := hid_of (FRow.bel B3.out bW3 (Nat.le_refl _))
  have HF4 := hid_of (HF3.out.below bW3)
  have HD4 := hid_of (HD3.out.below bW3)
  have HW3 := hid_of hW3
  clear bW3 hW3 HF3 HD3 HF1 B12 B13 HQ1
  rw [← HW3.out]
  have BD4 := hid_of (FRow.bel B4.out (Below.refl _ W3).drew (Nat.le_refl _))
  have HQ4 := hid_of (H4.out W3.drew d m (HD4.out.below (Below.refl _ W3).drew))
  have HF4d := hid_of (HF4.out.below (Below.refl _ W3).drew)
  have hc4 := (BD4.out.block _ (lt_of HX0.out)).trans HX0.out
  obtain ⟨⟨u0, u1, u2, u3⟩, -⟩ := box4 hc4
  have s0 : W3.drew.cell? ⟨w.heap.size, 0, none⟩ = some (.pointer (some ⟨b, 0, none⟩)) ∧ W3.drew.cell? ⟨w.heap.size, 1, none⟩ = some (.int .i64 now) ∧ W3.drew.cell? ⟨w.heap.size, 2, none⟩ = some (.string K) ∧ W3.drew.cell? ⟨w.heap.size, 3, none⟩ = some (.slice a n c) := ⟨u0, u1, u2, u3⟩
  clear hc4 u0 u1 u2 u3 H4 HD4 HF4
  go_wp2_with fail
  go_region_held3 (fun V => V.cell? ⟨w.heap.size, 0, none⟩ = some (.pointer (some ⟨b, 0, none⟩)) ∧ V.cell? ⟨w.heap.size, 1, none⟩ = some (.int .i64 now) ∧ V.cell? ⟨w.heap.size, 2, none⟩ = some (.string K) ∧ V.cell? ⟨w.heap.size, 3, none⟩ = some (.slice a n c)) (first | with_reducible exact s0 | with_reducible exact s1 | with_reducible exact s2) (first
    | (go_at_call 133; refine HQ4.out.mono ?_; rintro e w5 ⟨v5, rfl, hv5, b5⟩; have B5 := hid_of (FRow.bel BD4.out b5 (Nat.le_refl _)); have hfs5 := FRow.fs_row hv5; obtain ⟨a5, c5, rfl⟩ := shapeFRow hv5; have HF5 := hid_of hfs5; have HF5w := hid_of (HF4d.out.below b5); have s1 : w5.cell? ⟨w.heap.size, 0, none⟩ = some (.pointer (some ⟨b, 0, none⟩)) ∧ w5.cell? ⟨w.heap.size, 1, none⟩ = some (.int .i64 now) ∧ w5.cell? ⟨w.heap.size, 2, none⟩ = some (.string K) ∧ w5.cell? ⟨w.heap.size, 3, none⟩ = some (.slice a n c) := (box4 ((B5.out.block _ (lt_of HX0.out)).trans HX0.out)).1; have Z5 := hid_of ((b5.block _ (show w3.heap.size < W3.drew.heap.size from lt_of Z3.out)).trans Z3.out); clear hv5 hfs5 b5)
    | (go_at_call 132; refine (H5.out w5 B5.out a1 c1' HF5w.out a5 c5 HF5.out).mono ?_; rintro e w6 ⟨rfl, d6⟩; have D6 := hid_of (SDrop.dn_after B5.out d6); have z6 := (dn_block HH.out HB.out D6.out t1).trans HX1.out; have Z6 := hid_of z6; have y6 := (dn_block HSP.out B5.out d6 ⟨B3.out.size, lt_of Z5.out⟩).trans Z5.out; have s2 : w6.cell? ⟨w.heap.size, 0, none⟩ = some (.pointer (some ⟨b, 0, none⟩)) ∧ w6.cell? ⟨w.heap.size, 1, none⟩ = some (.int .i64 now) ∧ w6.cell? ⟨w.heap.size, 2, none⟩ = some (.string K) ∧ w6.cell? ⟨w.heap.size, 3, none⟩ = some (.slice a n c) := (box4 ((dn_block HH.out HB.out D6.out t0).trans HX0.out)).1; obtain ⟨⟨v0, v1, v2, v3⟩, fv⟩ := box4 z6; have fv0 := fv 0; have fv1 := fv 1; have fv2 := fv 2; have fv3 := fv 3; obtain ⟨⟨y0, y1, y2, y3⟩, -⟩ := box4 y6; clear fv z6 y6 d6))
  go_wp2_with fail
  have hz := fin4_at Z6.out (.int .i64 rk) (.string rT) (.int .i64 rn) (.slice none 0 0)
  have hdn := dn_tmp HH.out HB.out D6.out (ev_fin4 t1 (.int .i64 rk) (.string rT) (.int .i64 rn) (.slice none 0 0))
  unfold fin4 at hz hdn
  obtain ⟨⟨g0, g1, g2, g3⟩, -⟩ := box4 hz
  exact bodyPost_ret (v := rp rk rT rn) (by simp [results, Tryz.results86, go_sem, g0, g1, g2, g3]) rfl ⟨rfl, hdn⟩
set_option maxHeartbeats 8000000 in
set_option maxRecDepth 100000 in
theorem change_ok2 (h : SP F X b w S) (k : Bs) (hk : k.length ≤ 281474976710656) (now : Int) (a : Option Addr) (n c : Nat) {L L' : FL} {S' : Sp} (hL : flds S now k L) (fit : Fit L) (hn' : L'.length < 8796093022208) (hlay : Lay S now k L L' S') (g : FuncId) (x y : Value) (hent : Ent g) (rk : Int) (rT : ByteArray) (rn : Int)
    (hdo : ∀ (B : Nat) (V : World) (d m : Nat), w.heap.size ≤ B → B ≤ V.heap.size → Below w.heap.size w V → DK d m L V → B ≤ d → B ≤ m → Calls Tryz.prog g #[ptr d, x, y] V fun e w' => e = .returned (rp rk rT rn) ∧ DK d m L' w' ∧ Below B V w') :
    Calls Tryz.prog 86 #[cV b now (mk k) a n c, .func (.func g) #[] #[x, y]] w fun e w' => e = .returned (rp rk rT rn) ∧ Dn F X b w w' S' := by
  obtain ⟨W, hW⟩ : ∃ W, W = (w.alloc (cO b now (mk k) a n c)).alloc (rO 0 ⟨#[]⟩ 0 (.slice none 0 0)) := ⟨_, rfl⟩
  obtain ⟨bW, x0, x1, sW⟩ := two_boxes w (cO b now (mk k) a n c) (rO 0 ⟨#[]⟩ 0 (.slice none 0 0)) ⟨_, _, rfl⟩
  rw [← hW] at bW x0 x1 sW
  have H1 := hid_of (fields_call (h.below bW) k hk now a n c hL)
  have H2 := hid_of fun (V : World) (a2 : Option Addr) (c2 : Nat) (hf : FRow.FS V (.slice a2 L.length c2) L) => dictOf_call V a2 c2 hf fit
  have H3 := hid_of hdo
  have H4 := hid_of fun (V : World) (d m : Nat) (hd : DK d m L' V) => DiFields.all_fields d m L' V hd hn'
  have HSP := hid_of (sp_wide h bW)
  have hfn := fit.n
  have H5 := hid_of fun (V : World) (hV : Below W.heap.size W V) (a1 : Option Addr) (c1 : Nat) (hf : FRow.FS V (.slice a1 L.length c1) L) (a2 : Option Addr) (c2 : Nat) (hf' : FRow.FS V (.slice a2 L'.length c2) L') => layBack_call (HSP.out.below hV) k hk now a n c hlay a1 c1 hf a2 c2 hf' (by omega)
  have HH := hid_of h
  have HB := hid_of bW
  have HX0 := hid_of x0
  have HX1 := hid_of x1
  have HSW := hid_of sW
  have HW := hid_of hW
  obtain ⟨⟨c0, c1, c2, c3⟩, -⟩ := box4 x0
  have t0 : HCmd.Tmp w W w.heap.size := ⟨Nat.le_refl _, by rw [HSW.out]; omega⟩
  have t1 : HCmd.Tmp w W (w.heap.size + 1) := ⟨by omega, by rw [HSW.out]; omega⟩
  unfold Ent at hent
  clear hW bW x0 x1 sW h hL fit hdo hlay hn' hfn
  generalize mk k = K at *
  go_enter Tryz.func86, Tryz.ntmps86
  go_wp2_with fail
  rw [← HW.out]
  go_wp2_with fail
  refine H1.out.mono ?_
  rintro e w1 ⟨⟨a1, c1', rfl, hf⟩, b1⟩
  have B1 := hid_of b1
  have HF1 := hid_of hf
  clear b1 hf H1 c0 c1 c2 c3
  go_wp2_with fail
  refine (H2.out w1 a1 c1' HF1.out).mono ?_
  rintro e w2 ⟨⟨d, m, rfl, hd, hdl, hml⟩, b2⟩
  have B2 := hid_of (FRow.bel B1.out b2 (Nat.le_refl _))
  have B12 := hid_of b2
  have HQ1 := hid_of (H3.out w1.heap.size w2 d m (Nat.le_trans HB.out.size B1.out.size) b2.size (HB.out.trans (B2.out.mono HB.out.size)) hd hdl hml)
  clear b2 hd H2 H3 hdl hml
  go_wp2_with (go_at_fn g; refine HQ1.out.mono ?_; rintro e w3 ⟨rfl, hd3, b3⟩; have B13 := hid_of (B12.out.trans b3); have HF3 := hid_of (HF1.out.below B13.out); have B3 := hid_of (FRow.bel B1.out B13.out (Nat.le_refl _)); have HD3 := hid_of hd3; clear b3 hd3)
  obtain ⟨W3, hW3⟩ : ∃ W, W = w3.alloc (rO rk rT rn (.slice none 0 0)) := ⟨_, rfl⟩
  have bW3 : Below w3.heap.size w3 W3 := by rw [hW3]; exact alb _ _
  have Z3 := hid_of (show W3.heap[w3.heap.size]? = some (rO rk rT rn (.slice none 0 0)) by rw [hW3]; exact heap_alloc_new w3 _)
  have B4 := hid_of (FRow.bel B3.out bW3 (Nat.le_refl _))
  have HF4 := hid_of (HF3.out.below bW3)
  have HD4 := hid_of (HD3.out.below bW3)
  have HW3 := hid_of hW3
  clear bW3 hW3 HF3 HD3 HF1 B12 B13 HQ1
  rw [← HW3.out]
  have BD4 := hid_of (FRow.bel B4.out (Below.refl _ W3).drew (Nat.le_refl _))
  have HQ4 := hid_of (H4.out W3.drew d m (HD4.out.below (Below.refl _ W3).drew))
  have HF4d := hid_of (HF4.out.below (Below.refl _ W3).drew)
  have hc4 := (BD4.out.block _ (lt_of HX0.out)).trans HX0.out
  obtain ⟨⟨u0, u1, u2, u3⟩, -⟩ := box4 hc4
  have s0 : W3.drew.cell? ⟨w.heap.size, 0, none⟩ = some (.pointer (some ⟨b, 0, none⟩)) ∧ W3.drew.cell? ⟨w.heap.size, 1, none⟩ = some (.int .i64 now) ∧ W3.drew.cell? ⟨w.heap.size, 2, none⟩ = some (.string K) ∧ W3.drew.cell? ⟨w.heap.size, 3, none⟩ = some (.slice a n c) := ⟨u0, u1, u2, u3⟩
  clear hc4 u0 u1 u2 u3 H4 HD4 HF4
  go_wp2_with fail
  go_region_held3 (fun V => V.cell? ⟨w.heap.size, 0, none⟩ = some (.pointer (some ⟨b, 0, none⟩)) ∧ V.cell? ⟨w.heap.size, 1, none⟩ = some (.int .i64 now) ∧ V.cell? ⟨w.heap.size, 2, none⟩ = some (.string K) ∧ V.cell? ⟨w.heap.size, 3, none⟩ = some (.slice a n c)) (first | with_reducible exact s0 | with_reducible exact s1 | with_reducible exact s2) (first
    | (go_at_call 133; refine HQ4.out.mono ?_; rintro e w5 ⟨v5, rfl, hv5, b5⟩; have B5 := hid_of (FRow.bel BD4.out b5 (Nat.le_refl _)); have hfs5 := FRow.fs_row hv5; obtain ⟨a5, c5, rfl⟩ := shapeFRow hv5; have HF5 := hid_of hfs5; have HF5w := hid_of (HF4d.out.below b5); have s1 : w5.cell? ⟨w.heap.size, 0, none⟩ = some (.pointer (some ⟨b, 0, none⟩)) ∧ w5.cell? ⟨w.heap.size, 1, none⟩ = some (.int .i64 now) ∧ w5.cell? ⟨w.heap.size, 2, none⟩ = some (.string K) ∧ w5.cell? ⟨w.heap.size, 3, none⟩ = some (.slice a n c) := (box4 ((B5.out.block _ (lt_of HX0.out)).trans HX0.out)).1; have Z5 := hid_of ((b5.block _ (show w3.heap.size < W3.drew.heap.size from lt_of Z3.out)).trans Z3.out); clear hv5 hfs5 b5)
    | (go_at_call 132; refine (H5.out w5 B5.out a1 c1' HF5w.out a5 c5 HF5.out).mono ?_; rintro e w6 ⟨rfl, d6⟩; have D6 := hid_of (SDrop.dn_after B5.out d6); have z6 := (dn_block HH.out HB.out D6.out t1).trans HX1.out; have Z6 := hid_of z6; have y6 := (dn_block HSP.out B5.out d6 ⟨B3.out.size, lt_of Z5.out⟩).trans Z5.out; have s2 : w6.cell? ⟨w.heap.size, 0, none⟩ = some (.pointer (some ⟨b, 0, none⟩)) ∧ w6.cell? ⟨w.heap.size, 1, none⟩ = some (.int .i64 now) ∧ w6.cell? ⟨w.heap.size, 2, none⟩ = some (.string K) ∧ w6.cell? ⟨w.heap.size, 3, none⟩ = some (.slice a n c) := (box4 ((dn_block HH.out HB.out D6.out t0).trans HX0.out)).1; obtain ⟨⟨v0, v1, v2, v3⟩, fv⟩ := box4 z6; have fv0 := fv 0; have fv1 := fv 1; have fv2 := fv 2; have fv3 := fv 3; obtain ⟨⟨y0, y1, y2, y3⟩, -⟩ := box4 y6; clear fv z6 y6 d6))
  go_wp2_with fail
  have hz := fin4_at Z6.out (.int .i64 rk) (.string rT) (.int .i64 rn) (.slice none 0 0)
  have hdn := dn_tmp HH.out HB.out D6.out (ev_fin4 t1 (.int .i64 rk) (.string rT) (.int .i64 rn) (.slice none 0 0))
  unfold fin4 at hz hdn
  obtain ⟨⟨g0, g1, g2, g3⟩, -⟩ := box4 hz
  exact bodyPost_ret (v := rp rk rT rn) (by simp [results, Tryz.results86, go_sem, g0, g1, g2, g3]) rfl ⟨rfl, hdn⟩
end
end Go.Proofs.YtcgdnpcegcmboaaGreatDoor.HChg
end
section
namespace Go.Proofs.YtcgdnpcegcmboaaGreatDoor.HRead
open Go.RowKit Go.Maps
open Go.Proofs.YtcgdnpcegcmboaaGreatDoor.SpaceMath (wout withL lkp keys toD)
open Go.Proofs.YtcgdnpcegcmboaaGreatDoor.ValueMath (Vl chk small)
open Go.Proofs.YtcgdnpcegcmboaaGreatDoor.Base (mk mk_list mk_size Gr hid_of SL)
open Go.Proofs.YtcgdnpcegcmboaaGreatDoor.Turn
open Go.Proofs.YtcgdnpcegcmboaaGreatDoor.Vals
open Go.Proofs.YtcgdnpcegcmboaaGreatDoor.Check0 (Wel)
open Go.Proofs.YtcgdnpcegcmboaaGreatDoor.SBase
open Go.Proofs.YtcgdnpcegcmboaaGreatDoor.SFind
open Go.Proofs.YtcgdnpcegcmboaaGreatDoor.SPut (vO)
open Go.Proofs.YtcgdnpcegcmboaaGreatDoor.QBase
open Go.Proofs.YtcgdnpcegcmboaaGreatDoor.HCmd
open Go.Proofs.YtcgdnpcegcmboaaGreatDoor.DiBase (DK)
open Go.Proofs.YtcgdnpcegcmboaaGreatDoor.Parse (Has)
set_option linter.unusedVariables false
set_option linter.unusedSimpArgs false
open Go.Proofs.YtcgdnpcegcmboaaGreatDoor.HFld
open Go.Proofs.YtcgdnpcegcmboaaGreatDoor.HRun (Ent)
section
variable {F X : Nat → Prop} {b : Nat} {w : World} {S : Sp}
set_option maxHeartbeats 8000000 in
set_option maxRecDepth 100000 in
theorem read_ok (h : SP F X b w S) (k : Bs) (hk : k.length ≤ 281474976710656) (now : Int) (a : Option Addr) (n c : Nat) {L : FL} (hL : flds S now k L) (fit : Fit L) (g : FuncId) (x : Value) (hent : Ent g) (rk : Int) (rT : ByteArray) (rn : Int) (R' : Option Addr → Nat → Nat → World → Prop)
    (hR : ∀ (V w1 w2 : World) la ln lc, Below w.heap.size w V → R' la ln lc w1 → Ev (HCmd.Tmp w V) w1 w2 → R' la ln lc w2)
    (hask : ∀ (V : World) (d m : Nat), Below w.heap.size w V → DK d m L V → Calls Tryz.prog g #[ptr d, x] V fun e w' => ∃ la ln lc, e = .returned (.agg #[.int .i64 rk, .string rT, .int .i64 rn, .slice la ln lc]) ∧ R' la ln lc w' ∧ Below V.heap.size V w') :
    Calls Tryz.prog 90 #[cV b now (mk k) a n c, .func (.func g) #[] #[x]] w fun e w' => ∃ la ln lc, e = .returned (.agg #[.int .i64 rk, .string rT, .int .i64 rn, .slice la ln lc]) ∧ R' la ln lc w' ∧ Below w.heap.size w w' := by
  obtain ⟨W, hW⟩ : ∃ W, W = (w.alloc (cO b now (mk k) a n c)).alloc (rO 0 ⟨#[]⟩ 0 (.slice none 0 0)) := ⟨_, rfl⟩
  obtain ⟨bW, x0, x1, sW⟩ := two_boxes w (cO b now (mk k) a n c) (rO 0 ⟨#[]⟩ 0 (.slice none 0 0)) ⟨_, _, rfl⟩
  rw [← hW] at bW x0 x1 sW
  have H1 := hid_of (fields_call (h.below bW) k hk now a n c hL)
  have H2 := hid_of fun (V : World) (a2 : Option Addr) (c2 : Nat) (hf : FRow.FS V (.slice a2 L.length c2) L) => dictOf_call V a2 c2 hf fit
  have H3 := hid_of hask
  have HRR := hid_of hR
  have HB := hid_of bW
  have HX1 := hid_of x1
  have HSW := hid_of sW
  have HW := hid_of hW
  obtain ⟨⟨c0, c1, c2, c3⟩, -⟩ := box4 x0
  have t1 : HCmd.Tmp w W (w.heap.size + 1) := ⟨by omega, by rw [HSW.out]; omega⟩
  unfold Ent at hent
  clear hW bW x0 x1 sW h hL fit hask hR
  generalize mk k = K at *
  go_enter Tryz.func90, Tryz.ntmps90
  go_wp2_with fail
  rw [← HW.out]
  go_wp2_with fail
  refine H1.out.mono ?_
  rintro e w1 ⟨⟨a2, c2', rfl, hf⟩, b1⟩
  have B1 := hid_of (FRow.bel HB.out b1 (Nat.le_refl _))
  have X1 := hid_of ((b1.block _ (lt_of HX1.out)).trans HX1.out)
  have HF := hid_of hf
  have BW1 := hid_of b1
  clear b1 hf H1 c0 c1 c2 c3
  go_wp2_with fail
  refine (H2.out w1 a2 c2' HF.out).mono ?_
  rintro e w2 ⟨⟨d, m, rfl, hd, -, -⟩, b2⟩
  have B2 := hid_of (B1.out.trans (b2.mono B1.out.size))
  have BW2 := hid_of (BW1.out.trans (b2.mono BW1.out.size))
  have X2 := hid_of ((b2.block _ (lt_of X1.out)).trans X1.out)
  have HD := hid_of hd
  have HQ := hid_of (H3.out w2 d m B2.out hd)
  clear b2 hd H2 X1 HF H3
  go_wp2_with (go_at_fn g; refine HQ.out.mono ?_; rintro e w3 ⟨la, ln, lc, rfl, r3, b3⟩; have B3 := hid_of (B2.out.trans (b3.mono B2.out.size)); have BW3 := hid_of (BW2.out.trans (b3.mono BW2.out.size)); have X3 := hid_of ((b3.block _ (lt_of X2.out)).trans X2.out); have R3 := hid_of r3; obtain ⟨⟨v0, v1, v2, v3⟩, fv⟩ := box4 X3.out; have fv0 := fv 0; have fv1 := fv 1; have fv2 := fv 2; have fv3 := fv 3; clear fv b3 r3)
  have hz := fin4_at X3.out (.int .i64 rk) (.string rT) (.int .i64 rn) (.slice la ln lc)
  have hbz := fin4_b (y0 := .int .i64 rk) (y1 := .string rT) (y2 := .int .i64 rn) (y3 := .slice la ln lc) B3.out (show w.heap.size ≤ w.heap.size + 1 by omega)
  have hrr := HRR.out W w3 _ la ln lc HB.out R3.out (ev_fin4 (w := w) (W := W) (w1 := w3) t1 (.int .i64 rk) (.string rT) (.int .i64 rn) (.slice la ln lc))
  unfold fin4 at hz hbz hrr
  obtain ⟨⟨g0, g1, g2, g3⟩, -⟩ := box4 hz
  exact bodyPost_ret (v := .agg #[.int .i64 rk, .string rT, .int .i64 rn, .slice la ln lc]) (by simp [results, Tryz.results90, go_sem, g0, g1, g2, g3]) rfl ⟨la, ln, lc, rfl, hrr, hbz⟩
set_option maxHeartbeats 8000000 in
set_option maxRecDepth 100000 in
theorem read_ok0 (h : SP F X b w S) (k : Bs) (hk : k.length ≤ 281474976710656) (now : Int) (a : Option Addr) (n c : Nat) {L : FL} (hL : flds S now k L) (fit : Fit L) (g : FuncId) (hent : Ent g) (rk : Int) (rT : ByteArray) (rn : Int) (R' : Option Addr → Nat → Nat → World → Prop)
    (hR : ∀ (V w1 w2 : World) la ln lc, Below w.heap.size w V → R' la ln lc w1 → Ev (HCmd.Tmp w V) w1 w2 → R' la ln lc w2)
    (hask : ∀ (V : World) (d m : Nat), Below w.heap.size w V → DK d m L V → Calls Tryz.prog g #[ptr d] V fun e w' => ∃ la ln lc, e = .returned (.agg #[.int .i64 rk, .string rT, .int .i64 rn, .slice la ln lc]) ∧ R' la ln lc w' ∧ Below V.heap.size V w') :
    Calls Tryz.prog 90 #[cV b now (mk k) a n c, .func (.func g) #[] #[]] w fun e w' => ∃ la ln lc, e = .returned (.agg #[.int .i64 rk, .string rT, .int .i64 rn, .slice la ln lc]) ∧ R' la ln lc w' ∧ Below w.heap.size w w' := by
  obtain ⟨W, hW⟩ : ∃ W, W = (w.alloc (cO b now (mk k) a n c)).alloc (rO 0 ⟨#[]⟩ 0 (.slice none 0 0)) := ⟨_, rfl⟩
  obtain ⟨bW, x0, x1, sW⟩ := two_boxes w (cO b now (mk k) a n c) (rO 0 ⟨#[]⟩ 0 (.slice none 0 0)) ⟨_, _, rfl⟩
  rw [← hW] at bW x0 x1 sW
  have H1 := hid_of (fields_call (h.below bW) k hk now a n c hL)
  have H2 := hid_of fun (V : World) (a2 : Option Addr) (c2 : Nat) (hf : FRow.FS V (.slice a2 L.length c2) L) => dictOf_call V a2 c2 hf fit
  have H3 := hid_of hask
  have HRR := hid_of hR
  have HB := hid_of bW
  have HX1 := hid_of x1
  have HSW := hid_of sW
  have HW := hid_of hW
  obtain ⟨⟨c0, c1, c2, c3⟩, -⟩ := box4 x0
  have t1 : HCmd.Tmp w W (w.heap.size + 1) := ⟨by omega, by rw [HSW.out]; omega⟩
  unfold Ent at hent
  clear hW bW x0 x1 sW h hL fit hask hR
  generalize mk k = K at *
  go_enter Tryz.func90, Tryz.ntmps90
  go_wp2_with fail
  rw [← HW.out]
  go_wp2_with fail
  refine H1.out.mono ?_
  rintro e w1 ⟨⟨a2, c2', rfl, hf⟩, b1⟩
  have B1 := hid_of (FRow.bel HB.out b1 (Nat.le_refl _))
  have X1 := hid_of ((b1.block _ (lt_of HX1.out)).trans HX1.out)
  have HF := hid_of hf
  have BW1 := hid_of b1
  clear b1 hf H1 c0 c1 c2 c3
  go_wp2_with fail
  refine (H2.out w1 a2 c2' HF.out).mono ?_
  rintro e w2 ⟨⟨d, m, rfl, hd, -, -⟩, b2⟩
  have B2 := hid_of (B1.out.trans (b2.mono B1.out.size))
  have BW2 := hid_of (BW1.out.trans (b2.mono BW1.out.size))
  have X2 := hid_of ((b2.block _ (lt_of X1.out)).trans X1.out)
  have HD := hid_of hd
  have HQ := hid_of (H3.out w2 d m B2.out hd)
  clear b2 hd H2 X1 HF H3
  go_wp2_with (go_at_fn g; refine HQ.out.mono ?_; rintro e w3 ⟨la, ln, lc, rfl, r3, b3⟩; have B3 := hid_of (B2.out.trans (b3.mono B2.out.size)); have BW3 := hid_of (BW2.out.trans (b3.mono BW2.out.size)); have X3 := hid_of ((b3.block _ (lt_of X2.out)).trans X2.out); have R3 := hid_of r3; obtain ⟨⟨v0, v1, v2, v3⟩, fv⟩ := box4 X3.out; have fv0 := fv 0; have fv1 := fv 1; have fv2 := fv 2; have fv3 := fv 3; clear fv b3 r3)
  have hz := fin4_at X3.out (.int .i64 rk) (.string rT) (.int .i64 rn) (.slice la ln lc)
  have hbz := fin4_b (y0 := .int .i64 rk) (y1 := .string rT) (y2 := .int .i64 rn) (y3 := .slice la ln lc) B3.out (show w.heap.size ≤ w.heap.size + 1 by omega)
  have hrr := HRR.out W w3 _ la ln lc HB.out R3.out (ev_fin4 (w := w) (W := W) (w1 := w3) t1 (.int .i64 rk) (.string rT) (.int .i64 rn) (.slice la ln lc))
  unfold fin4 at hz hbz hrr
  obtain ⟨⟨g0, g1, g2, g3⟩, -⟩ := box4 hz
  exact bodyPost_ret (v := .agg #[.int .i64 rk, .string rT, .int .i64 rn, .slice la ln lc]) (by simp [results, Tryz.results90, go_sem, g0, g1, g2, g3]) rfl ⟨la, ln, lc, rfl, hrr, hbz⟩
end
end Go.Proofs.YtcgdnpcegcmboaaGreatDoor.HRead
end
