/- The document's Encode. The document's Encode, whole. -/
import Derived.Test.YtpnigkjmofhmbaaGreatREnc2M
import Derived.Test.YtpnigkjmofhmbaaGreatEnc
import Derived.Shelf.Abstract
section
namespace Go.Proofs.YtpnigkjmofhmbaaGreat.REnc5
open Go.RowKit Go.Maps
open Go.Proofs.YtpnigkjmofhmbaaGreat.SetMath
open Go.Proofs.YtpnigkjmofhmbaaGreat.BytesMath
open Go.Proofs.YtpnigkjmofhmbaaGreat.FixMath
open Go.Proofs.YtpnigkjmofhmbaaGreat.ValueMath
open Go.Proofs.YtpnigkjmofhmbaaGreat.Base
open Go.Proofs.YtpnigkjmofhmbaaGreat.Vals
open Go.Proofs.YtpnigkjmofhmbaaGreat.Write (LB LB_zero LB_step LB_end LB_len encT_len)
open Go.Proofs.YtpnigkjmofhmbaaGreat.Write2 (encF_len encE_len)
open Go.Proofs.YtpnigkjmofhmbaaGreat.REnc
open Go.Proofs.YtpnigkjmofhmbaaGreat.REnc2
set_option linter.unusedVariables false
set_option linter.unusedSimpArgs false
section
variable {ops : Array Oper} {o : Oper} {a : Act} {K : Act → World → Prop} {Q : Exit → Act → World → Prop} {E : Prop}
theorem step_app (hgd : o.guard = none) (s x : Operand) (t tx : TypeId) (ho : o.op = .call { callee := .builtin .append, args := #[s, x], argTypes := #[t, tx] }) (v u : Value) (W : World) (hs : a.eval s = v) (hx : a.eval x = u) {R : Value → World → Prop}
    (hr : ∃ v' w', (Builtin.append_ #[t, tx] o.type #[v, u]).run Tryz.prog W = .ok v' w' ∧ R v' w') (hK : ∀ v' w', R v' w' → K (a.put o.dst v') w') :
    if Region.wanted o (yielded ops a.tmps) = true then Oper.wp Tryz.prog o a W K Q else E := by
  have hw : Region.wanted o (yielded ops a.tmps) = true := by simp [Region.wanted, hgd]
  rw [if_pos hw]
  obtain ⟨v', w', h1, h2⟩ := hr
  unfold Oper.wp execOp
  simp only [ho, resolve, invoke, builtin, Sem.run_bind, Sem.run_pure, Result.andThen_ok, List.map_toArray, List.map_cons, List.map_nil, hs, hx, h1]
  exact hK _ _ h2
end

set_option maxHeartbeats 8000000 in
set_option maxRecDepth 100000 in
theorem rn5 (X : ByteArray) (aa ba ca : Option Addr) (an bn cn ac bc cc : Nat) (w : World) (l : ERow.LL) (full : Bs) (hfull : full = [5] ++ encC encE l) (hn : cn < 4294967296) (HLn : Hid (List.length l = cn)) (HSL : Hid (∀ W, Below w.heap.size w W → ERow.FS W (.slice ca cn cc) l)) (ht : ∀ t ∈ l, (t : Bs × Int).1.length < 4294967296) (hlen : 1 + (encC encE l).length ≤ 140737488355328)
    (HCk : Hid (∀ W, Below w.heap.size w W → Calls Tryz.prog 110 #[.agg #[.int .i64 5, .string X, .slice aa an ac, .slice ba bn bc, .slice ca cn cc]] W fun e w' => e = .returned (.int .i64 0) ∧ Below W.heap.size W w')) :
    Calls Tryz.prog 117 #[.agg #[.int .i64 5, .string X, .slice aa an ac, .slice ba bn bc, .slice ca cn cc]] w fun e w' => e = .returned (.tuple #[.string (mk full), .int .i64 0]) ∧ Below w.heap.size w w' := by
  have HFU := hid_of hfull
  clear hfull
  obtain ⟨V, hV⟩ : ∃ V, V = w.alloc (.cells #[.int .i64 5, .string X, .slice aa an ac, .slice ba bn bc, .slice ca cn cc] 27) := ⟨_, rfl⟩
  have bV : Below w.heap.size w V := by rw [hV]; exact FRow.bnew w _
  have v0 : V.heap[w.heap.size]? = some (.cells #[.int .i64 5, .string X, .slice aa an ac, .slice ba bn bc, .slice ca cn cc] 27 (0, 0)) := by rw [hV]; exact heap_alloc_new w _
  have sV : V.heap.size = w.heap.size + 1 := by rw [hV]; simp
  have HV := hid_of hV
  have HB := hid_of bV
  have HSV := hid_of sV
  have HX := hid_of fun (W : World) (hW : Below V.heap.size V W) => And.intro (FRow.bel bV hW (Nat.le_refl _)) (box5 ((hW.block _ (lt_of v0)).trans v0)).1
  clear v0 bV hV sV
  go_enter Tryz.func117, Tryz.ntmps117
  go_wp2_with fail
  rw [← HV.out]
  refine (HCk.out V HB.out).mono ?_
  rintro e w1 ⟨rfl, b1⟩
  obtain ⟨bb1, ⟨c0, c1, c2, c3, c4⟩⟩ := HX.out w1 b1
  have hlt1 : w.heap.size < w1.heap.size := Base.cell_lt c0
  have hne1 : w.heap.size ≠ w1.heap.size := by omega
  have B1 := hid_of b1
  have BB1 := hid_of bb1
  clear b1 bb1 HCk
  obtain ⟨W, hW⟩ : ∃ W, W = w1.alloc (.cells #[.int .u8 5] 5) := ⟨_, rfl⟩
  have bW : Below w1.heap.size w1 W := by rw [hW]; exact FRow.bnew w1 _
  have oW : OB w1.heap.size W (.slice (some ⟨w1.heap.size, 0, none⟩) 1 1) [5] := by rw [hW]; exact ob_one w1 5
  have HW := hid_of hW
  have BW := hid_of bW
  have OW := hid_of oW
  have u8 : IntKind.u8.wrap (5 : Int) = 5 := by decide
  have sW := bW.size
  obtain ⟨_, ⟨e0, e1, e2, e3, e4⟩⟩ := HX.out W (FRow.bel B1.out bW (Nat.le_refl _))
  clear bW oW hW
  have HFo := hid_of (four_call cn OW.out (by omega) hn (by simp))
  rw [show le4 cn = leY ((List.length l : Nat) : Int) 4 by rw [HLn.out]; rfl, ← LB_zero encE l [5]] at HFo
  have HT := hid_of ht
  have HLN := hid_of hlen
  have HFN : Hid (full ≠ []) := hid_of (by rw [HFU.out]; simp)
  clear OW ht hlen
  obtain ⟨M0, hM0⟩ : ∃ M, M = (LB encE l 0 [5]).length := ⟨_, rfl⟩
  rw [← hM0] at HFo
  have HM0 := hid_of hM0
  clear hM0
  go_wp2_with fail
  rw [← HW.out]
  refine HFo.out.mono ?_
  rintro e w2 ⟨ya, yc, rfl, R2⟩
  have b2 : Below w1.heap.size w1 w2 := BW.out.trans R2.out.2
  clear HFo c0 c1 c2 c3 c4 e0 e1 e2 e3 e4
  have R0 : Hid (OB w1.heap.size w2 (.slice ya M0 yc) (LB encE l 0 [5]) ∧ Below w1.heap.size w1 w2) := hid_of ⟨R2.out.1, b2⟩
  clear b2 R2
  go_wp2_with fail
  go_loopg [5, 8] cn (fun g s5 s6 wx => ∃ (j N : Nat) (ra : Option Addr) (rc : Nat), j ≤ cn ∧ cn ≤ j + g ∧ s5 = .slice ra N rc ∧ s6 = .int .i64 (j : Int) ∧ Hid (OB w1.heap.size wx (.slice ra N rc) (LB encE l j [5]) ∧ Below w1.heap.size w1 wx))
  case atStart => exact ⟨0, M0, ya, yc, by omega, by omega, rfl, rfl, R0⟩
  case round =>
    obtain ⟨j, N, ra, rc, hj, hg, rfl, rfl, R⟩ := hrel
    obtain ⟨bbr, ⟨c0, c1, c2, c3, c4⟩⟩ := HX.out wr (FRow.bel B1.out R.out.2 (Nat.le_refl _))
    have BBR := hid_of bbr
    clear bbr
    by_cases hlt : j < cn
    · obtain ⟨g', rfl⟩ : ∃ g', gk = g' + 1 := ⟨gk - 1, by omega⟩
      have hjl : j < List.length l := by rw [HLn.out]; exact hlt
      obtain ⟨ga, oa, rfl, ha⟩ := ERow.FS.at (HSL.out wr BBR.out) hjl
      obtain ⟨a0, a1⟩ := ha j hjl
      have hgl : ga < w1.heap.size ∨ True := Or.inr trivial
      have HAT : Hid (∀ U, Below w1.heap.size w1 U → U.cell? ⟨ga, oa + j * 2, none⟩ = some (.string (mk (l[j]'hjl).1)) ∧ U.cell? ⟨ga, oa + j * 2 + 1, none⟩ = some (.int .i64 (l[j]'hjl).2) ∧ U.cell? ⟨w.heap.size, 4, none⟩ = some (.slice (some ⟨ga, oa, none⟩) cn cc)) := hid_of fun U hU => by
        obtain ⟨bbu, bx⟩ := HX.out U (FRow.bel B1.out hU (Nat.le_refl _))
        obtain ⟨g2, o2, e2, h2⟩ := ERow.FS.at (HSL.out U bbu) hjl
        injection e2 with e2
        injection e2 with e3 e4 _
        subst e3 e4
        exact ⟨(h2 j hjl).1, (h2 j hjl).2, bx.2.2.2.2⟩
      clear ha hgl
      have hbd := LB_len encE l j [5] hjl
      rw [encE_len] at hbd
      have htt := HT.out _ (List.getElem_mem hjl)
      have hll := HLN.out
      have HST := hid_of (LB_step encE l j [5] hjl)
      generalize l[j] = x at *
      obtain ⟨x1, x2⟩ := x
      simp only at a0 a1 hbd htt HAT
      simp at hbd
      obtain ⟨u, hu, hub⟩ := u64_nat x2
      have hfit := Write.fits u 8 (by simpa using hub)
      have eS : Fix.fixS (u : Int) 8 = mk (leY u 8) := by unfold Fix.fixS; rw [hfit]; rfl
      have eE : Fix.fixE (u : Int) 8 = 0 := by unfold Fix.fixE; rw [hfit]; rfl
      have HFx := hid_of (Fix.rfix_any u 8 wr (by omega) (by omega) (by decide) (by decide))
      rw [eS, eE] at HFx
      have HAp : Hid (∀ U, Below wr.heap.size wr U → ∃ v' w', (Builtin.append_ #[110, 9] 110 #[.slice ra N rc, .string (mk (leY u 8))]).run Tryz.prog U.drew = .ok v' w' ∧ ∃ qa qc, v' = .slice qa (LB encE l j [5] ++ leY u 8).length qc ∧ Hid (OB w1.heap.size w' (.slice qa (LB encE l j [5] ++ leY u 8).length qc) (LB encE l j [5] ++ leY u 8) ∧ Below w1.heap.size w1 w')) := hid_of fun U hU => by
        obtain ⟨qa, qc, w', q1, q2, q3⟩ := app_b (w := U.drew) (leY u 8) (show OB w1.heap.size U.drew _ _ from R.out.1.below hU.drew) (Nat.le_trans R.out.2.size hU.size) (by rw [leY_len]; omega)
        exact ⟨_, w', q1, qa, qc, rfl, q2, (FRow.bel R.out.2 hU (Nat.le_refl _) : Below w1.heap.size w1 U).trans (show Below w1.heap.size U w' from ⟨q3.os, q3.tape, q3.output, q3.size, q3.block⟩)⟩
      have H2 := hid_of fun (U : World) (v' : Value) (hU : OB w1.heap.size U v' (LB encE l j [5] ++ leY u 8)) (hBU : w1.heap.size ≤ U.heap.size) => REnc.text_call x1 hU hBU (by omega) (by rw [List.length_append, leY_len]; omega)
      rw [List.append_assoc, show leY (u : Int) 8 ++ encT x1 = encE (x1, x2) from by unfold encE le8; rw [hu], HST.out] at H2
      obtain ⟨N1, hN1⟩ : ∃ N1, N1 = (LB encE l j [5] ++ leY u 8).length := ⟨_, rfl⟩
      obtain ⟨N2, hN2⟩ : ∃ N2, N2 = (LB encE l (j + 1) [5]).length := ⟨_, rfl⟩
      rw [← hN1] at HAp
      rw [← hN2] at H2
      have w1' : IntKind.i64.wrap ((j : Int) + 1) = (j : Int) + 1 := IntWalk.i64_in _ (by omega)
      have dd : (j : Int) < (cn : Int) := by omega
      clear hbd htt hll hN1 hN2 HST hfit eS eE hub
      generalize mk x1 = X1 at *
      generalize mk (leY u 8) = Y8 at *
      go_wp2_with fail
      refine HFx.out.mono ?_
      rintro e w3 ⟨rfl, b3⟩
      have K3 := hid_of (FRow.bel R.out.2 b3 (Nat.le_refl _) : Below w1.heap.size w1 w3)
      have HA3 := hid_of (HAp.out w3 b3)
      clear b3 HFx HAp a0 a1 c0 c1 c2 c3 c4
      obtain ⟨a0, a1, c4⟩ := HAT.out w3 K3.out
      go_wp2_with fail
      go_region_held3 (fun U => U.cell? ⟨ga, oa + j * 2, none⟩ = some (.string X1) ∧ U.cell? ⟨ga, oa + j * 2 + 1, none⟩ = some (.int .i64 x2) ∧ U.cell? ⟨w.heap.size, 4, none⟩ = some (.slice (some ⟨ga, oa, none⟩) cn cc)) (first | exact HAT.out w3 K3.out | exact HAT.out w4 K4.out | exact HAT.out w5 K5.out) (first
        | (refine step_app (by rfl) _ _ 110 9 (by rfl) (.slice ra N rc) (.string Y8) _ (by rfl) (by rfl) HA3.out ?_; rintro v4 w4 ⟨qa, qc, rfl, R4⟩; have K4 := hid_of R4.out.2; have O4 := hid_of R4.out.1; clear R4)
        | (go_at_call 142; refine (H2.out w4 _ O4.out K4.out.size).mono ?_; rintro e w5 ⟨za, zc, rfl, R5⟩; have K5 := hid_of (K4.out.trans R5.out.2); have O5 := hid_of R5.out.1; clear R5))
      all_goals go_wp2_with fail
      all_goals go_roundg g'
      all_goals first | omega | exact ⟨j + 1, N2, za, zc, by omega, by omega, rfl, by simp, hid_of ⟨O5.out, K5.out⟩⟩
    · obtain rfl : j = cn := by omega
      have dd : ¬ (j : Int) < (j : Int) := by omega
      have o9 : OB w1.heap.size wr (.slice ra N rc) full := by have := R.out.1; rw [← HLn.out, LB_end] at this; rw [HFU.out]; exact this
      have hconv := conv_b o9 HFN.out
      clear o9
      go_wp2_with fail
      go_ret2
      exact ⟨rfl, BBR.out⟩
end Go.Proofs.YtpnigkjmofhmbaaGreat.REnc5
end
section
namespace Go.Proofs.YtpnigkjmofhmbaaGreat.REncF
open Go.RowKit Go.Maps
open Go.Proofs.YtpnigkjmofhmbaaGreat.SetMath
open Go.Proofs.YtpnigkjmofhmbaaGreat.BytesMath
open Go.Proofs.YtpnigkjmofhmbaaGreat.FixMath
open Go.Proofs.YtpnigkjmofhmbaaGreat.ValueMath
open Go.Proofs.YtpnigkjmofhmbaaGreat.Base
open Go.Proofs.YtpnigkjmofhmbaaGreat.Vals
open Go.Proofs.YtpnigkjmofhmbaaGreat.Check0
open Go.Proofs.YtpnigkjmofhmbaaGreat.Enc
set_option linter.unusedVariables false
set_option linter.unusedSimpArgs false
set_option maxHeartbeats 4000000 in
set_option maxRecDepth 100000 in
theorem rn0 (k : Int) (X : ByteArray) (aa ba ca : Option Addr) (an bn cn ac bc cc : Nat) (E : Int) (hE : E ≠ 0) (w : World)
    (HCk : Hid (∀ W, Below w.heap.size w W → Calls Tryz.prog 110 #[.agg #[.int .i64 k, .string X, .slice aa an ac, .slice ba bn bc, .slice ca cn cc]] W fun e w' => e = .returned (.int .i64 E) ∧ Below W.heap.size W w')) :
    Calls Tryz.prog 117 #[.agg #[.int .i64 k, .string X, .slice aa an ac, .slice ba bn bc, .slice ca cn cc]] w fun e w' => e = .returned (.tuple #[.string ⟨#[]⟩, .int .i64 E]) ∧ Below w.heap.size w w' := by
  obtain ⟨V, hV⟩ : ∃ V, V = w.alloc (.cells #[.int .i64 k, .string X, .slice aa an ac, .slice ba bn bc, .slice ca cn cc] 27) := ⟨_, rfl⟩
  have bV : Below w.heap.size w V := by rw [hV]; exact FRow.bnew w _
  have HV := hid_of hV
  have HB := hid_of bV
  have e1 : (E != 0) = true := by simpa using hE
  clear bV hV hE
  go_enter Tryz.func117, Tryz.ntmps117
  go_wp2_with fail
  rw [← HV.out]
  refine (HCk.out V HB.out).mono ?_
  rintro e w1 ⟨rfl, b1⟩
  have BB := hid_of (FRow.bel HB.out b1 (Nat.le_refl _))
  clear b1 HCk
  go_wp2_with fail
  go_ret2
  exact ⟨rfl, BB.out⟩
theorem rencode_call {w : World} {v : Value} {x : Vl} (h : VA w v x) (hf : Wel x) (hs : small x) (hlen : (enc x).length ≤ 140737488355328) :
    Calls Tryz.prog 117 #[v] w fun e w' => e = .returned (.tuple #[.string (mk (encV x)), .int .i64 (chk x)]) ∧ Below w.heap.size w w' := by
  have HC := fun (W : World) (hW : Below w.heap.size w W) => RCheck.rcheck_call (h.below hW) hf
  obtain ⟨a, b, c, rfl, h1, h2, h3⟩ := h
  obtain ⟨aa, ac, rfl, _, _⟩ := id h1
  obtain ⟨ba, bc, rfl, _, _⟩ := id h2
  obtain ⟨ca, cc, rfl, _, _⟩ := id h3
  by_cases h0 : chk x = 0
  · have hE : encV x = enc x := by unfold encV; rw [if_pos h0]
    rw [hE, h0]
    rw [h0] at HC
    obtain ⟨k1, k2, hst, hm⟩ := chk_zero h0
    have hbl : 1 + (encB x).length ≤ 140737488355328 := by unfold enc at hlen; simp at hlen; omega
    obtain ⟨s1, s2, s3⟩ := hs
    unfold mayBe at hm
    rcases kind5 k1 k2 with q | q | q | q | q
    · rw [if_pos q] at hm
      have eB : encB x = encT x.text := by unfold encB; rw [if_pos q]
      have eE : enc x = [1] ++ encT x.text := by unfold enc; rw [eB, q]; rfl
      rw [eB] at hbl
      rw [q] at HC ⊢
      have HCk := hid_of HC
      exact REnc2.rn1 (mk x.text) aa ba ca _ _ _ ac bc cc w x.text (enc x) rfl eE (by have := of_decide_eq_true hm; omega) HCk
    · rw [if_neg (by omega), if_pos q] at hm
      have eB : encB x = encC encT x.list := by unfold encB; rw [if_neg (by omega), if_pos (by omega)]
      have eE : enc x = [2] ++ encC encT x.list := by unfold enc; rw [eB, q]; rfl
      rw [eB] at hbl
      rw [q] at HC ⊢
      have HCk := hid_of HC
      exact REnc2.rn2 (mk x.text) aa ba ca _ _ _ ac bc cc w x.list (enc x) eE s1 (hid_of rfl) (hid_of fun W hW => h1.below hW) (fun t ht => by have := lOk_all hm t ht; omega) hbl HCk
    · rw [if_neg (by omega), if_neg (by omega), if_pos q] at hm
      have eB : encB x = encC encF x.fields := by unfold encB; rw [if_neg (by omega), if_neg (by omega), if_pos q]
      have eE : enc x = [3] ++ encC encF x.fields := by unfold enc; rw [eB, q]; rfl
      rw [eB] at hbl
      rw [q] at HC ⊢
      have HCk := hid_of HC
      exact REnc3.rn3 (mk x.text) aa ba ca _ _ _ ac bc cc w x.fields (enc x) eE s2 (hid_of rfl) (hid_of fun W hW => h2.below hW) (hash_len hm) hbl HCk
    · rw [if_neg (by omega), if_neg (by omega), if_neg (by omega), if_pos q] at hm
      have eB : encB x = encC encT x.list := by unfold encB; rw [if_neg (by omega), if_pos (by omega)]
      have eE : enc x = [4] ++ encC encT x.list := by unfold enc; rw [eB, q]; rfl
      rw [eB] at hbl
      rw [q] at HC ⊢
      have HCk := hid_of HC
      exact REnc2.rn4 (mk x.text) aa ba ca _ _ _ ac bc cc w x.list (enc x) eE s1 (hid_of rfl) (hid_of fun W hW => h1.below hW) (fun t ht => by have := lOk_all (set_l hm) t ht; omega) hbl HCk
    · rw [if_neg (by omega), if_neg (by omega), if_neg (by omega), if_neg (by omega)] at hm
      have eB : encB x = encC encE x.ranked := by unfold encB; rw [if_neg (by omega), if_neg (by omega), if_neg (by omega)]
      have eE : enc x = [5] ++ encC encE x.ranked := by unfold enc; rw [eB, q]; rfl
      rw [eB] at hbl
      rw [q] at HC ⊢
      have HCk := hid_of HC
      exact REnc5.rn5 (mk x.text) aa ba ca _ _ _ ac bc cc w x.ranked (enc x) eE s3 (hid_of rfl) (hid_of fun W hW => h3.below hW) (fun t ht => (rank_len hm t ht).1) hbl HCk
  · have hE : encV x = [] := by unfold encV; rw [if_neg h0]
    rw [hE]
    exact rn0 x.kind (mk x.text) aa ba ca _ _ _ ac bc cc (chk x) h0 w (hid_of HC)
end Go.Proofs.YtpnigkjmofhmbaaGreat.REncF
end
