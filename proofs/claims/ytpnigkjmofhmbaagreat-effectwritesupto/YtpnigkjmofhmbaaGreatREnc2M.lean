/- The document's Encode. The document's Encode. -/
import Derived.Test.YtpnigkjmofhmbaaGreatFMayM
import Derived.Test.YtpnigkjmofhmbaaGreatEnc
import Derived.Shelf.Abstract
section
namespace Go.Proofs.YtpnigkjmofhmbaaGreat.REnc2
open Go.RowKit Go.Maps
open Go.Proofs.YtpnigkjmofhmbaaGreat.SetMath
open Go.Proofs.YtpnigkjmofhmbaaGreat.BytesMath
open Go.Proofs.YtpnigkjmofhmbaaGreat.FixMath
open Go.Proofs.YtpnigkjmofhmbaaGreat.ValueMath
open Go.Proofs.YtpnigkjmofhmbaaGreat.Base
open Go.Proofs.YtpnigkjmofhmbaaGreat.Vals
open Go.Proofs.YtpnigkjmofhmbaaGreat.Write (LB LB_zero LB_step LB_end LB_len encT_len)
open Go.Proofs.YtpnigkjmofhmbaaGreat.Write2 (encF_len encE_len)
open Go.Proofs.YtpnigkjmofhmbaaGreat.REnc
set_option linter.unusedVariables false
set_option linter.unusedSimpArgs false
set_option maxRecDepth 100000 in
theorem conv_b {B : Nat} {w : World} {a : Option Addr} {n c : Nat} {l : Bs} (h : OB B w (.slice a n c) l) (hl : l ≠ []) : (convert 110 9 (.slice a n c)).run Tryz.prog w = .ok (.string (mk l)) w := by
  rcases h.2 with ⟨e, h0⟩ | ⟨g, cap, cur, e, hb, hg, q⟩
  · exact absurd (List.length_eq_zero_iff.1 h0) hl
  · injection e with e1 e2 e3
    subst e1 e2 e3
    have hby : Lib.Bytes w g 0 (mk l) := by
      intro i hi
      have hi' : i < l.length := by rw [mk_size] at hi; exact hi
      rw [Nat.zero_add, h.cellAt i (by omega)]
      simp [Lib.byteCells, hi']
      rfl
    have := Lib.run_convert_whole (P := Tryz.prog) w 110 5 9 Tryz.underlying110 Tryz.underlying5 Tryz.underlying9 g 0 (mk l) hby c
    rw [mk_size] at this
    exact this
theorem ob_one (w : World) (k : UInt8) : OB w.heap.size (w.alloc (.cells #[.int .u8 k.toNat] 5)) (.slice (some ⟨w.heap.size, 0, none⟩) 1 1) [k] :=
  ⟨rfl, .inr ⟨w.heap.size, 1, _, rfl, Nat.le_refl _, heap_alloc_new w _, Nat.le_refl _, by unfold maxLen; decide, rfl, rfl⟩⟩

set_option maxHeartbeats 8000000 in
set_option maxRecDepth 100000 in
theorem rn1 (X : ByteArray) (aa ba ca : Option Addr) (an bn cn ac bc cc : Nat) (w : World) (t full : Bs) (hX : X = mk t) (hfull : full = [1] ++ encT t) (ht : t.length < 4294967296)
    (HCk : Hid (∀ W, Below w.heap.size w W → Calls Tryz.prog 110 #[.agg #[.int .i64 1, .string X, .slice aa an ac, .slice ba bn bc, .slice ca cn cc]] W fun e w' => e = .returned (.int .i64 0) ∧ Below W.heap.size W w')) :
    Calls Tryz.prog 117 #[.agg #[.int .i64 1, .string X, .slice aa an ac, .slice ba bn bc, .slice ca cn cc]] w fun e w' => e = .returned (.tuple #[.string (mk full), .int .i64 0]) ∧ Below w.heap.size w w' := by
  have HXX := hid_of hX
  have HFU := hid_of hfull
  clear hX hfull
  obtain ⟨V, hV⟩ : ∃ V, V = w.alloc (.cells #[.int .i64 1, .string X, .slice aa an ac, .slice ba bn bc, .slice ca cn cc] 27) := ⟨_, rfl⟩
  have bV : Below w.heap.size w V := by rw [hV]; exact FRow.bnew w _
  have v0 : V.heap[w.heap.size]? = some (.cells #[.int .i64 1, .string X, .slice aa an ac, .slice ba bn bc, .slice ca cn cc] 27 (0, 0)) := by rw [hV]; exact heap_alloc_new w _
  have sV : V.heap.size = w.heap.size + 1 := by rw [hV]; simp
  have HV := hid_of hV
  have HB := hid_of bV
  have HSV := hid_of sV
  have HX := hid_of fun (W : World) (hW : Below V.heap.size V W) => And.intro (FRow.bel bV hW (Nat.le_refl _)) (box5 ((hW.block _ (lt_of v0)).trans v0)).1
  clear v0 bV hV sV
  go_enter Tryz.func117, Tryz.ntmps117
  go_wp2_with fail
  rw [← HV.out]
  refine (HCk.out V HB.out).mono ?_
  rintro e w1 ⟨rfl, b1⟩
  obtain ⟨bb1, ⟨c0, c1, c2, c3, c4⟩⟩ := HX.out w1 b1
  have hlt1 : w.heap.size < w1.heap.size := Base.cell_lt c0
  have hne1 : w.heap.size ≠ w1.heap.size := by omega
  have B1 := hid_of b1
  have BB1 := hid_of bb1
  clear b1 bb1 HCk
  obtain ⟨W, hW⟩ : ∃ W, W = w1.alloc (.cells #[.int .u8 1] 5) := ⟨_, rfl⟩
  have bW : Below w1.heap.size w1 W := by rw [hW]; exact FRow.bnew w1 _
  have oW : OB w1.heap.size W (.slice (some ⟨w1.heap.size, 0, none⟩) 1 1) [1] := by rw [hW]; exact ob_one w1 1
  have HW := hid_of hW
  have BW := hid_of bW
  have OW := hid_of oW
  have u8 : IntKind.u8.wrap (1 : Int) = 1 := by decide
  have sW := bW.size
  obtain ⟨_, ⟨e0, e1, e2, e3, e4⟩⟩ := HX.out W (FRow.bel B1.out bW (Nat.le_refl _))
  clear bW oW hW
  have HT := hid_of (REnc.text_call t OW.out (by omega) ht (by simp; omega))
  rw [← HFU.out, ← HXX.out] at HT
  have HFN : Hid (full ≠ []) := hid_of (by rw [HFU.out]; simp)
  clear OW
  generalize full.length = M at *
  go_wp2_with fail
  rw [← HW.out]
  refine HT.out.mono ?_
  rintro e w2 ⟨a2, c2, rfl, R2⟩
  have hconv := conv_b R2.out.1 HFN.out
  have BB2 := hid_of (FRow.bel BB1.out ((BW.out.trans R2.out.2)) (Nat.le_refl _))
  clear R2 HT
  go_wp2_with fail
  go_ret2
  exact ⟨rfl, BB2.out⟩

set_option maxHeartbeats 8000000 in
set_option maxRecDepth 100000 in
theorem rn2 (X : ByteArray) (aa ba ca : Option Addr) (an bn cn ac bc cc : Nat) (w : World) (l : List Bs) (full : Bs) (hfull : full = [2] ++ encC encT l) (hn : an < 4294967296) (HLn : Hid (l.length = an)) (HSL : Hid (∀ W, Below w.heap.size w W → SL TT W (.slice aa an ac) l)) (ht : ∀ t ∈ l, t.length < 4294967296) (hlen : 1 + (encC encT l).length ≤ 140737488355328)
    (HCk : Hid (∀ W, Below w.heap.size w W → Calls Tryz.prog 110 #[.agg #[.int .i64 2, .string X, .slice aa an ac, .slice ba bn bc, .slice ca cn cc]] W fun e w' => e = .returned (.int .i64 0) ∧ Below W.heap.size W w')) :
    Calls Tryz.prog 117 #[.agg #[.int .i64 2, .string X, .slice aa an ac, .slice ba bn bc, .slice ca cn cc]] w fun e w' => e = .returned (.tuple #[.string (mk full), .int .i64 0]) ∧ Below w.heap.size w w' := by
  have HFU := hid_of hfull
  clear hfull
  obtain ⟨V, hV⟩ : ∃ V, V = w.alloc (.cells #[.int .i64 2, .string X, .slice aa an ac, .slice ba bn bc, .slice ca cn cc] 27) := ⟨_, rfl⟩
  have bV : Below w.heap.size w V := by rw [hV]; exact FRow.bnew w _
  have v0 : V.heap[w.heap.size]? = some (.cells #[.int .i64 2, .string X, .slice aa an ac, .slice ba bn bc, .slice ca cn cc] 27 (0, 0)) := by rw [hV]; exact heap_alloc_new w _
  have sV : V.heap.size = w.heap.size + 1 := by rw [hV]; simp
  have HV := hid_of hV
  have HB := hid_of bV
  have HSV := hid_of sV
  have HX := hid_of fun (W : World) (hW : Below V.heap.size V W) => And.intro (FRow.bel bV hW (Nat.le_refl _)) (box5 ((hW.block _ (lt_of v0)).trans v0)).1
  clear v0 bV hV sV
  go_enter Tryz.func117, Tryz.ntmps117
  go_wp2_with fail
  rw [← HV.out]
  refine (HCk.out V HB.out).mono ?_
  rintro e w1 ⟨rfl, b1⟩
  obtain ⟨bb1, ⟨c0, c1, c2, c3, c4⟩⟩ := HX.out w1 b1
  have hlt1 : w.heap.size < w1.heap.size := Base.cell_lt c0
  have hne1 : w.heap.size ≠ w1.heap.size := by omega
  have B1 := hid_of b1
  have BB1 := hid_of bb1
  clear b1 bb1 HCk
  obtain ⟨W, hW⟩ : ∃ W, W = w1.alloc (.cells #[.int .u8 2] 5) := ⟨_, rfl⟩
  have bW : Below w1.heap.size w1 W := by rw [hW]; exact FRow.bnew w1 _
  have oW : OB w1.heap.size W (.slice (some ⟨w1.heap.size, 0, none⟩) 1 1) [2] := by rw [hW]; exact ob_one w1 2
  have HW := hid_of hW
  have BW := hid_of bW
  have OW := hid_of oW
  have u8 : IntKind.u8.wrap (2 : Int) = 2 := by decide
  have sW := bW.size
  obtain ⟨_, ⟨e0, e1, e2, e3, e4⟩⟩ := HX.out W (FRow.bel B1.out bW (Nat.le_refl _))
  clear bW oW hW
  have HFo := hid_of (four_call an OW.out (by omega) hn (by simp))
  rw [show le4 an = leY (l.length : Int) 4 by rw [HLn.out]; rfl, ← LB_zero encT l [2]] at HFo
  have HT := hid_of ht
  have HLN := hid_of hlen
  have HFN : Hid (full ≠ []) := hid_of (by rw [HFU.out]; simp)
  clear OW ht hlen
  obtain ⟨M0, hM0⟩ : ∃ M, M = (LB encT l 0 [2]).length := ⟨_, rfl⟩
  rw [← hM0] at HFo
  have HM0 := hid_of hM0
  clear hM0
  go_wp2_with fail
  rw [← HW.out]
  refine HFo.out.mono ?_
  rintro e w2 ⟨ya, yc, rfl, R2⟩
  have b2 : Below w1.heap.size w1 w2 := BW.out.trans R2.out.2
  have BW2 := hid_of b2
  clear HFo c0 c1 c2 c3 c4 e0 e1 e2 e3 e4
  have R0 : Hid (OB w1.heap.size w2 (.slice ya M0 yc) (LB encT l 0 [2]) ∧ Below w1.heap.size w1 w2) := hid_of ⟨R2.out.1, b2⟩
  clear b2 R2
  go_wp2_with fail
  go_loopg [5, 6] an (fun g s5 s6 wx => ∃ (j N : Nat) (ra : Option Addr) (rc : Nat), j ≤ an ∧ an ≤ j + g ∧ s5 = .slice ra N rc ∧ s6 = .int .i64 (j : Int) ∧ Hid (OB w1.heap.size wx (.slice ra N rc) (LB encT l j [2]) ∧ Below w1.heap.size w1 wx))
  case atStart => exact ⟨0, M0, ya, yc, by omega, by omega, rfl, rfl, R0⟩
  case round =>
    obtain ⟨j, N, ra, rc, hj, hg, rfl, rfl, R⟩ := hrel
    obtain ⟨bbr, ⟨c0, c1, c2, c3, c4⟩⟩ := HX.out wr (FRow.bel B1.out R.out.2 (Nat.le_refl _))
    have BBR := hid_of bbr
    clear bbr
    by_cases hlt : j < an
    · obtain ⟨g', rfl⟩ : ∃ g', gk = g' + 1 := ⟨gk - 1, by omega⟩
      have hjl : j < l.length := by rw [HLn.out]; exact hlt
      obtain ⟨g1, o1, rfl, c9⟩ := Write.sl_at (HSL.out wr BBR.out) hjl
      have hbd := LB_len encT l j [2] hjl
      rw [encT_len] at hbd
      have HC := hid_of (REnc.text_call l[j] R.out.1 R.out.2.size (HT.out _ (List.getElem_mem hjl)) (by have := HLN.out; simp at hbd; omega))
      rw [LB_step encT l j [2] hjl] at HC
      obtain ⟨N2, hN2⟩ : ∃ N2, N2 = (LB encT l (j + 1) [2]).length := ⟨_, rfl⟩
      rw [← hN2] at HC
      clear hbd hN2
      generalize mk l[j] = X9 at *
      have w1' : IntKind.i64.wrap ((j : Int) + 1) = (j : Int) + 1 := IntWalk.i64_in _ (by omega)
      have dd : (j : Int) < (an : Int) := by omega
      go_wp2_with fail
      refine HC.out.mono ?_
      rintro e w3 ⟨a3, c3', rfl, R3⟩
      have R4 := hid_of (And.intro R3.out.1 (R.out.2.trans R3.out.2))
      clear R3 HC
      go_wp2_with fail
      go_roundg g'
      case measure => omega
      case rel => exact ⟨j + 1, N2, a3, c3', by omega, by omega, rfl, by simp, R4⟩
    · obtain rfl : j = an := by omega
      have dd : ¬ (j : Int) < (j : Int) := by omega
      have o9 : OB w1.heap.size wr (.slice ra N rc) full := by have := R.out.1; rw [← HLn.out, LB_end] at this; rw [HFU.out]; exact this
      have hconv := conv_b o9 HFN.out
      clear o9
      go_wp2_with fail
      go_ret2
      exact ⟨rfl, BBR.out⟩

set_option maxHeartbeats 8000000 in
set_option maxRecDepth 100000 in
theorem rn4 (X : ByteArray) (aa ba ca : Option Addr) (an bn cn ac bc cc : Nat) (w : World) (l : List Bs) (full : Bs) (hfull : full = [4] ++ encC encT l) (hn : an < 4294967296) (HLn : Hid (l.length = an)) (HSL : Hid (∀ W, Below w.heap.size w W → SL TT W (.slice aa an ac) l)) (ht : ∀ t ∈ l, t.length < 4294967296) (hlen : 1 + (encC encT l).length ≤ 140737488355328)
    (HCk : Hid (∀ W, Below w.heap.size w W → Calls Tryz.prog 110 #[.agg #[.int .i64 4, .string X, .slice aa an ac, .slice ba bn bc, .slice ca cn cc]] W fun e w' => e = .returned (.int .i64 0) ∧ Below W.heap.size W w')) :
    Calls Tryz.prog 117 #[.agg #[.int .i64 4, .string X, .slice aa an ac, .slice ba bn bc, .slice ca cn cc]] w fun e w' => e = .returned (.tuple #[.string (mk full), .int .i64 0]) ∧ Below w.heap.size w w' := by
  have HFU := hid_of hfull
  clear hfull
  obtain ⟨V, hV⟩ : ∃ V, V = w.alloc (.cells #[.int .i64 4, .string X, .slice aa an ac, .slice ba bn bc, .slice ca cn cc] 27) := ⟨_, rfl⟩
  have bV : Below w.heap.size w V := by rw [hV]; exact FRow.bnew w _
  have v0 : V.heap[w.heap.size]? = some (.cells #[.int .i64 4, .string X, .slice aa an ac, .slice ba bn bc, .slice ca cn cc] 27 (0, 0)) := by rw [hV]; exact heap_alloc_new w _
  have sV : V.heap.size = w.heap.size + 1 := by rw [hV]; simp
  have HV := hid_of hV
  have HB := hid_of bV
  have HSV := hid_of sV
  have HX := hid_of fun (W : World) (hW : Below V.heap.size V W) => And.intro (FRow.bel bV hW (Nat.le_refl _)) (box5 ((hW.block _ (lt_of v0)).trans v0)).1
  clear v0 bV hV sV
  go_enter Tryz.func117, Tryz.ntmps117
  go_wp2_with fail
  rw [← HV.out]
  refine (HCk.out V HB.out).mono ?_
  rintro e w1 ⟨rfl, b1⟩
  obtain ⟨bb1, ⟨c0, c1, c2, c3, c4⟩⟩ := HX.out w1 b1
  have hlt1 : w.heap.size < w1.heap.size := Base.cell_lt c0
  have hne1 : w.heap.size ≠ w1.heap.size := by omega
  have B1 := hid_of b1
  have BB1 := hid_of bb1
  clear b1 bb1 HCk
  obtain ⟨W, hW⟩ : ∃ W, W = w1.alloc (.cells #[.int .u8 4] 5) := ⟨_, rfl⟩
  have bW : Below w1.heap.size w1 W := by rw [hW]; exact FRow.bnew w1 _
  have oW : OB w1.heap.size W (.slice (some ⟨w1.heap.size, 0, none⟩) 1 1) [4] := by rw [hW]; exact ob_one w1 4
  have HW := hid_of hW
  have BW := hid_of bW
  have OW := hid_of oW
  have u8 : IntKind.u8.wrap (4 : Int) = 4 := by decide
  have sW := bW.size
  obtain ⟨_, ⟨e0, e1, e2, e3, e4⟩⟩ := HX.out W (FRow.bel B1.out bW (Nat.le_refl _))
  clear bW oW hW
  have HFo := hid_of (four_call an OW.out (by omega) hn (by simp))
  rw [show le4 an = leY (l.length : Int) 4 by rw [HLn.out]; rfl, ← LB_zero encT l [4]] at HFo
  have HT := hid_of ht
  have HLN := hid_of hlen
  have HFN : Hid (full ≠ []) := hid_of (by rw [HFU.out]; simp)
  clear OW ht hlen
  obtain ⟨M0, hM0⟩ : ∃ M, M = (LB encT l 0 [4]).length := ⟨_, rfl⟩
  rw [← hM0] at HFo
  have HM0 := hid_of hM0
  clear hM0
  go_wp2_with fail
  rw [← HW.out]
  refine HFo.out.mono ?_
  rintro e w2 ⟨ya, yc, rfl, R2⟩
  have b2 : Below w1.heap.size w1 w2 := BW.out.trans R2.out.2
  have BW2 := hid_of b2
  clear HFo c0 c1 c2 c3 c4 e0 e1 e2 e3 e4
  have R0 : Hid (OB w1.heap.size w2 (.slice ya M0 yc) (LB encT l 0 [4]) ∧ Below w1.heap.size w1 w2) := hid_of ⟨R2.out.1, b2⟩
  clear b2 R2
  go_wp2_with fail
  go_loopg [5, 6] an (fun g s5 s6 wx => ∃ (j N : Nat) (ra : Option Addr) (rc : Nat), j ≤ an ∧ an ≤ j + g ∧ s5 = .slice ra N rc ∧ s6 = .int .i64 (j : Int) ∧ Hid (OB w1.heap.size wx (.slice ra N rc) (LB encT l j [4]) ∧ Below w1.heap.size w1 wx))
  case atStart => exact ⟨0, M0, ya, yc, by omega, by omega, rfl, rfl, R0⟩
  case round =>
    obtain ⟨j, N, ra, rc, hj, hg, rfl, rfl, R⟩ := hrel
    obtain ⟨bbr, ⟨c0, c1, c2, c3, c4⟩⟩ := HX.out wr (FRow.bel B1.out R.out.2 (Nat.le_refl _))
    have BBR := hid_of bbr
    clear bbr
    by_cases hlt : j < an
    · obtain ⟨g', rfl⟩ : ∃ g', gk = g' + 1 := ⟨gk - 1, by omega⟩
      have hjl : j < l.length := by rw [HLn.out]; exact hlt
      obtain ⟨g1, o1, rfl, c9⟩ := Write.sl_at (HSL.out wr BBR.out) hjl
      have hbd := LB_len encT l j [4] hjl
      rw [encT_len] at hbd
      have HC := hid_of (REnc.text_call l[j] R.out.1 R.out.2.size (HT.out _ (List.getElem_mem hjl)) (by have := HLN.out; simp at hbd; omega))
      rw [LB_step encT l j [4] hjl] at HC
      obtain ⟨N2, hN2⟩ : ∃ N2, N2 = (LB encT l (j + 1) [4]).length := ⟨_, rfl⟩
      rw [← hN2] at HC
      clear hbd hN2
      generalize mk l[j] = X9 at *
      have w1' : IntKind.i64.wrap ((j : Int) + 1) = (j : Int) + 1 := IntWalk.i64_in _ (by omega)
      have dd : (j : Int) < (an : Int) := by omega
      go_wp2_with fail
      refine HC.out.mono ?_
      rintro e w3 ⟨a3, c3', rfl, R3⟩
      have R4 := hid_of (And.intro R3.out.1 (R.out.2.trans R3.out.2))
      clear R3 HC
      go_wp2_with fail
      go_roundg g'
      case measure => omega
      case rel => exact ⟨j + 1, N2, a3, c3', by omega, by omega, rfl, by simp, R4⟩
    · obtain rfl : j = an := by omega
      have dd : ¬ (j : Int) < (j : Int) := by omega
      have o9 : OB w1.heap.size wr (.slice ra N rc) full := by have := R.out.1; rw [← HLn.out, LB_end] at this; rw [HFU.out]; exact this
      have hconv := conv_b o9 HFN.out
      clear o9
      go_wp2_with fail
      go_ret2
      exact ⟨rfl, BBR.out⟩
end Go.Proofs.YtpnigkjmofhmbaaGreat.REnc2
end
section
namespace Go.Proofs.YtpnigkjmofhmbaaGreat.REnc3
open Go.RowKit Go.Maps
open Go.Proofs.YtpnigkjmofhmbaaGreat.SetMath
open Go.Proofs.YtpnigkjmofhmbaaGreat.BytesMath
open Go.Proofs.YtpnigkjmofhmbaaGreat.FixMath
open Go.Proofs.YtpnigkjmofhmbaaGreat.ValueMath
open Go.Proofs.YtpnigkjmofhmbaaGreat.Base
open Go.Proofs.YtpnigkjmofhmbaaGreat.Vals
open Go.Proofs.YtpnigkjmofhmbaaGreat.Write (LB LB_zero LB_step LB_end LB_len encT_len)
open Go.Proofs.YtpnigkjmofhmbaaGreat.Write2 (encF_len encE_len)
open Go.Proofs.YtpnigkjmofhmbaaGreat.REnc
open Go.Proofs.YtpnigkjmofhmbaaGreat.REnc2
set_option linter.unusedVariables false
set_option linter.unusedSimpArgs false

set_option maxHeartbeats 8000000 in
set_option maxRecDepth 100000 in
theorem rn3 (X : ByteArray) (aa ba ca : Option Addr) (an bn cn ac bc cc : Nat) (w : World) (l : FRow.LL) (full : Bs) (hfull : full = [3] ++ encC encF l) (hn : bn < 4294967296) (HLn : Hid (List.length l = bn)) (HSL : Hid (∀ W, Below w.heap.size w W → FRow.FS W (.slice ba bn bc) l)) (ht : ∀ t ∈ l, (t : Bs × Bs).1.length < 4294967296 ∧ t.2.length < 4294967296) (hlen : 1 + (encC encF l).length ≤ 140737488355328)
    (HCk : Hid (∀ W, Below w.heap.size w W → Calls Tryz.prog 110 #[.agg #[.int .i64 3, .string X, .slice aa an ac, .slice ba bn bc, .slice ca cn cc]] W fun e w' => e = .returned (.int .i64 0) ∧ Below W.heap.size W w')) :
    Calls Tryz.prog 117 #[.agg #[.int .i64 3, .string X, .slice aa an ac, .slice ba bn bc, .slice ca cn cc]] w fun e w' => e = .returned (.tuple #[.string (mk full), .int .i64 0]) ∧ Below w.heap.size w w' := by
  have HFU := hid_of hfull
  clear hfull
  obtain ⟨V, hV⟩ : ∃ V, V = w.alloc (.cells #[.int .i64 3, .string X, .slice aa an ac, .slice ba bn bc, .slice ca cn cc] 27) := ⟨_, rfl⟩
  have bV : Below w.heap.size w V := by rw [hV]; exact FRow.bnew w _
  have v0 : V.heap[w.heap.size]? = some (.cells #[.int .i64 3, .string X, .slice aa an ac, .slice ba bn bc, .slice ca cn cc] 27 (0, 0)) := by rw [hV]; exact heap_alloc_new w _
  have sV : V.heap.size = w.heap.size + 1 := by rw [hV]; simp
  have HV := hid_of hV
  have HB := hid_of bV
  have HSV := hid_of sV
  have HX := hid_of fun (W : World) (hW : Below V.heap.size V W) => And.intro (FRow.bel bV hW (Nat.le_refl _)) (box5 ((hW.block _ (lt_of v0)).trans v0)).1
  clear v0 bV hV sV
  go_enter Tryz.func117, Tryz.ntmps117
  go_wp2_with fail
  rw [← HV.out]
  refine (HCk.out V HB.out).mono ?_
  rintro e w1 ⟨rfl, b1⟩
  obtain ⟨bb1, ⟨c0, c1, c2, c3, c4⟩⟩ := HX.out w1 b1
  have hlt1 : w.heap.size < w1.heap.size := Base.cell_lt c0
  have hne1 : w.heap.size ≠ w1.heap.size := by omega
  have B1 := hid_of b1
  have BB1 := hid_of bb1
  clear b1 bb1 HCk
  obtain ⟨W, hW⟩ : ∃ W, W = w1.alloc (.cells #[.int .u8 3] 5) := ⟨_, rfl⟩
  have bW : Below w1.heap.size w1 W := by rw [hW]; exact FRow.bnew w1 _
  have oW : OB w1.heap.size W (.slice (some ⟨w1.heap.size, 0, none⟩) 1 1) [3] := by rw [hW]; exact ob_one w1 3
  have HW := hid_of hW
  have BW := hid_of bW
  have OW := hid_of oW
  have u8 : IntKind.u8.wrap (3 : Int) = 3 := by decide
  have sW := bW.size
  obtain ⟨_, ⟨e0, e1, e2, e3, e4⟩⟩ := HX.out W (FRow.bel B1.out bW (Nat.le_refl _))
  clear bW oW hW
  have HFo := hid_of (four_call bn OW.out (by omega) hn (by simp))
  rw [show le4 bn = leY ((List.length l : Nat) : Int) 4 by rw [HLn.out]; rfl, ← LB_zero encF l [3]] at HFo
  have HT := hid_of ht
  have HLN := hid_of hlen
  have HFN : Hid (full ≠ []) := hid_of (by rw [HFU.out]; simp)
  clear OW ht hlen
  obtain ⟨M0, hM0⟩ : ∃ M, M = (LB encF l 0 [3]).length := ⟨_, rfl⟩
  rw [← hM0] at HFo
  have HM0 := hid_of hM0
  clear hM0
  go_wp2_with fail
  rw [← HW.out]
  refine HFo.out.mono ?_
  rintro e w2 ⟨ya, yc, rfl, R2⟩
  have b2 : Below w1.heap.size w1 w2 := BW.out.trans R2.out.2
  clear HFo c0 c1 c2 c3 c4 e0 e1 e2 e3 e4
  have R0 : Hid (OB w1.heap.size w2 (.slice ya M0 yc) (LB encF l 0 [3]) ∧ Below w1.heap.size w1 w2) := hid_of ⟨R2.out.1, b2⟩
  clear b2 R2
  go_wp2_with fail
  go_loopg [5, 7] bn (fun g s5 s6 wx => ∃ (j N : Nat) (ra : Option Addr) (rc : Nat), j ≤ bn ∧ bn ≤ j + g ∧ s5 = .slice ra N rc ∧ s6 = .int .i64 (j : Int) ∧ Hid (OB w1.heap.size wx (.slice ra N rc) (LB encF l j [3]) ∧ Below w1.heap.size w1 wx))
  case atStart => exact ⟨0, M0, ya, yc, by omega, by omega, rfl, rfl, R0⟩
  case round =>
    obtain ⟨j, N, ra, rc, hj, hg, rfl, rfl, R⟩ := hrel
    obtain ⟨bbr, ⟨c0, c1, c2, c3, c4⟩⟩ := HX.out wr (FRow.bel B1.out R.out.2 (Nat.le_refl _))
    have BBR := hid_of bbr
    clear bbr
    by_cases hlt : j < bn
    · obtain ⟨g', rfl⟩ : ∃ g', gk = g' + 1 := ⟨gk - 1, by omega⟩
      have hjl : j < List.length l := by rw [HLn.out]; exact hlt
      obtain ⟨ga, oa, rfl, ha⟩ := FRow.FS.at (HSL.out wr BBR.out) hjl
      obtain ⟨a0, a1⟩ := ha j hjl
      have hgl : ga < w1.heap.size ∨ True := Or.inr trivial
      have HAT : Hid (∀ U, Below w1.heap.size w1 U → U.cell? ⟨ga, oa + j * 2, none⟩ = some (.string (mk (l[j]'hjl).1)) ∧ U.cell? ⟨ga, oa + j * 2 + 1, none⟩ = some (.string (mk (l[j]'hjl).2)) ∧ U.cell? ⟨w.heap.size, 3, none⟩ = some (.slice (some ⟨ga, oa, none⟩) bn bc)) := hid_of fun U hU => by
        obtain ⟨bbu, bx⟩ := HX.out U (FRow.bel B1.out hU (Nat.le_refl _))
        obtain ⟨g2, o2, e2, h2⟩ := FRow.FS.at (HSL.out U bbu) hjl
        injection e2 with e2
        injection e2 with e3 e4 _
        subst e3 e4
        exact ⟨(h2 j hjl).1, (h2 j hjl).2, bx.2.2.2.1⟩
      clear ha hgl
      have hbd := LB_len encF l j [3] hjl
      rw [encF_len] at hbd
      have htt := HT.out _ (List.getElem_mem hjl)
      have hll := HLN.out
      have HST := hid_of (LB_step encF l j [3] hjl)
      generalize l[j] = x at *
      obtain ⟨x1, x2⟩ := x
      simp only at a0 a1 hbd htt HAT
      simp at hbd
      have H1 := hid_of (REnc.text_call (w := wr.drew) x1 (show OB w1.heap.size wr.drew _ _ from R.out.1) R.out.2.size (by omega) (by omega))
      have H2 := hid_of fun (U : World) (v' : Value) (hU : OB w1.heap.size U v' (LB encF l j [3] ++ encT x1)) (hBU : w1.heap.size ≤ U.heap.size) => REnc.text_call x2 hU hBU (by omega) (by rw [List.length_append, encT_len]; omega)
      rw [List.append_assoc, show encT x1 ++ encT x2 = encF (x1, x2) from rfl, HST.out] at H2
      obtain ⟨N1, hN1⟩ : ∃ N1, N1 = (LB encF l j [3] ++ encT x1).length := ⟨_, rfl⟩
      obtain ⟨N2, hN2⟩ : ∃ N2, N2 = (LB encF l (j + 1) [3]).length := ⟨_, rfl⟩
      rw [← hN1] at H1
      rw [← hN2] at H2
      have w1' : IntKind.i64.wrap ((j : Int) + 1) = (j : Int) + 1 := IntWalk.i64_in _ (by omega)
      have dd : (j : Int) < (bn : Int) := by omega
      clear hbd htt hll hN1 hN2 HST
      generalize mk x1 = X1 at *
      generalize mk x2 = X2 at *
      go_wp2_with fail
      go_region_held3 (fun U => U.cell? ⟨ga, oa + j * 2, none⟩ = some (.string X1) ∧ U.cell? ⟨ga, oa + j * 2 + 1, none⟩ = some (.string X2) ∧ U.cell? ⟨w.heap.size, 3, none⟩ = some (.slice (some ⟨ga, oa, none⟩) bn bc)) (first | exact HAT.out wr R.out.2 | exact HAT.out w3 K3.out | exact HAT.out w4 K4.out) (first
        | (go_at_call 142; first
          | (refine (H2.out w3 _ O3.out K3.out.size).mono ?_; rintro e w4 ⟨za, zc, rfl, R4⟩; have K4 := hid_of (K3.out.trans R4.out.2); have O4 := hid_of R4.out.1; clear R4)
          | (refine H1.out.mono ?_; rintro e w3 ⟨qa, qc, rfl, R3⟩; have K3 := hid_of (R.out.2.trans (show Below w1.heap.size wr w3 from ⟨R3.out.2.os, R3.out.2.tape, R3.out.2.output, R3.out.2.size, R3.out.2.block⟩)); have O3 := hid_of R3.out.1; clear R3)))
      go_wp2_with fail
      go_roundg g'
      case measure => omega
      case rel => exact ⟨j + 1, N2, za, zc, by omega, by omega, rfl, by simp, hid_of ⟨O4.out, K4.out⟩⟩
    · obtain rfl : j = bn := by omega
      have dd : ¬ (j : Int) < (j : Int) := by omega
      have o9 : OB w1.heap.size wr (.slice ra N rc) full := by have := R.out.1; rw [← HLn.out, LB_end] at this; rw [HFU.out]; exact this
      have hconv := conv_b o9 HFN.out
      clear o9
      go_wp2_with fail
      go_ret2
      exact ⟨rfl, BBR.out⟩
end Go.Proofs.YtpnigkjmofhmbaaGreat.REnc3
end
