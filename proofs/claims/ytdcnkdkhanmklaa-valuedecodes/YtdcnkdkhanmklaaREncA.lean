/- The document's bytes: four, text. The document's Encode. -/
import Derived.Test.YtdcnkdkhanmklaaRCheck
import Derived.Test.YtdcnkdkhanmklaaWrite2
import Derived.Lib.AppendStr
import Derived.Test.YtdcnkdkhanmklaaEnc
section
namespace Go.Proofs.Ytdcnkdkhanmklaa.REnc
open Go.RowKit Go.Maps
open Go.Proofs.Ytdcnkdkhanmklaa.SetMath
open Go.Proofs.Ytdcnkdkhanmklaa.BytesMath
open Go.Proofs.Ytdcnkdkhanmklaa.FixMath
open Go.Proofs.Ytdcnkdkhanmklaa.ValueMath
open Go.Proofs.Ytdcnkdkhanmklaa.Base
open Go.Proofs.Ytdcnkdkhanmklaa.Vals
set_option linter.unusedVariables false
set_option linter.unusedSimpArgs false
/- a row of bytes of one's own -/
def OB (B : Nat) (w : World) (v : Value) (l : Bs) : Prop := w.ownsRow B 5 1 v l.length (Lib.byteCells l)
theorem OB.below {B : Nat} {w w' : World} {v : Value} {l : Bs} (h : OB B w v l) (hb : Below w.heap.size w w') : OB B w' v l := FRow.row_below h hb
theorem OB.shape {B : Nat} {w : World} {v : Value} {l : Bs} (h : OB B w v l) : ∃ a c, v = .slice a l.length c := by
  rcases h.2 with ⟨rfl, h0⟩ | ⟨g, c, cur, rfl, _⟩
  · exact ⟨none, 0, by rw [h0]⟩
  · exact ⟨_, c, rfl⟩
theorem info5 : (Try.prog.info? 5).map (fun i => (i.zero, i.size, i.bytes)) = some (some (.int .u8 0), 1, 1) := by kernel_rfl
theorem app_b {B : Nat} {w : World} {v : Value} {l : Bs} (t : Bs) (h : OB B w v l) (hB : B ≤ w.heap.size) (hlen : l.length + t.length ≤ 140737488355328) :
    ∃ a c w', (Builtin.append_ #[51, 9] 51 #[v, .string (mk t)]).run Try.prog w = .ok (.slice a (l ++ t).length c) w' ∧ OB B w' (.slice a (l ++ t).length c) (l ++ t) ∧ Below B w w' := by
  obtain ⟨i0, hi0, hz0, hz1, hz2⟩ := info_parts info5
  obtain ⟨v', w', hr, h2, h3, _⟩ := Lib.run_append_own_string (P := Try.prog) w B 51 9 51 5 i0 Try.underlying51 Try.underlying9 hi0 hz0 hz1 hz2 v _ _ h (mk t) (by unfold maxLen; rw [mk_size]; omega) (by rw [mk_size]; omega) hB
  have o : OB B w' v' (l ++ t) := by
    show w'.ownsRow B _ 1 v' (l ++ t).length (Lib.byteCells (l ++ t))
    rw [List.length_append, Lib.byteCells_append, ← mk_size t]
    exact h2
  obtain ⟨a, c, rfl⟩ := o.shape
  exact ⟨a, c, w', hr, o, (Below.refl B w).grown h3 hB (fun k hk => (World.ownsRow.lt h k hk).1)⟩
set_option maxHeartbeats 1000000 in
set_option maxRecDepth 100000 in
theorem four_call {B : Nat} {w : World} {v : Value} {l : Bs} (n : Nat) (h : OB B w v l) (hB : B ≤ w.heap.size) (hn : n < 4294967296) (hlen : l.length + 4 ≤ 140737488355328) :
    Calls Try.prog 28 #[v, .int .i64 n] w fun e w' => ∃ a c, e = .returned (.slice a (l ++ le4 n).length c) ∧ Hid (OB B w' (.slice a (l ++ le4 n).length c) (l ++ le4 n) ∧ Below B w w') := by
  have HF := hid_of (Fix.rfix_any n 4 w (by omega) (by omega) (by decide) (by decide))
  have hfit := Write.fits n 4 (by simpa using hn)
  have eS : Fix.fixS (n : Int) 4 = mk (le4 n) := by unfold Fix.fixS; rw [hfit]; rfl
  have eE : Fix.fixE (n : Int) 4 = 0 := by unfold Fix.fixE; rw [hfit]; rfl
  rw [eS, eE] at HF
  have HA := hid_of fun (W : World) (hW : Below w.heap.size w W) => And.intro (app_b (le4 n) (h.below hW) (Nat.le_trans hB hW.size) (by rw [len_le4]; exact hlen)) (hW.mono hB)
  have e1 : IntKind.u64.wrap (n : Int) = (n : Int) := by rw [IntKind.wrap_u64]; omega
  obtain ⟨a, c, rfl⟩ := h.shape
  generalize (l ++ le4 n).length = M at *
  generalize mk (le4 n) = X at *
  clear h hfit eS eE
  go_enter Try.func28, Try.ntmps28
  go_wp2_with fail
  refine HF.out.mono ?_
  rintro e w1 ⟨rfl, b1⟩
  obtain ⟨⟨a', c', w', hrun, o', bb⟩, bw⟩ := HA.out w1 b1
  have R := hid_of (And.intro o' (bw.trans bb))
  clear HA HF b1 o' bb bw
  go_wp2_with (at_builtin; refine wpl_eq rfl _ _ 51 9 rfl (.slice a l.length c) (.string X) (.slice a' M c') w1 w' rfl rfl hrun ?_)
  go_ret
  exact ⟨a', c', rfl, R⟩
set_option maxHeartbeats 1000000 in
set_option maxRecDepth 100000 in
theorem text_call {B : Nat} {w : World} {v : Value} {l : Bs} (t : Bs) (h : OB B w v l) (hB : B ≤ w.heap.size) (ht : t.length < 4294967296) (hlen : l.length + 4 + t.length ≤ 140737488355328) :
    Calls Try.prog 27 #[v, .string (mk t)] w fun e w' => ∃ a c, e = .returned (.slice a (l ++ encT t).length c) ∧ Hid (OB B w' (.slice a (l ++ encT t).length c) (l ++ encT t) ∧ Below B w w') := by
  have HF := hid_of (four_call t.length h hB ht (by omega))
  have HA := hid_of fun (W : World) (v' : Value) (hv : OB B W v' (l ++ le4 t.length)) (hBW : B ≤ W.heap.size) => app_b t hv hBW (by rw [List.length_append, len_le4]; omega)
  rw [List.append_assoc, show le4 t.length ++ t = encT t from rfl] at HA
  obtain ⟨a, c, rfl⟩ := h.shape
  have hs := mk_size t
  rw [← hs] at HF
  generalize (l ++ encT t).length = M at *
  obtain ⟨N, hN⟩ : ∃ N, N = (l ++ le4 (mk t).size).length := ⟨_, rfl⟩
  rw [← hN] at HF
  have HSS := hid_of hs
  generalize mk t = X at *
  clear h hN hs
  go_enter Try.func27, Try.ntmps27
  go_wp2_with fail
  refine HF.out.mono ?_
  rintro e w1 ⟨a1, c1, rfl, R1⟩
  obtain ⟨a', c', w', hrun, o', bb⟩ := HA.out w1 _ (by rw [← HSS.out]; exact R1.out.1) (Nat.le_trans hB R1.out.2.size)
  have R := hid_of (And.intro o' (R1.out.2.trans bb))
  clear HA HF R1 o' bb
  go_wp2_with (at_builtin; refine wpl_eq rfl _ _ 51 9 rfl (.slice a1 N c1) (.string X) (.slice a' M c') w1 w' rfl rfl hrun ?_)
  go_ret
  exact ⟨a', c', rfl, R⟩
end Go.Proofs.Ytdcnkdkhanmklaa.REnc
end
section
namespace Go.Proofs.Ytdcnkdkhanmklaa.REnc2
open Go.RowKit Go.Maps
open Go.Proofs.Ytdcnkdkhanmklaa.SetMath
open Go.Proofs.Ytdcnkdkhanmklaa.BytesMath
open Go.Proofs.Ytdcnkdkhanmklaa.FixMath
open Go.Proofs.Ytdcnkdkhanmklaa.ValueMath
open Go.Proofs.Ytdcnkdkhanmklaa.Base
open Go.Proofs.Ytdcnkdkhanmklaa.Vals
open Go.Proofs.Ytdcnkdkhanmklaa.Write (LB LB_zero LB_step LB_end LB_len encT_len)
open Go.Proofs.Ytdcnkdkhanmklaa.Write2 (encF_len encE_len)
open Go.Proofs.Ytdcnkdkhanmklaa.REnc
set_option linter.unusedVariables false
set_option linter.unusedSimpArgs false
set_option maxRecDepth 100000 in
theorem conv_b {B : Nat} {w : World} {a : Option Addr} {n c : Nat} {l : Bs} (h : OB B w (.slice a n c) l) (hl : l ≠ []) : (convert 51 9 (.slice a n c)).run Try.prog w = .ok (.string (mk l)) w := by
  rcases h.2 with ⟨e, h0⟩ | ⟨g, cap, cur, e, hb, hg, q⟩
  · exact absurd (List.length_eq_zero_iff.1 h0) hl
  · injection e with e1 e2 e3
    subst e1 e2 e3
    have hby : Lib.Bytes w g 0 (mk l) := by
      intro i hi
      have hi' : i < l.length := by rw [mk_size] at hi; exact hi
      rw [Nat.zero_add, h.cellAt i (by omega)]
      simp [Lib.byteCells, hi']
      rfl
    have := Lib.run_convert_whole (P := Try.prog) w 51 5 9 Try.underlying51 Try.underlying5 Try.underlying9 g 0 (mk l) hby c
    rw [mk_size] at this
    exact this
theorem ob_one (w : World) (k : UInt8) : OB w.heap.size (w.alloc (.cells #[.int .u8 k.toNat] 5)) (.slice (some ⟨w.heap.size, 0, none⟩) 1 1) [k] :=
  ⟨rfl, .inr ⟨w.heap.size, 1, _, rfl, Nat.le_refl _, heap_alloc_new w _, Nat.le_refl _, by unfold maxLen; decide, rfl, rfl⟩⟩

set_option maxHeartbeats 8000000 in
set_option maxRecDepth 100000 in
theorem rn1 (X : ByteArray) (aa ba ca : Option Addr) (an bn cn ac bc cc : Nat) (w : World) (t full : Bs) (hX : X = mk t) (hfull : full = [1] ++ encT t) (ht : t.length < 4294967296)
    (HCk : Hid (∀ W, Below w.heap.size w W → Calls Try.prog 12 #[.agg #[.int .i64 1, .string X, .slice aa an ac, .slice ba bn bc, .slice ca cn cc]] W fun e w' => e = .returned (.int .i64 0) ∧ Below W.heap.size W w')) :
    Calls Try.prog 10 #[.agg #[.int .i64 1, .string X, .slice aa an ac, .slice ba bn bc, .slice ca cn cc]] w fun e w' => e = .returned (.tuple #[.string (mk full), .int .i64 0]) ∧ Below w.heap.size w w' := by
  have HXX := hid_of hX
  have HFU := hid_of hfull
  clear hX hfull
  obtain ⟨V, hV⟩ : ∃ V, V = w.alloc (.cells #[.int .i64 1, .string X, .slice aa an ac, .slice ba bn bc, .slice ca cn cc] 26) := ⟨_, rfl⟩
  have bV : Below w.heap.size w V := by rw [hV]; exact FRow.bnew w _
  have v0 : V.heap[w.heap.size]? = some (.cells #[.int .i64 1, .string X, .slice aa an ac, .slice ba bn bc, .slice ca cn cc] 26 (0, 0)) := by rw [hV]; exact heap_alloc_new w _
  have sV : V.heap.size = w.heap.size + 1 := by rw [hV]; simp
  have HV := hid_of hV
  have HB := hid_of bV
  have HSV := hid_of sV
  have HX := hid_of fun (W : World) (hW : Below V.heap.size V W) => And.intro (FRow.bel bV hW (Nat.le_refl _)) (box5 ((hW.block _ (lt_of v0)).trans v0)).1
  clear v0 bV hV sV
  go_enter Try.func10, Try.ntmps10
  go_wp2_with fail
  rw [← HV.out]
  refine (HCk.out V HB.out).mono ?_
  rintro e w1 ⟨rfl, b1⟩
  obtain ⟨bb1, ⟨c0, c1, c2, c3, c4⟩⟩ := HX.out w1 b1
  have hlt1 : w.heap.size < w1.heap.size := Base.cell_lt c0
  have hne1 : w.heap.size ≠ w1.heap.size := by omega
  have B1 := hid_of b1
  have BB1 := hid_of bb1
  clear b1 bb1 HCk
  obtain ⟨W, hW⟩ : ∃ W, W = w1.alloc (.cells #[.int .u8 1] 5) := ⟨_, rfl⟩
  have bW : Below w1.heap.size w1 W := by rw [hW]; exact FRow.bnew w1 _
  have oW : OB w1.heap.size W (.slice (some ⟨w1.heap.size, 0, none⟩) 1 1) [1] := by rw [hW]; exact ob_one w1 1
  have HW := hid_of hW
  have BW := hid_of bW
  have OW := hid_of oW
  have u8 : IntKind.u8.wrap (1 : Int) = 1 := by decide
  have sW := bW.size
  obtain ⟨_, ⟨e0, e1, e2, e3, e4⟩⟩ := HX.out W (FRow.bel B1.out bW (Nat.le_refl _))
  clear bW oW hW
  have HT := hid_of (REnc.text_call t OW.out (by omega) ht (by simp; omega))
  rw [← HFU.out, ← HXX.out] at HT
  have HFN : Hid (full ≠ []) := hid_of (by rw [HFU.out]; simp)
  clear OW
  generalize full.length = M at *
  go_wp2_with fail
  rw [← HW.out]
  refine HT.out.mono ?_
  rintro e w2 ⟨a2, c2, rfl, R2⟩
  have hconv := conv_b R2.out.1 HFN.out
  have BB2 := hid_of (FRow.bel BB1.out ((BW.out.trans R2.out.2)) (Nat.le_refl _))
  clear R2 HT
  go_wp2_with fail
  go_ret2
  exact ⟨rfl, BB2.out⟩

set_option maxHeartbeats 8000000 in
set_option maxRecDepth 100000 in
theorem rn2 (X : ByteArray) (aa ba ca : Option Addr) (an bn cn ac bc cc : Nat) (w : World) (l : List Bs) (full : Bs) (hfull : full = [2] ++ encC encT l) (hn : an < 4294967296) (HLn : Hid (l.length = an)) (HSL : Hid (∀ W, Below w.heap.size w W → SL TT W (.slice aa an ac) l)) (ht : ∀ t ∈ l, t.length < 4294967296) (hlen : 1 + (encC encT l).length ≤ 140737488355328)
    (HCk : Hid (∀ W, Below w.heap.size w W → Calls Try.prog 12 #[.agg #[.int .i64 2, .string X, .slice aa an ac, .slice ba bn bc, .slice ca cn cc]] W fun e w' => e = .returned (.int .i64 0) ∧ Below W.heap.size W w')) :
    Calls Try.prog 10 #[.agg #[.int .i64 2, .string X, .slice aa an ac, .slice ba bn bc, .slice ca cn cc]] w fun e w' => e = .returned (.tuple #[.string (mk full), .int .i64 0]) ∧ Below w.heap.size w w' := by
  have HFU := hid_of hfull
  clear hfull
  obtain ⟨V, hV⟩ : ∃ V, V = w.alloc (.cells #[.int .i64 2, .string X, .slice aa an ac, .slice ba bn bc, .slice ca cn cc] 26) := ⟨_, rfl⟩
  have bV : Below w.heap.size w V := by rw [hV]; exact FRow.bnew w _
  have v0 : V.heap[w.heap.size]? = some (.cells #[.int .i64 2, .string X, .slice aa an ac, .slice ba bn bc, .slice ca cn cc] 26 (0, 0)) := by rw [hV]; exact heap_alloc_new w _
  have sV : V.heap.size = w.heap.size + 1 := by rw [hV]; simp
  have HV := hid_of hV
  have HB := hid_of bV
  have HSV := hid_of sV
  have HX := hid_of fun (W : World) (hW : Below V.heap.size V W) => And.intro (FRow.bel bV hW (Nat.le_refl _)) (box5 ((hW.block _ (lt_of v0)).trans v0)).1
  clear v0 bV hV sV
  go_enter Try.func10, Try.ntmps10
  go_wp2_with fail
  rw [← HV.out]
  refine (HCk.out V HB.out).mono ?_
  rintro e w1 ⟨rfl, b1⟩
  obtain ⟨bb1, ⟨c0, c1, c2, c3, c4⟩⟩ := HX.out w1 b1
  have hlt1 : w.heap.size < w1.heap.size := Base.cell_lt c0
  have hne1 : w.heap.size ≠ w1.heap.size := by omega
  have B1 := hid_of b1
  have BB1 := hid_of bb1
  clear b1 bb1 HCk
  obtain ⟨W, hW⟩ : ∃ W, W = w1.alloc (.cells #[.int .u8 2] 5) := ⟨_, rfl⟩
  have bW : Below w1.heap.size w1 W := by rw [hW]; exact FRow.bnew w1 _
  have oW : OB w1.heap.size W (.slice (some ⟨w1.heap.size, 0, none⟩) 1 1) [2] := by rw [hW]; exact ob_one w1 2
  have HW := hid_of hW
  have BW := hid_of bW
  have OW := hid_of oW
  have u8 : IntKind.u8.wrap (2 : Int) = 2 := by decide
  have sW := bW.size
  obtain ⟨_, ⟨e0, e1, e2, e3, e4⟩⟩ := HX.out W (FRow.bel B1.out bW (Nat.le_refl _))
  clear bW oW hW
  have HFo := hid_of (four_call an OW.out (by omega) hn (by simp))
  rw [show le4 an = leY (l.length : Int) 4 by rw [HLn.out]; rfl, ← LB_zero encT l [2]] at HFo
  have HT := hid_of ht
  have HLN := hid_of hlen
  have HFN : Hid (full ≠ []) := hid_of (by rw [HFU.out]; simp)
  clear OW ht hlen
  obtain ⟨M0, hM0⟩ : ∃ M, M = (LB encT l 0 [2]).length := ⟨_, rfl⟩
  rw [← hM0] at HFo
  have HM0 := hid_of hM0
  clear hM0
  go_wp2_with fail
  rw [← HW.out]
  refine HFo.out.mono ?_
  rintro e w2 ⟨ya, yc, rfl, R2⟩
  have b2 : Below w1.heap.size w1 w2 := BW.out.trans R2.out.2
  have BW2 := hid_of b2
  clear HFo c0 c1 c2 c3 c4 e0 e1 e2 e3 e4
  have R0 : Hid (OB w1.heap.size w2 (.slice ya M0 yc) (LB encT l 0 [2]) ∧ Below w1.heap.size w1 w2) := hid_of ⟨R2.out.1, b2⟩
  clear b2 R2
  go_wp2_with fail
  go_loopg [5, 6] an (fun g s5 s6 wx => ∃ (j N : Nat) (ra : Option Addr) (rc : Nat), j ≤ an ∧ an ≤ j + g ∧ s5 = .slice ra N rc ∧ s6 = .int .i64 (j : Int) ∧ Hid (OB w1.heap.size wx (.slice ra N rc) (LB encT l j [2]) ∧ Below w1.heap.size w1 wx))
  case atStart => exact ⟨0, M0, ya, yc, by omega, by omega, rfl, rfl, R0⟩
  case round =>
    obtain ⟨j, N, ra, rc, hj, hg, rfl, rfl, R⟩ := hrel
    obtain ⟨bbr, ⟨c0, c1, c2, c3, c4⟩⟩ := HX.out wr (FRow.bel B1.out R.out.2 (Nat.le_refl _))
    have BBR := hid_of bbr
    clear bbr
    by_cases hlt : j < an
    · obtain ⟨g', rfl⟩ : ∃ g', gk = g' + 1 := ⟨gk - 1, by omega⟩
      have hjl : j < l.length := by rw [HLn.out]; exact hlt
      obtain ⟨g1, o1, rfl, c9⟩ := Write.sl_at (HSL.out wr BBR.out) hjl
      have hbd := LB_len encT l j [2] hjl
      rw [encT_len] at hbd
      have HC := hid_of (REnc.text_call l[j] R.out.1 R.out.2.size (HT.out _ (List.getElem_mem hjl)) (by have := HLN.out; simp at hbd; omega))
      rw [LB_step encT l j [2] hjl] at HC
      obtain ⟨N2, hN2⟩ : ∃ N2, N2 = (LB encT l (j + 1) [2]).length := ⟨_, rfl⟩
      rw [← hN2] at HC
      clear hbd hN2
      generalize mk l[j] = X9 at *
      have w1' : IntKind.i64.wrap ((j : Int) + 1) = (j : Int) + 1 := IntWalk.i64_in _ (by omega)
      have dd : (j : Int) < (an : Int) := by omega
      go_wp2_with fail
      refine HC.out.mono ?_
      rintro e w3 ⟨a3, c3', rfl, R3⟩
      have R4 := hid_of (And.intro R3.out.1 (R.out.2.trans R3.out.2))
      clear R3 HC
      go_wp2_with fail
      go_roundg g'
      case measure => omega
      case rel => exact ⟨j + 1, N2, a3, c3', by omega, by omega, rfl, by simp, R4⟩
    · obtain rfl : j = an := by omega
      have dd : ¬ (j : Int) < (j : Int) := by omega
      have o9 : OB w1.heap.size wr (.slice ra N rc) full := by have := R.out.1; rw [← HLn.out, LB_end] at this; rw [HFU.out]; exact this
      have hconv := conv_b o9 HFN.out
      clear o9
      go_wp2_with fail
      go_ret2
      exact ⟨rfl, BBR.out⟩

set_option maxHeartbeats 8000000 in
set_option maxRecDepth 100000 in
theorem rn4 (X : ByteArray) (aa ba ca : Option Addr) (an bn cn ac bc cc : Nat) (w : World) (l : List Bs) (full : Bs) (hfull : full = [4] ++ encC encT l) (hn : an < 4294967296) (HLn : Hid (l.length = an)) (HSL : Hid (∀ W, Below w.heap.size w W → SL TT W (.slice aa an ac) l)) (ht : ∀ t ∈ l, t.length < 4294967296) (hlen : 1 + (encC encT l).length ≤ 140737488355328)
    (HCk : Hid (∀ W, Below w.heap.size w W → Calls Try.prog 12 #[.agg #[.int .i64 4, .string X, .slice aa an ac, .slice ba bn bc, .slice ca cn cc]] W fun e w' => e = .returned (.int .i64 0) ∧ Below W.heap.size W w')) :
    Calls Try.prog 10 #[.agg #[.int .i64 4, .string X, .slice aa an ac, .slice ba bn bc, .slice ca cn cc]] w fun e w' => e = .returned (.tuple #[.string (mk full), .int .i64 0]) ∧ Below w.heap.size w w' := by
  have HFU := hid_of hfull
  clear hfull
  obtain ⟨V, hV⟩ : ∃ V, V = w.alloc (.cells #[.int .i64 4, .string X, .slice aa an ac, .slice ba bn bc, .slice ca cn cc] 26) := ⟨_, rfl⟩
  have bV : Below w.heap.size w V := by rw [hV]; exact FRow.bnew w _
  have v0 : V.heap[w.heap.size]? = some (.cells #[.int .i64 4, .string X, .slice aa an ac, .slice ba bn bc, .slice ca cn cc] 26 (0, 0)) := by rw [hV]; exact heap_alloc_new w _
  have sV : V.heap.size = w.heap.size + 1 := by rw [hV]; simp
  have HV := hid_of hV
  have HB := hid_of bV
  have HSV := hid_of sV
  have HX := hid_of fun (W : World) (hW : Below V.heap.size V W) => And.intro (FRow.bel bV hW (Nat.le_refl _)) (box5 ((hW.block _ (lt_of v0)).trans v0)).1
  clear v0 bV hV sV
  go_enter Try.func10, Try.ntmps10
  go_wp2_with fail
  rw [← HV.out]
  refine (HCk.out V HB.out).mono ?_
  rintro e w1 ⟨rfl, b1⟩
  obtain ⟨bb1, ⟨c0, c1, c2, c3, c4⟩⟩ := HX.out w1 b1
  have hlt1 : w.heap.size < w1.heap.size := Base.cell_lt c0
  have hne1 : w.heap.size ≠ w1.heap.size := by omega
  have B1 := hid_of b1
  have BB1 := hid_of bb1
  clear b1 bb1 HCk
  obtain ⟨W, hW⟩ : ∃ W, W = w1.alloc (.cells #[.int .u8 4] 5) := ⟨_, rfl⟩
  have bW : Below w1.heap.size w1 W := by rw [hW]; exact FRow.bnew w1 _
  have oW : OB w1.heap.size W (.slice (some ⟨w1.heap.size, 0, none⟩) 1 1) [4] := by rw [hW]; exact ob_one w1 4
  have HW := hid_of hW
  have BW := hid_of bW
  have OW := hid_of oW
  have u8 : IntKind.u8.wrap (4 : Int) = 4 := by decide
  have sW := bW.size
  obtain ⟨_, ⟨e0, e1, e2, e3, e4⟩⟩ := HX.out W (FRow.bel B1.out bW (Nat.le_refl _))
  clear bW oW hW
  have HFo := hid_of (four_call an OW.out (by omega) hn (by simp))
  rw [show le4 an = leY (l.length : Int) 4 by rw [HLn.out]; rfl, ← LB_zero encT l [4]] at HFo
  have HT := hid_of ht
  have HLN := hid_of hlen
  have HFN : Hid (full ≠ []) := hid_of (by rw [HFU.out]; simp)
  clear OW ht hlen
  obtain ⟨M0, hM0⟩ : ∃ M, M = (LB encT l 0 [4]).length := ⟨_, rfl⟩
  rw [← hM0] at HFo
  have HM0 := hid_of hM0
  clear hM0
  go_wp2_with fail
  rw [← HW.out]
  refine HFo.out.mono ?_
  rintro e w2 ⟨ya, yc, rfl, R2⟩
  have b2 : Below w1.heap.size w1 w2 := BW.out.trans R2.out.2
  have BW2 := hid_of b2
  clear HFo c0 c1 c2 c3 c4 e0 e1 e2 e3 e4
  have R0 : Hid (OB w1.heap.size w2 (.slice ya M0 yc) (LB encT l 0 [4]) ∧ Below w1.heap.size w1 w2) := hid_of ⟨R2.out.1, b2⟩
  clear b2 R2
  go_wp2_with fail
  go_loopg [5, 6] an (fun g s5 s6 wx => ∃ (j N : Nat) (ra : Option Addr) (rc : Nat), j ≤ an ∧ an ≤ j + g ∧ s5 = .slice ra N rc ∧ s6 = .int .i64 (j : Int) ∧ Hid (OB w1.heap.size wx (.slice ra N rc) (LB encT l j [4]) ∧ Below w1.heap.size w1 wx))
  case atStart => exact ⟨0, M0, ya, yc, by omega, by omega, rfl, rfl, R0⟩
  case round =>
    obtain ⟨j, N, ra, rc, hj, hg, rfl, rfl, R⟩ := hrel
    obtain ⟨bbr, ⟨c0, c1, c2, c3, c4⟩⟩ := HX.out wr (FRow.bel B1.out R.out.2 (Nat.le_refl _))
    have BBR := hid_of bbr
    clear bbr
    by_cases hlt : j < an
    · obtain ⟨g', rfl⟩ : ∃ g', gk = g' + 1 := ⟨gk - 1, by omega⟩
      have hjl : j < l.length := by rw [HLn.out]; exact hlt
      obtain ⟨g1, o1, rfl, c9⟩ := Write.sl_at (HSL.out wr BBR.out) hjl
      have hbd := LB_len encT l j [4] hjl
      rw [encT_len] at hbd
      have HC := hid_of (REnc.text_call l[j] R.out.1 R.out.2.size (HT.out _ (List.getElem_mem hjl)) (by have := HLN.out; simp at hbd; omega))
      rw [LB_step encT l j [4] hjl] at HC
      obtain ⟨N2, hN2⟩ : ∃ N2, N2 = (LB encT l (j + 1) [4]).length := ⟨_, rfl⟩
      rw [← hN2] at HC
      clear hbd hN2
      generalize mk l[j] = X9 at *
      have w1' : IntKind.i64.wrap ((j : Int) + 1) = (j : Int) + 1 := IntWalk.i64_in _ (by omega)
      have dd : (j : Int) < (an : Int) := by omega
      go_wp2_with fail
      refine HC.out.mono ?_
      rintro e w3 ⟨a3, c3', rfl, R3⟩
      have R4 := hid_of (And.intro R3.out.1 (R.out.2.trans R3.out.2))
      clear R3 HC
      go_wp2_with fail
      go_roundg g'
      case measure => omega
      case rel => exact ⟨j + 1, N2, a3, c3', by omega, by omega, rfl, by simp, R4⟩
    · obtain rfl : j = an := by omega
      have dd : ¬ (j : Int) < (j : Int) := by omega
      have o9 : OB w1.heap.size wr (.slice ra N rc) full := by have := R.out.1; rw [← HLn.out, LB_end] at this; rw [HFU.out]; exact this
      have hconv := conv_b o9 HFN.out
      clear o9
      go_wp2_with fail
      go_ret2
      exact ⟨rfl, BBR.out⟩
end Go.Proofs.Ytdcnkdkhanmklaa.REnc2
end
