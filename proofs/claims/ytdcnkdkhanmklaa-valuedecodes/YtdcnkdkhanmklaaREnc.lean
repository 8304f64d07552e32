/- The document's bytes: four, text. -/
import Derived.Test.YtdcnkdkhanmklaaRCheck
import Derived.Test.YtdcnkdkhanmklaaWrite2
import Derived.Lib.AppendStr
namespace Go.Proofs.Ytdcnkdkhanmklaa.REnc
open Go.RowKit Go.Maps
open Go.Proofs.Ytdcnkdkhanmklaa.SetMath
open Go.Proofs.Ytdcnkdkhanmklaa.BytesMath
open Go.Proofs.Ytdcnkdkhanmklaa.FixMath
open Go.Proofs.Ytdcnkdkhanmklaa.ValueMath
open Go.Proofs.Ytdcnkdkhanmklaa.Base
open Go.Proofs.Ytdcnkdkhanmklaa.Vals
set_option linter.unusedVariables false
set_option linter.unusedSimpArgs false
/- a row of bytes of one's own -/
def OB (B : Nat) (w : World) (v : Value) (l : Bs) : Prop := w.ownsRow B 5 1 v l.length (Lib.byteCells l)
theorem OB.below {B : Nat} {w w' : World} {v : Value} {l : Bs} (h : OB B w v l) (hb : Below w.heap.size w w') : OB B w' v l := FRow.row_below h hb
theorem OB.shape {B : Nat} {w : World} {v : Value} {l : Bs} (h : OB B w v l) : ∃ a c, v = .slice a l.length c := by
  rcases h.2 with ⟨rfl, h0⟩ | ⟨g, c, cur, rfl, _⟩
  · exact ⟨none, 0, by rw [h0]⟩
  · exact ⟨_, c, rfl⟩
theorem info5 : (Try.prog.info? 5).map (fun i => (i.zero, i.size, i.bytes)) = some (some (.int .u8 0), 1, 1) := by kernel_rfl
theorem app_b {B : Nat} {w : World} {v : Value} {l : Bs} (t : Bs) (h : OB B w v l) (hB : B ≤ w.heap.size) (hlen : l.length + t.length ≤ 140737488355328) :
    ∃ a c w', (Builtin.append_ #[51, 9] 51 #[v, .string (mk t)]).run Try.prog w = .ok (.slice a (l ++ t).length c) w' ∧ OB B w' (.slice a (l ++ t).length c) (l ++ t) ∧ Below B w w' := by
  obtain ⟨i0, hi0, hz0, hz1, hz2⟩ := info_parts info5
  obtain ⟨v', w', hr, h2, h3, _⟩ := Lib.run_append_own_string (P := Try.prog) w B 51 9 51 5 i0 Try.underlying51 Try.underlying9 hi0 hz0 hz1 hz2 v _ _ h (mk t) (by unfold maxLen; rw [mk_size]; omega) (by rw [mk_size]; omega) hB
  have o : OB B w' v' (l ++ t) := by
    show w'.ownsRow B _ 1 v' (l ++ t).length (Lib.byteCells (l ++ t))
    rw [List.length_append, Lib.byteCells_append, ← mk_size t]
    exact h2
  obtain ⟨a, c, rfl⟩ := o.shape
  exact ⟨a, c, w', hr, o, (Below.refl B w).grown h3 hB (fun k hk => (World.ownsRow.lt h k hk).1)⟩
set_option maxHeartbeats 1000000 in
set_option maxRecDepth 100000 in
theorem four_call {B : Nat} {w : World} {v : Value} {l : Bs} (n : Nat) (h : OB B w v l) (hB : B ≤ w.heap.size) (hn : n < 4294967296) (hlen : l.length + 4 ≤ 140737488355328) :
    Calls Try.prog 28 #[v, .int .i64 n] w fun e w' => ∃ a c, e = .returned (.slice a (l ++ le4 n).length c) ∧ Hid (OB B w' (.slice a (l ++ le4 n).length c) (l ++ le4 n) ∧ Below B w w') := by
  have HF := hid_of (Fix.rfix_any n 4 w (by omega) (by omega) (by decide) (by decide))
  have hfit := Write.fits n 4 (by simpa using hn)
  have eS : Fix.fixS (n : Int) 4 = mk (le4 n) := by unfold Fix.fixS; rw [hfit]; rfl
  have eE : Fix.fixE (n : Int) 4 = 0 := by unfold Fix.fixE; rw [hfit]; rfl
  rw [eS, eE] at HF
  have HA := hid_of fun (W : World) (hW : Below w.heap.size w W) => And.intro (app_b (le4 n) (h.below hW) (Nat.le_trans hB hW.size) (by rw [len_le4]; exact hlen)) (hW.mono hB)
  have e1 : IntKind.u64.wrap (n : Int) = (n : Int) := by rw [IntKind.wrap_u64]; omega
  obtain ⟨a, c, rfl⟩ := h.shape
  generalize (l ++ le4 n).length = M at *
  generalize mk (le4 n) = X at *
  clear h hfit eS eE
  go_enter Try.func28, Try.ntmps28
  go_wp2_with fail
  refine HF.out.mono ?_
  rintro e w1 ⟨rfl, b1⟩
  obtain ⟨⟨a', c', w', hrun, o', bb⟩, bw⟩ := HA.out w1 b1
  have R := hid_of (And.intro o' (bw.trans bb))
  clear HA HF b1 o' bb bw
  go_wp2_with (at_builtin; refine wpl_eq rfl _ _ 51 9 rfl (.slice a l.length c) (.string X) (.slice a' M c') w1 w' rfl rfl hrun ?_)
  go_ret
  exact ⟨a', c', rfl, R⟩
set_option maxHeartbeats 1000000 in
set_option maxRecDepth 100000 in
theorem text_call {B : Nat} {w : World} {v : Value} {l : Bs} (t : Bs) (h : OB B w v l) (hB : B ≤ w.heap.size) (ht : t.length < 4294967296) (hlen : l.length + 4 + t.length ≤ 140737488355328) :
    Calls Try.prog 27 #[v, .string (mk t)] w fun e w' => ∃ a c, e = .returned (.slice a (l ++ encT t).length c) ∧ Hid (OB B w' (.slice a (l ++ encT t).length c) (l ++ encT t) ∧ Below B w w') := by
  have HF := hid_of (four_call t.length h hB ht (by omega))
  have HA := hid_of fun (W : World) (v' : Value) (hv : OB B W v' (l ++ le4 t.length)) (hBW : B ≤ W.heap.size) => app_b t hv hBW (by rw [List.length_append, len_le4]; omega)
  rw [List.append_assoc, show le4 t.length ++ t = encT t from rfl] at HA
  obtain ⟨a, c, rfl⟩ := h.shape
  have hs := mk_size t
  rw [← hs] at HF
  generalize (l ++ encT t).length = M at *
  obtain ⟨N, hN⟩ : ∃ N, N = (l ++ le4 (mk t).size).length := ⟨_, rfl⟩
  rw [← hN] at HF
  have HSS := hid_of hs
  generalize mk t = X at *
  clear h hN hs
  go_enter Try.func27, Try.ntmps27
  go_wp2_with fail
  refine HF.out.mono ?_
  rintro e w1 ⟨a1, c1, rfl, R1⟩
  obtain ⟨a', c', w', hrun, o', bb⟩ := HA.out w1 _ (by rw [← HSS.out]; exact R1.out.1) (Nat.le_trans hB R1.out.2.size)
  have R := hid_of (And.intro o' (R1.out.2.trans bb))
  clear HA HF R1 o' bb
  go_wp2_with (at_builtin; refine wpl_eq rfl _ _ 51 9 rfl (.slice a1 N c1) (.string X) (.slice a' M c') w1 w' rfl rfl hrun ?_)
  go_ret
  exact ⟨a', c', rfl, R⟩
end Go.Proofs.Ytdcnkdkhanmklaa.REnc
