/- A value's bytes written: numbers, texts, lists, fields, entries. -/
import Derived.Test.YtdcnkdkhanmklabBuilder
import Derived.Test.YtdcnkdkhanmklabFix
import Derived.Test.YtdcnkdkhanmklabVals
import Derived.Test.YtdcnkdkhanmklabDec
namespace Go.Proofs.Ytdcnkdkhanmklab.Write
open Go.RowKit Go.Maps
open Go.Proofs.Ytdcnkdkhanmklab.SetMath
open Go.Proofs.Ytdcnkdkhanmklab.BytesMath
open Go.Proofs.Ytdcnkdkhanmklab.FixMath
open Go.Proofs.Ytdcnkdkhanmklab.ValueMath
open Go.Proofs.Ytdcnkdkhanmklab.Base
open Go.Proofs.Ytdcnkdkhanmklab.Vals
open Go.Proofs.Ytdcnkdkhanmklab.Builder (Kp)
set_option linter.unusedVariables false
set_option linter.unusedSimpArgs false

abbrev ptr (b : Nat) : Value := .pointer (some ⟨b, 0, none⟩)
def BA (B b : Nat) (l : Bs) (w : World) : Prop := Lib.BuilderAt 52 5 B b (ptr b) (Lib.byteCells l) w
theorem BA.below {B b : Nat} {l : Bs} {w w' : World} (h : BA B b l w) (hb : Below w.heap.size w w') : BA B b l w' := by
  obtain ⟨h1, v, h2, h3, h4⟩ := h
  exact ⟨h1, v, (hb.block b (lt_of h2)).trans h2, FRow.row_below h3 hb, h4⟩
theorem kp_of {B b : Nat} {w w' : World} (h : Below w.heap.size w w') (hB : B ≤ w.heap.size) : Kp B b w w' := ⟨h.mono hB, fun k o hk _ _ => (h.block k (lt_of hk)).trans hk⟩
theorem cells_mk (t : Bs) : Lib.strCells (mk t) = Lib.byteCells t := rfl
theorem put_call (B b : Nat) (l t : Bs) (w : World) (h : BA B b l w) (hlen : l.length + t.length ≤ 140737488355328) (hB : B ≤ w.heap.size) :
    Calls Try.prog 60 #[ptr b, .string (mk t)] w fun e w' => e = .returned (.tuple #[.int .i64 (mk t).size, .nilIface]) ∧ BA B b (l ++ t) w' ∧ Kp B b w w' := by
  refine (Builder.put_string B b (Lib.byteCells l) (mk t) w (Or.inr h) (by rw [Lib.byteCells_length, mk_size]; exact hlen) hB).mono ?_
  rintro e w' ⟨h1, h2, h3⟩
  rw [cells_mk, ← Lib.byteCells_append] at h2
  exact ⟨h1, h2, h3⟩
theorem byte_call (B b : Nat) (l : Bs) (c : UInt8) (w : World) (h : BA B b l w) (hlen : l.length + 1 ≤ 140737488355328) (hB : B ≤ w.heap.size) :
    Calls Try.prog 19 #[ptr b, .int .u8 c.toNat] w fun e w' => e = .returned .nilIface ∧ BA B b (l ++ [c]) w' ∧ Kp B b w w' := by
  refine (Builder.put_byte B b (Lib.byteCells l) c.toNat w (Or.inr h) (by rw [Lib.byteCells_length]; exact hlen) hB).mono ?_
  rintro e w' ⟨h1, h2, h3⟩
  have e1 : Lib.byteCells l ++ [.int .u8 c.toNat] = Lib.byteCells (l ++ [c]) := by rw [Lib.byteCells_append]; rfl
  rw [e1] at h2
  exact ⟨h1, h2, h3⟩
theorem fits (u n : Nat) (h : u < 256 ^ n) : (((u : Int) / 2 ^ (8 * n)) != 0) = false := by
  rw [pow256] at h
  have e : ((u : Int) / 2 ^ (8 * n)) = ((u / 2 ^ (8 * n) : Nat) : Int) := by simp
  rw [e, Nat.div_eq_of_lt h]
  rfl
set_option maxHeartbeats 1000000 in
set_option maxRecDepth 100000 in
theorem num_call (B b : Nat) (l : Bs) (u n : Nat) (w : World) (h : BA B b l w) (h1 : 1 ≤ n) (h8 : n ≤ 8) (hu : u < 256 ^ n) (hlen : l.length + n ≤ 140737488355328) (hB : B ≤ w.heap.size) :
    Calls Try.prog 59 #[ptr b, .int .u64 u, .int .i64 n] w fun e w' => e = .returned (.tuple #[]) ∧ BA B b (l ++ leY u n) w' ∧ Kp B b w w' := by
  have hp : 256 ^ n ≤ 256 ^ 8 := Nat.pow_le_pow_right (by omega) h8
  have HF := hid_of (Fix.fix_ok u n w (by omega) (by omega) h1 h8 (fits u n hu))
  have HP := hid_of fun (W : World) (hW : Below w.heap.size w W) => put_call B b l (leY u n) W (h.below hW) (by rw [leY_len]; exact hlen) (Nat.le_trans hB hW.size)
  rw [show (⟨(leY (u : Int) n).toArray⟩ : ByteArray) = mk (leY u n) from rfl] at HF
  have HK := hid_of fun (W : World) (hW : Below w.heap.size w W) => kp_of (b := b) hW hB
  generalize (((mk (leY u n)).size : Nat) : Int) = M at *
  generalize mk (leY u n) = X at *
  clear h hp
  go_enter Try.func59, Try.ntmps59
  go_wp2_with fail
  refine HF.out.mono ?_
  rintro e w1 ⟨rfl, b1⟩
  have H1 := hid_of (HP.out w1 b1)
  have K1 := hid_of (HK.out w1 b1)
  clear b1 HP HK HF
  go_wp2_with fail
  refine H1.out.mono ?_
  rintro e w2 ⟨rfl, d2, k2⟩
  have H2 := hid_of (And.intro d2 (K1.out.trans k2))
  clear d2 k2 H1 K1
  go_wp2_with fail
  go_end0
  exact ⟨rfl, H2.out⟩
theorem bl {B b : Nat} {w w' : World} (h : Kp B b w w') (hB : B ≤ w.heap.size) : B ≤ w'.heap.size := Nat.le_trans hB h.size
set_option maxHeartbeats 1000000 in
set_option maxRecDepth 100000 in
theorem twr_call (B b : Nat) (l t : Bs) (w : World) (h : BA B b l w) (ht : t.length < 4294967296) (hlen : l.length + 4 + t.length ≤ 140737488355328) (hB : B ≤ w.heap.size) :
    Calls Try.prog 58 #[.string (mk t), ptr b] w fun e w' => e = .returned (.tuple #[]) ∧ BA B b (l ++ encT t) w' ∧ Kp B b w w' := by
  have HN := hid_of (num_call B b l t.length 4 w h (by decide) (by decide) (by simpa using ht) (by omega) hB)
  have HP := hid_of fun (W : World) (hW : BA B b (l ++ leY (t.length : Int) 4) W) (hBW : B ≤ W.heap.size) => put_call B b _ t W hW (by rw [List.length_append, leY_len]; exact hlen) hBW
  rw [List.append_assoc, show leY (t.length : Int) 4 ++ t = encT t from rfl] at HP
  have hs := mk_size t
  rw [← hs] at HN HP ht
  generalize mk t = X at *
  have e1 : IntKind.u64.wrap (X.size : Int) = (X.size : Int) := by rw [IntKind.wrap_u64]; omega
  clear h hs
  go_enter Try.func58, Try.ntmps58
  go_wp2_with fail
  refine HN.out.mono ?_
  rintro e w1 ⟨rfl, d1, k1⟩
  have H1 := hid_of (HP.out w1 d1 (bl k1 hB))
  have K1 := hid_of k1
  clear d1 k1 HP HN
  go_wp2_with fail
  refine H1.out.mono ?_
  rintro e w2 ⟨rfl, d2, k2⟩
  have H2 := hid_of (And.intro d2 (K1.out.trans k2))
  clear d2 k2 H1 K1
  go_wp2_with fail
  go_end0
  exact ⟨rfl, H2.out⟩
set_option maxRecDepth 100000 in
theorem twt_call (t : Bs) (w : World) (hl : t.length ≤ 140737488355328) : Calls Try.prog 57 #[.string (mk t)] w fun e w' => e = .returned (.int .i64 ((encT t).length : Nat)) ∧ w' = w := by
  have hs := mk_size t
  have e1 : (encT t).length = 4 + (mk t).size := by unfold encT; rw [List.length_append, len_le4, hs]
  rw [e1]
  rw [← hs] at hl
  generalize mk t = X at *
  clear hs e1
  have w1 : IntKind.i64.wrap (4 + (X.size : Int)) = 4 + (X.size : Int) := IntWalk.i64_in _ (by omega)
  go_enter Try.func57, Try.ntmps57
  go_wp2
  go_ret
  exact ⟨by simp, rfl⟩
theorem flat_take {α : Type} (f : α → Bs) (l : List α) (k : Nat) (h : k < l.length) : (l.take (k + 1)).flatMap f = (l.take k).flatMap f ++ f l[k] := by
  rw [List.take_succ_eq_append_getElem h, List.flatMap_append]
  simp
theorem flat_len {α : Type} (f : α → Bs) (l : List α) (k : Nat) : ((l.take k).flatMap f).length ≤ (l.flatMap f).length := by
  have : l.flatMap f = (l.take k).flatMap f ++ (l.drop k).flatMap f := by rw [← List.flatMap_append, List.take_append_drop]
  rw [this, List.length_append]
  omega
theorem sl_kp {B b : Nat} {w w' : World} {v : Value} {l : List El} (h : SL (fun k => k < B) w v l) (k : Kp B b w w') : SL (fun k => k < B) w' v l := h.keep fun i _ hi => k.1.block i hi
theorem encT_len (t : Bs) : (encT t).length = 4 + t.length := by unfold encT; rw [List.length_append, len_le4]
theorem sl_at {G : Nat → Prop} {w : World} {a : Option Addr} {L c : Nat} {l : List El} (h : SL G w (.slice a L c) l) {j : Nat} (hj : j < l.length) : ∃ g o, a = some ⟨g, o, none⟩ ∧ w.cell? ⟨g, o + j, none⟩ = some (.string (mk l[j])) := by
  obtain ⟨a1, c1, e, _, hr⟩ := h
  injection e with e1 _ _
  subst e1
  obtain ⟨g, o, rfl, _, q⟩ := Rd.get hr (by omega)
  exact ⟨g, o, rfl, q j _ (List.getElem?_eq_getElem hj)⟩
def LB {α : Type} (f : α → Bs) (l : List α) (k : Nat) (p : Bs) : Bs := p ++ (le4 l.length ++ (l.take k).flatMap f)
theorem LB_step {α : Type} (f : α → Bs) (l : List α) (k : Nat) (p : Bs) (h : k < l.length) : LB f l k p ++ f l[k] = LB f l (k + 1) p := by
  unfold LB
  rw [flat_take f l k h]
  simp [List.append_assoc]
theorem LB_end {α : Type} (f : α → Bs) (l : List α) (p : Bs) : LB f l l.length p = p ++ encC f l := by unfold LB encC; rw [List.take_length]
theorem LB_len {α : Type} (f : α → Bs) (l : List α) (k : Nat) (p : Bs) (h : k < l.length) : (LB f l k p).length + (f l[k]).length ≤ p.length + (encC f l).length := by
  have h1 := flat_len f l (k + 1)
  rw [flat_take f l k h, List.length_append] at h1
  unfold LB encC
  simp only [List.length_append, len_le4] at h1 ⊢
  omega
theorem LB_zero {α : Type} (f : α → Bs) (l : List α) (p : Bs) : LB f l 0 p = p ++ leY (l.length : Int) 4 := by unfold LB le4; simp

set_option maxHeartbeats 2000000 in
set_option maxRecDepth 100000 in
theorem lwr_call (B b : Nat) (p : Bs) (l : List Bs) (v : Value) (w : World) (h : BA B b p w) (hv : SL (fun k => k < B) w v l) (hn : l.length < 4294967296) (ht : ∀ t ∈ l, t.length < 4294967296) (hlen : p.length + (encC encT l).length ≤ 140737488355328) (hB : B ≤ w.heap.size) :
    Calls Try.prog 64 #[v, ptr b] w fun e w' => e = .returned (.tuple #[]) ∧ BA B b (p ++ encC encT l) w' ∧ Kp B b w w' := by
  have HN := hid_of (num_call B b p l.length 4 w h (by decide) (by decide) (by simpa using hn) (by unfold encC at hlen; rw [List.length_append, len_le4] at hlen; omega) hB)
  have HT := hid_of ht
  have HL := hid_of hlen
  have HV := hid_of hv
  rw [← LB_zero encT l p] at HN
  obtain ⟨a, c, rfl, hc, hr⟩ := hv
  obtain ⟨L, hL⟩ : ∃ L, L = l.length := ⟨_, rfl⟩
  have HLL := hid_of hL
  rw [← hL] at hn HV HN ⊢
  have e1 : IntKind.u64.wrap (L : Int) = (L : Int) := by rw [IntKind.wrap_u64]; omega
  clear h hr hc ht hlen hL
  go_enter Try.func64, Try.ntmps64
  go_wp2_with fail
  refine HN.out.mono ?_
  rintro e w1 ⟨rfl, d1, k1⟩
  have R0 := hid_of (And.intro d1 k1)
  clear d1 k1 HN
  go_wp2_with fail
  go_loopg [13] L (fun g s3 wx => ∃ j : Nat, j ≤ L ∧ L ≤ j + g ∧ s3 = .int .i64 (j : Int) ∧ Hid (BA B b (LB encT l j p) wx ∧ Kp B b w wx))
  case atStart => exact ⟨0, by omega, by omega, rfl, R0⟩
  case round =>
    obtain ⟨j, hj, hg, rfl, R⟩ := hrel
    by_cases hlt : j < L
    · obtain ⟨g', rfl⟩ : ∃ g', gk = g' + 1 := ⟨gk - 1, by omega⟩
      have hjl : j < l.length := by rw [← HLL.out]; exact hlt
      obtain ⟨g1, o1, rfl, c1⟩ := sl_at (sl_kp HV.out R.out.2) hjl
      have hbd := LB_len encT l j p hjl
      have HC := hid_of (twr_call B b (LB encT l j p) l[j] wr R.out.1 (HT.out _ (List.getElem_mem hjl)) (by have := HL.out; rw [encT_len] at hbd; omega) (bl R.out.2 hB))
      rw [LB_step encT l j p hjl] at HC
      have w1 : IntKind.i64.wrap ((j : Int) + 1) = (j : Int) + 1 := IntWalk.i64_in _ (by omega)
      have dd : (j : Int) < (L : Int) := by omega
      clear hbd
      generalize mk l[j] = X at *
      go_wp2_with fail
      refine HC.out.mono ?_
      rintro e w2 ⟨rfl, d2, k2⟩
      have R2 := hid_of (And.intro d2 (R.out.2.trans k2))
      clear d2 k2 HC
      go_wp2_with fail
      go_roundg g'
      case measure => omega
      case rel => exact ⟨j + 1, by omega, by omega, by simp, R2⟩
    · obtain rfl : j = L := by omega
      have dd : ¬ (j : Int) < (j : Int) := by omega
      have R2 : Hid (BA B b (p ++ encC encT l) wr ∧ Kp B b w wr) := hid_of (by have := R.out; rw [HLL.out, LB_end] at this; exact this)
      go_wp2_with fail
      go_end0
      exact ⟨rfl, R2.out⟩
set_option maxRecDepth 100000 in
theorem swr_call (B b : Nat) (p : Bs) (l : List Bs) (v : Value) (w : World) (h : BA B b p w) (hv : SL (fun k => k < B) w v l) (hn : l.length < 4294967296) (ht : ∀ t ∈ l, t.length < 4294967296) (hlen : p.length + (encC encT l).length ≤ 140737488355328) (hB : B ≤ w.heap.size) :
    Calls Try.prog 71 #[v, ptr b] w fun e w' => e = .returned (.tuple #[]) ∧ BA B b (p ++ encC encT l) w' ∧ Kp B b w w' := by
  have HC := hid_of (lwr_call B b p l v w h hv hn ht hlen hB)
  obtain ⟨a, c, rfl, hc, hr⟩ := hv
  clear h hr hc ht hlen
  go_enter Try.func71, Try.ntmps71
  go_wp2_with fail
  refine HC.out.mono ?_
  rintro e w2 ⟨rfl, d2, k2⟩
  have R2 := hid_of (And.intro d2 k2)
  clear d2 k2 HC
  go_wp2_with fail
  go_end0
  exact ⟨rfl, R2.out⟩
end Go.Proofs.Ytdcnkdkhanmklab.Write
