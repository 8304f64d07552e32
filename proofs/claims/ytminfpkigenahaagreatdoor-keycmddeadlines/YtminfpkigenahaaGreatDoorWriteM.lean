/- A value's bytes written: numbers, texts, lists, fields, entries. A value's bytes written: fields, entries; weights. -/
import Derived.Test.YtminfpkigenahaaGreatDoorSRiseM
import Derived.Test.YtminfpkigenahaaGreatDoorFixM
import Derived.Test.YtminfpkigenahaaGreatDoorEqualM
import Derived.Test.YtminfpkigenahaaGreatDoorDecM
section
namespace Go.Proofs.YtminfpkigenahaaGreatDoor.Write
open Go.RowKit Go.Maps
open Go.Proofs.YtminfpkigenahaaGreatDoor.SetMath
open Go.Proofs.YtminfpkigenahaaGreatDoor.BytesMath
open Go.Proofs.YtminfpkigenahaaGreatDoor.FixMath
open Go.Proofs.YtminfpkigenahaaGreatDoor.ValueMath
open Go.Proofs.YtminfpkigenahaaGreatDoor.Base
open Go.Proofs.YtminfpkigenahaaGreatDoor.Vals
open Go.Proofs.YtminfpkigenahaaGreatDoor.Builder (Kp)
set_option linter.unusedVariables false
set_option linter.unusedSimpArgs false

abbrev ptr (b : Nat) : Value := .pointer (some ⟨b, 0, none⟩)
def BA (B b : Nat) (l : Bs) (w : World) : Prop := Lib.BuilderAt 164 5 B b (ptr b) (Lib.byteCells l) w
theorem BA.below {B b : Nat} {l : Bs} {w w' : World} (h : BA B b l w) (hb : Below w.heap.size w w') : BA B b l w' := by
  obtain ⟨h1, v, h2, h3, h4⟩ := h
  exact ⟨h1, v, (hb.block b (lt_of h2)).trans h2, FRow.row_below h3 hb, h4⟩
theorem kp_of {B b : Nat} {w w' : World} (h : Below w.heap.size w w') (hB : B ≤ w.heap.size) : Kp B b w w' := ⟨h.mono hB, fun k o hk _ _ => (h.block k (lt_of hk)).trans hk⟩
theorem cells_mk (t : Bs) : Lib.strCells (mk t) = Lib.byteCells t := rfl
theorem put_call (B b : Nat) (l t : Bs) (w : World) (h : BA B b l w) (hlen : l.length + t.length ≤ 140737488355328) (hB : B ≤ w.heap.size) :
    Calls Tryz.prog 226 #[ptr b, .string (mk t)] w fun e w' => e = .returned (.tuple #[.int .i64 (mk t).size, .nilIface]) ∧ BA B b (l ++ t) w' ∧ Kp B b w w' := by
  refine (Builder.put_string B b (Lib.byteCells l) (mk t) w (Or.inr h) (by rw [Lib.byteCells_length, mk_size]; exact hlen) hB).mono ?_
  rintro e w' ⟨h1, h2, h3⟩
  rw [cells_mk, ← Lib.byteCells_append] at h2
  exact ⟨h1, h2, h3⟩
theorem byte_call (B b : Nat) (l : Bs) (c : UInt8) (w : World) (h : BA B b l w) (hlen : l.length + 1 ≤ 140737488355328) (hB : B ≤ w.heap.size) :
    Calls Tryz.prog 104 #[ptr b, .int .u8 c.toNat] w fun e w' => e = .returned .nilIface ∧ BA B b (l ++ [c]) w' ∧ Kp B b w w' := by
  refine (Builder.put_byte B b (Lib.byteCells l) c.toNat w (Or.inr h) (by rw [Lib.byteCells_length]; exact hlen) hB).mono ?_
  rintro e w' ⟨h1, h2, h3⟩
  have e1 : Lib.byteCells l ++ [.int .u8 c.toNat] = Lib.byteCells (l ++ [c]) := by rw [Lib.byteCells_append]; rfl
  rw [e1] at h2
  exact ⟨h1, h2, h3⟩
theorem fits (u n : Nat) (h : u < 256 ^ n) : (((u : Int) / 2 ^ (8 * n)) != 0) = false := by
  rw [pow256] at h
  have e : ((u : Int) / 2 ^ (8 * n)) = ((u / 2 ^ (8 * n) : Nat) : Int) := by simp
  rw [e, Nat.div_eq_of_lt h]
  rfl
set_option maxHeartbeats 1000000 in
set_option maxRecDepth 100000 in
theorem num_call (B b : Nat) (l : Bs) (u n : Nat) (w : World) (h : BA B b l w) (h1 : 1 ≤ n) (h8 : n ≤ 8) (hu : u < 256 ^ n) (hlen : l.length + n ≤ 140737488355328) (hB : B ≤ w.heap.size) :
    Calls Tryz.prog 225 #[ptr b, .int .u64 u, .int .i64 n] w fun e w' => e = .returned (.tuple #[]) ∧ BA B b (l ++ leY u n) w' ∧ Kp B b w w' := by
  have hp : 256 ^ n ≤ 256 ^ 8 := Nat.pow_le_pow_right (by omega) h8
  have HF := hid_of (Fix.fix_ok u n w (by omega) (by omega) h1 h8 (fits u n hu))
  have HP := hid_of fun (W : World) (hW : Below w.heap.size w W) => put_call B b l (leY u n) W (h.below hW) (by rw [leY_len]; exact hlen) (Nat.le_trans hB hW.size)
  rw [show (⟨(leY (u : Int) n).toArray⟩ : ByteArray) = mk (leY u n) from rfl] at HF
  have HK := hid_of fun (W : World) (hW : Below w.heap.size w W) => kp_of (b := b) hW hB
  generalize (((mk (leY u n)).size : Nat) : Int) = M at *
  generalize mk (leY u n) = X at *
  clear h hp
  go_enter Tryz.func225, Tryz.ntmps225
  go_wp2_with fail
  refine HF.out.mono ?_
  rintro e w1 ⟨rfl, b1⟩
  have H1 := hid_of (HP.out w1 b1)
  have K1 := hid_of (HK.out w1 b1)
  clear b1 HP HK HF
  go_wp2_with fail
  refine H1.out.mono ?_
  rintro e w2 ⟨rfl, d2, k2⟩
  have H2 := hid_of (And.intro d2 (K1.out.trans k2))
  clear d2 k2 H1 K1
  go_wp2_with fail
  go_end0
  exact ⟨rfl, H2.out⟩
theorem bl {B b : Nat} {w w' : World} (h : Kp B b w w') (hB : B ≤ w.heap.size) : B ≤ w'.heap.size := Nat.le_trans hB h.size
set_option maxHeartbeats 1000000 in
set_option maxRecDepth 100000 in
theorem twr_call (B b : Nat) (l t : Bs) (w : World) (h : BA B b l w) (ht : t.length < 4294967296) (hlen : l.length + 4 + t.length ≤ 140737488355328) (hB : B ≤ w.heap.size) :
    Calls Tryz.prog 224 #[.string (mk t), ptr b] w fun e w' => e = .returned (.tuple #[]) ∧ BA B b (l ++ encT t) w' ∧ Kp B b w w' := by
  have HN := hid_of (num_call B b l t.length 4 w h (by decide) (by decide) (by simpa using ht) (by omega) hB)
  have HP := hid_of fun (W : World) (hW : BA B b (l ++ leY (t.length : Int) 4) W) (hBW : B ≤ W.heap.size) => put_call B b _ t W hW (by rw [List.length_append, leY_len]; exact hlen) hBW
  rw [List.append_assoc, show leY (t.length : Int) 4 ++ t = encT t from rfl] at HP
  have hs := mk_size t
  rw [← hs] at HN HP ht
  generalize mk t = X at *
  have e1 : IntKind.u64.wrap (X.size : Int) = (X.size : Int) := by rw [IntKind.wrap_u64]; omega
  clear h hs
  go_enter Tryz.func224, Tryz.ntmps224
  go_wp2_with fail
  refine HN.out.mono ?_
  rintro e w1 ⟨rfl, d1, k1⟩
  have H1 := hid_of (HP.out w1 d1 (bl k1 hB))
  have K1 := hid_of k1
  clear d1 k1 HP HN
  go_wp2_with fail
  refine H1.out.mono ?_
  rintro e w2 ⟨rfl, d2, k2⟩
  have H2 := hid_of (And.intro d2 (K1.out.trans k2))
  clear d2 k2 H1 K1
  go_wp2_with fail
  go_end0
  exact ⟨rfl, H2.out⟩
set_option maxRecDepth 100000 in
theorem twt_call (t : Bs) (w : World) (hl : t.length ≤ 140737488355328) : Calls Tryz.prog 223 #[.string (mk t)] w fun e w' => e = .returned (.int .i64 ((encT t).length : Nat)) ∧ w' = w := by
  have hs := mk_size t
  have e1 : (encT t).length = 4 + (mk t).size := by unfold encT; rw [List.length_append, len_le4, hs]
  rw [e1]
  rw [← hs] at hl
  generalize mk t = X at *
  clear hs e1
  have w1 : IntKind.i64.wrap (4 + (X.size : Int)) = 4 + (X.size : Int) := IntWalk.i64_in _ (by omega)
  go_enter Tryz.func223, Tryz.ntmps223
  go_wp2
  go_ret
  exact ⟨by simp, rfl⟩
theorem flat_take {α : Type} (f : α → Bs) (l : List α) (k : Nat) (h : k < l.length) : (l.take (k + 1)).flatMap f = (l.take k).flatMap f ++ f l[k] := by
  rw [List.take_succ_eq_append_getElem h, List.flatMap_append]
  simp
theorem flat_len {α : Type} (f : α → Bs) (l : List α) (k : Nat) : ((l.take k).flatMap f).length ≤ (l.flatMap f).length := by
  have : l.flatMap f = (l.take k).flatMap f ++ (l.drop k).flatMap f := by rw [← List.flatMap_append, List.take_append_drop]
  rw [this, List.length_append]
  omega
theorem sl_kp {B b : Nat} {w w' : World} {v : Value} {l : List El} (h : SL (fun k => k < B) w v l) (k : Kp B b w w') : SL (fun k => k < B) w' v l := h.keep fun i _ hi => k.1.block i hi
theorem encT_len (t : Bs) : (encT t).length = 4 + t.length := by unfold encT; rw [List.length_append, len_le4]
theorem sl_at {G : Nat → Prop} {w : World} {a : Option Addr} {L c : Nat} {l : List El} (h : SL G w (.slice a L c) l) {j : Nat} (hj : j < l.length) : ∃ g o, a = some ⟨g, o, none⟩ ∧ w.cell? ⟨g, o + j, none⟩ = some (.string (mk l[j])) := by
  obtain ⟨a1, c1, e, _, hr⟩ := h
  injection e with e1 _ _
  subst e1
  obtain ⟨g, o, rfl, _, q⟩ := Rd.get hr (by omega)
  exact ⟨g, o, rfl, q j _ (List.getElem?_eq_getElem hj)⟩
def LB {α : Type} (f : α → Bs) (l : List α) (k : Nat) (p : Bs) : Bs := p ++ (le4 l.length ++ (l.take k).flatMap f)
theorem LB_step {α : Type} (f : α → Bs) (l : List α) (k : Nat) (p : Bs) (h : k < l.length) : LB f l k p ++ f l[k] = LB f l (k + 1) p := by
  unfold LB
  rw [flat_take f l k h]
  simp [List.append_assoc]
theorem LB_end {α : Type} (f : α → Bs) (l : List α) (p : Bs) : LB f l l.length p = p ++ encC f l := by unfold LB encC; rw [List.take_length]
theorem LB_len {α : Type} (f : α → Bs) (l : List α) (k : Nat) (p : Bs) (h : k < l.length) : (LB f l k p).length + (f l[k]).length ≤ p.length + (encC f l).length := by
  have h1 := flat_len f l (k + 1)
  rw [flat_take f l k h, List.length_append] at h1
  unfold LB encC
  simp only [List.length_append, len_le4] at h1 ⊢
  omega
theorem LB_zero {α : Type} (f : α → Bs) (l : List α) (p : Bs) : LB f l 0 p = p ++ leY (l.length : Int) 4 := by unfold LB le4; simp

set_option maxHeartbeats 2000000 in
set_option maxRecDepth 100000 in
theorem lwr_call (B b : Nat) (p : Bs) (l : List Bs) (v : Value) (w : World) (h : BA B b p w) (hv : SL (fun k => k < B) w v l) (hn : l.length < 4294967296) (ht : ∀ t ∈ l, t.length < 4294967296) (hlen : p.length + (encC encT l).length ≤ 140737488355328) (hB : B ≤ w.heap.size) :
    Calls Tryz.prog 230 #[v, ptr b] w fun e w' => e = .returned (.tuple #[]) ∧ BA B b (p ++ encC encT l) w' ∧ Kp B b w w' := by
  have HN := hid_of (num_call B b p l.length 4 w h (by decide) (by decide) (by simpa using hn) (by unfold encC at hlen; rw [List.length_append, len_le4] at hlen; omega) hB)
  have HT := hid_of ht
  have HL := hid_of hlen
  have HV := hid_of hv
  rw [← LB_zero encT l p] at HN
  obtain ⟨a, c, rfl, hc, hr⟩ := hv
  obtain ⟨L, hL⟩ : ∃ L, L = l.length := ⟨_, rfl⟩
  have HLL := hid_of hL
  rw [← hL] at hn HV HN ⊢
  have e1 : IntKind.u64.wrap (L : Int) = (L : Int) := by rw [IntKind.wrap_u64]; omega
  clear h hr hc ht hlen hL
  go_enter Tryz.func230, Tryz.ntmps230
  go_wp2_with fail
  refine HN.out.mono ?_
  rintro e w1 ⟨rfl, d1, k1⟩
  have R0 := hid_of (And.intro d1 k1)
  clear d1 k1 HN
  go_wp2_with fail
  go_loopg [13] L (fun g s3 wx => ∃ j : Nat, j ≤ L ∧ L ≤ j + g ∧ s3 = .int .i64 (j : Int) ∧ Hid (BA B b (LB encT l j p) wx ∧ Kp B b w wx))
  case atStart => exact ⟨0, by omega, by omega, rfl, R0⟩
  case round =>
    obtain ⟨j, hj, hg, rfl, R⟩ := hrel
    by_cases hlt : j < L
    · obtain ⟨g', rfl⟩ : ∃ g', gk = g' + 1 := ⟨gk - 1, by omega⟩
      have hjl : j < l.length := by rw [← HLL.out]; exact hlt
      obtain ⟨g1, o1, rfl, c1⟩ := sl_at (sl_kp HV.out R.out.2) hjl
      have hbd := LB_len encT l j p hjl
      have HC := hid_of (twr_call B b (LB encT l j p) l[j] wr R.out.1 (HT.out _ (List.getElem_mem hjl)) (by have := HL.out; rw [encT_len] at hbd; omega) (bl R.out.2 hB))
      rw [LB_step encT l j p hjl] at HC
      have w1 : IntKind.i64.wrap ((j : Int) + 1) = (j : Int) + 1 := IntWalk.i64_in _ (by omega)
      have dd : (j : Int) < (L : Int) := by omega
      clear hbd
      generalize mk l[j] = X at *
      go_wp2_with fail
      refine HC.out.mono ?_
      rintro e w2 ⟨rfl, d2, k2⟩
      have R2 := hid_of (And.intro d2 (R.out.2.trans k2))
      clear d2 k2 HC
      go_wp2_with fail
      go_roundg g'
      case measure => omega
      case rel => exact ⟨j + 1, by omega, by omega, by simp, R2⟩
    · obtain rfl : j = L := by omega
      have dd : ¬ (j : Int) < (j : Int) := by omega
      have R2 : Hid (BA B b (p ++ encC encT l) wr ∧ Kp B b w wr) := hid_of (by have := R.out; rw [HLL.out, LB_end] at this; exact this)
      go_wp2_with fail
      go_end0
      exact ⟨rfl, R2.out⟩
set_option maxRecDepth 100000 in
theorem swr_call (B b : Nat) (p : Bs) (l : List Bs) (v : Value) (w : World) (h : BA B b p w) (hv : SL (fun k => k < B) w v l) (hn : l.length < 4294967296) (ht : ∀ t ∈ l, t.length < 4294967296) (hlen : p.length + (encC encT l).length ≤ 140737488355328) (hB : B ≤ w.heap.size) :
    Calls Tryz.prog 237 #[v, ptr b] w fun e w' => e = .returned (.tuple #[]) ∧ BA B b (p ++ encC encT l) w' ∧ Kp B b w w' := by
  have HC := hid_of (lwr_call B b p l v w h hv hn ht hlen hB)
  obtain ⟨a, c, rfl, hc, hr⟩ := hv
  clear h hr hc ht hlen
  go_enter Tryz.func237, Tryz.ntmps237
  go_wp2_with fail
  refine HC.out.mono ?_
  rintro e w2 ⟨rfl, d2, k2⟩
  have R2 := hid_of (And.intro d2 k2)
  clear d2 k2 HC
  go_wp2_with fail
  go_end0
  exact ⟨rfl, R2.out⟩
end Go.Proofs.YtminfpkigenahaaGreatDoor.Write
end
section
namespace Go.Proofs.YtminfpkigenahaaGreatDoor.Write2
open Go.RowKit Go.Maps
open Go.Proofs.YtminfpkigenahaaGreatDoor.SetMath
open Go.Proofs.YtminfpkigenahaaGreatDoor.BytesMath
open Go.Proofs.YtminfpkigenahaaGreatDoor.FixMath
open Go.Proofs.YtminfpkigenahaaGreatDoor.ValueMath
open Go.Proofs.YtminfpkigenahaaGreatDoor.Base
open Go.Proofs.YtminfpkigenahaaGreatDoor.Vals
open Go.Proofs.YtminfpkigenahaaGreatDoor.Builder (Kp)
open Go.Proofs.YtminfpkigenahaaGreatDoor.Write
set_option linter.unusedVariables false
set_option linter.unusedSimpArgs false
theorem encF_len (p : Bs × Bs) : (encF p).length = 8 + p.1.length + p.2.length := by unfold encF; rw [List.length_append, encT_len, encT_len]; omega
theorem encE_len (p : Bs × Int) : (encE p).length = 12 + p.1.length := by unfold encE; rw [List.length_append, encT_len, len_le8]; omega
theorem ret_i {a b : Int} (h : a = b) : Ending.returned (.int .i64 a) = .returned (.int .i64 b) := by rw [h]
theorem ba_lt {B b : Nat} {l : Bs} {w : World} (h : BA B b l w) : b < w.heap.size := by obtain ⟨_, v, h2, _⟩ := h; exact lt_of h2
theorem kp_box {B b g : Nat} {w w' : World} {cs : Array Value} {t : TypeId} {fz : Nat × Nat} (k : Kp B b w w') (h : w.heap[g]? = some (.cells cs t fz)) (hg : g ≠ b) (ht : t ≠ 5) : w'.heap[g]? = some (.cells cs t fz) :=
  k.2 g _ h (fun e => hg (Option.some.inj e)) (fun c fz e => by injection e with _ e2 _; exact ht e2)

set_option maxHeartbeats 2000000 in
set_option maxRecDepth 100000 in
theorem hwr_call (B b : Nat) (p : Bs) (l : FRow.LL) (v : Value) (w : World) (h : BA B b p w) (hv : ∀ W, Below B w W → FRow.FS W v l) (hn : l.length < 4294967296) (ht : ∀ t ∈ l, (t : Bs × Bs).1.length < 4294967296 ∧ t.2.length < 4294967296) (hlen : p.length + (encC encF l).length ≤ 140737488355328) (hB : B ≤ w.heap.size) :
    Calls Tryz.prog 233 #[v, ptr b] w fun e w' => e = .returned (.tuple #[]) ∧ BA B b (p ++ encC encF l) w' ∧ Kp B b w w' := by
  have HN := hid_of (num_call B b p l.length 4 w h (by decide) (by decide) (by simpa using hn) (by unfold encC at hlen; rw [List.length_append, len_le4] at hlen; omega) hB)
  have HT := hid_of ht
  have HL := hid_of hlen
  have HV := hid_of hv
  rw [← LB_zero encF l p] at HN
  obtain ⟨a, c, rfl, hc, hr⟩ := hv w (Below.refl _ _)
  obtain ⟨L, hL⟩ : ∃ L, L = List.length l := ⟨_, rfl⟩
  have HLL := hid_of hL
  rw [← hL] at hn HV HN ⊢
  have e1 : IntKind.u64.wrap (L : Int) = (L : Int) := by rw [IntKind.wrap_u64]; omega
  clear h hr hc ht hlen hL hv
  go_enter Tryz.func233, Tryz.ntmps233
  go_wp2_with fail
  refine HN.out.mono ?_
  rintro e w1 ⟨rfl, d1, k1⟩
  have R0 := hid_of (And.intro d1 k1)
  clear d1 k1 HN
  go_wp2_with fail
  go_loopg [13] L (fun g s3 wx => ∃ j : Nat, j ≤ L ∧ L ≤ j + g ∧ s3 = .int .i64 (j : Int) ∧ Hid (BA B b (LB encF l j p) wx ∧ Kp B b w wx))
  case atStart => exact ⟨0, by omega, by omega, rfl, R0⟩
  case round =>
    obtain ⟨j, hj, hg, rfl, R⟩ := hrel
    by_cases hlt : j < L
    · obtain ⟨g', rfl⟩ : ∃ g', gk = g' + 1 := ⟨gk - 1, by omega⟩
      have hjl : j < List.length l := by rw [← HLL.out]; exact hlt
      obtain ⟨ga, oa, rfl, ha⟩ := FRow.FS.at (HV.out wr R.out.2.1) hjl
      obtain ⟨a0, a1⟩ := ha j hjl
      clear ha
      have hbd := LB_len encF l j p hjl
      rw [encF_len] at hbd
      have htt := HT.out _ (List.getElem_mem hjl)
      have hll := HL.out
      have hstep := LB_step encF l j p hjl
      obtain ⟨x, hx⟩ : ∃ x, x = l[j] := ⟨_, rfl⟩
      rw [← hx] at a0 a1 hbd htt hstep
      clear hx
      obtain ⟨x1, x2⟩ := x
      simp only at a0 a1 hbd htt
      have hblt := ba_lt R.out.1
      obtain ⟨W, hW⟩ : ∃ W, W = wr.alloc (.cells #[.string (mk x1), .string (mk x2)] 66) := ⟨_, rfl⟩
      have bW : Below wr.heap.size wr W := by rw [hW]; exact FRow.bnew wr _
      have w0 : W.heap[wr.heap.size]? = some (.cells #[.string (mk x1), .string (mk x2)] 66 (0, 0)) := by rw [hW]; exact heap_alloc_new wr _
      have hBW : B ≤ W.heap.size := Nat.le_trans (bl R.out.2 hB) bW.size
      have H1 := hid_of (twr_call B b (LB encF l j p) x1 W (R.out.1.below bW) (by omega) (by omega) hBW)
      have H2 := hid_of fun (U : World) (hU : BA B b (LB encF l j p ++ encT x1) U) (hBU : B ≤ U.heap.size) => twr_call B b _ x2 U hU (by omega) (by rw [List.length_append, encT_len]; omega) hBU
      rw [List.append_assoc, show encT x1 ++ encT x2 = encF (x1, x2) from rfl] at H2
      have w1' : IntKind.i64.wrap ((j : Int) + 1) = (j : Int) + 1 := IntWalk.i64_in _ (by omega)
      have dd : (j : Int) < (L : Int) := by omega
      have HW := hid_of hW
      have KW := hid_of (R.out.2.trans (kp_of (b := b) bW (bl R.out.2 hB)))
      have HST := hid_of hstep
      have HX := hid_of fun (U : World) (k : Kp B b W U) => box2 (kp_box k w0 (by omega) (by decide))
      clear hbd htt hll hW bW w0 hstep
      generalize mk x1 = X1 at *
      generalize mk x2 = X2 at *
      go_wp2_with fail
      rw [← HW.out]
      refine H1.out.mono ?_
      rintro e w2 ⟨rfl, d2, k2⟩
      obtain ⟨⟨c0, c1⟩, _⟩ := HX.out w2 k2
      have H3 := hid_of (H2.out w2 d2 (bl k2 hBW))
      have K2 := hid_of (KW.out.trans k2)
      clear d2 k2 H1 H2 HX
      go_wp2_with fail
      refine H3.out.mono ?_
      rintro e w3 ⟨rfl, d3, k3⟩
      have R2 : Hid (BA B b (LB encF l (j + 1) p) w3 ∧ Kp B b w w3) := hid_of ⟨by rw [← HST.out]; exact d3, K2.out.trans k3⟩
      clear d3 k3 H3
      go_wp2_with fail
      go_roundg g'
      case measure => omega
      case rel => exact ⟨j + 1, by omega, by omega, by simp, R2⟩
    · obtain rfl : j = L := by omega
      have dd : ¬ (j : Int) < (j : Int) := by omega
      have R2 : Hid (BA B b (p ++ encC encF l) wr ∧ Kp B b w wr) := hid_of (by have := R.out; rw [HLL.out, LB_end] at this; exact this)
      go_wp2_with fail
      go_end0
      exact ⟨rfl, R2.out⟩

set_option maxHeartbeats 2000000 in
set_option maxRecDepth 100000 in
theorem rwr_call (B b : Nat) (p : Bs) (l : ERow.LL) (v : Value) (w : World) (h : BA B b p w) (hv : ∀ W, Below B w W → ERow.FS W v l) (hn : l.length < 4294967296) (ht : ∀ t ∈ l, (t : Bs × Int).1.length < 4294967296) (hlen : p.length + (encC encE l).length ≤ 140737488355328) (hB : B ≤ w.heap.size) :
    Calls Tryz.prog 240 #[v, ptr b] w fun e w' => e = .returned (.tuple #[]) ∧ BA B b (p ++ encC encE l) w' ∧ Kp B b w w' := by
  have HN := hid_of (num_call B b p l.length 4 w h (by decide) (by decide) (by simpa using hn) (by unfold encC at hlen; rw [List.length_append, len_le4] at hlen; omega) hB)
  have HT := hid_of ht
  have HL := hid_of hlen
  have HV := hid_of hv
  rw [← LB_zero encE l p] at HN
  obtain ⟨a, c, rfl, hc, hr⟩ := hv w (Below.refl _ _)
  obtain ⟨L, hL⟩ : ∃ L, L = List.length l := ⟨_, rfl⟩
  have HLL := hid_of hL
  rw [← hL] at hn HV HN ⊢
  have e1 : IntKind.u64.wrap (L : Int) = (L : Int) := by rw [IntKind.wrap_u64]; omega
  clear h hr hc ht hlen hL hv
  go_enter Tryz.func240, Tryz.ntmps240
  go_wp2_with fail
  refine HN.out.mono ?_
  rintro e w1 ⟨rfl, d1, k1⟩
  have R0 := hid_of (And.intro d1 k1)
  clear d1 k1 HN
  go_wp2_with fail
  go_loopg [13] L (fun g s3 wx => ∃ j : Nat, j ≤ L ∧ L ≤ j + g ∧ s3 = .int .i64 (j : Int) ∧ Hid (BA B b (LB encE l j p) wx ∧ Kp B b w wx))
  case atStart => exact ⟨0, by omega, by omega, rfl, R0⟩
  case round =>
    obtain ⟨j, hj, hg, rfl, R⟩ := hrel
    by_cases hlt : j < L
    · obtain ⟨g', rfl⟩ : ∃ g', gk = g' + 1 := ⟨gk - 1, by omega⟩
      have hjl : j < List.length l := by rw [← HLL.out]; exact hlt
      obtain ⟨ga, oa, rfl, ha⟩ := ERow.FS.at (HV.out wr R.out.2.1) hjl
      obtain ⟨a0, a1⟩ := ha j hjl
      clear ha
      have hbd := LB_len encE l j p hjl
      rw [encE_len] at hbd
      have htt := HT.out _ (List.getElem_mem hjl)
      have hll := HL.out
      have hstep := LB_step encE l j p hjl
      obtain ⟨x, hx⟩ : ∃ x, x = l[j] := ⟨_, rfl⟩
      rw [← hx] at a0 a1 hbd htt hstep
      clear hx
      obtain ⟨x1, x2⟩ := x
      simp only at a0 a1 hbd htt
      have hblt := ba_lt R.out.1
      obtain ⟨W, hW⟩ : ∃ W, W = wr.alloc (.cells #[.string (mk x1), .int .i64 x2] 69) := ⟨_, rfl⟩
      have bW : Below wr.heap.size wr W := by rw [hW]; exact FRow.bnew wr _
      have w0 : W.heap[wr.heap.size]? = some (.cells #[.string (mk x1), .int .i64 x2] 69 (0, 0)) := by rw [hW]; exact heap_alloc_new wr _
      have hBW : B ≤ W.heap.size := Nat.le_trans (bl R.out.2 hB) bW.size
      obtain ⟨u, hu, hub⟩ := u64_nat x2
      have H1 := hid_of (num_call B b (LB encE l j p) u 8 W (R.out.1.below bW) (by decide) (by decide) (by simpa using hub) (by omega) hBW)
      have H2 := hid_of fun (U : World) (hU : BA B b (LB encE l j p ++ leY u 8) U) (hBU : B ≤ U.heap.size) => twr_call B b _ x1 U hU (by omega) (by rw [List.length_append, leY_len]; omega) hBU
      rw [List.append_assoc, show leY (u : Int) 8 ++ encT x1 = encE (x1, x2) from by unfold encE le8; rw [hu]] at H2
      clear hub
      have w1' : IntKind.i64.wrap ((j : Int) + 1) = (j : Int) + 1 := IntWalk.i64_in _ (by omega)
      have dd : (j : Int) < (L : Int) := by omega
      have HW := hid_of hW
      have KW := hid_of (R.out.2.trans (kp_of (b := b) bW (bl R.out.2 hB)))
      have HST := hid_of hstep
      have HX := hid_of fun (U : World) (k : Kp B b W U) => box2 (kp_box k w0 (by omega) (by decide))
      clear hbd htt hll hW bW w0 hstep
      generalize mk x1 = X1 at *
      go_wp2_with fail
      rw [← HW.out]
      refine H1.out.mono ?_
      rintro e w2 ⟨rfl, d2, k2⟩
      obtain ⟨⟨c0, c1⟩, _⟩ := HX.out w2 k2
      have H3 := hid_of (H2.out w2 d2 (bl k2 hBW))
      have K2 := hid_of (KW.out.trans k2)
      clear d2 k2 H1 H2 HX
      go_wp2_with fail
      refine H3.out.mono ?_
      rintro e w3 ⟨rfl, d3, k3⟩
      have R2 : Hid (BA B b (LB encE l (j + 1) p) w3 ∧ Kp B b w w3) := hid_of ⟨by rw [← HST.out]; exact d3, K2.out.trans k3⟩
      clear d3 k3 H3
      go_wp2_with fail
      go_roundg g'
      case measure => omega
      case rel => exact ⟨j + 1, by omega, by omega, by simp, R2⟩
    · obtain rfl : j = L := by omega
      have dd : ¬ (j : Int) < (j : Int) := by omega
      have R2 : Hid (BA B b (p ++ encC encE l) wr ∧ Kp B b w wr) := hid_of (by have := R.out; rw [HLL.out, LB_end] at this; exact this)
      go_wp2_with fail
      go_end0
      exact ⟨rfl, R2.out⟩

theorem WL_step {α : Type} (f : α → Bs) (l : List α) (k : Nat) (h : k < l.length) : 4 + ((l.take k).flatMap f).length + (f l[k]).length = 4 + ((l.take (k + 1)).flatMap f).length := by rw [flat_take f l k h, List.length_append]; omega
theorem WL_le {α : Type} (f : α → Bs) (l : List α) (k : Nat) : 4 + ((l.take k).flatMap f).length ≤ (encC f l).length := by have := flat_len f l k; unfold encC; rw [List.length_append, len_le4]; omega
theorem WL_end {α : Type} (f : α → Bs) (l : List α) : 4 + ((l.take l.length).flatMap f).length = (encC f l).length := by unfold encC; rw [List.length_append, len_le4, List.take_length]
set_option maxHeartbeats 2000000 in
set_option maxRecDepth 100000 in
theorem lwt_call {G : Nat → Prop} (l : List Bs) (v : Value) (w : World) (hv : SL G w v l) (hn : l.length ≤ 140737488355328) (hlen : (encC encT l).length ≤ 140737488355328) :
    Calls Tryz.prog 229 #[v] w fun e w' => e = .returned (.int .i64 ((encC encT l).length : Nat)) ∧ w' = w := by
  have HL := hid_of hlen
  have HV := hid_of hv
  obtain ⟨a, c, rfl, hc, hr⟩ := hv
  obtain ⟨L, hL⟩ : ∃ L, L = l.length := ⟨_, rfl⟩
  have HLL := hid_of hL
  rw [← hL] at hn HV ⊢
  clear hr hc hlen hL
  go_enter Tryz.func229, Tryz.ntmps229
  go_wp2_with fail
  go_loopg [3, 8] L (fun g s3 s8 wx => ∃ (j N : Nat), j ≤ L ∧ L ≤ j + g ∧ s3 = .int .i64 (N : Int) ∧ s8 = .int .i64 (j : Int) ∧ Hid (N = 4 + ((l.take j).flatMap encT).length) ∧ wx = w)
  case atStart => exact ⟨0, 4, by omega, by omega, rfl, rfl, hid_of rfl, rfl⟩
  case round =>
    obtain ⟨j, N, hj, hg, rfl, rfl, HN, hwx⟩ := hrel
    subst hwx
    by_cases hlt : j < L
    · obtain ⟨g', rfl⟩ : ∃ g', gk = g' + 1 := ⟨gk - 1, by omega⟩
      have hjl : j < l.length := by rw [← HLL.out]; exact hlt
      obtain ⟨g1, o1, rfl, c1⟩ := sl_at HV.out hjl
      have h1 := WL_step encT l j hjl
      have h2 := WL_le encT l (j + 1)
      have h3 := HL.out
      have h4 := encT_len l[j]
      rw [← HN.out] at h1
      have HC := hid_of (twt_call l[j] wr (by omega))
      obtain ⟨M, hM⟩ : ∃ M, M = (encT l[j]).length := ⟨_, rfl⟩
      rw [← hM] at HC h1
      have HN2 := hid_of h1
      have w0 : IntKind.i64.wrap ((N : Int) + (M : Int)) = ((N + M : Nat) : Int) := by rw [show ((N + M : Nat) : Int) = (N : Int) + M by omega]; exact IntWalk.i64_in _ (by omega)
      have w1 : IntKind.i64.wrap ((j : Int) + 1) = (j : Int) + 1 := IntWalk.i64_in _ (by omega)
      have dd : (j : Int) < (L : Int) := by omega
      obtain ⟨P, hP⟩ : ∃ P, P = N + M := ⟨_, rfl⟩
      rw [← hP] at w0 HN2
      clear h1 h2 h3 h4 hM hP
      generalize mk l[j] = X at *
      go_wp2_with fail
      refine HC.out.mono ?_
      rintro e w2 ⟨rfl, hw2⟩
      rw [hw2]
      clear hw2 HC
      go_wp2_with fail
      go_roundg g'
      case measure => omega
      case rel => exact ⟨j + 1, P, by omega, by omega, rfl, by simp, HN2, rfl⟩
    · obtain rfl : j = L := by omega
      have dd : ¬ (j : Int) < (j : Int) := by omega
      have H2 : Hid (N = (encC encT l).length) := hid_of (by rw [HN.out, HLL.out, WL_end])
      go_wp2_with fail
      go_ret
      exact ⟨ret_i (by rw [H2.out]), rfl⟩
set_option maxRecDepth 100000 in
theorem swt_call {G : Nat → Prop} (l : List Bs) (v : Value) (w : World) (hv : SL G w v l) (hn : l.length ≤ 140737488355328) (hlen : (encC encT l).length ≤ 140737488355328) :
    Calls Tryz.prog 236 #[v] w fun e w' => e = .returned (.int .i64 ((encC encT l).length : Nat)) ∧ w' = w := by
  have HC := hid_of (lwt_call l v w hv hn hlen)
  obtain ⟨a, c, rfl, hc, hr⟩ := hv
  generalize ((encC encT l).length : Nat) = N at *
  clear hr hc
  go_enter Tryz.func236, Tryz.ntmps236
  go_wp2_with fail
  refine HC.out.mono ?_
  rintro e w2 ⟨rfl, hw2⟩
  rw [hw2]
  clear hw2 HC
  go_wp2_with fail
  go_ret
  exact ⟨rfl, rfl⟩

set_option maxHeartbeats 2000000 in
set_option maxRecDepth 100000 in
theorem hwt_call (l : FRow.LL) (v : Value) (w : World) (hv : FRow.FS w v l) (hn : l.length ≤ 140737488355328) (hlen : (encC encF l).length ≤ 140737488355328) :
    Calls Tryz.prog 232 #[v] w fun e w' => e = .returned (.int .i64 ((encC encF l).length : Nat)) ∧ Below w.heap.size w w' := by
  have HL := hid_of hlen
  have HV := hid_of hv
  obtain ⟨a, c, rfl, hc, hr⟩ := hv
  obtain ⟨L, hL⟩ : ∃ L, L = List.length l := ⟨_, rfl⟩
  have HLL := hid_of hL
  rw [← hL] at hn HV ⊢
  clear hr hc hlen hL
  go_enter Tryz.func232, Tryz.ntmps232
  go_wp2_with fail
  go_loopg [3, 8] L (fun g s3 s8 wx => ∃ (j N : Nat), j ≤ L ∧ L ≤ j + g ∧ s3 = .int .i64 (N : Int) ∧ s8 = .int .i64 (j : Int) ∧ Hid (N = 4 + ((l.take j).flatMap encF).length) ∧ Hid (Below w.heap.size w wx))
  case atStart => exact ⟨0, 4, by omega, by omega, rfl, rfl, hid_of rfl, hid_of (Below.refl _ _)⟩
  case round =>
    obtain ⟨j, N, hj, hg, rfl, rfl, HN, HB⟩ := hrel
    by_cases hlt : j < L
    · obtain ⟨g', rfl⟩ : ∃ g', gk = g' + 1 := ⟨gk - 1, by omega⟩
      have hjl : j < List.length l := by rw [← HLL.out]; exact hlt
      obtain ⟨ga, oa, rfl, ha⟩ := FRow.FS.at (HV.out.below HB.out) hjl
      obtain ⟨a0, a1⟩ := ha j hjl
      clear ha
      have h1 := WL_step encF l j hjl
      have h2 := WL_le encF l (j + 1)
      have h3 := HL.out
      rw [← HN.out] at h1
      obtain ⟨x, hx⟩ : ∃ x, x = l[j] := ⟨_, rfl⟩
      rw [← hx] at a0 a1 h1
      rw [encF_len] at h1
      clear hx
      obtain ⟨x1, x2⟩ := x
      simp only at a0 a1 h1
      obtain ⟨W, hW⟩ : ∃ W, W = wr.alloc (.cells #[.string (mk x1), .string (mk x2)] 66) := ⟨_, rfl⟩
      have bW : Below wr.heap.size wr W := by rw [hW]; exact FRow.bnew wr _
      have w0 : W.heap[wr.heap.size]? = some (.cells #[.string (mk x1), .string (mk x2)] 66 (0, 0)) := by rw [hW]; exact heap_alloc_new wr _
      obtain ⟨⟨c0, c1⟩, _⟩ := box2 w0
      have BW := hid_of (FRow.bel HB.out bW (Nat.le_refl _))
      have HW := hid_of hW
      have w1' : IntKind.i64.wrap ((j : Int) + 1) = (j : Int) + 1 := IntWalk.i64_in _ (by omega)
      have dd : (j : Int) < (L : Int) := by omega
      have HC1 : Hid (∀ m, Calls Tryz.prog 223 #[.string (mk x1)] (W.drewN m) fun e w' => e = .returned (.int .i64 ((4 + x1.length : Nat) : Int)) ∧ ∃ q, w' = W.drewN q) := hid_of fun m => (twt_call x1 (W.drewN m) (by omega)).mono fun e w' ⟨q1, q2⟩ => ⟨by rw [q1, encT_len], m, q2⟩
      have HC2 : Hid (∀ m, Calls Tryz.prog 223 #[.string (mk x2)] (W.drewN m) fun e w' => e = .returned (.int .i64 ((4 + x2.length : Nat) : Int)) ∧ ∃ q, w' = W.drewN q) := hid_of fun m => (twt_call x2 (W.drewN m) (by omega)).mono fun e w' ⟨q1, q2⟩ => ⟨by rw [q1, encT_len], m, q2⟩
      obtain ⟨M1, hM1⟩ : ∃ M, M = 4 + List.length x1 := ⟨_, rfl⟩
      obtain ⟨M2, hM2⟩ : ∃ M, M = 4 + List.length x2 := ⟨_, rfl⟩
      rw [← hM1] at HC1
      rw [← hM2] at HC2
      obtain ⟨Q, hQ⟩ : ∃ Q : Nat, Q = M1 + M2 := ⟨_, rfl⟩
      obtain ⟨P, hP⟩ : ∃ P : Nat, P = N + Q := ⟨_, rfl⟩
      have HN2 : Hid (P = 4 + ((l.take (j + 1)).flatMap encF).length) := hid_of (by omega)
      have v1 : IntKind.i64.wrap ((M1 : Int) + (M2 : Int)) = (Q : Int) := by rw [show (Q : Int) = (M1 : Int) + M2 by omega]; exact IntWalk.i64_in _ (by omega)
      have v2 : IntKind.i64.wrap ((N : Int) + (Q : Int)) = (P : Int) := by rw [show (P : Int) = (N : Int) + Q by omega]; exact IntWalk.i64_in _ (by omega)
      clear hM1 hM2 hQ hP
      clear h1 h2 h3 hW bW w0
      generalize mk x1 = X1 at *
      generalize mk x2 = X2 at *
      go_wp2_with fail
      rw [← HW.out]
      go_quiet (first | (go_at_call_of 223 (Value.string X1); exact (HC1.out _).mono fun _ _ h => h) | (go_at_call_of 223 (Value.string X2); exact (HC2.out _).mono fun _ _ h => h))
      go_wp2_with fail
      go_roundg g'
      case measure => omega
      case rel => exact ⟨j + 1, P, by omega, by omega, rfl, by simp, HN2, hid_of (FRow.bdrew BW.out nq)⟩
    · obtain rfl : j = L := by omega
      have dd : ¬ (j : Int) < (j : Int) := by omega
      have H2 : Hid (N = (encC encF l).length) := hid_of (by rw [HN.out, HLL.out, WL_end])
      go_wp2_with fail
      go_ret
      exact ⟨ret_i (by rw [H2.out]), HB.out⟩

set_option maxHeartbeats 2000000 in
set_option maxRecDepth 100000 in
theorem rwt_call (l : ERow.LL) (v : Value) (w : World) (hv : ERow.FS w v l) (hn : l.length ≤ 140737488355328) (hlen : (encC encE l).length ≤ 140737488355328) :
    Calls Tryz.prog 239 #[v] w fun e w' => e = .returned (.int .i64 ((encC encE l).length : Nat)) ∧ Below w.heap.size w w' := by
  have HL := hid_of hlen
  have HV := hid_of hv
  obtain ⟨a, c, rfl, hc, hr⟩ := hv
  obtain ⟨L, hL⟩ : ∃ L, L = List.length l := ⟨_, rfl⟩
  have HLL := hid_of hL
  rw [← hL] at hn HV ⊢
  clear hr hc hlen hL
  go_enter Tryz.func239, Tryz.ntmps239
  go_wp2_with fail
  go_loopg [3, 8] L (fun g s3 s8 wx => ∃ (j N : Nat), j ≤ L ∧ L ≤ j + g ∧ s3 = .int .i64 (N : Int) ∧ s8 = .int .i64 (j : Int) ∧ Hid (N = 4 + ((l.take j).flatMap encE).length) ∧ Hid (Below w.heap.size w wx))
  case atStart => exact ⟨0, 4, by omega, by omega, rfl, rfl, hid_of rfl, hid_of (Below.refl _ _)⟩
  case round =>
    obtain ⟨j, N, hj, hg, rfl, rfl, HN, HB⟩ := hrel
    by_cases hlt : j < L
    · obtain ⟨g', rfl⟩ : ∃ g', gk = g' + 1 := ⟨gk - 1, by omega⟩
      have hjl : j < List.length l := by rw [← HLL.out]; exact hlt
      obtain ⟨ga, oa, rfl, ha⟩ := ERow.FS.at (HV.out.below HB.out) hjl
      obtain ⟨a0, a1⟩ := ha j hjl
      clear ha
      have h1 := WL_step encE l j hjl
      have h2 := WL_le encE l (j + 1)
      have h3 := HL.out
      rw [← HN.out] at h1
      obtain ⟨x, hx⟩ : ∃ x, x = l[j] := ⟨_, rfl⟩
      rw [← hx] at a0 a1 h1
      rw [encE_len] at h1
      clear hx
      obtain ⟨x1, x2⟩ := x
      simp only at a0 a1 h1
      obtain ⟨W, hW⟩ : ∃ W, W = wr.alloc (.cells #[.string (mk x1), .int .i64 x2] 69) := ⟨_, rfl⟩
      have bW : Below wr.heap.size wr W := by rw [hW]; exact FRow.bnew wr _
      have w0 : W.heap[wr.heap.size]? = some (.cells #[.string (mk x1), .int .i64 x2] 69 (0, 0)) := by rw [hW]; exact heap_alloc_new wr _
      obtain ⟨⟨c0, c1⟩, _⟩ := box2 w0
      have BW := hid_of (FRow.bel HB.out bW (Nat.le_refl _))
      have HW := hid_of hW
      have w1' : IntKind.i64.wrap ((j : Int) + 1) = (j : Int) + 1 := IntWalk.i64_in _ (by omega)
      have dd : (j : Int) < (L : Int) := by omega
      have HC1 := hid_of (twt_call x1 W (by omega))
      rw [encT_len] at HC1
      obtain ⟨M1, hM1⟩ : ∃ M, M = 4 + List.length x1 := ⟨_, rfl⟩
      rw [← hM1] at HC1
      obtain ⟨Q, hQ⟩ : ∃ Q : Nat, Q = 8 + M1 := ⟨_, rfl⟩
      obtain ⟨P, hP⟩ : ∃ P : Nat, P = N + Q := ⟨_, rfl⟩
      have HN2 : Hid (P = 4 + ((l.take (j + 1)).flatMap encE).length) := hid_of (by omega)
      have v1 : IntKind.i64.wrap (8 + (M1 : Int)) = (Q : Int) := by rw [show (Q : Int) = 8 + (M1 : Int) by omega]; exact IntWalk.i64_in _ (by omega)
      have v2 : IntKind.i64.wrap ((N : Int) + (Q : Int)) = (P : Int) := by rw [show (P : Int) = (N : Int) + Q by omega]; exact IntWalk.i64_in _ (by omega)
      clear hM1 hQ hP
      clear h1 h2 h3 hW bW w0
      generalize mk x1 = X1 at *
      go_wp2_with fail
      rw [← HW.out]
      refine HC1.out.mono ?_
      rintro e w2 ⟨rfl, hw2⟩
      rw [hw2]
      clear hw2 HC1
      go_wp2_with fail
      go_roundg g'
      case measure => omega
      case rel => exact ⟨j + 1, P, by omega, by omega, rfl, by simp, HN2, BW⟩
    · obtain rfl : j = L := by omega
      have dd : ¬ (j : Int) < (j : Int) := by omega
      have H2 : Hid (N = (encC encE l).length) := hid_of (by rw [HN.out, HLL.out, WL_end])
      go_wp2_with fail
      go_ret
      exact ⟨ret_i (by rw [H2.out]), HB.out⟩
end Go.Proofs.YtminfpkigenahaaGreatDoor.Write2
end
