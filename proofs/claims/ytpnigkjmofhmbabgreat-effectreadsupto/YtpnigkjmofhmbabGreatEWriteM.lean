/- The bytes of effects: writeNumber, write, Encode. Encode of effects. -/
import Derived.Test.YtpnigkjmofhmbabGreatEMayM
import Derived.Test.YtpnigkjmofhmbabGreatEnc0M
import Derived.Test.YtpnigkjmofhmbabGreatShelf
section
namespace Go.Proofs.YtpnigkjmofhmbabGreat.EWrite
open Go.RowKit Go.Maps
open Go.Proofs.YtpnigkjmofhmbabGreat.BytesMath
open Go.Proofs.YtpnigkjmofhmbabGreat.FixMath
open Go.Proofs.YtpnigkjmofhmbabGreat.ValueMath (Vl chk small sm enc le8)
open Go.Proofs.YtpnigkjmofhmbabGreat.Base (mk mk_list mk_size Gr hid_of SL)
open Go.Proofs.YtpnigkjmofhmbabGreat.Turn
open Go.Proofs.YtpnigkjmofhmbabGreat.Vals
open Go.Proofs.YtpnigkjmofhmbabGreat.Builder (Kp)
open Go.Proofs.YtpnigkjmofhmbabGreat.Check0 (Wel)
open Go.Proofs.YtpnigkjmofhmbabGreat.SBase
open Go.Proofs.YtpnigkjmofhmbabGreat.SFind (alb)
open Go.Proofs.YtpnigkjmofhmbabGreat.SSet (box8)
open Go.Proofs.YtpnigkjmofhmbabGreat.EMay
open Go.Proofs.YtpnigkjmofhmbabGreat.EAll
set_option linter.unusedVariables false
set_option linter.unusedSimpArgs false
def IB (B b : Nat) (l : Bs) (w : World) : Prop := Lib.IsBuilder 70 5 B b (Lib.byteCells l) w
theorem ba_below {B b : Nat} {p : Value} {l : Bs} {w w' : World} (h : Lib.BuilderAt 70 5 B b p (Lib.byteCells l) w) (hb : Below w.heap.size w w') : Lib.BuilderAt 70 5 B b p (Lib.byteCells l) w' := by
  obtain ⟨h1, v, h2, h3, h4⟩ := h
  exact ⟨h1, v, (hb.block b (lt_of h2)).trans h2, FRow.row_below h3 hb, h4⟩
theorem IB.below {B b : Nat} {l : Bs} {w w' : World} (h : IB B b l w) (hb : Below w.heap.size w w') : IB B b l w' := h.imp (fun h => ba_below h hb) (fun h => ba_below h hb)
theorem IB.lt {B b : Nat} {l : Bs} {w : World} (h : IB B b l w) : b < w.heap.size := by
  rcases h with ⟨_, v, h, _⟩ | ⟨_, v, h, _⟩
  · exact lt_of h
  · exact lt_of h
theorem ib_put (B b : Nat) (l t : Bs) (w : World) (h : IB B b l w) (hlen : l.length + t.length ≤ 140737488355328) (hB : B ≤ w.heap.size) :
    Calls Tryz.prog 46 #[ptr b, .string (mk t)] w fun e w' => e = .returned (.tuple #[.int .i64 (mk t).size, .nilIface]) ∧ IB B b (l ++ t) w' ∧ Kp B b w w' := by
  refine (Builder.put_string B b (Lib.byteCells l) (mk t) w h (by rw [Lib.byteCells_length, mk_size]; exact hlen) hB).mono ?_
  rintro e w' ⟨h1, h2, h3⟩
  rw [Write.cells_mk, ← Lib.byteCells_append] at h2
  exact ⟨h1, .inr h2, h3⟩
theorem ib_byte (B b : Nat) (l : Bs) (c : UInt8) (w : World) (h : IB B b l w) (hlen : l.length + 1 ≤ 140737488355328) (hB : B ≤ w.heap.size) :
    Calls Tryz.prog 60 #[ptr b, .int .u8 c.toNat] w fun e w' => e = .returned .nilIface ∧ IB B b (l ++ [c]) w' ∧ Kp B b w w' := by
  refine (Builder.put_byte B b (Lib.byteCells l) c.toNat w h (by rw [Lib.byteCells_length]; exact hlen) hB).mono ?_
  rintro e w' ⟨h1, h2, h3⟩
  have e1 : Lib.byteCells l ++ [.int .u8 c.toNat] = Lib.byteCells (l ++ [c]) := by rw [Lib.byteCells_append]; rfl
  rw [e1] at h2
  exact ⟨h1, .inr h2, h3⟩
theorem kpk {B b k : Nat} {w w' : World} {cs : Array Value} {t : TypeId} {fz : Nat × Nat} (h : Kp B b w w') (hk : w.heap[k]? = some (.cells cs t fz)) (hn : k ≠ b) (ht : t ≠ 5) : w'.heap[k]? = some (.cells cs t fz) := h.2 k _ hk (by simpa using hn) (fun c fz e => by cases e; exact ht rfl)
set_option maxRecDepth 100000 in
theorem num_call (B b : Nat) (l : Bs) (u : Nat) (w : World) (h : IB B b l w) (hu : u ≤ 9223372036854775807) (hlen : l.length + 8 ≤ 140737488355328) (hB : B ≤ w.heap.size) :
    Calls Tryz.prog 61 #[ptr b, .int .i64 (u : Int)] w fun e w' => e = .returned (.tuple #[]) ∧ IB B b (l ++ leY u 8) w' ∧ Kp B b w w' := by
  have HF := hid_of (Fix.fix_ok u 8 w (by omega) (by omega) (by omega) (by omega) (Write.fits u 8 (by omega)))
  have HP := hid_of fun (W : World) (hW : Below w.heap.size w W) => ib_put B b l (leY u 8) W (h.below hW) (by rw [leY_len]; exact hlen) (Nat.le_trans hB hW.size)
  rw [show (⟨(leY (u : Int) 8).toArray⟩ : ByteArray) = mk (leY u 8) from rfl] at HF
  have HK := hid_of fun (W : World) (hW : Below w.heap.size w W) => Write.kp_of (b := b) hW hB
  have hwr : IntKind.u64.wrap (u : Int) = (u : Int) := IntWalk.u64_in _ (by omega)
  generalize (((mk (leY u 8)).size : Nat) : Int) = M at *
  generalize mk (leY u 8) = X at *
  clear h
  go_enter Tryz.func61, Tryz.ntmps61
  go_wp2_with fail
  refine HF.out.mono ?_
  rintro e w1 ⟨rfl, b1⟩
  have H1 := hid_of (HP.out w1 b1)
  have K1 := hid_of (HK.out w1 b1)
  clear b1 HP HK HF
  go_wp2_with fail
  refine H1.out.mono ?_
  rintro e w2 ⟨rfl, d2, k2⟩
  have H2 := hid_of (And.intro d2 (K1.out.trans k2))
  clear d2 k2 H1 K1
  go_wp2_with fail
  go_end0
  exact ⟨rfl, H2.out⟩
/-- the bytes of an effect -/
def encE (f : Ef) : Bs := [UInt8.ofNat f.kind.toNat] ++ ((if pkK f.kind then leY (f.key.length : Int) 8 ++ f.key else []) ++ ((if pdK f.kind then leY f.due 8 else []) ++ (if pvK f.kind then enc f.val else [])))
set_option maxHeartbeats 1000000 in
set_option maxRecDepth 100000 in
theorem write1 (B b : Nat) (l : Bs) (k : Bs) (hk : k.length ≤ 140737488355328) (d : Nat) (hd : d ≤ 9007199254740992) (k2 : Int) (T : ByteArray) (a1 a2 a3 : Option Addr) (n1 c1 n2 c2 n3 c3 : Nat) (x : Vl) (hx0 : chk x = 0) (hxw : Wel x) (hxs : small x)  (w : World) (hv : ∀ W, Below B w W → VA W (.agg #[.int .i64 k2, .string T, .slice a1 n1 c1, .slice a2 n2 c2, .slice a3 n3 c3]) x) (h : IB B b l w) (hB : B ≤ w.heap.size) (hlen : l.length + ([1] ++ ((leY (k.length : Int) 8 ++ k) ++ (leY (d : Int) 8 ++ enc x)) : Bs).length ≤ 140737488355328) :
    Calls Tryz.prog 31 #[ptr b, .agg #[.int .i64 1, .string (mk k), .int .i64 k2, .string T, .slice a1 n1 c1, .slice a2 n2 c2, .slice a3 n3 c3, .int .i64 (d : Int)]] w fun e w' => e = .returned (.tuple #[]) ∧ IB B b (l ++ ([1] ++ ((leY (k.length : Int) 8 ++ k) ++ (leY (d : Int) 8 ++ enc x)) : Bs)) w' ∧ Kp B b w w' := by
  have hb0 := h.lt
  obtain ⟨W, hW⟩ : ∃ W, W = w.alloc (fO 1 k2 (d : Int) (mk k) T (.slice a1 n1 c1) (.slice a2 n2 c2) (.slice a3 n3 c3)) := ⟨_, rfl⟩
  have x0 : W.heap[w.heap.size]? = some (fO 1 k2 (d : Int) (mk k) T (.slice a1 n1 c1) (.slice a2 n2 c2) (.slice a3 n3 c3)) := by rw [hW]; exact heap_alloc_new w _
  have bW : Below w.heap.size w W := by rw [hW]; exact alb _ _
  have hll : l.length + 1 ≤ 140737488355328 := by simp only [List.length_append, List.length_cons, List.length_nil] at hlen; omega
  have H1 : Hid (Calls Tryz.prog 60 #[ptr b, .int .u8 1] W fun e w' => e = .returned .nilIface ∧ IB B b (l ++ [1]) w' ∧ Kp B b W w') := hid_of (ib_byte B b l 1 W (h.below bW) hll (Nat.le_trans hB bW.size))
  have HX := hid_of x0
  have HK0 := hid_of (Write.kp_of (b := b) bW hB)
  have HW := hid_of hW
  have hbx : w.heap.size ≠ b := by omega
  clear h hW x0 bW
  go_enter Tryz.func31, Tryz.ntmps31
  go_wp2_with fail
  rw [← HW.out]
  refine H1.out.mono ?_
  rintro e w1 ⟨rfl, i1, k1⟩
  have x1 := kpk k1 HX.out hbx (by decide)
  have HI1 := hid_of i1
  have HK1 := hid_of (HK0.out.trans k1)
  have HX1 := hid_of x1
  have H2 : Hid (Calls Tryz.prog 49 #[.int .i64 1] w1 fun e w' => e = .returned (.tuple #[.agg #[.bool true, .bool true, .bool true], .bool true]) ∧ Below w1.heap.size w1 w') := hid_of (parts_call 1 w1)
  obtain ⟨⟨y0, y1, y2, y3, y4, y5, y6, y7⟩, -⟩ := box8 x1
  clear i1 k1 x1 H1
  go_wp2_with fail
  refine H2.out.mono ?_
  rintro e w2 ⟨rfl, hb2⟩
  obtain ⟨V, hV⟩ : ∃ V, V = w2.alloc (pO true true true) := ⟨_, rfl⟩
  have bV : Below w1.heap.size w1 V := by rw [hV]; exact hb2.trans ((alb w2 _).mono hb2.size)
  have x2 := (hb2.block _ (lt_of HX1.out)).trans HX1.out
  have l2 : w.heap.size < w2.heap.size := lt_of x2
  have hbp : w2.heap.size ≠ b := by have := HI1.out.lt; have := hb2.size; omega
  have HXV := hid_of ((bV.block _ (lt_of HX1.out)).trans HX1.out)
  have HPV := hid_of (show V.heap[w2.heap.size]? = some (pO true true true) by rw [hV]; exact heap_alloc_new w2 _)
  have HIV := hid_of (HI1.out.below bV)
  have hBV : B ≤ V.heap.size := Nat.le_trans hB (Nat.le_trans HK1.out.size bV.size)
  have HKV := hid_of (HK1.out.trans (Write.kp_of (b := b) bV (Nat.le_trans hB HK1.out.size)))
  have HVV := hid_of hV
  clear y0 y1 y2 y3 y4 y5 y6 y7 H2 HI1 HK1 HX1 hb2 bV hV
  obtain ⟨⟨y0, y1, y2, y3, y4, y5, y6, y7⟩, -⟩ := box8 x2
  clear x2
  have hsz : (mk k).size = k.length := mk_size k
  have H3 : Hid (Calls Tryz.prog 61 #[ptr b, .int .i64 ((mk k).size : Int)] V fun e w' => e = .returned (.tuple #[]) ∧ IB B b ((l ++ [1]) ++ leY (k.length : Int) 8) w' ∧ Kp B b V w') := hid_of (by rw [hsz]; exact num_call B b (l ++ [1]) k.length V HIV.out (by omega) (by simp only [List.length_append, List.length_cons, List.length_nil, leY_len] at hlen ⊢; omega) hBV)
  clear hsz
  go_wp2_with fail
  rw [← HVV.out]
  refine H3.out.mono ?_
  rintro e w3 ⟨rfl, i3, k3⟩
  have x3 := kpk k3 HXV.out hbx (by decide)
  have p3 := kpk k3 HPV.out hbp (by decide)
  have hB3 : B ≤ w3.heap.size := Nat.le_trans hBV k3.size
  have H4 := hid_of (ib_put B b ((l ++ [1]) ++ leY (k.length : Int) 8) k w3 i3 (by simp only [List.length_append, List.length_cons, List.length_nil, leY_len] at hlen ⊢; omega) hB3)
  have HK3 := hid_of (HKV.out.trans k3)
  clear y0 y1 y2 y3 y4 y5 y6 y7 i3 k3 H3 l2
  obtain ⟨⟨y0, y1, y2, y3, y4, y5, y6, y7⟩, -⟩ := box8 x3
  have HX3 := hid_of x3
  have HP3 := hid_of p3
  clear x3 p3
  go_wp2_with fail
  refine H4.out.mono ?_
  rintro e w4 ⟨rfl, i4, k4⟩
  have x4 := kpk k4 HX3.out hbx (by decide)
  have p4 := kpk k4 HP3.out hbp (by decide)
  have hB4 : B ≤ w4.heap.size := Nat.le_trans hB3 k4.size
  have HK4 := hid_of (HK3.out.trans k4)
  have HI4 := hid_of i4
  clear y0 y1 y2 y3 y4 y5 y6 y7 i4 k4 H4
  obtain ⟨⟨y0, y1, y2, y3, y4, y5, y6, y7⟩, -⟩ := box8 x4
  obtain ⟨⟨q0, q1, q2⟩, -⟩ := box3 p4
  have HX4 := hid_of x4
  have HP4 := hid_of p4
  clear x4 p4
  have H5 := hid_of (num_call B b ((l ++ [1]) ++ leY (k.length : Int) 8 ++ k) d w4 HI4.out (by omega) (by simp only [List.length_append, List.length_cons, List.length_nil, leY_len] at hlen ⊢; omega) hB4)
  go_wp2_with fail
  refine H5.out.mono ?_
  rintro e w5 ⟨rfl, i5, k5⟩
  have x5 := kpk k5 HX4.out hbx (by decide)
  have p5 := kpk k5 HP4.out hbp (by decide)
  have hB5 : B ≤ w5.heap.size := Nat.le_trans hB4 k5.size
  have HK5 := hid_of (HK4.out.trans k5)
  have HI5 := hid_of i5
  clear y0 y1 y2 y3 y4 y5 y6 y7 q0 q1 q2 i5 k5 H5
  obtain ⟨⟨y0, y1, y2, y3, y4, y5, y6, y7⟩, -⟩ := box8 x5
  obtain ⟨⟨q0, q1, q2⟩, -⟩ := box3 p5
  clear x5 p5
  have hel : (enc x).length ≤ 140737488355328 := by simp only [List.length_append, List.length_cons, List.length_nil, leY_len] at hlen; omega
  have H6 : Hid (Calls Tryz.prog 47 #[.agg #[.int .i64 k2, .string T, .slice a1 n1 c1, .slice a2 n2 c2, .slice a3 n3 c3]] w5 fun e w' => e = .returned (.tuple #[.string (mk (enc x)), .int .i64 0]) ∧ Below w5.heap.size w5 w') := hid_of (by
    have := Enc.encode_call (hv w5 HK5.out.1) hxw hxs hel
    rw [hx0] at this
    have e : Enc.encV x = enc x := by unfold Enc.encV; rw [if_pos hx0]
    rw [e] at this
    exact this)
  go_wp2_with fail
  refine H6.out.mono ?_
  rintro e w6 ⟨rfl, hb6⟩
  have H7 := hid_of (ib_put B b (((l ++ [1]) ++ leY (k.length : Int) 8 ++ k) ++ leY (d : Int) 8) (enc x) w6 (HI5.out.below hb6) (by simp only [List.length_append, List.length_cons, List.length_nil, leY_len] at hlen ⊢; omega) (Nat.le_trans hB5 hb6.size))
  have HK6 := hid_of (HK5.out.trans (Write.kp_of (b := b) hb6 hB5))
  clear hb6 H6 y0 y1 y2 y3 y4 y5 y6 y7 q0 q1 q2
  go_wp2_with fail
  refine H7.out.mono ?_
  rintro e w7 ⟨rfl, i7, k7⟩
  have HI7 := hid_of i7
  have HK7 := hid_of (HK6.out.trans k7)
  clear i7 k7 H7
  go_wp2_with fail
  go_end0
  refine ⟨rfl, ?_, HK7.out⟩
  have q := HI7.out
  simpa [List.append_assoc] using q
set_option maxHeartbeats 1000000 in
set_option maxRecDepth 100000 in
theorem write2 (B b : Nat) (l : Bs) (k : Bs) (hk : k.length ≤ 140737488355328) (k2 : Int) (T : ByteArray) (a1 a2 a3 : Option Addr) (n1 c1 n2 c2 n3 c3 : Nat) (w : World) (h : IB B b l w) (hB : B ≤ w.heap.size) (hlen : l.length + ([2] ++ ((leY (k.length : Int) 8 ++ k) ++ ([] ++ [])) : Bs).length ≤ 140737488355328) :
    Calls Tryz.prog 31 #[ptr b, .agg #[.int .i64 2, .string (mk k), .int .i64 k2, .string T, .slice a1 n1 c1, .slice a2 n2 c2, .slice a3 n3 c3, .int .i64 0]] w fun e w' => e = .returned (.tuple #[]) ∧ IB B b (l ++ ([2] ++ ((leY (k.length : Int) 8 ++ k) ++ ([] ++ [])) : Bs)) w' ∧ Kp B b w w' := by
  have hb0 := h.lt
  obtain ⟨W, hW⟩ : ∃ W, W = w.alloc (fO 2 k2 0 (mk k) T (.slice a1 n1 c1) (.slice a2 n2 c2) (.slice a3 n3 c3)) := ⟨_, rfl⟩
  have x0 : W.heap[w.heap.size]? = some (fO 2 k2 0 (mk k) T (.slice a1 n1 c1) (.slice a2 n2 c2) (.slice a3 n3 c3)) := by rw [hW]; exact heap_alloc_new w _
  have bW : Below w.heap.size w W := by rw [hW]; exact alb _ _
  have hll : l.length + 1 ≤ 140737488355328 := by simp only [List.length_append, List.length_cons, List.length_nil] at hlen; omega
  have H1 : Hid (Calls Tryz.prog 60 #[ptr b, .int .u8 2] W fun e w' => e = .returned .nilIface ∧ IB B b (l ++ [2]) w' ∧ Kp B b W w') := hid_of (ib_byte B b l 2 W (h.below bW) hll (Nat.le_trans hB bW.size))
  have HX := hid_of x0
  have HK0 := hid_of (Write.kp_of (b := b) bW hB)
  have HW := hid_of hW
  have hbx : w.heap.size ≠ b := by omega
  clear h hW x0 bW
  go_enter Tryz.func31, Tryz.ntmps31
  go_wp2_with fail
  rw [← HW.out]
  refine H1.out.mono ?_
  rintro e w1 ⟨rfl, i1, k1⟩
  have x1 := kpk k1 HX.out hbx (by decide)
  have HI1 := hid_of i1
  have HK1 := hid_of (HK0.out.trans k1)
  have HX1 := hid_of x1
  have H2 : Hid (Calls Tryz.prog 49 #[.int .i64 2] w1 fun e w' => e = .returned (.tuple #[.agg #[.bool true, .bool false, .bool false], .bool true]) ∧ Below w1.heap.size w1 w') := hid_of (parts_call 2 w1)
  obtain ⟨⟨y0, y1, y2, y3, y4, y5, y6, y7⟩, -⟩ := box8 x1
  clear i1 k1 x1 H1
  go_wp2_with fail
  refine H2.out.mono ?_
  rintro e w2 ⟨rfl, hb2⟩
  obtain ⟨V, hV⟩ : ∃ V, V = w2.alloc (pO true false false) := ⟨_, rfl⟩
  have bV : Below w1.heap.size w1 V := by rw [hV]; exact hb2.trans ((alb w2 _).mono hb2.size)
  have x2 := (hb2.block _ (lt_of HX1.out)).trans HX1.out
  have l2 : w.heap.size < w2.heap.size := lt_of x2
  have hbp : w2.heap.size ≠ b := by have := HI1.out.lt; have := hb2.size; omega
  have HXV := hid_of ((bV.block _ (lt_of HX1.out)).trans HX1.out)
  have HPV := hid_of (show V.heap[w2.heap.size]? = some (pO true false false) by rw [hV]; exact heap_alloc_new w2 _)
  have HIV := hid_of (HI1.out.below bV)
  have hBV : B ≤ V.heap.size := Nat.le_trans hB (Nat.le_trans HK1.out.size bV.size)
  have HKV := hid_of (HK1.out.trans (Write.kp_of (b := b) bV (Nat.le_trans hB HK1.out.size)))
  have HVV := hid_of hV
  clear y0 y1 y2 y3 y4 y5 y6 y7 H2 HI1 HK1 HX1 hb2 bV hV
  obtain ⟨⟨y0, y1, y2, y3, y4, y5, y6, y7⟩, -⟩ := box8 x2
  clear x2
  have hsz : (mk k).size = k.length := mk_size k
  have H3 : Hid (Calls Tryz.prog 61 #[ptr b, .int .i64 ((mk k).size : Int)] V fun e w' => e = .returned (.tuple #[]) ∧ IB B b ((l ++ [2]) ++ leY (k.length : Int) 8) w' ∧ Kp B b V w') := hid_of (by rw [hsz]; exact num_call B b (l ++ [2]) k.length V HIV.out (by omega) (by simp only [List.length_append, List.length_cons, List.length_nil, leY_len] at hlen ⊢; omega) hBV)
  clear hsz
  go_wp2_with fail
  rw [← HVV.out]
  refine H3.out.mono ?_
  rintro e w3 ⟨rfl, i3, k3⟩
  have x3 := kpk k3 HXV.out hbx (by decide)
  have p3 := kpk k3 HPV.out hbp (by decide)
  have hB3 : B ≤ w3.heap.size := Nat.le_trans hBV k3.size
  have H4 := hid_of (ib_put B b ((l ++ [2]) ++ leY (k.length : Int) 8) k w3 i3 (by simp only [List.length_append, List.length_cons, List.length_nil, leY_len] at hlen ⊢; omega) hB3)
  have HK3 := hid_of (HKV.out.trans k3)
  clear y0 y1 y2 y3 y4 y5 y6 y7 i3 k3 H3 l2
  obtain ⟨⟨y0, y1, y2, y3, y4, y5, y6, y7⟩, -⟩ := box8 x3
  have HX3 := hid_of x3
  have HP3 := hid_of p3
  clear x3 p3
  go_wp2_with fail
  refine H4.out.mono ?_
  rintro e w4 ⟨rfl, i4, k4⟩
  have x4 := kpk k4 HX3.out hbx (by decide)
  have p4 := kpk k4 HP3.out hbp (by decide)
  have hB4 : B ≤ w4.heap.size := Nat.le_trans hB3 k4.size
  have HK4 := hid_of (HK3.out.trans k4)
  have HI4 := hid_of i4
  clear y0 y1 y2 y3 y4 y5 y6 y7 i4 k4 H4
  obtain ⟨⟨y0, y1, y2, y3, y4, y5, y6, y7⟩, -⟩ := box8 x4
  obtain ⟨⟨q0, q1, q2⟩, -⟩ := box3 p4
  have HX4 := hid_of x4
  have HP4 := hid_of p4
  clear x4 p4
  go_wp2_with fail
  go_end0
  refine ⟨rfl, ?_, HK4.out⟩
  have q := HI4.out
  simpa [List.append_assoc] using q
set_option maxHeartbeats 1000000 in
set_option maxRecDepth 100000 in
theorem write3 (B b : Nat) (l : Bs) (k : Bs) (hk : k.length ≤ 140737488355328) (d : Nat) (hd : d ≤ 9007199254740992) (k2 : Int) (T : ByteArray) (a1 a2 a3 : Option Addr) (n1 c1 n2 c2 n3 c3 : Nat) (w : World) (h : IB B b l w) (hB : B ≤ w.heap.size) (hlen : l.length + ([3] ++ ((leY (k.length : Int) 8 ++ k) ++ (leY (d : Int) 8 ++ [])) : Bs).length ≤ 140737488355328) :
    Calls Tryz.prog 31 #[ptr b, .agg #[.int .i64 3, .string (mk k), .int .i64 k2, .string T, .slice a1 n1 c1, .slice a2 n2 c2, .slice a3 n3 c3, .int .i64 (d : Int)]] w fun e w' => e = .returned (.tuple #[]) ∧ IB B b (l ++ ([3] ++ ((leY (k.length : Int) 8 ++ k) ++ (leY (d : Int) 8 ++ [])) : Bs)) w' ∧ Kp B b w w' := by
  have hb0 := h.lt
  obtain ⟨W, hW⟩ : ∃ W, W = w.alloc (fO 3 k2 (d : Int) (mk k) T (.slice a1 n1 c1) (.slice a2 n2 c2) (.slice a3 n3 c3)) := ⟨_, rfl⟩
  have x0 : W.heap[w.heap.size]? = some (fO 3 k2 (d : Int) (mk k) T (.slice a1 n1 c1) (.slice a2 n2 c2) (.slice a3 n3 c3)) := by rw [hW]; exact heap_alloc_new w _
  have bW : Below w.heap.size w W := by rw [hW]; exact alb _ _
  have hll : l.length + 1 ≤ 140737488355328 := by simp only [List.length_append, List.length_cons, List.length_nil] at hlen; omega
  have H1 : Hid (Calls Tryz.prog 60 #[ptr b, .int .u8 3] W fun e w' => e = .returned .nilIface ∧ IB B b (l ++ [3]) w' ∧ Kp B b W w') := hid_of (ib_byte B b l 3 W (h.below bW) hll (Nat.le_trans hB bW.size))
  have HX := hid_of x0
  have HK0 := hid_of (Write.kp_of (b := b) bW hB)
  have HW := hid_of hW
  have hbx : w.heap.size ≠ b := by omega
  clear h hW x0 bW
  go_enter Tryz.func31, Tryz.ntmps31
  go_wp2_with fail
  rw [← HW.out]
  refine H1.out.mono ?_
  rintro e w1 ⟨rfl, i1, k1⟩
  have x1 := kpk k1 HX.out hbx (by decide)
  have HI1 := hid_of i1
  have HK1 := hid_of (HK0.out.trans k1)
  have HX1 := hid_of x1
  have H2 : Hid (Calls Tryz.prog 49 #[.int .i64 3] w1 fun e w' => e = .returned (.tuple #[.agg #[.bool true, .bool true, .bool false], .bool true]) ∧ Below w1.heap.size w1 w') := hid_of (parts_call 3 w1)
  obtain ⟨⟨y0, y1, y2, y3, y4, y5, y6, y7⟩, -⟩ := box8 x1
  clear i1 k1 x1 H1
  go_wp2_with fail
  refine H2.out.mono ?_
  rintro e w2 ⟨rfl, hb2⟩
  obtain ⟨V, hV⟩ : ∃ V, V = w2.alloc (pO true true false) := ⟨_, rfl⟩
  have bV : Below w1.heap.size w1 V := by rw [hV]; exact hb2.trans ((alb w2 _).mono hb2.size)
  have x2 := (hb2.block _ (lt_of HX1.out)).trans HX1.out
  have l2 : w.heap.size < w2.heap.size := lt_of x2
  have hbp : w2.heap.size ≠ b := by have := HI1.out.lt; have := hb2.size; omega
  have HXV := hid_of ((bV.block _ (lt_of HX1.out)).trans HX1.out)
  have HPV := hid_of (show V.heap[w2.heap.size]? = some (pO true true false) by rw [hV]; exact heap_alloc_new w2 _)
  have HIV := hid_of (HI1.out.below bV)
  have hBV : B ≤ V.heap.size := Nat.le_trans hB (Nat.le_trans HK1.out.size bV.size)
  have HKV := hid_of (HK1.out.trans (Write.kp_of (b := b) bV (Nat.le_trans hB HK1.out.size)))
  have HVV := hid_of hV
  clear y0 y1 y2 y3 y4 y5 y6 y7 H2 HI1 HK1 HX1 hb2 bV hV
  obtain ⟨⟨y0, y1, y2, y3, y4, y5, y6, y7⟩, -⟩ := box8 x2
  clear x2
  have hsz : (mk k).size = k.length := mk_size k
  have H3 : Hid (Calls Tryz.prog 61 #[ptr b, .int .i64 ((mk k).size : Int)] V fun e w' => e = .returned (.tuple #[]) ∧ IB B b ((l ++ [3]) ++ leY (k.length : Int) 8) w' ∧ Kp B b V w') := hid_of (by rw [hsz]; exact num_call B b (l ++ [3]) k.length V HIV.out (by omega) (by simp only [List.length_append, List.length_cons, List.length_nil, leY_len] at hlen ⊢; omega) hBV)
  clear hsz
  go_wp2_with fail
  rw [← HVV.out]
  refine H3.out.mono ?_
  rintro e w3 ⟨rfl, i3, k3⟩
  have x3 := kpk k3 HXV.out hbx (by decide)
  have p3 := kpk k3 HPV.out hbp (by decide)
  have hB3 : B ≤ w3.heap.size := Nat.le_trans hBV k3.size
  have H4 := hid_of (ib_put B b ((l ++ [3]) ++ leY (k.length : Int) 8) k w3 i3 (by simp only [List.length_append, List.length_cons, List.length_nil, leY_len] at hlen ⊢; omega) hB3)
  have HK3 := hid_of (HKV.out.trans k3)
  clear y0 y1 y2 y3 y4 y5 y6 y7 i3 k3 H3 l2
  obtain ⟨⟨y0, y1, y2, y3, y4, y5, y6, y7⟩, -⟩ := box8 x3
  have HX3 := hid_of x3
  have HP3 := hid_of p3
  clear x3 p3
  go_wp2_with fail
  refine H4.out.mono ?_
  rintro e w4 ⟨rfl, i4, k4⟩
  have x4 := kpk k4 HX3.out hbx (by decide)
  have p4 := kpk k4 HP3.out hbp (by decide)
  have hB4 : B ≤ w4.heap.size := Nat.le_trans hB3 k4.size
  have HK4 := hid_of (HK3.out.trans k4)
  have HI4 := hid_of i4
  clear y0 y1 y2 y3 y4 y5 y6 y7 i4 k4 H4
  obtain ⟨⟨y0, y1, y2, y3, y4, y5, y6, y7⟩, -⟩ := box8 x4
  obtain ⟨⟨q0, q1, q2⟩, -⟩ := box3 p4
  have HX4 := hid_of x4
  have HP4 := hid_of p4
  clear x4 p4
  have H5 := hid_of (num_call B b ((l ++ [3]) ++ leY (k.length : Int) 8 ++ k) d w4 HI4.out (by omega) (by simp only [List.length_append, List.length_cons, List.length_nil, leY_len] at hlen ⊢; omega) hB4)
  go_wp2_with fail
  refine H5.out.mono ?_
  rintro e w5 ⟨rfl, i5, k5⟩
  have x5 := kpk k5 HX4.out hbx (by decide)
  have p5 := kpk k5 HP4.out hbp (by decide)
  have hB5 : B ≤ w5.heap.size := Nat.le_trans hB4 k5.size
  have HK5 := hid_of (HK4.out.trans k5)
  have HI5 := hid_of i5
  clear y0 y1 y2 y3 y4 y5 y6 y7 q0 q1 q2 i5 k5 H5
  obtain ⟨⟨y0, y1, y2, y3, y4, y5, y6, y7⟩, -⟩ := box8 x5
  obtain ⟨⟨q0, q1, q2⟩, -⟩ := box3 p5
  clear x5 p5
  go_wp2_with fail
  go_end0
  refine ⟨rfl, ?_, HK5.out⟩
  have q := HI5.out
  simpa [List.append_assoc] using q
set_option maxHeartbeats 1000000 in
set_option maxRecDepth 100000 in
theorem write4 (B b : Nat) (l : Bs) (k2 : Int) (T : ByteArray) (a1 a2 a3 : Option Addr) (n1 c1 n2 c2 n3 c3 : Nat) (w : World) (h : IB B b l w) (hB : B ≤ w.heap.size) (hlen : l.length + ([4] ++ ([] ++ ([] ++ [])) : Bs).length ≤ 140737488355328) :
    Calls Tryz.prog 31 #[ptr b, .agg #[.int .i64 4, .string ⟨#[]⟩, .int .i64 k2, .string T, .slice a1 n1 c1, .slice a2 n2 c2, .slice a3 n3 c3, .int .i64 0]] w fun e w' => e = .returned (.tuple #[]) ∧ IB B b (l ++ ([4] ++ ([] ++ ([] ++ [])) : Bs)) w' ∧ Kp B b w w' := by
  have hb0 := h.lt
  obtain ⟨W, hW⟩ : ∃ W, W = w.alloc (fO 4 k2 0 ⟨#[]⟩ T (.slice a1 n1 c1) (.slice a2 n2 c2) (.slice a3 n3 c3)) := ⟨_, rfl⟩
  have x0 : W.heap[w.heap.size]? = some (fO 4 k2 0 ⟨#[]⟩ T (.slice a1 n1 c1) (.slice a2 n2 c2) (.slice a3 n3 c3)) := by rw [hW]; exact heap_alloc_new w _
  have bW : Below w.heap.size w W := by rw [hW]; exact alb _ _
  have hll : l.length + 1 ≤ 140737488355328 := by simp only [List.length_append, List.length_cons, List.length_nil] at hlen; omega
  have H1 : Hid (Calls Tryz.prog 60 #[ptr b, .int .u8 4] W fun e w' => e = .returned .nilIface ∧ IB B b (l ++ [4]) w' ∧ Kp B b W w') := hid_of (ib_byte B b l 4 W (h.below bW) hll (Nat.le_trans hB bW.size))
  have HX := hid_of x0
  have HK0 := hid_of (Write.kp_of (b := b) bW hB)
  have HW := hid_of hW
  have hbx : w.heap.size ≠ b := by omega
  clear h hW x0 bW
  go_enter Tryz.func31, Tryz.ntmps31
  go_wp2_with fail
  rw [← HW.out]
  refine H1.out.mono ?_
  rintro e w1 ⟨rfl, i1, k1⟩
  have x1 := kpk k1 HX.out hbx (by decide)
  have HI1 := hid_of i1
  have HK1 := hid_of (HK0.out.trans k1)
  have HX1 := hid_of x1
  have H2 : Hid (Calls Tryz.prog 49 #[.int .i64 4] w1 fun e w' => e = .returned (.tuple #[.agg #[.bool false, .bool false, .bool false], .bool true]) ∧ Below w1.heap.size w1 w') := hid_of (parts_call 4 w1)
  obtain ⟨⟨y0, y1, y2, y3, y4, y5, y6, y7⟩, -⟩ := box8 x1
  clear i1 k1 x1 H1
  go_wp2_with fail
  refine H2.out.mono ?_
  rintro e w2 ⟨rfl, hb2⟩
  obtain ⟨V, hV⟩ : ∃ V, V = w2.alloc (pO false false false) := ⟨_, rfl⟩
  have bV : Below w1.heap.size w1 V := by rw [hV]; exact hb2.trans ((alb w2 _).mono hb2.size)
  have x2 := (hb2.block _ (lt_of HX1.out)).trans HX1.out
  have l2 : w.heap.size < w2.heap.size := lt_of x2
  have hbp : w2.heap.size ≠ b := by have := HI1.out.lt; have := hb2.size; omega
  have HXV := hid_of ((bV.block _ (lt_of HX1.out)).trans HX1.out)
  have HPV := hid_of (show V.heap[w2.heap.size]? = some (pO false false false) by rw [hV]; exact heap_alloc_new w2 _)
  have HIV := hid_of (HI1.out.below bV)
  have hBV : B ≤ V.heap.size := Nat.le_trans hB (Nat.le_trans HK1.out.size bV.size)
  have HKV := hid_of (HK1.out.trans (Write.kp_of (b := b) bV (Nat.le_trans hB HK1.out.size)))
  have HVV := hid_of hV
  clear y0 y1 y2 y3 y4 y5 y6 y7 H2 HI1 HK1 HX1 hb2 bV hV
  obtain ⟨⟨y0, y1, y2, y3, y4, y5, y6, y7⟩, -⟩ := box8 x2
  clear x2
  go_wp2_with fail
  rw [← HVV.out]
  go_end0
  refine ⟨rfl, ?_, HKV.out⟩
  have q := HIV.out
  simpa [List.append_assoc] using q
end Go.Proofs.YtpnigkjmofhmbabGreat.EWrite
end
section
namespace Go.Proofs.YtpnigkjmofhmbabGreat.EEnc
open Go.RowKit Go.Maps
open Go.Proofs.YtpnigkjmofhmbabGreat.BytesMath
open Go.Proofs.YtpnigkjmofhmbabGreat.FixMath
open Go.Proofs.YtpnigkjmofhmbabGreat.ValueMath (Vl chk small sm enc le8)
open Go.Proofs.YtpnigkjmofhmbabGreat.Base (mk mk_list mk_size Gr hid_of SL)
open Go.Proofs.YtpnigkjmofhmbabGreat.Turn
open Go.Proofs.YtpnigkjmofhmbabGreat.Vals
open Go.Proofs.YtpnigkjmofhmbabGreat.Builder (Kp)
open Go.Proofs.YtpnigkjmofhmbabGreat.Check0 (Wel)
open Go.Proofs.YtpnigkjmofhmbabGreat.SBase
open Go.Proofs.YtpnigkjmofhmbabGreat.SFind (alb)
open Go.Proofs.YtpnigkjmofhmbabGreat.EMay
open Go.Proofs.YtpnigkjmofhmbabGreat.EAll
open Go.Proofs.YtpnigkjmofhmbabGreat.EWrite
set_option linter.unusedVariables false
set_option linter.unusedSimpArgs false
theorem may_parts {f : Ef} (h : mayE f = true) : okK f.kind = true ∧ keyB (pkK f.kind) f.key = true ∧ dueB (pdK f.kind) f.due = true ∧ valB (pvK f.kind) f.val = true := by
  unfold mayE at h
  simp only [Bool.and_eq_true] at h
  exact h
theorem due_nat {d : Int} (h : dueOk d = true) : ∃ n : Nat, d = (n : Int) ∧ n ≤ 9007199254740992 := by
  unfold dueOk at h
  simp only [Bool.and_eq_true, decide_eq_true_eq] at h
  exact ⟨d.toNat, by omega, by omega⟩
theorem write_any (B b : Nat) (l : Bs) (f : Ef) (hf : mayE f = true) (hk : f.key.length ≤ 140737488355328) (hw : Wel f.val) (hs : small f.val) (k2 : Int) (T : ByteArray) (a1 a2 a3 : Option Addr) (n1 c1 n2 c2 n3 c3 : Nat) (w : World) (hv : ∀ W, Below B w W → VA W (.agg #[.int .i64 k2, .string T, .slice a1 n1 c1, .slice a2 n2 c2, .slice a3 n3 c3]) f.val) (h : IB B b l w) (hB : B ≤ w.heap.size) (hlen : l.length + (encE f).length ≤ 140737488355328) :
    Calls Tryz.prog 31 #[ptr b, .agg #[.int .i64 f.kind, .string (mk f.key), .int .i64 k2, .string T, .slice a1 n1 c1, .slice a2 n2 c2, .slice a3 n3 c3, .int .i64 f.due]] w fun e w' => e = .returned (.tuple #[]) ∧ IB B b (l ++ encE f) w' ∧ Kp B b w w' := by
  obtain ⟨h1, h2, h3, h4⟩ := may_parts hf
  obtain ⟨kd, key, val, due⟩ := f
  simp only at *
  clear hf
  have hc : kd = 1 ∨ kd = 2 ∨ kd = 3 ∨ kd = 4 := by
    unfold okK at h1
    simp only [Bool.or_eq_true, decide_eq_true_eq] at h1
    omega
  rcases hc with rfl | rfl | rfl | rfl
  · obtain ⟨d, rfl, hd⟩ := due_nat (show dueOk due = true from h3)
    have hx : chk val = 0 := of_decide_eq_true (show decide (chk val = 0) = true from h4)
    exact write1 B b l key hk d hd k2 T a1 a2 a3 n1 c1 n2 c2 n3 c3 val hx hw hs w hv h hB hlen
  · obtain rfl : due = 0 := of_decide_eq_true (show decide (due = 0) = true from h3)
    exact write2 B b l key hk k2 T a1 a2 a3 n1 c1 n2 c2 n3 c3 w h hB hlen
  · obtain ⟨d, rfl, hd⟩ := due_nat (show dueOk due = true from h3)
    exact write3 B b l key hk d hd k2 T a1 a2 a3 n1 c1 n2 c2 n3 c3 w h hB hlen
  · obtain rfl : due = 0 := of_decide_eq_true (show decide (due = 0) = true from h3)
    obtain rfl : key = [] := of_decide_eq_true (show decide (key = []) = true from h2)
    exact write4 B b l k2 T a1 a2 a3 n1 c1 n2 c2 n3 c3 w h hB hlen
def encL (l : List Ef) : Bs := l.flatMap encE
def encS (l : List Ef) : Bs := if allE l then encL l else []
def encN (l : List Ef) : Int := if allE l then 0 else 160
structure Nice (f : Ef) : Prop where
  key : f.key.length ≤ 140737488355328
  wel : Wel f.val
  sm : small f.val
theorem enc_take (l : List Ef) (k : Nat) (h : k < l.length) : encL (l.take (k + 1)) = encL (l.take k) ++ encE (l[k]'h) := by
  unfold encL
  rw [List.take_succ_eq_append_getElem h, List.flatMap_append]
  simp
theorem enc_le (l : List Ef) (k : Nat) (h : k < l.length) : (encL (l.take k)).length + (encE (l[k]'h)).length ≤ (encL l).length := by
  have e : encL l = encL (l.take (k + 1)) ++ encL (l.drop (k + 1)) := by unfold encL; rw [← List.flatMap_append, List.take_append_drop]
  rw [e, enc_take l k h, List.length_append, List.length_append]
  omega
set_option maxHeartbeats 1000000 in
set_option maxRecDepth 100000 in
theorem encode_call {w : World} {v : Value} {l : List Ef} (h : FSl w v l) (hn : ∀ f ∈ l, Nice f) (hl : l.length < 1099511627776) (hlen : allE l = true → (encL l).length ≤ 140737488355328) :
    Calls Tryz.prog 11 #[v] w fun e w' => e = .returned (.tuple #[.string (mk (encS l)), .int .i64 (encN l)]) ∧ Below w.heap.size w w' := by
  have HA := hid_of (all_call h (fun f hf => (hn f hf).wel) hl)
  obtain ⟨a, c, rfl, hc, h⟩ := h
  have HR := hid_of h
  have HNi := hid_of hn
  clear h hn
  unfold encS encN
  cases hall : allE l with
  | false =>
    rw [hall] at HA
    clear hlen
    rw [if_neg (by simp), if_neg (by simp)]
    go_enter Tryz.func11, Tryz.ntmps11
    go_wp2_with fail
    refine HA.out.mono ?_
    rintro e w1 ⟨rfl, hb⟩
    have HB := hid_of hb
    clear hb
    go_wp2_with fail
    go_ret2
    exact ⟨rfl, HB.out⟩
  | true =>
    rw [hall] at HA
    rw [if_pos rfl, if_pos rfl]
    have HL := hid_of (hlen hall)
    have HM := hid_of (show ∀ f ∈ l, mayE f = true from fun f hf => List.all_eq_true.1 hall f hf)
    clear hlen hall
    go_enter Tryz.func11, Tryz.ntmps11
    go_wp2_with fail
    refine HA.out.mono ?_
    rintro e w1 ⟨rfl, hb1⟩
    have HB1 := hid_of hb1
    clear hb1 HA
    go_wp2_with fail
    obtain ⟨W0, hW0⟩ : ∃ W0, W0 = w1.alloc (.cells #[.pointer none, .slice none 0 0] 70) := ⟨_, rfl⟩
    have HI0 := hid_of (show IB w1.heap.size w1.heap.size (encL (l.take 0)) W0 by rw [hW0]; exact Lib.fresh_isBuilder _ _ w1)
    have HBW0 := hid_of (show Below w1.heap.size w1 W0 by rw [hW0]; exact alb _ _)
    rw [← hW0]
    clear hW0
    obtain ⟨B, hB⟩ : ∃ B, B = w1.heap.size := ⟨_, rfl⟩
    have HBB := hid_of hB
    rw [← hB] at HI0 HBW0
    rw [← hB]
    clear hB
    go_loopg [12] l.length (fun g si wx => ∃ k : Nat, k ≤ l.length ∧ l.length ≤ k + g ∧ si = .int .i64 (k : Int) ∧ Hid (Below B w1 wx) ∧ Hid (IB B B (encL (l.take k)) wx))
    case atStart => exact ⟨0, by omega, by omega, rfl, HBW0, HI0⟩
    case round =>
      obtain ⟨k, hk, hg, rfl, HN, HI⟩ := hrel
      by_cases hlt : k < l.length
      · obtain ⟨g', rfl⟩ : ∃ g', gk = g' + 1 := ⟨gk - 1, by omega⟩
        obtain ⟨gb, o, rfl, hcs⟩ : ∃ g o, a = some ⟨g, o, none⟩ ∧ ∀ k (h : k < l.length), FAt w g (o + k * 8) (l[k]'h) := by
          rcases HR.out with h | h
          · rw [h] at hlt; simp at hlt
          · exact h
        have bx : Below w1.heap.size w1 wr := by rw [← HBB.out]; exact HN.out
        have hf1 := (hcs k hlt).below HB1.out
        obtain ⟨a1, n1, c1, a2, n2, c2, a3, n3, c3, k2, T, h0, h1, h2, h3, h4, h5, h6, h7, hv⟩ := hf1
        have h0 := FRow.cell_on bx h0
        have h1 := FRow.cell_on bx h1
        have h2 := FRow.cell_on bx h2
        have h3 := FRow.cell_on bx h3
        have h4 := FRow.cell_on bx h4
        have h5 := FRow.cell_on bx h5
        have h6 := FRow.cell_on bx h6
        have h7 := FRow.cell_on bx h7
        have e2 : IntKind.i64.wrap ((k : Int) + 1) = (k : Int) + 1 := IntWalk.i64_in _ (by omega)
        have g2 : (k : Int) < (l.length : Int) := by omega
        obtain ⟨W, hW⟩ : ∃ W, W = wr.alloc (fO (l[k]'hlt).kind k2 (l[k]'hlt).due (mk (l[k]'hlt).key) T (.slice a1 n1 c1) (.slice a2 n2 c2) (.slice a3 n3 c3)) := ⟨_, rfl⟩
        have bW : Below wr.heap.size wr W := by rw [hW]; exact alb _ _
        have BW : Below B w1 W := HN.out.trans (bW.mono (by have := HN.out.size; rw [HBB.out]; exact this))
        have hBW : B ≤ W.heap.size := by rw [HBB.out]; exact Nat.le_trans HN.out.size bW.size
        have HWr := hid_of (write_any B B (encL (l.take k)) (l[k]'hlt) (HM.out _ (List.getElem_mem hlt)) (HNi.out _ (List.getElem_mem hlt)).key (HNi.out _ (List.getElem_mem hlt)).wel (HNi.out _ (List.getElem_mem hlt)).sm k2 T a1 a2 a3 n1 c1 n2 c2 n3 c3 W (fun V hV => hv.below (by rw [← HBB.out]; exact BW.trans hV)) (HI.out.below bW) hBW (Nat.le_trans (enc_le l k hlt) HL.out))
        rw [← enc_take l k hlt] at HWr
        have HBW := hid_of BW
        have HW := hid_of hW
        generalize (l[k]'hlt).kind = kd at *
        generalize (l[k]'hlt).due = d at *
        generalize mk (l[k]'hlt).key = K at *
        clear hcs hv hW BW bW bx hBW
        go_wp2_with fail
        rw [← HW.out]
        refine HWr.out.mono ?_
        rintro e w2 ⟨rfl, i2, k2'⟩
        have HI2 := hid_of i2
        have HN2 := hid_of (HBW.out.trans k2'.1)
        clear i2 k2' h0 h1 h2 h3 h4 h5 h6 h7 HWr
        go_wp2_with fail
        go_roundg g'
        case measure => omega
        case rel => exact ⟨k + 1, by omega, by omega, by rw [show ((k + 1 : Nat) : Int) = (k : Int) + 1 from by omega], HN2, HI2⟩
      · obtain rfl : k = l.length := by omega
        have gi : ¬ (l.length : Int) < (l.length : Int) := by omega
        have hi := HI.out
        rw [List.take_length] at hi
        have HS := hid_of (Tryz.Builder_String_any B B (encL l) wr hi (by rw [HBB.out]; exact HN.out.size))
        rw [show (⟨(encL l).toArray⟩ : ByteArray) = mk (encL l) from rfl] at HS
        clear hi
        go_wp2_with fail
        refine HS.out.mono ?_
        rintro e w3 ⟨rfl, hb3⟩
        have HB3 := hid_of hb3
        clear hb3
        go_wp2_with fail
        go_ret2
        refine ⟨rfl, ?_⟩
        have q := HN.out.trans HB3.out
        rw [HBB.out] at q
        exact HB1.out.trans (q.mono HB1.out.size)
end Go.Proofs.YtpnigkjmofhmbabGreat.EEnc
end
