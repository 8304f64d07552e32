/- DiskNone's own walk. -/
import Derived.Test.YtilbffbmpgebmaaNone2
namespace Go.Proofs.Ytilbffbmpgebmaa.None3
open Go.RowKit Go.Maps Go.Sort
open Go.Proofs.Ytilbffbmpgebmaa.DiskMath
open Go.Proofs.Ytilbffbmpgebmaa.Base
open Go.Proofs.Ytilbffbmpgebmaa.Small
open Go.Proofs.Ytilbffbmpgebmaa.Find
open Go.Proofs.Ytilbffbmpgebmaa.File2
open Go.Proofs.Ytilbffbmpgebmaa.Rising
open Go.Proofs.Ytilbffbmpgebmaa.Crash
open Go.Proofs.Ytilbffbmpgebmaa.CrashS
open Go.Proofs.Ytilbffbmpgebmaa.Swaps
open Go.Proofs.Ytilbffbmpgebmaa.None
open Go.Proofs.Ytilbffbmpgebmaa.None2
set_option linter.unusedVariables false

def e1 : Dk := ⟨[([], 0)], [([97], 0)], [], [.make [97] 0], [], 1, false⟩
def e2 : Dk := ⟨[([], 0), ([], 0)], [([97], 0), ([98], 1)], [], [.make [97] 0, .make [98] 1], [], 2, false⟩
theorem n1 : new.create [97] = (e1, 0) := rfl
theorem n2 : e1.create [98] = (e2, 0) := rfl
theorem n3 : e2.syncNames = (dN, 0) := rfl
def box (k : Int) (A B : ByteArray) (n : Int) (fa : Option Addr) (fn fc : Nat) (cn : Int) (ba : Option Addr) (bn bc : Nat) : Array Value := #[.int .i64 k, .string A, .string B, .int .i64 n, .slice fa fn fc, .int .i64 cn, .slice ba bn bc]
set_option maxHeartbeats 8000000 in
set_option maxRecDepth 100000 in
theorem law_call (k : Int) (A B : ByteArray) (n : Int) (fa : Option Addr) (fn fc : Nat) (cn : Int) (ba : Option Addr) (bn bc : Nat) (w : World) :
    Calls Try.prog 7 #[.agg #[.int .i64 k, .string A, .string B, .int .i64 n, .slice fa fn fc, .int .i64 cn, .slice ba bn bc]] w fun e w' => e = .returned (.bool true) ∧ Below w.heap.size w w' := by
  obtain ⟨w0, hw0⟩ : ∃ w0, w0 = w.alloc (.cells #[.int .i64 k, .string A, .string B, .int .i64 n, .slice fa fn fc, .int .i64 cn, .slice ba bn bc] 38) := ⟨_, rfl⟩
  have BX : Hid (w0.heap[w.heap.size]? = some (.cells #[.int .i64 k, .string A, .string B, .int .i64 n, .slice fa fn fc, .int .i64 cn, .slice ba bn bc] 38 (0, 0))) := by rw [hw0]; exact heap_alloc_new w _
  have B0 : Hid (Below w.heap.size w w0) := by rw [hw0]; exact (Below.refl _ w).alloc (Nat.le_refl _) _
  have S0 : Hid (w0.heap.size = w.heap.size + 1) := by rw [hw0]; simp [Hid]
  have HA := hid_of append_nil
  have HR := hid_of read_nil
  have HSy := hid_of synced_nil
  have HC := hid_of create_nil
  have HT := hid_of trunc_nil
  have HS := hid_of sync_nil
  have HRn := hid_of rename_nil
  have HRm := hid_of remove_nil
  have HSN := hid_of syncNames_nil
  have HP := hid_of plan_nil
  have HD := hid_of down_nil
  have HSt := hid_of steps_nil
  have HNm := hid_of names_nil
  have HLs := hid_of lasting_nil
  have BOX : Hid (∀ W, Below w0.heap.size w0 W → W.cell? ⟨w.heap.size, 1, none⟩ = some (.string A) ∧ W.cell? ⟨w.heap.size, 2, none⟩ = some (.string B) ∧ W.cell? ⟨w.heap.size, 3, none⟩ = some (.int .i64 n) ∧ W.cell? ⟨w.heap.size, 4, none⟩ = some (.slice fa fn fc) ∧ W.cell? ⟨w.heap.size, 5, none⟩ = some (.int .i64 cn) ∧ W.cell? ⟨w.heap.size, 6, none⟩ = some (.slice ba bn bc)) := by
    intro W hW
    have hh := (hW.block w.heap.size (lt_of BX.out)).trans BX.out
    exact ⟨Lib.cell_of_heap hh 1, Lib.cell_of_heap hh 2, Lib.cell_of_heap hh 3, Lib.cell_of_heap hh 4, Lib.cell_of_heap hh 5, Lib.cell_of_heap hh 6⟩
  have NX : Hid (∀ W W', Below w0.heap.size w0 W → Below W.heap.size W W' → Below w0.heap.size w0 W') := fun W W' h1 h2 => h1.trans (h2.mono h1.size)
  go_enter Try.func7, Try.ntmps7
  have V0 : Hid (Below w0.heap.size w0 w0) := Below.refl _ _
  go_wp2_with fail
  refine (HA.out _ _ _).mono ?_
  rw [← hw0]
  rintro e w1 ⟨rfl, q1⟩
  have V1 := hid_of (NX.out _ _ V0.out q1)
  clear q1
  obtain ⟨x1, x2, x3, x4, x5, x6⟩ := BOX.out w1 V1.out
  go_wp2_with fail
  refine (HR.out _ _).mono ?_
  rintro e w2 ⟨rfl, q2⟩
  have V2 := hid_of (NX.out _ _ V1.out q2)
  clear x1 x2 x3 x4 x5 x6 q2
  obtain ⟨x1, x2, x3, x4, x5, x6⟩ := BOX.out w2 V2.out
  go_wp2_with fail
  refine (HSy.out _ _).mono ?_
  rintro e w3 ⟨rfl, q3⟩
  have V3 := hid_of (NX.out _ _ V2.out q3)
  clear x1 x2 x3 x4 x5 x6 q3
  obtain ⟨x1, x2, x3, x4, x5, x6⟩ := BOX.out w3 V3.out
  go_wp2_with fail
  refine (HC.out _ _).mono ?_
  rintro e w4 ⟨rfl, q4⟩
  have V4 := hid_of (NX.out _ _ V3.out q4)
  clear x1 x2 x3 x4 x5 x6 q4
  obtain ⟨x1, x2, x3, x4, x5, x6⟩ := BOX.out w4 V4.out
  go_wp2_with fail
  refine (HT.out _ _ _).mono ?_
  rintro e w5 ⟨rfl, q5⟩
  have V5 := hid_of (NX.out _ _ V4.out q5)
  clear x1 x2 x3 x4 x5 x6 q5
  obtain ⟨x1, x2, x3, x4, x5, x6⟩ := BOX.out w5 V5.out
  go_wp2_with fail
  refine (HS.out _ _).mono ?_
  rintro e w6 ⟨rfl, q6⟩
  have V6 := hid_of (NX.out _ _ V5.out q6)
  clear x1 x2 x3 x4 x5 x6 q6
  obtain ⟨x1, x2, x3, x4, x5, x6⟩ := BOX.out w6 V6.out
  go_wp2_with fail
  refine (HRn.out _ _ _).mono ?_
  rintro e w7 ⟨rfl, q7⟩
  have V7 := hid_of (NX.out _ _ V6.out q7)
  clear x1 x2 x3 x4 x5 x6 q7
  obtain ⟨x1, x2, x3, x4, x5, x6⟩ := BOX.out w7 V7.out
  go_wp2_with fail
  refine (HRm.out _ _).mono ?_
  rintro e w8 ⟨rfl, q8⟩
  have V8 := hid_of (NX.out _ _ V7.out q8)
  clear x1 x2 x3 x4 x5 x6 q8
  obtain ⟨x1, x2, x3, x4, x5, x6⟩ := BOX.out w8 V8.out
  go_wp2_with fail
  refine (HSN.out _).mono ?_
  rintro e wq ⟨rfl, rfl⟩
  go_wp2_with fail
  refine (HP.out _ _).mono ?_
  rintro e wq ⟨rfl, rfl⟩
  go_wp2_with fail
  refine (HD.out _).mono ?_
  rintro e wq ⟨rfl, rfl⟩
  go_wp2_with fail
  refine (HSt.out _).mono ?_
  rintro e wq ⟨rfl, rfl⟩
  go_wp2_with fail
  refine (HNm.out _).mono ?_
  rintro e wq ⟨rfl, rfl⟩
  go_wp2_with fail
  refine (HLs.out _).mono ?_
  rintro e wq ⟨rfl, rfl⟩
  have HCr := hid_of (crash_nil (.agg #[.int .i64 cn, .slice ba bn bc]) ⟨cn, _, rfl, ba, bn, bc, rfl⟩ wq)
  go_wp2_with fail
  refine HCr.out.mono ?_
  rintro e w9 ⟨rfl, q9⟩
  have V9 := hid_of (NX.out _ _ V8.out q9)
  clear x1 x2 x3 x4 x5 x6 q9 HCr HA HR HSy HC HT HS HRn HRm HSN HP HD HSt HNm HLs BOX
  have HN := hid_of (new_call w9)
  obtain ⟨base, hbase⟩ : ∃ base, base = w9.heap.size := ⟨_, rfl⟩
  rw [← hbase] at HN
  have HBS := hid_of hbase
  obtain ⟨b, hbd⟩ : ∃ b, b = base + 2 := ⟨_, rfl⟩
  rw [← hbd] at HN
  unfold ptr at HN
  clear hbase hbd
  go_wp2_with fail
  refine HN.out.mono ?_
  rintro e u1 ⟨rfl, k1, e1⟩
  have K1 := hid_of (show Has base b new u1 from k1)
  have U1 : Hid (Below base w9 u1) := e1
  clear k1 e1
  have C1 := hid_of (op_create (s := ⟨#[97]⟩) n1 K1.out rfl (by decide) (by decide))
  go_wp2_with fail
  refine C1.out.mono ?_
  rintro e u2 ⟨rfl, k2, e2⟩
  have K2 := hid_of k2
  have E2 := hid_of e2
  clear k2 e2 C1
  have C2 := hid_of (op_create (s := ⟨#[98]⟩) n2 K2.out rfl (by decide) (by decide))
  go_wp2_with fail
  refine C2.out.mono ?_
  rintro e u3 ⟨rfl, k3, e3⟩
  have K3 := hid_of k3
  have E3 := hid_of (E2.out.trans e3)
  clear k3 e3 C2
  have C3 := hid_of (op_names n3 K3.out rfl (by decide))
  go_wp2_with fail
  refine C3.out.mono ?_
  rintro e u4 ⟨rfl, k4, e4⟩
  have K4 := hid_of k4
  have E4 := hid_of (E3.out.trans e4)
  clear k4 e4 C3
  have NM : Hid (∀ W, Has base b dN W → Calls Try.prog 14 #[P0 b] W fun e w' => ∃ (g cap : Nat), e = .returned (.slice (some ⟨g, 0, none⟩) 2 cap) ∧ w'.ownsRow W.heap.size 9 1 (.slice (some ⟨g, 0, none⟩) 2 cap) 2 (AB.map encStr) ∧ Below W.heap.size W w') := by
    rintro W ⟨y, h⟩
    exact names_call base b y dN W h rfl (by decide)
  have LM : Hid (∀ W, Has base b dN W → Calls Try.prog 20 #[P0 b] W fun e w' => ∃ (g cap : Nat), e = .returned (.slice (some ⟨g, 0, none⟩) 2 cap) ∧ w'.ownsRow W.heap.size 9 1 (.slice (some ⟨g, 0, none⟩) 2 cap) 2 (AB.map encStr) ∧ Below W.heap.size W w') := by
    rintro W ⟨y, h⟩
    exact lasting_call base b y dN W h rfl (by decide)
  have KB : Hid (∀ W W', Has base b dN W → Below W.heap.size W W' → Has base b dN W') := fun W W' h hb => by
    obtain ⟨y, h⟩ := h
    exact ⟨y, h.below hb⟩
  go_wp2_with fail
  refine (NM.out _ K4.out).mono ?_
  rintro e u5 ⟨gx, cx, rfl, r5, b5⟩
  have R5 := hid_of (And.intro r5 b5)
  clear r5 b5
  have K5 := hid_of (KB.out _ _ K4.out R5.out.2)
  go_wp2_with fail
  refine (NM.out _ K5.out).mono ?_
  rintro e u6 ⟨gy, cy, rfl, r6, b6⟩
  have R6 := hid_of (And.intro r6 b6)
  clear r6 b6
  have K6 := hid_of (KB.out _ _ K5.out R6.out.2)
  go_wp2_with fail
  refine (LM.out _ K6.out).mono ?_
  rintro e u7 ⟨gp, cp, rfl, r7, b7⟩
  have R7 := hid_of (And.intro r7 b7)
  clear r7 b7
  have K7 := hid_of (KB.out _ _ K6.out R7.out.2)
  go_wp2_with fail
  refine (LM.out _ K7.out).mono ?_
  rintro e u8 ⟨gq, cq, rfl, r8, b8⟩
  have SP : Hid (Sp base b w9 (.slice (some ⟨gx, 0, none⟩) 2 cx) (.slice (some ⟨gp, 0, none⟩) 2 cp) 2 2 gx gp gy cy gq cq u8) :=
    sp_mk K4.out (U1.out.trans (E4.out.below (Nat.le_trans (Nat.le_of_eq HBS.out) U1.out.size))) R5.out.1 R5.out.2 R6.out.1 R6.out.2 R7.out.1 R7.out.2 r8 b8
  clear r8 b8
  obtain ⟨i0, hi, hz0, hz1, hz2⟩ := Append.parts Append.info9
  obtain ⟨⟨cX, sX⟩, fX, ⟨cP, sP⟩, fP, sp2⟩ := sp_spoil SP.out 0 1 (by decide) (by decide) (.string ⟨#[115, 112, 111, 105, 108, 116]⟩) (.string ⟨#[115, 112, 111, 105, 108, 116, 32, 116, 111, 111]⟩)
  obtain ⟨xs, hxr⟩ := sp2.xr
  have SP2 := hid_of sp2
  have hb2 : base ≤ u8.heap.size := by
    obtain ⟨y, hd⟩ := SP.out.dk
    exact hd.hb
  have HNW : ∀ (x : Value) (t : TypeId) (j : Nat) (u : Value), [x][j]? = some u → (((u8.setCell ⟨gx, 0, none⟩ (.string ⟨#[115, 112, 111, 105, 108, 116]⟩)).setCell ⟨gp, 1, none⟩ (.string ⟨#[115, 112, 111, 105, 108, 116, 32, 116, 111, 111]⟩)).alloc (.cells #[x] t)).cell? ((⟨u8.heap.size, 0, none⟩ : Addr).add j) = some u := by
    intro x t
    have h := cell_one_new ((u8.setCell ⟨gx, 0, none⟩ (.string ⟨#[115, 112, 111, 105, 108, 116]⟩)).setCell ⟨gp, 1, none⟩ (.string ⟨#[115, 112, 111, 105, 108, 116, 32, 116, 111, 111]⟩)) x t
    rw [size_set, size_set] at h
    exact h
  clear sp2 SP R5 R6 R7 K5 K6 K7
  go_wp2_with (first
    | (at_builtin; refine wpList_append_own_at _ rfl _ _ 43 rfl base 9 i0 (.string ⟨#[]⟩) 1 16 Try.underlying43 hi hz0 hz1 hz2 rfl (by decide) _ _ _ rfl (hxr.alloc _) ⟨u8.heap.size, 0, none⟩ 1 1 [.string ⟨#[98, 101, 104, 105, 110, 100]⟩] rfl rfl (HNW _ _) (by simp [Value.oneCell']) (by unfold maxLen; omega) (by omega) (by simp; omega) ?_; intro vx wx hownx hgx hnilx hatx; obtain ⟨gx1, spx⟩ := (SP2.out.alloc _).x hownx hgx hatx; obtain ⟨ps, hpr⟩ := spx.pr; have hbx : base ≤ wx.heap.size := (by obtain ⟨y, hd⟩ := spx.dk; exact hd.hb); have SPX := hid_of spx; clear spx hownx hgx hnilx hatx; go_frame)
    | (at_builtin; refine wpList_append_own_at _ rfl _ _ 43 rfl base 9 i0 (.string ⟨#[]⟩) 1 16 Try.underlying43 hi hz0 hz1 hz2 rfl (by decide) _ _ _ rfl (hpr.alloc _) _ 1 1 [.string ⟨#[98, 101, 104, 105, 110, 100]⟩] rfl rfl (cell_one_new _ _ _) (by simp [Value.oneCell']) (by unfold maxLen; omega) (by omega) (by simp; omega) ?_; intro vp wp hownp hgp hnilp hatp; obtain ⟨gp1, spp⟩ := (SPX.out.alloc _).p hownp hgp hatp; have SPP := hid_of spp; clear spp hownp hgp hnilp hatp; go_frame)
    | go_in)
  have HTX : Hid (∀ (W : World) (v u : Value), SR W v AB → SR W u AB → Calls Try.prog 19 #[v, u] W fun e w' => e = .returned (.bool true) ∧ Below W.heap.size W w') := by
    intro W v u hv hu
    refine (texts_call v u AB AB W hv hu (by decide)).mono ?_
    rintro e w' ⟨rfl, nn, rfl⟩
    exact ⟨rfl, rfl, rfl, rfl, Nat.le_refl _, fun _ _ => rfl⟩
  have HAW := hid_of awake_call
  have BW : Hid (Below w.heap.size w w9) := B0.out.trans (V9.out.mono B0.out.size)
  have BS9 : Hid (w.heap.size ≤ base) := by rw [HBS.out]; exact BW.out.size
  clear SPX HNW hxr hpr sX fX sP fP hb2 hbx SP2 K1 K2 K3 K4 E2 E3 E4 U1 V0 V1 V2 V3 V4 V5 V6 V7 V8 HN
  go_loopg [15, 11, 13] 9 (fun g sk sx sp wr => ∃ (j : Nat) (gx2 gp2 : Nat), j ≤ 9 ∧ 9 ≤ j + g ∧ sk = .int .i64 j ∧ Hid (Sp base b w9 sx sp (3 + j) (3 + j) gx2 gp2 gy cy gq cq wr))
  case atStart => exact ⟨0, gx1, gp1, by omega, by omega, rfl, SPP⟩
  case round =>
    obtain ⟨j, gx2, gp2, hj, hg, rfl, S⟩ := hrel
    by_cases hlt : j < 9
    · obtain ⟨g', rfl⟩ : ∃ g', gk = g' + 1 := ⟨gk - 1, by omega⟩
      obtain ⟨xs2, hxr2⟩ := S.out.xr
      have hbr : base ≤ wr.heap.size := by
        obtain ⟨y, hd⟩ := S.out.dk
        exact hd.hb
      have gi : (j : Int) < 9 := by omega
      have ew : IntKind.i64.wrap ((j : Int) + 1) = (j : Int) + 1 := IntWalk.i64_in _ (by omega)
      go_wp2_with (first
        | (at_builtin; refine wpList_append_own_at _ rfl _ _ 43 rfl base 9 i0 (.string ⟨#[]⟩) 1 16 Try.underlying43 hi hz0 hz1 hz2 rfl (by decide) _ _ _ rfl (hxr2.alloc _) _ 1 1 [.string ⟨#[109, 111, 114, 101]⟩] rfl rfl (cell_one_new _ _ _) (by simp [Value.oneCell']) (by unfold maxLen; omega) (by omega) (by simp; omega) ?_; intro vx2 wx2 hownx hgx hnilx hatx; obtain ⟨gx3, spx⟩ := (S.out.alloc _).x hownx hgx hatx; obtain ⟨ps2, hpr2⟩ := spx.pr; have hbx : base ≤ wx2.heap.size := (by obtain ⟨y, hd⟩ := spx.dk; exact hd.hb); have SPX := hid_of spx; clear spx hownx hgx hnilx hatx; go_frame)
        | (at_builtin; refine wpList_append_own_at _ rfl _ _ 43 rfl base 9 i0 (.string ⟨#[]⟩) 1 16 Try.underlying43 hi hz0 hz1 hz2 rfl (by decide) _ _ _ rfl (hpr2.alloc _) _ 1 1 [.string ⟨#[109, 111, 114, 101]⟩] rfl rfl (cell_one_new _ _ _) (by simp [Value.oneCell']) (by unfold maxLen; omega) (by omega) (by simp; omega) ?_; intro vp2 wp2 hownp hgp hnilp hatp; obtain ⟨gp3, spp⟩ := (SPX.out.alloc _).p hownp hgp hatp; have SPP2 := hid_of spp; clear spp hownp hgp hnilp hatp; go_frame)
        | go_in)
      go_roundg g'
      case measure => omega
      case rel => exact ⟨j + 1, _, _, by omega, by omega, by rw [show ((j + 1 : Nat) : Int) = (j : Int) + 1 from by omega], SPP2⟩
    · obtain rfl : j = 9 := by omega
      obtain ⟨W1, hW1⟩ : ∃ W1, W1 = wr.alloc (.cells #[.string ⟨#[97]⟩, .string ⟨#[98]⟩] 9) := ⟨_, rfl⟩
      have HX : Hid (∀ W, Below W1.heap.size W1 W → SR W (.slice (some ⟨gy, 0, none⟩) 2 cy) AB ∧ SR W (.slice (some ⟨gq, 0, none⟩) 2 cq) AB ∧ SR W (.slice (some ⟨wr.heap.size, 0, none⟩) 2 2) AB ∧ Has base b dN W ∧ Below w.heap.size w W) := by
        intro W hb
        have bb : Below wr.heap.size wr W := by
          have : Below wr.heap.size wr W1 := by rw [hW1]; exact (Below.refl _ wr).alloc (Nat.le_refl _) _
          exact this.trans (hb.mono this.size)
        have S2 := S.out.below bb
        refine ⟨sr_row S2.yr, sr_row S2.qr, ⟨_, _, rfl, Or.inr ⟨wr.heap.size, 0, rfl, fun k hk => ?_⟩⟩, S2.dk, BW.out.trans (S2.bel.mono BS9.out)⟩
        have h1 : W.heap[wr.heap.size]? = some (.cells #[.string ⟨#[97]⟩, .string ⟨#[98]⟩] 9 (0, 0)) := by
          have h2 : W1.heap[wr.heap.size]? = some (.cells #[.string ⟨#[97]⟩, .string ⟨#[98]⟩] 9 (0, 0)) := by rw [hW1]; exact heap_alloc_new wr _
          exact (hb.block _ (lt_of h2)).trans h2
        rw [Nat.zero_add, Lib.cell_of_heap h1 k]
        match k, hk with
        | 0, _ => rfl
        | 1, _ => rfl
      have NY : Hid (∀ W W', Below W1.heap.size W1 W → Below W.heap.size W W' → Below W1.heap.size W1 W') := fun W W' h1 h2 => h1.trans (h2.mono h1.size)
      have Y0 : Hid (Below W1.heap.size W1 W1) := Below.refl _ _
      go_wp2_with fail
      rw [← hW1]
      refine (HTX.out _ _ _ (HX.out _ Y0.out).1 (HX.out _ Y0.out).2.2.1).mono ?_
      rintro e z1 ⟨rfl, y1⟩
      have Y1 := hid_of y1
      clear y1
      go_wp2_with fail
      refine (HTX.out _ _ _ (HX.out _ Y1.out).2.1 (HX.out _ Y1.out).2.2.1).mono ?_
      rintro e z2 ⟨rfl, y2⟩
      have Y2 := hid_of (NY.out _ _ Y1.out y2)
      clear y2
      go_wp2_with fail
      refine (NM.out _ (HX.out _ Y2.out).2.2.2.1).mono ?_
      rintro e z3 ⟨g3, c3, rfl, r3, y3⟩
      have Y3 := hid_of (NY.out _ _ Y2.out y3)
      have R3 := hid_of (sr_row (l := AB) r3)
      clear y3 r3
      go_wp2_with fail
      refine (HTX.out _ _ _ R3.out (HX.out _ Y3.out).2.2.1).mono ?_
      rintro e z4 ⟨rfl, y4⟩
      have Y4 := hid_of (NY.out _ _ Y3.out y4)
      clear y4
      go_wp2_with fail
      refine (LM.out _ (HX.out _ Y4.out).2.2.2.1).mono ?_
      rintro e z5 ⟨g5, c5, rfl, r5, y5⟩
      have Y5 := hid_of (NY.out _ _ Y4.out y5)
      have R5 := hid_of (sr_row (l := AB) r5)
      clear y5 r5
      go_wp2_with fail
      refine (HTX.out _ _ _ R5.out (HX.out _ Y5.out).2.2.1).mono ?_
      rintro e z6 ⟨rfl, y6⟩
      have Y6 := hid_of (NY.out _ _ Y5.out y6)
      clear y6
      go_wp2_with fail
      refine (HAW.out _).mono ?_
      rintro e z7 ⟨rfl, y7⟩
      have Y7 := hid_of (NY.out _ _ Y6.out y7)
      clear y7
      go_wp2_with fail
      go_ret
      exact ⟨rfl, (HX.out _ Y7.out).2.2.2.2⟩
end Go.Proofs.Ytilbffbmpgebmaa.None3
