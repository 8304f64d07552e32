/- RequestPieces, walked: in whatever pieces a stream comes, it says the same. -/
import Derived.Test.YtfkilbhhpipjbabGreatDoorPieceM
namespace Go.Proofs.YtfkilbhhpipjbabGreatDoor.Pieces
open Go.RowKit
open Go.Proofs.YtfkilbhhpipjbabGreatDoor.TextMath
open Go.Proofs.YtfkilbhhpipjbabGreatDoor.ReqMath
open Go.Proofs.YtfkilbhhpipjbabGreatDoor.Base
open Go.Proofs.YtfkilbhhpipjbabGreatDoor.Small
open Go.Proofs.YtfkilbhhpipjbabGreatDoor.Append
open Go.Proofs.YtfkilbhhpipjbabGreatDoor.Bulk
open Go.Proofs.YtfkilbhhpipjbabGreatDoor.Bulk2
open Go.Proofs.YtfkilbhhpipjbabGreatDoor.BulkAny
open Go.Proofs.YtfkilbhhpipjbabGreatDoor.SplitC
open Go.Proofs.YtfkilbhhpipjbabGreatDoor.Typed
open Go.Proofs.YtfkilbhhpipjbabGreatDoor.Pend
open Go.Proofs.YtfkilbhhpipjbabGreatDoor.Next
open Go.Proofs.YtfkilbhhpipjbabGreatDoor.Feed
open Go.Proofs.YtfkilbhhpipjbabGreatDoor.Whole
open Go.Proofs.YtfkilbhhpipjbabGreatDoor.Lists
open Go.Proofs.YtfkilbhhpipjbabGreatDoor.Sure
open Go.Proofs.YtfkilbhhpipjbabGreatDoor.Double2
open Go.Proofs.YtfkilbhhpipjbabGreatDoor.Begins
open Go.Proofs.YtfkilbhhpipjbabGreatDoor.PieceM
set_option linter.unusedVariables false

set_option maxHeartbeats 4000000 in
set_option maxRecDepth 100000 in
theorem pieces_yes (L : Lim) (h : okB L.bulk L.args L.line = true) (v : Value) (ps : List (List UInt8)) (w : World) (hh : Has w) (hv : SR w v ps) (hsum : (ps.map (fun x => x.length + 1)).sum ≤ 1048576) :
    Calls Tryz.prog 3 #[limV L, v] w fun e w' => e = .returned (.bool true) ∧ Below w.heap.size w w' := by
  have hL := lok_of h
  obtain ⟨a, c, rfl, hv⟩ := hv
  have hflat := Nat.le_trans (flat_le ps) hsum
  have hlen := Nat.le_trans (len_le ps) hsum
  obtain ⟨w0, hw0⟩ : ∃ w0, w0 = w.alloc (.cells #[.int .i64 L.bulk, .int .i64 L.args, .int .i64 L.line] 23) := ⟨_, rfl⟩
  have B0 : Hid (Below w.heap.size w w0) := by rw [hw0]; exact (Below.refl _ w).alloc (Nat.le_refl _) _
  have HH : Hid (Has w0) := hh.later B0.out
  have BX : Hid (∀ W, Below w0.heap.size w0 W → W.cell? ⟨w.heap.size, 0, none⟩ = some (.int .i64 L.bulk) ∧ W.cell? ⟨w.heap.size, 1, none⟩ = some (.int .i64 L.args) ∧ W.cell? ⟨w.heap.size, 2, none⟩ = some (.int .i64 L.line)) := by
    intro W hW
    have hx : w0.heap[w.heap.size]? = some (.cells #[.int .i64 L.bulk, .int .i64 L.args, .int .i64 L.line] 23 (0, 0)) := by rw [hw0]; exact heap_alloc_new w _
    have hy := (hW.block w.heap.size (lt_of hx)).trans hx
    exact ⟨Lib.cell_of_heap hy 0, Lib.cell_of_heap hy 1, Lib.cell_of_heap hy 2⟩
  have HV : Hid (∀ W, Below w0.heap.size w0 W → ∀ k (hk : k < ps.length), ∃ g o, a = some ⟨g, o, none⟩ ∧ W.cell? ⟨g, o + k, none⟩ = some (.string (mk (ps[k]'hk)))) := by
    intro W hW k hk
    rcases hv with e | ⟨g, o, e1, e2⟩
    · subst e; simp at hk
    · refine ⟨g, o, e1, ?_⟩
      have hc := e2 k hk
      have hc0 := cell_below B0.out _ _ hc
      exact cell_below hW _ _ hc0
  have HN := hid_of (fun w1 => new_ok L h w1)
  have HWh := hid_of (fun (s : ByteArray) (hs : s.size ≤ 67108864) w1 (h1 : Has w1) => whole_call L h s hs w1 h1 (Or.inr double_means))
  have HSu := hid_of (fun w2 (h2 : Has w2) => sure_call w2 h2)
  clear h hh hv
  unfold limV at *
  go_enter Tryz.func3, Tryz.ntmps3
  go_wp2_with fail
  rw [← hw0]
  refine (HN.out w0).mono ?_
  rintro e w1 ⟨b, rfl, hb, r1, b1⟩
  have B1 := hid_of b1
  have h8 : 8 ≤ b := by have := HH.out.size; omega
  have P1 : PS b L [] 0 (.slice none 0 0) (.slice none 0 0) w1 := ⟨⟨#[]⟩, 0, [], 0, 0, ⟨r1, BySl.nil _, World.ownsRow_nil _ _ _ _, Nat.le_refl _, rfl⟩, Nat.le_refl _, rfl, Or.inl ⟨rfl, rfl, rfl⟩, by simp⟩
  have LS1 : Hid (St w0 b L (upTo ps 0) (.slice none 0 0) w1) :=
    Or.inl ⟨0, .slice none 0 0, .slice none 0 0, [], ⟨P1, wg_nil (wa_nil _), fun g hg => (by cases hg), fun g hg => (by cases hg), fun g hg => (by cases hg), Nat.le_refl _, Nat.le_refl _, fun t => (by simp [upTo]), B1.out, hb⟩, next_more rfl⟩
  clear b1 r1 P1 hb
  go_wp2_with fail
  have HSZ := hid_of HH.out.size
  go_loopg [9, 7, 8] ps.length (fun g si ss sg wx => ∃ i : Nat, i ≤ ps.length ∧ ps.length ≤ i + g ∧ si = .int .i64 i ∧ ss = .string (mk (upTo ps i)) ∧ Hid (St w0 b L (upTo ps i) sg wx))
  case atStart => exact ⟨0, by omega, by omega, rfl, rfl, LS1⟩
  case round =>
    clear LS1 B1 HN
    obtain ⟨i, hi, hg, rfl, rfl, ST⟩ := hrel
    obtain ⟨wo, hwo⟩ : ∃ wo : World, wo = wr := ⟨_, rfl⟩
    subst hwo
    by_cases hlt : i < ps.length
    · obtain ⟨gO, rfl⟩ : ∃ gO, gk = gO + 1 := ⟨gk - 1, by omega⟩
      obtain ⟨ga, oa, rfl, c1⟩ := HV.out wo ST.out.wa.1 i hlt
      have hS := upTo_succ ps i hlt
      have hSl := upTo_le ps (i + 1)
      have hcat : mk (upTo ps i) ++ mk (ps[i]'hlt) = mk (upTo ps (i + 1)) := by rw [mk_cat, hS]
      have hl1 : (mk (upTo ps i)).size ≤ 1048576 := by rw [mk_size]; exact Nat.le_trans (upTo_le ps i) hflat
      have hl2 : (mk (ps[i]'hlt)).size ≤ 1048576 := by
        rw [mk_size]
        have := congrArg List.length hS
        rw [List.length_append] at this
        omega
      have HF := hid_of (feed_st ST.out (ps[i]'hlt) (by
        have := congrArg List.length hS
        rw [List.length_append] at this
        omega) HSZ.out)
      rw [← hS] at HF
      have gi : ((i : Int)) < (ps.length : Int) := by omega
      have ew : IntKind.i64.wrap ((i : Int) + 1) = (i : Int) + 1 := IntWalk.i64_in _ (by omega)
      have HSL := hid_of hSl
      obtain ⟨S, hSd⟩ : ∃ S, S = upTo ps (i + 1) := ⟨_, rfl⟩
      rw [← hSd] at HF hcat HSL
      have HSd := hid_of hSd
      clear ST hS hSl hSd
      generalize mk (upTo ps i) = X at hcat hl1
      generalize mk (ps[i]'hlt) = Y at hcat hl2 c1 HF
      go_wp2_with fail
      refine HF.out.mono ?_
      rintro e w2 ⟨rfl, st2⟩
      have ST2 := hid_of st2
      clear st2 HF c1 hcat hl1 hl2
      have HSz : Hid ((mk S).size = S.length) := mk_size S
      go_wp2_with fail
      go_loopg [8] S.length (fun g sg wx => Hid (St2 w0 b L S g sg wx))
      case atStart => exact ST2
      case round =>
        clear ST2
        have HR := hid_of (show St2 w0 b L S gk _ wr from hrel.out)
        clear hrel
        have HNx := hid_of (next_st hL HR.out (by have := HSL.out; omega) HH.out h8)
        go_wp2_with fail
        refine HNx.out.mono ?_
        intro e w3 hN
        rcases hN with ⟨x, hx, rfl, st⟩ | ⟨j, k, lv, reqs, ws, v, rfl, one, hgk⟩
        · have ST3 := hid_of st
          clear st HR HNx
          go_wp2_with fail
          go_roundg gO
          case measure => omega
          case rel => exact ⟨i + 1, by omega, by omega, by rw [show ((i + 1 : Nat) : Int) = (i : Int) + 1 from by omega], by rw [← HSd.out], by rw [← HSd.out]; exact ST3⟩
        · have HOne := hid_of one
          have hf : ∃ a n c, v = .slice a n c := by
            rcases ws_form one.row with ⟨h1, h2⟩ | ⟨g, cap, h1⟩
            · exact ⟨none, 0, 0, h1⟩
            · exact ⟨_, _, _, h1⟩
          obtain ⟨av, nv, cv, rfl⟩ := hf
          obtain ⟨us, o1, o2, o3⟩ := one.wa
          have HB3 : Hid (Below w3.heap.size w3 (w3.alloc (.cells #[.slice av nv cv] 24))) := (Below.refl _ w3).alloc (Nat.le_refl _) _
          have HO := hid_of (owns_below o1 HB3.out)
          have HO1 := hid_of (And.intro o1 (And.intro o2 o3))
          have HZ : Hid (8 ≤ (w3.alloc (.cells #[.slice av nv cv] 24)).heap.size) := Nat.le_trans HSZ.out (Nat.le_trans one.bel.size HB3.out.size)
          have HU : Hid ((w3.alloc (.cells #[.slice av nv cv] 24)).cell? ⟨w3.heap.size, 0, none⟩ = some (.slice av nv cv)) := World.cell?_alloc_new w3 #[.slice av nv cv] 24 0
          have hk0 := one.hk
          have hjk := one.hjk
          have hrl := one.rl
          have HXL : Hid (us.length + 1 ≤ 1000000000) := by show _ ≤ _; have := HSL.out; omega
          have gL : ¬ (((mk S).size : Int) < ((us.length + 1 : Nat) : Int)) := by rw [HSz.out]; omega
          clear one o1 o2 o3 HR HNx hrl
          go_wp2_with (at_builtin; refine wpl_one el24 rfl _ _ rfl _ us.length us (w3.alloc (.cells #[.slice av nv cv] 24)) ⟨w3.heap.size, 0, none⟩ 1 (.slice av nv cv) HO.out HZ.out rfl rfl HU.out rfl HXL.out ?_)
          intro v' w4 hap
          have ST4 := hid_of (HOne.out.app hgk HO1.out.1 HO1.out.2.1 HO1.out.2.2 hap)
          have hf' : ∃ a c, v' = .slice a (us.length + 1) c := by
            rcases hap.1.2 with ⟨_, h0⟩ | ⟨g, cap, cur, hv, _⟩
            · omega
            · exact ⟨_, _, hv⟩
          obtain ⟨a4, c4, rfl⟩ := hf'
          clear hap
          go_wp2_with fail
          go_roundg (gk - k)
          case measure => omega
          case rel => exact ST4
    · obtain rfl : i = ps.length := by omega
      have gi : ¬ ((ps.length : Int)) < (ps.length : Int) := by omega
      obtain ⟨hbel, j, wd, reqs, L', lv, k, wv, wanted, read, rb, wa, hw⟩ := ST.out.wa
      obtain ⟨S, hSd⟩ : ∃ S, S = upTo ps ps.length := ⟨_, rfl⟩
      have hSl : S.length ≤ 1048576 := by rw [hSd]; exact Nat.le_trans (upTo_le ps _) hflat
      rw [← hSd] at hw ⊢
      have HWc := hid_of (HWh.out (mk S) (by rw [mk_size]; omega) wo (HH.out.later hbel))
      rw [bs_mk, hw] at HWc
      obtain ⟨x0, x1, x2⟩ := BX.out wo hbel
      have HBe := hid_of hbel
      have HRB := hid_of rb
      have HWA := hid_of wa
      obtain ⟨ag, cg, hgv⟩ := wa_form wa
      subst hgv
      clear hSd hSl ST hbel rb wa hw HWh BX HV
      go_wp2_with fail
      refine HWc.out.mono ?_
      rintro e w5 ⟨v5, rfl, wa5, b5⟩
      have B5 := hid_of b5
      obtain ⟨a5, c5, hv5⟩ := wa_form wa5
      subst hv5
      have HAl : Hid (Calls Tryz.prog 11 #[.slice a5 reqs.length c5, .slice ag reqs.length cg] w5 fun e w' => e = .returned (.bool true) ∧ ∃ n, w' = w5.drewN n) := by
        refine (all_call _ _ reqs reqs w5 (ar_wa wa5) (ar_below (ar_wa HWA.out) b5) (wa_len wa5).1 (wa_len wa5).2).mono ?_
        rintro e w' ⟨rfl, hn⟩
        exact ⟨by rw [decide_eq_true rfl], hn⟩
      clear wa5 b5 x0 x1 x2
      go_wp2_with fail
      refine HAl.out.mono ?_
      rintro e w6 ⟨rfl, nn, rfl⟩
      have hd6 : Below w5.heap.size w5 (w5.drewN nn) := ⟨rfl, rfl, rfl, Nat.le_refl _, fun _ _ => rfl⟩
      have hr6 := rb_later (rb_later HRB.out B5.out) hd6
      have HFa := hid_of (fault_call b _ _ _ _ _ _ j _ (w5.drewN nn) hr6)
      have HUs := hid_of (used_call b _ _ _ _ _ _ j _ (w5.drewN nn) hr6)
      have B6 : Hid (Below w0.heap.size w0 (w5.drewN nn)) := HBe.out.trans ((B5.out.trans (hd6.mono B5.out.size)).mono HBe.out.size)
      have HSw := hid_of (HSu.out (w5.drewN nn) (HH.out.later B6.out))
      have e1 := str_same (mk wd)
      clear hd6 hr6 HAl
      go_wp2_with fail
      refine HFa.out.mono ?_
      rintro e w7 ⟨rfl, hw7⟩
      subst hw7
      go_wp2_with fail
      refine HUs.out.mono ?_
      rintro e w8 ⟨rfl, hw8⟩
      subst hw8
      go_wp2_with fail
      refine HSw.out.mono ?_
      rintro e w9 ⟨rfl, b9⟩
      have B9 : Hid (Below w.heap.size w w9) := B0.out.trans ((B6.out.trans (b9.mono B6.out.size)).mono B0.out.size)
      clear b9
      go_wp2_with fail
      go_ret
      exact ⟨rfl, B9.out⟩
set_option maxRecDepth 100000 in
set_option maxHeartbeats 1000000 in
theorem rcheck_no (x y z : Int) (h : okB x y z = false) (w : World) :
    Calls Tryz.prog 6 #[.agg #[.int .i64 x, .int .i64 y, .int .i64 z]] w fun e w' => e = .returned (.int .i64 40) ∧ Below w.heap.size w w' := by
  have h' := of_decide_eq_false h
  clear h
  by_cases a1 : 1 ≤ x
  · by_cases a2 : x ≤ 1048576
    · by_cases a3 : 1 ≤ y
      · by_cases a4 : y ≤ 65536
        · by_cases a5 : 32 ≤ z
          · have a6 : ¬ z ≤ 65536 := fun q => h' ⟨a1, a2, a3, a4, a5, q⟩
            clear h'
            go_enter Tryz.func6, Tryz.ntmps6
            go_wp2_with fail
            all_goals (go_ret; exact ⟨rfl, (Below.refl _ w).alloc (Nat.le_refl _) _⟩)
          · clear h'
            go_enter Tryz.func6, Tryz.ntmps6
            go_wp2_with fail
            all_goals (go_ret; exact ⟨rfl, (Below.refl _ w).alloc (Nat.le_refl _) _⟩)
        · clear h'
          go_enter Tryz.func6, Tryz.ntmps6
          go_wp2_with fail
          all_goals (go_ret; exact ⟨rfl, (Below.refl _ w).alloc (Nat.le_refl _) _⟩)
      · clear h'
        go_enter Tryz.func6, Tryz.ntmps6
        go_wp2_with fail
        all_goals (go_ret; exact ⟨rfl, (Below.refl _ w).alloc (Nat.le_refl _) _⟩)
    · clear h'
      go_enter Tryz.func6, Tryz.ntmps6
      go_wp2_with fail
      all_goals (go_ret; exact ⟨rfl, (Below.refl _ w).alloc (Nat.le_refl _) _⟩)
  · clear h'
    go_enter Tryz.func6, Tryz.ntmps6
    go_wp2_with fail
    all_goals (go_ret; exact ⟨rfl, (Below.refl _ w).alloc (Nat.le_refl _) _⟩)
set_option maxHeartbeats 2000000 in
set_option maxRecDepth 100000 in
theorem pieces_no (x y z : Int) (h : okB x y z = false) (a : Option Addr) (n c : Nat) (w : World) (hh : Has w) :
    Calls Tryz.prog 3 #[.agg #[.int .i64 x, .int .i64 y, .int .i64 z], .slice a n c] w fun e w' => e = .returned (.bool true) ∧ Below w.heap.size w w' := by
  have HN := hid_of (fun w1 => new_no x y z h w1)
  have HC := hid_of (fun w1 => rcheck_no x y z h w1)
  have HSu := hid_of (fun w2 (h2 : Has w2) => sure_call w2 h2)
  have HH := hid_of hh
  obtain ⟨w0, hw0⟩ : ∃ w0, w0 = w.alloc (.cells #[.int .i64 x, .int .i64 y, .int .i64 z] 23) := ⟨_, rfl⟩
  have B0 : Hid (Below w.heap.size w w0) := by rw [hw0]; exact (Below.refl _ w).alloc (Nat.le_refl _) _
  have BX : Hid (∀ W, Below w0.heap.size w0 W → W.cell? ⟨w.heap.size, 0, none⟩ = some (.int .i64 x) ∧ W.cell? ⟨w.heap.size, 1, none⟩ = some (.int .i64 y) ∧ W.cell? ⟨w.heap.size, 2, none⟩ = some (.int .i64 z)) := by
    intro W hW
    have hx : w0.heap[w.heap.size]? = some (.cells #[.int .i64 x, .int .i64 y, .int .i64 z] 23 (0, 0)) := by rw [hw0]; exact heap_alloc_new w _
    have hy := (hW.block w.heap.size (lt_of hx)).trans hx
    exact ⟨Lib.cell_of_heap hy 0, Lib.cell_of_heap hy 1, Lib.cell_of_heap hy 2⟩
  clear h hh
  go_enter Tryz.func3, Tryz.ntmps3
  go_wp2_with fail
  rw [← hw0]
  refine (HN.out w0).mono ?_
  rintro e w1 ⟨rfl, b1⟩
  obtain ⟨x0, x1, x2⟩ := BX.out w1 b1
  have B1 := hid_of (B0.out.trans (b1.mono B0.out.size))
  clear b1
  go_wp2_with fail
  refine (HC.out w1).mono ?_
  rintro e w2 ⟨rfl, b2⟩
  have B2 := hid_of (B1.out.trans (b2.mono B1.out.size))
  clear b2
  go_wp2_with fail
  refine (HSu.out w2 (HH.out.later B2.out)).mono ?_
  rintro e w3 ⟨rfl, b3⟩
  have B3 := hid_of (B2.out.trans (b3.mono B2.out.size))
  clear b3
  go_wp2_with fail
  go_ret
  exact ⟨rfl, B3.out⟩
end Go.Proofs.YtfkilbhhpipjbabGreatDoor.Pieces
