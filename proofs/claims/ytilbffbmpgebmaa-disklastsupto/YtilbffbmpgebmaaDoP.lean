/- Do at a plan. -/
import Derived.Test.YtilbffbmpgebmaaPlan3
import Derived.Test.YtilbffbmpgebmaaRefFault
import Derived.BigQuiet
namespace Go.Proofs.Ytilbffbmpgebmaa.DoP
open Go.RowKit Go.Maps
open Go.Proofs.Ytilbffbmpgebmaa.DiskMath
open Go.Proofs.Ytilbffbmpgebmaa.RefMath
open Go.Proofs.Ytilbffbmpgebmaa.Base
open Go.Proofs.Ytilbffbmpgebmaa.Small
open Go.Proofs.Ytilbffbmpgebmaa.File
open Go.Proofs.Ytilbffbmpgebmaa.File2
open Go.Proofs.Ytilbffbmpgebmaa.Append
open Go.Proofs.Ytilbffbmpgebmaa.Plan
open Go.Proofs.Ytilbffbmpgebmaa.Plan2
open Go.Proofs.Ytilbffbmpgebmaa.Plan3
open Go.Proofs.Ytilbffbmpgebmaa.RefBase
open Go.Proofs.Ytilbffbmpgebmaa.RefFiles
open Go.Proofs.Ytilbffbmpgebmaa.RefSet
open Go.Proofs.Ytilbffbmpgebmaa.Pair
set_option linter.unusedVariables false

theorem made_row (W0 : World) (v : Value) (l : List Ft) (h : FtSl (W0.alloc (.cells #[] 58)) v l) (hl : l.length ≤ 1048576) :
    ∃ a1 c1 w1 g cap w3 cur, (Builtin.append_ #[29, 29] 29 #[.slice (some ⟨W0.heap.size, 0, none⟩) 0 0, v]).run Try.prog (W0.alloc (.cells #[] 58)) = .ok (.slice a1 l.length c1) w1 ∧
      (Builtin.append_ #[29, 29] 29 #[.slice a1 l.length c1, .slice (some ⟨w1.heap.size, 0, none⟩) 1 1]).run Try.prog (w1.alloc (.cells #[.int .i64 77, .int .i64 0, .int .i64 0] 58)) = .ok (.slice (some ⟨g, 0, none⟩) (l.length + 1) cap) w3 ∧
      w3.heap[g]? = some (.cells cur 58 (0, 0)) ∧ W0.heap.size ≤ g ∧ l.length + 1 ≤ cap ∧ cap ≤ maxLen ∧ l.length * 3 + 3 ≤ cur.size ∧
      (∀ j (h : j < l.length), cur[j * 3]? = some (.int .i64 (l[j]'h).step) ∧ cur[j * 3 + 1]? = some (.int .i64 (l[j]'h).kind) ∧ cur[j * 3 + 2]? = some (.int .i64 (l[j]'h).n)) ∧ cur[l.length * 3]? = some (.int .i64 77) ∧ Below W0.heap.size W0 w3 := by
  obtain ⟨i, hi, hz0, hz1, hz2⟩ := parts info58
  obtain ⟨a1, c1, w1, hr1, ho1, hb1⟩ := append_ft W0.heap.size (W0.alloc (.cells #[] 58)) v l W0.heap.size h hl (heap_alloc_new W0 _) (Nat.le_refl _)
  have hA : Below W0.heap.size W0 (W0.alloc (.cells #[] 58)) := (Below.refl _ W0).alloc (Nat.le_refl _) _
  have hB : Below W0.heap.size W0 w1 := hA.trans (hb1.mono hA.size)
  have hC : Below W0.heap.size W0 (w1.alloc (.cells #[.int .i64 77, .int .i64 0, .int .i64 0] 58)) := hB.alloc hB.size _
  have hnews : ∀ j u, [Value.int .i64 77, .int .i64 0, .int .i64 0][j]? = some u → (w1.alloc (.cells #[.int .i64 77, .int .i64 0, .int .i64 0] 58)).cell? ((⟨w1.heap.size, 0, none⟩ : Addr).add j) = some u := by
    intro j u hj
    rw [Addr.add_lit, Nat.zero_add, Lib.cell_of_heap (heap_alloc_new w1 _) j]
    simpa using hj
  obtain ⟨v', w3, hr, ho, hg, _⟩ := run_append_own (P := Try.prog) (w := w1.alloc (.cells #[.int .i64 77, .int .i64 0, .int .i64 0] 58)) W0.heap.size 29 29 58 i _ 3 24 Try.underlying29 hi hz0 hz1 hz2 rfl (by decide) _ l.length _ (ho1.alloc _) ⟨w1.heap.size, 0, none⟩ 1 1 [.int .i64 77, .int .i64 0, .int .i64 0] rfl hnews (fun u hu => by simp only [List.mem_cons, List.not_mem_nil, or_false] at hu; rcases hu with rfl | rfl | rfl <;> rfl) (by unfold maxLen; omega) (by omega) hC.size
  rcases ho.2 with ⟨_, h0⟩ | ⟨g, cap, cur, rfl, hbg, hh, hc1, hc2, hc3, hc4⟩
  · omega
  · have hcur : ∀ j, j < (l.length + 1) * 3 → cur[j]? = (l.flatMap ftCells ++ [.int .i64 77, .int .i64 0, .int .i64 0])[j]? := fun j hj => by
      rw [← hc4, List.getElem?_take, if_pos hj]
      simp
    refine ⟨a1, c1, w1, g, cap, w3, cur, hr1, hr, hh, hbg, hc1, hc2, by rw [hc3]; omega, fun j hj => ?_, ?_, hC.grown hg hC.size (fun k hk => (ho1.lt k hk).1)⟩
    · have e : ∀ m, m < 3 → cur[j * 3 + m]? = (l.flatMap ftCells)[j * 3 + m]? := fun m hm => by
        rw [hcur _ (by omega), List.getElem?_append_left (by rw [Plan2.flat_len]; omega)]
      obtain ⟨d0, d1, d2⟩ := flat_at l j hj
      exact ⟨(e 0 (by omega)).trans d0, (e 1 (by omega)).trans d1, (e 2 (by omega)).trans d2⟩
    · rw [hcur _ (by omega), List.getElem?_append_right (by rw [Plan2.flat_len]; exact Nat.le_refl _), Plan2.flat_len, Nat.sub_self]
      rfl
structure Lp (base b bd : Nat) (y : Lay) (D : Dk) (r : Rl) (d : Dk) (w : World) (cs : Array Value) (g : Nat) (l : List Ft) (k : Nat) (W : World) : Prop where
  dk : DK base b y D W
  rd : RD base bd r d W
  bx : Bx w cs W
  bel : Below base w W
  pn : PNot y D g
  rn : r.pv.ownBlock ≠ some g
  gb : base ≤ g
  gne : w.heap.size ≠ g
  row : ∃ cur, W.heap[g]? = some (.cells cur 58 (0, 0)) ∧ l.length * 3 + 3 ≤ cur.size ∧ ∀ j (h : j < l.length), k ≤ j → cur[j * 3]? = some (.int .i64 (l[j]'h).step) ∧ cur[j * 3 + 1]? = some (.int .i64 (l[j]'h).kind) ∧ cur[j * 3 + 2]? = some (.int .i64 (l[j]'h).n)
variable {base b bd : Nat} {y : Lay} {D : Dk} {r : Rl} {d : Dk} {w : World} {cs : Array Value} {g : Nat} {l : List Ft} {k : Nat} {W : World}
theorem Lp.drewN (h : Lp base b bd y D r d w cs g l k W) (m : Nat) : Lp base b bd y D r d w cs g l k (W.drewN m) := by
  have hb : Below W.heap.size W (W.drewN m) := ⟨rfl, rfl, rfl, Nat.le_refl _, fun _ _ => rfl⟩
  exact ⟨h.dk.below hb, h.rd.below hb, ⟨h.bx.blk⟩, ⟨h.bel.os, h.bel.tape, h.bel.output, h.bel.size, h.bel.block⟩, h.pn, h.rn, h.gb, h.gne, h.row⟩
theorem Lp.step (h : Lp base b bd y D r d w cs g l k W) (hk : k < l.length) (x0 x1 x2 : Value) : Lp base b bd y D r d w cs g l (k + 1) (((W.setCell ⟨g, k * 3, none⟩ x0).setCell ⟨g, k * 3 + 1, none⟩ x1).setCell ⟨g, k * 3 + 2, none⟩ x2) := by
  obtain ⟨cur, hh, hs, hc⟩ := h.row
  have hkk : ∀ j, j < W.heap.size → j ≠ g → (((W.setCell ⟨g, k * 3, none⟩ x0).setCell ⟨g, k * 3 + 1, none⟩ x1).setCell ⟨g, k * 3 + 2, none⟩ x2).heap[j]? = W.heap[j]? := fun j _ hj => by rw [set_ne hj, set_ne hj, set_ne hj]
  have hsz : W.heap.size ≤ (((W.setCell ⟨g, k * 3, none⟩ x0).setCell ⟨g, k * 3 + 1, none⟩ x1).setCell ⟨g, k * 3 + 2, none⟩ x2).heap.size := by rw [size_set, size_set, size_set]; exact Nat.le_refl _
  refine ⟨dk_rows h.dk h.pn (kd_cells hh) hkk hsz, rd_rows h.rd h.rn (kd_cells hh) hkk hsz, ⟨(hkk _ (lt_of h.bx.blk) h.gne).trans h.bx.blk⟩, ((h.bel.setCell h.gb _).setCell h.gb _).setCell h.gb _, h.pn, h.rn, h.gb, h.gne, _, set_at (set_at (set_at hh _) _) _, by simp; omega, fun j hj hkj => ?_⟩
  have e : ∀ m, m < 3 → (((cur.setIfInBounds (k * 3) x0).setIfInBounds (k * 3 + 1) x1).setIfInBounds (k * 3 + 2) x2)[j * 3 + m]? = cur[j * 3 + m]? := fun m hm => by
    rw [Array.getElem?_setIfInBounds_ne (by omega), Array.getElem?_setIfInBounds_ne (by omega), Array.getElem?_setIfInBounds_ne (by omega)]
  obtain ⟨d0, d1, d2⟩ := hc j hj (by omega)
  exact ⟨(e 0 (by omega)).trans d0, (e 1 (by omega)).trans d1, (e 2 (by omega)).trans d2⟩
theorem Lp.cells (h : Lp base b bd y D r d w cs g l k W) (hk : k < l.length) : W.cell? ⟨g, k * 3, none⟩ = some (.int .i64 (l[k]'hk).step) ∧ W.cell? ⟨g, k * 3 + 1, none⟩ = some (.int .i64 (l[k]'hk).kind) ∧ W.cell? ⟨g, k * 3 + 2, none⟩ = some (.int .i64 (l[k]'hk).n) ∧ W.frozen? ⟨g, k * 3, none⟩ = false ∧ W.frozen? ⟨g, k * 3 + 1, none⟩ = false ∧ W.frozen? ⟨g, k * 3 + 2, none⟩ = false := by
  obtain ⟨cur, hh, hs, hc⟩ := h.row
  obtain ⟨d0, d1, d2⟩ := hc k hk (Nat.le_refl _)
  exact ⟨(Lib.cell_of_heap hh _).trans d0, (Lib.cell_of_heap hh _).trans d1, (Lib.cell_of_heap hh _).trans d2, Lib.frozen_of_heap hh _, Lib.frozen_of_heap hh _, Lib.frozen_of_heap hh _⟩
set_option maxHeartbeats 4000000 in
set_option maxRecDepth 100000 in
theorem do_plan (base b bd : Nat) (d : Dk) (n T : Nat) (A B : ByteArray) (N : Int) (fa : Option Addr) (fn fc : Nat) (cn : Int) (ba : Option Addr) (bn bc : Nat) (l : List Ft) (w : World) (hp : Pr base b bd d n T w) (hn : n < 1000000000) (hl : l.length ≤ 1048576)
    (hw : ∀ f ∈ l, -9223372036854775808 ≤ f.step ∧ f.step ≤ 9223372036854775807 ∧ f.n ≤ 9223372036854775807)
    (hF : ∀ W, Below base w W → FtSl W (.slice fa fn fc) l) :
    Calls Try.prog 10 #[ptr b, ptr bd, .agg #[.int .i64 7, .string A, .string B, .int .i64 N, .slice fa fn fc, .int .i64 cn, .slice ba bn bc]] w fun e w' => e = .returned (.bool true) ∧ Pr base b bd (setS d l).1 (n + 1) T w' ∧ Below base w w' := by
  obtain ⟨CS, hCS⟩ : ∃ CS : Array Value, CS = #[.int .i64 7, .string A, .string B, .int .i64 N, .slice fa fn fc, .int .i64 cn, .slice ba bn bc] := ⟨_, rfl⟩
  obtain ⟨W0, hW0⟩ : ∃ W0, W0 = w.alloc (.cells #[.int .i64 7, .string A, .string B, .int .i64 N, .slice fa fn fc, .int .i64 cn, .slice ba bn bc] 38) := ⟨_, rfl⟩
  have hsz0 : W0.heap.size = w.heap.size + 1 := by rw [hW0]; exact Array.size_push _
  have b0 : Below w.heap.size w W0 := by rw [hW0]; exact (Below.refl _ w).alloc (Nat.le_refl _) _
  have bx0 : Bx w CS W0 := ⟨by rw [hW0, hCS]; exact heap_alloc_new w _⟩
  have hB0 : Below base w W0 := b0.mono hp.hb
  have hbW : base ≤ W0.heap.size := Nat.le_trans hp.hb b0.size
  have IV : Hid (Iv (setS d l).1 (n + 1) T) := hp.iv.set _
  have bA : Below W0.heap.size W0 (W0.alloc (.cells #[] 58)) := (Below.refl _ W0).alloc (Nat.le_refl _) _
  obtain ⟨a1, c1, w1, g, cap, w3, cur, hr1, hr3, hh, hg, hc1, hc2, hcs, hcc, hc77, hb3⟩ := made_row W0 (.slice fa fn fc) l (hF _ (hB0.trans (bA.mono hbW))) hl
  have hfn : fn = l.length := by
    obtain ⟨a, c, e, _⟩ := hF w (Below.refl _ _)
    injection e
  obtain ⟨y, hy⟩ := hp.dk
  obtain ⟨r, hr⟩ := hp.rd
  have hB3 : Below w.heap.size w w3 := b0.trans (hb3.mono b0.size)
  have hB3' : Below base w w3 := hB3.mono hp.hb
  have hv3 : FtSl w3 (.slice (some ⟨g, 0, none⟩) fn cap) l := ⟨_, _, by rw [hfn], Or.inr ⟨g, 0, rfl, fun j hj => by
    obtain ⟨d0, d1, d2⟩ := hcc j hj
    rw [Nat.zero_add]
    exact ⟨(Lib.cell_of_heap hh _).trans d0, (Lib.cell_of_heap hh _).trans d1, (Lib.cell_of_heap hh _).trans d2⟩⟩⟩
  have HP := hid_of (plan2_call base b y d w3 (hy.below hB3) _ l hv3 hw)
  have hgw : w.heap.size ≤ g := by omega
  have HL : Hid (∀ y' W, DK base b y' (setS d l).1 W → (∀ g, g < w3.heap.size → PNot y d g → PNot y' (setS d l).1 g) → Ev DT base w3 W → Lp base b bd y' (setS d l).1 r d w CS g l 0 W ∧ W.cell? ⟨g, fn * 3, none⟩ = some (.int .i64 77)) := by
    intro y' W hd hpn ev
    have hgW : W.heap[g]? = some (.cells cur 58 (0, 0)) := (ev.block g (lt_of hh) (Or.inr (by rw [kd_cells hh]; rfl))).trans hh
    refine ⟨⟨hd, (hr.below hB3).code ev, (bx0.ev (Ev.of_below (T := DT) (base := base) hb3) rfl).ev ev rfl, hB3'.trans (ev.below (Nat.le_trans hp.hb hB3.size)), hpn g (lt_of hh) (pnot_new hy hgw), rnot_new hr hgw, by have := hp.hb; omega, by omega, cur, hgW, hcs, fun j hj _ => hcc j hj⟩, ?_⟩
    rw [Lib.cell_of_heap hgW, hfn]
    exact hc77
  have HS := hid_of (fun (W : World) (hW : RD base bd r d W) (hB : Below base w W) => rset_call base bd r d (.slice fa fn fc) l W hW (hF W hB) hl)
  have HBx : Hid (∀ W, Bx w CS W → W.cell? ⟨w.heap.size, 4, none⟩ = some (.slice fa fn fc)) := fun W h => by rw [h.cell 4, hCS]; rfl
  have p4 : w3.cell? ⟨w.heap.size, 4, none⟩ = some (.slice fa fn fc) := HBx.out _ (bx0.ev (Ev.of_below (T := DT) (base := base) hb3) rfl)
  have p40 : W0.cell? ⟨w.heap.size, 4, none⟩ = some (.slice fa fn fc) := HBx.out _ bx0
  have p4a : (W0.alloc (.cells #[] 58)).cell? ⟨w.heap.size, 4, none⟩ = some (.slice fa fn fc) := HBx.out _ (bx0.ev (Ev.of_below (T := DT) (base := base) bA) rfl)
  have p00 : W0.cell? ⟨w.heap.size, 0, none⟩ = some (.int .i64 7) := by rw [bx0.cell 0, hCS]; rfl
  have HF := hid_of hF
  have HFN := hid_of hfn
  rw [← hfn] at hr1 hr3 hc1 hl
  have hcI : ((fn : Nat) : Int) ≤ ((cap : Nat) : Int) := by omega
  have he := int_same (setS d l).2
  clear hCS
  unfold ptr at *
  clear hp b0 hB0 bA hh hcs hcc hc77 hb3 hy hr hB3 hB3' hv3 hgw hw hF bx0 hbW hg hfn hsz0
  go_enter Try.func10, Try.ntmps10
  go_wp2_with (first
    | (rw [← hW0]; clear hW0)
    | (at_builtin; refine wpl_eq rfl _ _ 29 29 rfl (.slice (some ⟨W0.heap.size, 0, none⟩) 0 0) (.slice fa fn fc) (.slice a1 fn c1) (W0.alloc (.cells #[] 58)) w1 rfl rfl hr1 ?_)
    | (at_builtin; refine wpl_eq rfl _ _ 29 29 rfl (.slice a1 fn c1) (.slice (some ⟨w1.heap.size, 0, none⟩) 1 1) (.slice (some ⟨g, 0, none⟩) (fn + 1) cap) (w1.alloc (.cells #[.int .i64 77, .int .i64 0, .int .i64 0] 58)) w3 rfl rfl hr3 ?_))
  refine HP.out.mono ?_
  rintro e w4 ⟨rfl, ⟨y4, hd4, hpn4⟩, ev4⟩
  obtain ⟨lp4, q77⟩ := HL.out y4 w4 hd4 hpn4 ev4
  have LP4 := hid_of lp4
  have p44 : w4.cell? ⟨w.heap.size, 4, none⟩ = some (.slice fa fn fc) := HBx.out _ lp4.bx
  clear hd4 hpn4 ev4 lp4 HP HL hr1 hr3 p4 p40 p4a p00
  go_wp2_with fail
  go_loopg [14, 13] fn (fun gg si ss wx => ∃ (k : Nat), k ≤ fn ∧ fn ≤ k + gg ∧ si = .int .i64 k ∧ ss = .bool true ∧ Hid (Lp base b bd y4 (setS d l).1 r d w CS g l k wx))
  case atStart => exact ⟨0, by omega, by omega, rfl, rfl, LP4⟩
  case round =>
    obtain ⟨k, hk, hg, rfl, rfl, L⟩ := hrel
    have p4r : wr.cell? ⟨w.heap.size, 4, none⟩ = some (.slice fa fn fc) := HBx.out _ L.out.bx
    by_cases hlt : k < fn
    · obtain ⟨g', rfl⟩ : ∃ g', gk = g' + 1 := ⟨gk - 1, by omega⟩
      have hltl : k < l.length := by rw [← HFN.out]; exact hlt
      obtain ⟨x0, x1, x2, f0, f1, f2⟩ := L.out.cells hltl
      obtain ⟨gi, oi, hfa, hci⟩ : ∃ gi oi, fa = some ⟨gi, oi, none⟩ ∧ ∀ k (h : k < l.length), wr.cell? ⟨gi, oi + k * 3, none⟩ = some (.int .i64 (l[k]'h).step) ∧ wr.cell? ⟨gi, oi + k * 3 + 1, none⟩ = some (.int .i64 (l[k]'h).kind) ∧ wr.cell? ⟨gi, oi + k * 3 + 2, none⟩ = some (.int .i64 (l[k]'h).n) := by
        obtain ⟨a', c', e, hq⟩ := HF.out wr L.out.bel
        injection e with e1 e2 e3
        subst e1
        rcases hq with h | h
        · subst h; cases hltl
        · exact h
      obtain ⟨v0, v1, v2⟩ := hci k hltl
      obtain ⟨f, hf⟩ : ∃ f, f = l[k] := ⟨_, rfl⟩
      rw [← hf] at x0 x1 x2 v0 v1 v2
      have LS := hid_of (fun m => (L.out.drewN m).step hltl (.int .i64 1099511627776) (.int .i64 3) (.int .i64 0))
      have ew : IntKind.i64.wrap ((k : Int) + 1) = (k : Int) + 1 := IntWalk.i64_in _ (by omega)
      have gk1 : (k : Int) < (fn : Int) := by omega
      have s1 := int_same f.step
      have s2 := int_same f.kind
      have s3 := int_same f.n
      clear hci hf L LP4 hltl
      subst hfa
      go_wp2_with fail
      go_quiet (fail)
      go_wp2_with fail
      go_roundg g'
      case measure => omega
      case rel => exact ⟨k + 1, by omega, by omega, by rw [show ((k + 1 : Nat) : Int) = (k : Int) + 1 from by omega], rfl, LS.out _⟩
    · obtain rfl : k = fn := by omega
      have gk1 : ¬ (k : Int) < (k : Int) := by omega
      go_wp2_with fail
      refine (HS.out _ L.out.rd L.out.bel).mono ?_
      rintro e w5 ⟨rfl, h5, ev5⟩
      have FIN : Hid (Pr base b bd (setS d l).1 (n + 1) T w5 ∧ Below base w w5) := ⟨⟨has_doc ⟨_, L.out.dk⟩ ev5, h5, IV.out⟩, L.out.bel.trans (ev5.below L.out.dk.hb)⟩
      clear h5 ev5
      go_wp2_with fail
      go_ret
      exact ⟨rfl, FIN.out.1, FIN.out.2⟩
end Go.Proofs.Ytilbffbmpgebmaa.DoP
