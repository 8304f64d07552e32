/- The law TableWays. -/
import Derived.Test.YtgmnmcaclpfknaaWaysP
import Derived.Test.YtgmnmcaclpfknaaRegOne
import Derived.Test.YtgmnmcaclpfknaaRegMany
import Derived.Deep.DeepCutAuto
namespace Go.Proofs.Ytgmnmcaclpfknaa.LawW
open Go.RowKit
open Go.Proofs.Ytgmnmcaclpfknaa.Tab
open Go.Proofs.Ytgmnmcaclpfknaa.Base
open Go.Proofs.Ytgmnmcaclpfknaa.Low
open Go.Proofs.Ytgmnmcaclpfknaa.FindP (noSc str_yes str_no)
open Go.Proofs.Ytgmnmcaclpfknaa.RFind (doc_cells)
open Go.Proofs.Ytgmnmcaclpfknaa.RowOf
open Go.Proofs.Ytgmnmcaclpfknaa.Chk
open Go.Proofs.Ytgmnmcaclpfknaa.Keys
open Go.Proofs.Ytgmnmcaclpfknaa.Laws
open Go.Proofs.Ytgmnmcaclpfknaa.LawK (nr_set keys_len)
open Go.Proofs.Ytgmnmcaclpfknaa.Small
open Go.Proofs.Ytgmnmcaclpfknaa.WaysM
open Go.Proofs.Ytgmnmcaclpfknaa.WaysP
open Go.Proofs.Ytgmnmcaclpfknaa.RowsL (valS cellsS rows_call docCells)
attribute [local go_sem] Oper.semAt_some
set_option linter.unusedVariables false
set_option linter.unusedSimpArgs false
set_option maxHeartbeats 16000000 in
set_option maxRecDepth 100000 in
theorem ways_call {v : Value} {ws : List Tab.Bs} (at' : Int) (w : World) (h : SL (fun k => k < w.heap.size) w v ws) (hl : ws.length * 16 ≤ 140737488351232) (hb : ∀ x ∈ ws, x.length < 9223372036854775808) :
    Calls Try.prog 7 #[.int .i64 at', v] w fun e w' => e = .returned (.bool true) ∧ Below w.heap.size w w' := by
  obtain ⟨a, c, rfl, hc, hrd⟩ := h
  have HR := hid_of rows_call
  have HWs := hid_of (And.intro (show SL (fun k => k < w.heap.size) w (.slice a ws.length c) ws from ⟨a, c, rfl, hc, hrd⟩) hb)
  obtain ⟨L, HL⟩ : ∃ L, Hid (L = ws.length) := ⟨_, hid_of rfl⟩
  rw [← HL.out] at hl ⊢
  clear hc hrd hb
  go_enter Try.func7, Try.ntmps7
  go_wp2_with fail
  refine (HR.out w).mono ?_
  rintro e w1 ⟨rfl, hw1⟩
  have b1 : Below w.heap.size w w1 := by rw [hw1]; exact (Below.refl _ w).alloc (Nat.le_refl _) _
  have hd1 : w1.heap[w.heap.size]? = some (.cells docCells 23 (0, 0)) := by rw [hw1]; exact heap_alloc_new w _
  have H1 := hid_of (And.intro b1 hd1)
  obtain ⟨D, hD⟩ : ∃ D, D = w.heap.size := ⟨_, rfl⟩
  have HD := hid_of hD
  rw [← hD]
  clear b1 hd1 hw1 hD HR
  go_upto_if 17 with fail
  go_cut [0] (fun s0 wx => ∃ (A : Int) (M : Nat), s0 = .int .i64 A ∧ Hid (M < 118 ∧ A.tmod 118 = (M : Int) ∧ wx = w1))
  case first =>
    by_cases hng : at' < 0
    · go_wp2_with fail
      go_meet
      case rel => exact ⟨0, 0, rfl, hid_of ⟨by decide, by decide, rfl⟩⟩
    · go_wp2_with fail
      go_meet
      case rel =>
        refine ⟨at', at'.toNat % 118, rfl, hid_of ⟨Nat.mod_lt _ (by omega), ?_, rfl⟩⟩
        rw [Int.tmod_eq_emod_of_nonneg (by omega)]
        omega
  case rest =>
    obtain ⟨A, M, rfl, HM⟩ := hcut
    obtain ⟨hM, hMa, hwc⟩ := HM.out
    rw [hwc]
    clear hwc wc HM
    have hMl : M < docRows.length := by rw [doc_len]; exact hM
    have hM2 : (M : Int) < 118 := by omega
    have hMw : IntKind.i64.wrap (A.tmod 118) = (M : Int) := by rw [hMa]; exact IntWalk.i64_in _ (by omega)
    obtain ⟨r, hr⟩ : ∃ r, r = docRows[M] := ⟨_, rfl⟩
    have hrd : r ∈ docRows := by rw [hr]; exact List.getElem_mem _
    have hcl := doc_cells H1.out.2 M hMl
    rw [← hr, ← HD.out] at hcl
    obtain ⟨NM, hNM⟩ : ∃ NM, NM = mk r.name := ⟨_, rfl⟩
    obtain ⟨ar, har⟩ : ∃ ar, ar = r.arity := ⟨_, rfl⟩
    obtain ⟨fi, hfi⟩ : ∃ fi, fi = r.first := ⟨_, rfl⟩
    obtain ⟨n, hn⟩ : ∃ n, n = nOf r := ⟨_, rfl⟩
    have hn5 := n_pos hrd
    rw [← hn] at hn5
    have hok := ok_of (ok_r hrd)
    have har5 : -5 ≤ ar ∧ ar ≤ 5 := by rw [har]; exact ⟨hok.1, hok.2.1⟩
    have HNA : Hid ((if ar < 0 then -ar else ar) = (n : Int)) := hid_of (by rw [hn, har]; unfold nOf; split <;> omega)
    have wn : IntKind.i64.wrap (-ar) = -ar := IntWalk.i64_in _ (by omega)
    rw [← hNM, ← har, ← hfi] at hcl
    obtain ⟨x0, x1, x2, x3, x4, x5, x6⟩ := hcl
    obtain ⟨w2, hw2⟩ : ∃ w2, w2 = w1.alloc (.cells #[.string NM, .int .i64 ar, .bool r.wr, .bool r.ct, .int .i64 fi, .int .i64 r.last, .int .i64 r.step] 23) := ⟨_, rfl⟩
    obtain ⟨R, hR⟩ : ∃ R, R = w1.heap.size := ⟨_, rfl⟩
    have b2 : Below w.heap.size w w2 := by rw [hw2]; exact H1.out.1.alloc H1.out.1.size _
    have hbx2 : w2.heap[R]? = some (.cells (cellsS r).toArray 23 (0, 0)) := by
      rw [hw2, hR, show (cellsS r).toArray = #[.string NM, .int .i64 ar, .bool r.wr, .bool r.ct, .int .i64 fi, .int .i64 r.last, .int .i64 r.step] from by unfold cellsS; rw [hNM, har, hfi]]
      exact heap_alloc_new w1 _
    obtain ⟨cap, w3, hconv, hrow, hbel⟩ := conv_in r.name w2
    rw [← hNM] at hconv
    obtain ⟨P, hP⟩ : ∃ P, P = r.name.length := ⟨_, rfl⟩
    have hP32 : P ≤ 32 ∧ 0 < P := by rw [hP]; exact ⟨hok.2.2.2.2.2.2.2.2.2.1, hok.2.2.2.2.2.2.2.2.2.2⟩
    rw [← hP] at hconv
    obtain ⟨Bu, hBu⟩ : ∃ Bu, Bu = w2.heap.size := ⟨_, rfl⟩
    rw [← hBu] at hconv hrow
    have hW3 : Wy w R Bu (Bu + 1) r r.name w3 := by
      have s3 : Bu < w3.heap.size := by obtain ⟨C, N, q, _⟩ := hrow; exact lt_of q
      have l2 := lt_of hbx2
      exact ⟨b2.trans (hbel.mono b2.size), (hbel.block _ (lt_of hbx2)).trans hbx2, hrow, ⟨by omega, by omega, by have := b2.size; omega⟩, s3⟩
    have HW3 := hid_of hW3
    have HW2 := hid_of hw2
    have HBu := hid_of hBu
    have HB2 := hid_of b2.size
    have HRR := hid_of hR
    have y0 : w2.cell? ⟨R, 0, none⟩ = some (.string NM) := by rw [hNM]; exact Lib.cell_of_heap hbx2 0
    have y1 : w2.cell? ⟨R, 1, none⟩ = some (.int .i64 ar) := by rw [har]; exact Lib.cell_of_heap hbx2 1
    have HF := hid_of (And.intro hr (And.intro hrd (And.intro hNM (And.intro har (And.intro hfi (And.intro hn hP))))))
    clear b2 hbx2 hrow hbel hW3 hw2 hR hr hrd hNM har hfi hn hP hok hBu
    go_upto_if 28 with fail
    rw [← HW2.out, ← HRR.out]
    go_cut [7] (fun s7 wx => s7 = .int .i64 (n : Int) ∧ wx = w2)
    case first =>
      by_cases hneg : ar < 0
      · have nn : -ar = (n : Int) := by rw [← HNA.out, if_pos hneg]
        go_wp2_with fail
        go_meet
        case rel => exact ⟨rfl, rfl⟩
      · have nn : ar = (n : Int) := by rw [← HNA.out, if_neg hneg]
        go_wp2_with fail
        go_meet
        case rel => exact ⟨rfl, rfl⟩
    case rest =>
      obtain ⟨rfl, hwc⟩ := hcut
      rw [hwc]
      clear hwc wc x0 x1 x2 x3 x4 x5 x6
      go_wp2_with fail
      clear hconv
      go_loopg [9] 33 (fun gk s9 wx => ∃ j : Nat, 2 * j ≤ P + 1 ∧ 33 ≤ j + gk ∧ s9 = .int .i64 ((2 * j : Nat) : Int) ∧ Hid (Wy w R Bu (Bu + 1) r (upK r.name j) wx))
      case atStart => exact ⟨0, by omega, by omega, rfl, HW3⟩
      case round =>
        obtain ⟨j, hj, hgk, rfl, I⟩ := hrel
        obtain ⟨t, Ht⟩ : ∃ t : Nat, Hid (t = 2 * j) := ⟨_, hid_of rfl⟩
        rw [← Ht.out]
        by_cases hlt : t < P
        · obtain ⟨g', rfl⟩ : ∃ g', gk = g' + 1 := ⟨gk - 1, by omega⟩
          have hPl : P = r.name.length := HF.out.2.2.2.2.2.2
          have hll : t < r.name.length := by rw [← hPl]; exact hlt
          have hlu : t < (upK r.name j).length := by rw [upK_len]; exact hll
          have hc := I.out.up.cell t hlu
          have hf := I.out.up.frozen t hlu
          have hat : (upK r.name j)[t] = r.name[t] := by
            have := upK_at r.name j t (by rw [Ht.out]; exact Nat.le_refl _)
            rw [List.getElem?_eq_getElem hlu, List.getElem?_eq_getElem hll] at this
            exact Option.some.inj this
          rw [hat] at hc
          obtain ⟨ch, hch⟩ : ∃ ch, ch = r.name[t] := ⟨_, rfl⟩
          rw [← hch] at hc
          have w4 := sub32 ch
          have HX : Hid (Wy w R Bu (Bu + 1) r (upK r.name (j + 1)) (wr.setCell ⟨Bu, t, none⟩ (.int .u8 ((ch - 32).toNat : Int)))) := hid_of (by
            have e : upK r.name (j + 1) = (upK r.name j).set t (ch - 32) := by
              show (upK r.name j).set (2 * j) (r.name.getD (2 * j) 0 - 32) = _
              rw [← Ht.out, hch, List.getD_eq_getElem?_getD, List.getElem?_eq_getElem hll]
              rfl
            have hne : R ≠ Bu := by
              rintro rfl
              have h1 := I.out.box
              obtain ⟨C, N, q, _⟩ := I.out.up
              rw [q] at h1
              injection h1 with h1
              injection h1 with _ h1
              cases h1
            rw [e]
            exact ⟨I.out.bel.setCell (by rw [HBu.out]; exact HB2.out) _, (set_ne hne _).trans I.out.box, I.out.up.put t (ch - 32) rfl, I.out.lt, by rw [size_set]; exact I.out.size⟩)
          obtain ⟨t2, Ht2⟩ : ∃ t2 : Nat, Hid (t2 = 2 * (j + 1)) := ⟨_, hid_of rfl⟩
          have e2 : (t : Int) + 2 = (t2 : Int) := by have := Ht.out; have := Ht2.out; omega
          have w1' : IntKind.i64.wrap ((t : Int) + 2) = (t2 : Int) := by rw [e2]; exact IntWalk.i64_in _ (by omega)
          have hj2 : 2 * (j + 1) ≤ P + 1 := by have := Ht.out; omega
          clear hat hch e2 hll hlu hPl
          go_wp2_with fail
          go_roundg g'
          case measure => omega
          case rel => exact ⟨j + 1, hj2, by omega, by rw [Ht2.out], HX⟩
        · have hfin : upK r.name j = up r := by
            unfold up
            rw [← HF.out.2.2.2.2.2.2, show j = (P + 1) / 2 from by have := Ht.out; omega]
          have HWy := hid_of I.out
          rw [hfin] at HWy
          have z0 : wr.cell? ⟨R, 0, none⟩ = some (.string NM) := by rw [HF.out.2.2.1]; exact Lib.cell_of_heap HWy.out.box 0
          have d1 : ¬ (t : Int) < (P : Int) := by omega
          clear hfin I
          go_wp2_with fail
          obtain ⟨W4, hW4⟩ : ∃ W4, W4 = wr.alloc (.cells #[.string NM] 9) := ⟨_, rfl⟩
          obtain ⟨Ba, hBa⟩ : ∃ Ba, Ba = wr.heap.size := ⟨_, rfl⟩
          rw [← hW4, ← hBa]
          have b4 : Below wr.heap.size wr W4 := by rw [hW4]; exact (Below.refl _ wr).alloc (Nat.le_refl _) _
          have HW4 : Hid (Wy w R Bu Ba r (up r) W4 ∧ NR Ba W4 (.slice (some ⟨Ba, 0, none⟩) 1 1) (argsK r ws 0)) := hid_of ⟨⟨HWy.out.bel.trans (b4.mono HWy.out.bel.size), (b4.block _ (lt_of HWy.out.box)).trans HWy.out.box, brow_keep HWy.out.up (b4.block _ (by obtain ⟨C, N, q, _⟩ := HWy.out.up; exact lt_of q)), ⟨by rw [hBa]; exact lt_of HWy.out.box, by rw [hBa]; obtain ⟨C, N, q, _⟩ := HWy.out.up; exact lt_of q, by rw [hBa]; exact HWy.out.bel.size⟩, by rw [hBa]; exact b4.size⟩, by
            refine .inr ⟨Ba, 1, #[.string NM], rfl, Nat.le_refl _, by rw [hW4, hBa]; exact heap_alloc_new wr _, rfl, Nat.le_refl _, ?_⟩
            rw [HF.out.2.2.1]
            rfl⟩
          have HBa := hid_of hBa
          clear hW4 hBa b4 HWy z0
          go_loopg [10, 11, 12] n (fun gk s10 s11 s12 wx => ∃ (k : Nat) (aa : Option Addr) (ca : Nat), k + 1 ≤ n ∧ n ≤ k + 1 + gk ∧ s10 = .slice aa (k + 1) ca ∧ s11 = .int .i64 ((k + 1 : Nat) : Int) ∧ Hid (Wy w R Bu Ba r (up r) wx ∧ NR Ba wx (.slice aa (k + 1) ca) (argsK r ws k)))
          case atStart => exact ⟨0, _, 1, by omega, by omega, rfl, rfl, HW4⟩
          case round =>
            obtain ⟨k, aa, ca, hk, hgk, rfl, rfl, I⟩ := hrel
            obtain ⟨i, Hi⟩ : ∃ i : Nat, Hid (i = k + 1) := ⟨_, hid_of rfl⟩
            rw [← Hi.out]
            rw [← Hi.out] at I
            have hi5 : i ≤ 5 ∧ 1 ≤ i := by rw [Hi.out]; omega
            by_cases hlt : i < n
            · obtain ⟨g', rfl⟩ : ∃ g', gk = g' + 1 := ⟨gk - 1, by have := Hi.out; omega⟩
              obtain ⟨x, hx⟩ : ∃ x, x = ws.getD k [119] := ⟨_, rfl⟩
              obtain ⟨v5, w5, hr5, row5, b5⟩ := app_one x I.out.2 (by rw [argsK_len]; omega) I.out.1.size 32
              obtain ⟨a5, c5, rfl, _⟩ := row5.shape
              have hlen : (argsK r ws k ++ [x]).length = i + 1 := by rw [List.length_append, argsK_len, Hi.out]; rfl
              rw [hlen] at hr5 row5
              have HX : Hid (Wy w R Bu Ba r (up r) w5 ∧ NR Ba w5 (.slice a5 (i + 1) c5) (argsK r ws (k + 1))) := hid_of ⟨I.out.1.low b5, by rw [argsK_succ, ← hx]; exact row5⟩
              obtain ⟨X, HXX⟩ : ∃ X, Hid (X = mk x) := ⟨_, hid_of rfl⟩
              simp only [V] at hr5
              rw [← HXX.out] at hr5
              have w1' : IntKind.i64.wrap ((i : Int) + 1) = (i : Int) + 1 := IntWalk.i64_in _ (by omega)
              have w2' : IntKind.i64.wrap ((i : Int) - 1) = (k : Int) := by rw [show (i : Int) - 1 = (k : Int) from by have := Hi.out; omega]; exact IntWalk.i64_in _ (by omega)
              have hi1 : (i : Int) < (n : Int) := by omega
              by_cases hwl : i ≤ L
              · have d2 : (i : Int) ≤ (L : Int) := by omega
                have hkL : k < L := by have := Hi.out; omega
                obtain ⟨a0, c0, e0, _, hrd0⟩ := HWs.out.1
                injection e0 with e1 e2 e3
                obtain ⟨g, o, hgo, _, hce⟩ := Rd.get hrd0 (by rw [← HL.out]; omega)
                rw [← e1] at hgo
                have hkl : k < ws.length := by rw [← HL.out]; exact hkL
                have cw : wr.cell? ⟨g, o + k, none⟩ = some (.string X) := by
                  have h1 := hce k ws[k] (List.getElem?_eq_getElem hkl)
                  rw [HXX.out, hx, List.getD_eq_getElem?_getD, List.getElem?_eq_getElem hkl]
                  exact (I.out.1.bel.cell (p := ⟨g, o + k, none⟩) (cell_lt h1)).trans h1
                subst hgo
                clear hrd0 hce e1 e2 e3 hkl hlen row5 b5 hx
                go_wp2_with (at_builtin; refine wpl_eq rfl _ _ 32 32 rfl (.slice aa i ca) (.slice (some ⟨wr.heap.size, 0, none⟩) 1 1) (.slice a5 (i + 1) c5) _ w5 rfl rfl hr5 ?_)
                go_roundg g'
                case measure => omega
                case rel => exact ⟨k + 1, a5, c5, by have := Hi.out; omega, by have := Hi.out; omega, by rw [Hi.out], by rw [Hi.out]; rfl, by have q := HX; rw [Hi.out] at q; exact q⟩
              · have d2 : ¬ (i : Int) ≤ (L : Int) := by omega
                have hXw : X = ⟨#[119]⟩ := by
                  rw [HXX.out, hx, List.getD_eq_getElem?_getD, List.getElem?_eq_none (by rw [← HL.out]; have := Hi.out; omega)]
                  rfl
                subst hXw
                clear hlen row5 b5 hx
                go_wp2_with (at_builtin; refine wpl_eq rfl _ _ 32 32 rfl (.slice aa i ca) (.slice (some ⟨wr.heap.size, 0, none⟩) 1 1) (.slice a5 (i + 1) c5) _ w5 rfl rfl hr5 ?_)
                go_roundg g'
                case measure => omega
                case rel => exact ⟨k + 1, a5, c5, by have := Hi.out; omega, by have := Hi.out; omega, by rw [Hi.out], by rw [Hi.out]; rfl, by have q := HX; rw [Hi.out] at q; exact q⟩
            · have hin : i = n := by have := Hi.out; omega
              subst hin
              have HWA : Hid (Wy w R Bu Ba r (up r) wr ∧ NR Ba wr (.slice aa i ca) (argsK r ws (i - 1))) := hid_of (by rw [show i - 1 = k from by have := Hi.out; omega]; exact I.out)
              have d1 : ¬ (i : Int) < (i : Int) := by omega
              clear I HW4 Hi hk hgk
              obtain ⟨As, hAs⟩ : ∃ As, As = argsK r ws (i - 1) := ⟨_, rfl⟩
              have hAl : As.length = i := by rw [hAs, argsK_len]; omega
              have hrm : r ∈ docRows := HF.out.2.1
              have hni : i = nOf r := HF.out.2.2.2.2.2.1
              have hG : Keys.Good As r := good_of hrm (by rw [hAs]; exact low_name hrm) (by rw [hAl]; exact hni)
              have hAb : ∀ x ∈ As, x.length < 9223372036854775808 := fun x hx => by
                rw [hAs] at hx
                unfold argsK at hx
                rcases List.mem_cons.1 hx with rfl | hx
                · have := (ok_of (ok_r hrm)).2.2.2.2.2.2.2.2.2.1; omega
                · obtain ⟨q, _, rfl⟩ := List.mem_map.1 hx
                  rw [List.getD_eq_getElem?_getD]
                  cases hq : ws[q]? with
                  | none => decide
                  | some y => exact HWs.out.2 y (List.mem_of_getElem? hq)
              rw [← hAs] at HWA
              have HA := hid_of (And.intro hAs (And.intro hAl (And.intro hrm (And.intro hni (And.intro hG hAb)))))
              obtain ⟨UP, hUP⟩ : ∃ UP, UP = mk (up r) := ⟨_, rfl⟩
              have hPu : P = (up r).length := by unfold up; rw [upK_len]; exact HF.out.2.2.2.2.2.2
              have HCv : Hid (∀ V, Below Ba wr V → V.cell? ⟨R, 0, none⟩ = some (.string NM) ∧ (convert 37 9 (.slice (some ⟨Bu, 0, none⟩) P cap)).run Try.prog V = .ok (.string UP) V) := hid_of fun V b => by
                have hy := HWA.out.1.low b
                exact ⟨by rw [HF.out.2.2.1]; exact Lib.cell_of_heap hy.box 0, by rw [hUP]; exact conv_out hy.up hPu⟩
              have HCk : Hid (Calls Try.prog 15 #[.slice aa i ca] wr.drew fun e w' => e = .returned (.string ⟨#[]⟩) ∧ Below wr.heap.size wr w') := hid_of (by
                have hs : SL (fun k => Ba ≤ k) wr.drew (.slice aa i ca) As := HWA.out.2.sl
                refine (check_call hs (by rw [hAl]; omega) hAb).mono ?_
                rintro e w' ⟨rfl, b⟩
                exact ⟨by rw [hG.check]; rfl, b.os, b.tape, b.output, b.size, b.block⟩)
              have HLo : Hid (∀ V, Calls Try.prog 10 #[.string UP] V fun e w' => e = .returned (.string NM) ∧ Below V.heap.size V w') := hid_of fun V => by
                have := lower_call (up r) V (by rw [← hPu]; omega)
                rw [low_up hrm, ← hUP, ← HF.out.2.2.1] at this
                exact this
              have hss : (NM.toList == NM.toList) = true := by simp
              have HUP := hid_of hUP
              clear hAs hAl hrm hni hG hAb hUP hPu
              go_upto_region 21 with fail
              go_cut [77] (fun s77 wx => s77 = .bool false ∧ Hid (Below wr.heap.size wr wx))
              case first =>
                go_region_held3 (fun V => V.cell? ⟨R, 0, none⟩ = some (.string NM) ∧ (convert 37 9 (.slice (some ⟨Bu, 0, none⟩) P cap)).run Try.prog V = .ok (.string UP) V) (first | exact HCv.out _ ((Below.refl Ba wr).drew) | exact HCv.out _ (b6.mono HWA.out.1.size) | exact HCv.out _ (b7.mono HWA.out.1.size)) (first
                  | (go_at_call 15; refine HCk.out.mono ?_; rintro e w6 ⟨rfl, b6⟩)
                  | (go_at_call 10; refine (HLo.out _).mono ?_; rintro e w7 ⟨rfl, b7'⟩; have b7 : Below wr.heap.size wr w7 := b6.trans (b7'.mono b6.size); clear b7'))
                have HB7 := hid_of b7
                go_wp2_with fail
                go_meet
                case rel => exact ⟨rfl, HB7⟩
              case rest =>
                obtain ⟨rfl, HBc⟩ := hcut
                have HWc : Hid (Wy w R Bu Ba r (up r) wc ∧ NR Ba wc (.slice aa i ca) As) := hid_of ⟨HWA.out.1.low (HBc.out.mono HWA.out.1.size), HWA.out.2.below HBc.out⟩
                have HKc := hid_of (keys_call HWc.out.2.sl (by rw [HA.out.2.1]; omega) HA.out.2.2.2.2.2)
                clear HWA HBc HCv HCk HLo
                go_wp2_with fail
                refine HKc.out.mono ?_
                rintro e w8 ⟨kv, rfl, row8, b8⟩
                obtain ⟨ka, kc, rfl, hkc⟩ := row8.shape
                obtain ⟨K, hK⟩ : ∃ K, K = (keysS As).length := ⟨_, rfl⟩
                have hKi : K ≤ i := by rw [hK]; have := keys_len As; rw [HA.out.2.1] at this; exact this
                have hKf := keys_pos HA.out.2.2.1 HA.out.2.2.2.2.1 (by rw [HA.out.2.1]; exact HA.out.2.2.2.1)
                rw [← hK, ← HF.out.2.2.2.2.1] at hKf
                rw [← hK] at row8 ⊢
                have HW8 : Hid (Wy w R Bu Ba r (up r) w8 ∧ NR Ba w8 (.slice aa i ca) As ∧ NR wc.heap.size w8 (.slice ka K kc) (keysS As)) := hid_of ⟨HWc.out.1.low (b8.mono HWc.out.1.size), HWc.out.2.below b8, row8⟩
                have HK := hid_of hK
                obtain ⟨bf, hbf⟩ : ∃ bf, bf = decide ((0 : Int) < fi) := ⟨_, rfl⟩
                have f1 : decide ((0 : Int) < fi) = bf := hbf.symm
                have f2 : decide ((0 : Int) < (K : Int)) = bf := by rw [hbf, decide_eq_decide]; rw [← hKf]; omega
                have f3 : decide (0 < K) = bf := by rw [hbf, decide_eq_decide]; exact hKf
                have f4 : (bf != bf) = false := by cases bf <;> rfl
                have f5 : ¬ (i : Int) < (K : Int) := by omega
                have f6 : decide ((i : Int) < (K : Int)) = false := decide_eq_false f5
                have f7 : decide (i < K) = false := decide_eq_false (by omega)
                have z4 : w8.cell? ⟨R, 4, none⟩ = some (.int .i64 fi) := by rw [HF.out.2.2.2.2.1]; exact Lib.cell_of_heap HW8.out.1.box 4
                have HLc : Hid (wc.heap.size ≤ w8.heap.size) := hid_of b8.size
                clear hK hKf hbf row8 b8 hkc
                go_wp2_with fail
                go_loopg [14] K (fun gk s14 wx => ∃ j : Nat, j ≤ K ∧ K ≤ j + gk ∧ s14 = .int .i64 (j : Int) ∧ Hid (∃ m, wx = w8.drewN m))
                case atStart => exact ⟨0, by omega, by omega, rfl, hid_of ⟨0, rfl⟩⟩
                case round =>
                  obtain ⟨j, hj, hgk, rfl, I⟩ := hrel
                  obtain ⟨m, hm⟩ := I.out
                  by_cases hlt : j < K
                  · obtain ⟨g', rfl⟩ : ∃ g', gk = g' + 1 := ⟨gk - 1, by omega⟩
                    have hjk : j < (keysS As).length := by rw [← HK.out]; exact hlt
                    obtain ⟨x, hx⟩ : ∃ x, x = (keysS As)[j] := ⟨_, rfl⟩
                    obtain ⟨ka2, kc2, ek, _, hkr⟩ := HW8.out.2.2.sl
                    injection ek with ek1 ek2 ek3
                    obtain ⟨gk2, ok2, hgo, _, hce⟩ := Rd.get hkr (by omega)
                    rw [← ek1] at hgo
                    have cx : wr.cell? ⟨gk2, ok2 + j, none⟩ = some (.string (mk x)) := by rw [hm, hx]; exact hce j _ (List.getElem?_eq_getElem hjk)
                    have hmem : x ∈ As.drop 1 := keys_mem HA.out.2.2.2.2.1 x (by rw [hx]; exact List.getElem_mem hjk)
                    have hcut := fun W => cut_lo aa i ca 1 1 rfl (by omega) W
                    have HQ : Hid (∀ q, Calls Try.prog 20 #[.slice (Base.ca aa ca 1) (i - 1) (ca - 1), .string (mk x)] (wr.drewN q) fun e w' => e = .returned (.bool true) ∧ ∃ p, w' = wr.drewN p) := hid_of fun q => by
                      obtain ⟨aa2, ca2, ea, hca2, har2⟩ := HW8.out.2.1.sl
                      injection ea with ea1 ea2 ea3
                      have hS : SL (fun _ => True) (wr.drewN q) (.slice (Base.ca aa ca 1) (i - 1) (ca - 1)) (As.drop 1) := by
                        refine ⟨_, _, by rw [List.length_drop, HA.out.2.1], by rw [List.length_drop]; omega, ?_⟩
                        have := (har2.drop hca2 1).mono (G' := fun _ => True) (fun _ _ _ => trivial)
                        rw [← ea1, ← ea3] at this
                        rw [hm]
                        exact this.keep fun _ _ _ => rfl
                      refine (rhas_call x hS (by rw [List.length_drop]; omega)).mono ?_
                      rintro e w' ⟨rfl, rfl⟩
                      exact ⟨by rw [decide_eq_true hmem], q, rfl⟩
                    generalize mk x = X at *
                    have w1' : IntKind.i64.wrap ((j : Int) + 1) = (j : Int) + 1 := IntWalk.i64_in _ (by omega)
                    have HM := hid_of hm
                    subst hgo
                    clear hkr hce ek1 ek2 ek3 hm hx hmem hjk
                    go_wp2_with fail
                    go_quiet (first | exact (HQ.out _).mono fun _ _ h => h)
                    go_wp2_with fail
                    go_roundg g'
                    case measure => omega
                    case rel => exact ⟨j + 1, by omega, by omega, by simp, hid_of ⟨m + nq, by rw [HM.out, World.drewN_drewN]⟩⟩
                  · have d1 : ¬ (j : Int) < (K : Int) := by omega
                    have HW9 : Hid (Wy w R Bu Ba r (up r) wr ∧ NR Ba wr (.slice aa i ca) As ∧ NR wc.heap.size wr (.slice ka K kc) (keysS As)) := hid_of (by rw [hm]; exact ⟨HW8.out.1.drewN m, HW8.out.2.1.drewN m, HW8.out.2.2.drewN m⟩)
                    have hs9 : wc.heap.size ≤ wr.heap.size := by rw [hm]; exact HLc.out
                    obtain ⟨ga, haa, hga, ⟨y, hy⟩, hfz, hN⟩ := nr_set HW9.out.2.1 0 (by rw [HA.out.2.1]; omega) (up r)
                    have hcv : (convert 37 9 (.slice (some ⟨Bu, 0, none⟩) P cap)).run Try.prog wr = .ok (.string UP) wr := by rw [HUP.out]; exact conv_out HW9.out.1.up (by unfold up; rw [upK_len]; exact HF.out.2.2.2.2.2.2)
                    subst haa
                    have hgl : ga < wc.heap.size := by
                      rcases HWc.out.2 with ⟨e, _⟩ | ⟨g', c', cur, e, _, hh, _⟩
                      · cases e
                      · have : ga = g' := by injection e with e1; injection e1 with e1; injection e1
                        rw [this]; exact lt_of hh
                    obtain ⟨W9, hW9⟩ : ∃ W9, W9 = wr.setCell ⟨ga, 0, none⟩ (.string UP) := ⟨_, rfl⟩
                    simp only [V] at hN hy
                    rw [← HUP.out, ← hW9] at hN
                    have b9 : Below Ba wr W9 := by rw [hW9]; exact (Below.refl Ba wr).setCell hga _
                    have HX9 : Hid (Wy w R Bu Ba r (up r) W9 ∧ NR Ba W9 (.slice (some ⟨ga, 0, none⟩) i ca) (As.set 0 (up r)) ∧ NR wc.heap.size W9 (.slice ka K kc) (keysS As)) := hid_of ⟨HW9.out.1.low b9, hN, HW9.out.2.2.keep fun k hk hle => by rw [hW9]; exact set_ne (by omega) _⟩
                    have HW9e := hid_of hW9
                    generalize mk y = Y at *
                    clear hN b9 hW9 HW9 hm I HW8 hga hgl hs9
                    obtain ⟨Bs, hBs⟩ : ∃ Bs, Bs = As.set 0 (up r) := ⟨_, rfl⟩
                    have hBl : Bs.length = i := by rw [hBs, List.length_set]; exact HA.out.2.1
                    have hBn : nameOf Bs = up r := by
                      rw [hBs]
                      cases hq : As with
                      | nil => rw [hq] at hBs; rw [hBs] at hBl; simp at hBl; omega
                      | cons y ys => rfl
                    have hGB : Keys.Good Bs r := good_of HA.out.2.2.1 (by rw [hBn]; exact low_up HA.out.2.2.1) (by rw [hBl]; exact HA.out.2.2.2.1)
                    have hBk : keysS Bs = keysS As := by rw [hBs]; exact keys_set HA.out.2.2.2.2.1 (by rw [← hBs]; exact hGB)
                    have hBb : ∀ x ∈ Bs, x.length < 9223372036854775808 := fun x hx => by
                      rw [hBs] at hx
                      rcases List.mem_or_eq_of_mem_set hx with q | q
                      · exact HA.out.2.2.2.2.2 x q
                      · rw [q]; unfold up; rw [upK_len, ← HF.out.2.2.2.2.2.2]; omega
                    rw [← hBs] at HX9
                    have HSd : Hid (∀ V, Below W9.heap.size W9 V → V.cell? ⟨R, 0, none⟩ = some (.string NM)) := hid_of fun V b => by
                      rw [HF.out.2.2.1]
                      exact Lib.cell_of_heap ((HX9.out.1.low (b.mono HX9.out.1.size)).box) 0
                    have HCk : Hid (∀ V, Below W9.heap.size W9 V → Calls Try.prog 15 #[.slice (some ⟨ga, 0, none⟩) i ca] V.drew fun e w' => e = .returned (.string ⟨#[]⟩) ∧ Below W9.heap.size W9 w') := hid_of fun V b => by
                      have hs : SL (fun k => Ba ≤ k) V.drew (.slice (some ⟨ga, 0, none⟩) i ca) Bs := (HX9.out.2.1.below b).sl
                      refine (check_call hs (by rw [hBl]; omega) hBb).mono ?_
                      rintro e w' ⟨rfl, b'⟩
                      exact ⟨by rw [hGB.check]; rfl, b.trans (Below.mono (show Below V.heap.size V w' from ⟨b'.os, b'.tape, b'.output, b'.size, b'.block⟩) b.size)⟩
                    have HKy : Hid (∀ V, Below W9.heap.size W9 V → Calls Try.prog 17 #[.slice (some ⟨ga, 0, none⟩) i ca] V fun e w' => ∃ kb kd, e = .returned (.slice kb K kd) ∧ Below W9.heap.size W9 w' ∧ Calls Try.prog 18 #[.slice kb K kd, .slice ka K kc] w' fun e w'' => e = .returned (.bool true) ∧ Below W9.heap.size W9 w'') := hid_of fun V b => by
                      refine (keys_call (HX9.out.2.1.below b).sl (by rw [hBl]; omega) hBb).mono ?_
                      rintro e w' ⟨v', rfl, row', b'⟩
                      have bw := b.trans (b'.mono b.size)
                      obtain ⟨kb, kd, rfl, _⟩ := row'.shape
                      rw [hBk] at row'
                      rw [hBk, ← HK.out]
                      refine ⟨kb, kd, rfl, bw, ?_⟩
                      rw [← HK.out] at row'
                      refine (same_true row'.sl (HX9.out.2.2.below bw).sl rfl (by rw [← HK.out]; omega)).mono ?_
                      rintro e w'' ⟨rfl, q, rfl⟩
                      exact ⟨rfl, bw.os, bw.tape, bw.output, bw.size, bw.block⟩
                    go_upto_region 32 with fail
                    rw [← HW9e.out]
                    go_cut [4] (fun s4 wx => s4 = .bool true ∧ Hid (Below w.heap.size w wx))
                    case first =>
                      have HBW := hid_of HX9.out.1.bel
                      rcases (show i = 1 ∨ 1 < i by omega) with hi1 | hi1
                      · have e1 : ((i : Int) == 1) = true := by simp [hi1]
                        have hu := check_nil
                        have HCn : Hid (∀ V, Calls Try.prog 15 #[.slice none 0 0] V fun e w' => e = .returned (.string ⟨#[69, 82, 82, 32, 117, 110, 107, 110, 111, 119, 110, 32, 99, 111, 109, 109, 97, 110, 100, 32]⟩) ∧ Below V.heap.size V w') := hid_of fun V => by
                          refine (check_call (SL.nil (fun _ => True) V) (by decide) (by simp)).mono ?_
                          rintro e w' ⟨rfl, b⟩
                          exact ⟨by rw [hu]; rfl, b⟩
                        clear hi1 hu
                        refine Code.wp_mono (Q := Exit.then _ (fun _ _ _ => False)) (fun e a w h => by cases e <;> first | exact h | exact h.elim) (RegOne.reg hi5 hKi HSd HCk HKy ?_ e1 HCn)
                        refine hid_of ?_
                        intro z111 z112 z113 z114 z115 z116 z117 z118 z119 z120 z121 z122 z123 z124 z125 z126 z127 z128 z129 z130 z131 z132 z133 z134 z135 z136 z137 z138 z139 z140 z141 z142 z143 z144 z145 z146 z147 z148 z149 z150 z151 W' b'
                        have HBl := hid_of b'
                        clear b'
                        go_wp2_with fail
                        go_meet
                        case rel => exact ⟨rfl, hid_of (HBW.out.trans (HBl.out.mono HBW.out.size))⟩
                      · obtain ⟨i1, Hi1⟩ : ∃ i1 : Nat, Hid (i1 = i - 1) := ⟨_, hid_of rfl⟩
                        have e1 : ((i : Int) == 1) = false := by simp; omega
                        have e2 : decide ((1 : Int) < (i : Int)) = true := decide_eq_true (by omega)
                        have e2n : decide (1 < i) = true := decide_eq_true hi1
                        have hi15 : i1 ≤ 5 := by have := Hi1.out; omega
                        have w1' : IntKind.i64.wrap ((i : Int) - 1) = (i1 : Int) := by rw [show (i : Int) - 1 = (i1 : Int) from by have := Hi1.out; omega]; exact IntWalk.i64_in _ (by omega)
                        obtain ⟨Cs, hCs⟩ : ∃ Cs, Cs = Bs.take i1 := ⟨_, rfl⟩
                        have hCl : Cs.length = i1 := by rw [hCs, List.length_take, hBl]; have := Hi1.out; omega
                        have hCn : nameOf Cs = up r := by
                          rw [← hBn, hCs]
                          cases hq : Bs with
                          | nil => simp [nameOf]
                          | cons y ys =>
                            obtain ⟨q, hq2⟩ : ∃ q, i1 = q + 1 := ⟨i1 - 1, by have := Hi1.out; omega⟩
                            rw [hq2]; rfl
                        have hfew : checkS Cs = art ++ r.name := few HA.out.2.2.1 (by rw [hCn]; exact low_up HA.out.2.2.1) (by rw [hCl, ← HA.out.2.2.2.1]; have := Hi1.out; omega)
                        have hCb : ∀ x ∈ Cs, x.length < 9223372036854775808 := fun x hx => hBb x (by rw [hCs] at hx; exact List.mem_of_mem_take hx)
                        have hca : i1 ≤ ca := by
                          obtain ⟨q1, q2, q3, q4⟩ := HX9.out.2.1.shape
                          injection q3 with _ _ q5
                          rw [hBl] at q4
                          have := Hi1.out; omega
                        have hcut := fun W => cut_hi (some ⟨ga, 0, none⟩) i ca i1 (i1 : Int) rfl hca W
                        obtain ⟨AN, hAN⟩ : ∃ AN, AN = (⟨#[69, 82, 82, 32, 119, 114, 111, 110, 103, 32, 110, 117, 109, 98, 101, 114, 32, 111, 102, 32, 97, 114, 103, 117, 109, 101, 110, 116, 115, 58, 32]⟩ : ByteArray) ++ NM := ⟨_, rfl⟩
                        have hAN2 : mk (art ++ r.name) = AN := by rw [hAN, ← add_str, HF.out.2.2.1]; rfl
                        have hSC : ∀ V, Below W9.heap.size W9 V → SL (fun k => Ba ≤ k) V (.slice (some ⟨ga, 0, none⟩) i1 ca) Cs := fun V b => by
                          obtain ⟨q1, q2, q3, q4, q5⟩ := (HX9.out.2.1.below b).sl
                          injection q3 with z1 z2 z3
                          rw [← z1] at q5
                          exact ⟨_, ca, by rw [hCl], by rw [hCl]; exact hca, by rw [hCs]; exact q5.take i1⟩
                        have HCf : Hid (∀ V, Below W9.heap.size W9 V → Calls Try.prog 15 #[.slice (some ⟨ga, 0, none⟩) i1 ca] V fun e w' => e = .returned (.string AN) ∧ Below W9.heap.size W9 w') := hid_of fun V b => by
                          refine (check_call (hSC V b) (by rw [hCl]; have := Hi1.out; have := hi5; omega) hCb).mono ?_
                          rintro e w' ⟨rfl, b'⟩
                          exact ⟨by rw [hfew, hAN2], b.trans (b'.mono b.size)⟩
                        have HKf : Hid (∀ V, Below W9.heap.size W9 V → Calls Try.prog 17 #[.slice (some ⟨ga, 0, none⟩) i1 ca] V fun e w' => ∃ ra rc, e = .returned (.slice ra 0 rc) ∧ Below W9.heap.size W9 w') := hid_of fun V b => by
                          refine (keys_call (hSC V b) (by rw [hCl]; have := Hi1.out; have := hi5; omega) hCb).mono ?_
                          rintro e w' ⟨v', rfl, row', b'⟩
                          obtain ⟨ra, rc, rfl, _⟩ := row'.shape
                          rw [bad_keys (by rw [hfew]; simp [art])]
                          exact ⟨ra, rc, rfl, b.trans (b'.mono b.size)⟩
                        have hANr := hAN.symm
                        have hNs : NM.size ≤ 32 := by rw [HF.out.2.2.1, mk_size, ← HF.out.2.2.2.2.2.2]; exact hP32.1
                        have hANe : (AN.toList == AN.toList) = true := by simp
                        clear hSC hCb hfew hCn hCl hCs hAN hAN2 hca hi1
                        refine Code.wp_mono (Q := Exit.then _ (fun _ _ _ => False)) (fun e a w h => by cases e <;> first | exact h | exact h.elim) (RegMany.reg hi5 hKi HSd HCk HKy ?_ e1 e2 e2n w1' hcut hANr hNs hANe HCf HKf)
                        refine hid_of ?_
                        intro z111 z112 z113 z114 z115 z116 z117 z118 z119 z120 z121 z122 z123 z124 z125 z126 z127 z128 z129 z130 z131 z132 z133 z134 z135 z136 z137 z138 z139 z140 z141 z142 z143 z144 z145 z146 z147 z148 z149 z150 z151 W' b'
                        have HBl := hid_of b'
                        clear b'
                        go_wp2_with fail
                        go_meet
                        case rel => exact ⟨rfl, hid_of (HBW.out.trans (HBl.out.mono HBW.out.size))⟩
                    case rest =>
                      obtain ⟨rfl, HBz⟩ := hcut
                      go_wp2_with fail
                      go_ret
                      exact ⟨rfl, HBz.out⟩
end Go.Proofs.Ytgmnmcaclpfknaa.LawW
