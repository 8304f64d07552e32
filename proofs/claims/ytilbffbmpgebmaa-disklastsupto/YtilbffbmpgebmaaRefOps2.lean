/- The document's own Rename, Remove, SyncNames. -/
import Derived.Test.YtilbffbmpgebmaaRefOps
namespace Go.Proofs.Ytilbffbmpgebmaa.RefOps2
open Go.RowKit Go.Maps
open Go.Proofs.Ytilbffbmpgebmaa.DiskMath
open Go.Proofs.Ytilbffbmpgebmaa.RefMath
open Go.Proofs.Ytilbffbmpgebmaa.Base
open Go.Proofs.Ytilbffbmpgebmaa.Small
open Go.Proofs.Ytilbffbmpgebmaa.Append
open Go.Proofs.Ytilbffbmpgebmaa.Plan
open Go.Proofs.Ytilbffbmpgebmaa.File
open Go.Proofs.Ytilbffbmpgebmaa.File2
open Go.Proofs.Ytilbffbmpgebmaa.Ops2
open Go.Proofs.Ytilbffbmpgebmaa.RefNames
open Go.Proofs.Ytilbffbmpgebmaa.RefWith
open Go.Proofs.Ytilbffbmpgebmaa.RefBase
open Go.Proofs.Ytilbffbmpgebmaa.RefChange
open Go.Proofs.Ytilbffbmpgebmaa.RefFault
open Go.Proofs.Ytilbffbmpgebmaa.RefFiles
open Go.Proofs.Ytilbffbmpgebmaa.RefFiles2
open Go.Proofs.Ytilbffbmpgebmaa.RefTurn
open Go.Proofs.Ytilbffbmpgebmaa.RefOps
set_option linter.unusedVariables false

set_option maxHeartbeats 2000000 in
set_option maxRecDepth 100000 in
theorem rremove_call (base b : Nat) (r : Rl) (d : Dk) (s : ByteArray) (w : World) (h : RD base b r d w) (ok : Ok d) (hst : d.steps + 1 < 1099511627776) :
    Calls Try.prog 37 #[ptr b, .string s] w fun e w' => e = .returned (.int .i64 (d.remove (bs s)).2) ∧ RHas base b (d.remove (bs s)).1 w' ∧ Ev ET base w w' := by
  have hl : d.names.length < 1099511627776 := Nat.lt_of_le_of_lt ok.nlen (by omega)
  have H1 := hid_of (rasked_call base b r d s w h hl)
  have H2 := hid_of (rfault_call base b r d w h (by omega))
  have HD := hid_of h
  have hol : d.opens.length < 1099511627776 := by have := ok.llen; omega
  unfold ptr at *
  by_cases ha : d.asked (bs s) = 0
  · rw [ha] at H1
    by_cases he : d.fault.2.2 = 0
    · have HE : Hid (d.remove (bs s) = (d.fault.1.turn (.drop (bs s)), 0)) := by
        show _ = _
        unfold Dk.remove
        rw [if_neg (by rw [ha]; decide)]
        show (if _ then _ else _) = _
        rw [if_pos he]
      rw [he] at H2
      have hfs := fault_same d
      have hnl : d.fault.1.names.length < 1099511627776 := by rw [hfs.2.1]; exact hl
      have hop : d.fault.1.opens.length < 1099511627776 := by rw [hfs.2.2.2.1]; exact hol
      obtain ⟨D, hDd⟩ : ∃ D, D = d.fault.1 := ⟨_, rfl⟩
      rw [← hDd] at H2 hnl hop HE
      have H3 := hid_of (fun (r' : Rl) (W : World) (hW : RD base b r' D W) => rturn_call base b r' D (.drop (bs s)) W hW hnl hop)
      have hrcv : rcV (.drop (bs s)) = .agg #[.int .i64 3, .string s, .string ⟨#[]⟩, .int .i64 0] := by
        show Value.agg #[.int .i64 3, .string (mk (bs s)), .string (mk []), .int .i64 0] = _
        rw [mk_bs]
        rfl
      rw [hrcv] at H3
      unfold ptr at H3
      clear h ok ha he hfs hrcv hDd
      go_enter Try.func37, Try.ntmps37
      go_wp2_with fail
      refine H1.out.mono ?_
      rintro e w' ⟨rfl, rfl⟩
      go_wp2_with fail
      refine H2.out.mono ?_
      rintro e w1 ⟨rfl, h1, ev⟩
      have HRD := hid_of h1
      have HEV := hid_of ev
      clear h1 ev
      go_wp2_with fail
      refine (H3.out _ w1 HRD.out).mono ?_
      rintro e w3 ⟨rfl, h3, ev3⟩
      have HR := hid_of (And.intro h3 (HEV.out.trans ev3))
      clear h3 ev3
      go_wp2_with fail
      go_ret
      rw [HE.out]
      exact ⟨rfl, HR.out.1, HR.out.2⟩
    · have HE : Hid (d.remove (bs s) = (d.fault.1, d.fault.2.2)) := by
        show _ = _
        unfold Dk.remove
        rw [if_neg (by rw [ha]; decide)]
        show (if _ then _ else _) = _
        rw [if_neg he]
      have heb := err_ne he
      clear h ok ha he
      go_enter Try.func37, Try.ntmps37
      go_wp2_with fail
      refine H1.out.mono ?_
      rintro e w' ⟨rfl, rfl⟩
      go_wp2_with fail
      refine H2.out.mono ?_
      rintro e w1 ⟨rfl, h1, ev⟩
      have HR := hid_of (And.intro (RHas.mk h1) ev)
      clear h1 ev
      go_wp2_with fail
      go_ret
      rw [HE.out]
      exact ⟨rfl, HR.out.1, HR.out.2⟩
  · have HE : Hid (d.remove (bs s) = (d, d.asked (bs s))) := by show _ = _; unfold Dk.remove; rw [if_pos ha]
    have hb := ask_ne ha
    clear h ok ha
    go_enter Try.func37, Try.ntmps37
    go_wp2_with fail
    refine H1.out.mono ?_
    rintro e w' ⟨rfl, rfl⟩
    go_wp2_with fail
    go_ret
    rw [HE.out]
    exact ⟨rfl, ⟨r, HD.out⟩, Ev.refl _ _ _⟩
theorem empty_yes {s : ByteArray} (h : bs s = []) : s.toList.isEmpty = true := by rw [Lib.toList_data]; show (bs s).isEmpty = true; rw [h]; rfl
theorem empty_no {s : ByteArray} (h : bs s ≠ []) : s.toList.isEmpty = false := by
  rw [Lib.toList_data]
  show (bs s).isEmpty = false
  cases hq : bs s with
  | nil => exact absurd hq h
  | cons _ _ => rfl
theorem asked_nil {d : Dk} (hd : d.down = false) : d.asked [] = 1 := by unfold Dk.asked; rw [hd]; rfl
theorem rename_asked {d : Dk} {a b : Bs} (hd : d.down = false) (hb : b ≠ []) (ha : d.asked a ≠ 0) : d.rename a b = (d, d.asked a) := by
  unfold Dk.rename
  by_cases h : a = []
  · subst h
    have hr : d.refuse [[], b] = 1 := by unfold Dk.refuse; rw [hd]; rfl
    rw [if_pos (by rw [hr]; decide), hr, asked_nil hd]
  · have hr : d.refuse [a, b] = 0 := by
      unfold Dk.refuse
      rw [hd, if_neg (by simp), if_neg]
      simp only [List.mem_cons, List.not_mem_nil, or_false]
      rintro (q | q)
      · exact h q.symm
      · exact hb q.symm
    rw [if_neg (by rw [hr]; decide), if_pos ha]
theorem rename_on {d : Dk} {a b : Bs} (hb : b ≠ []) (ha : d.asked a = 0) : d.rename a b = if d.fault.2.2 = 0 then (if a = b then (d.fault.1, 0) else (d.fault.1.turn (.move a b (d.file a)), 0)) else (d.fault.1, d.fault.2.2) := by
  have hd : d.down = false := by
    unfold Dk.asked at ha
    cases hq : d.down with
    | false => rfl
    | true => rw [hq] at ha; simp at ha
  have hr : d.refuse [a, b] = 0 := by
    unfold Dk.refuse
    rw [hd, if_neg (by simp), if_neg]
    simp only [List.mem_cons, List.not_mem_nil, or_false]
    rintro (q | q)
    · exact asked_ne ha q.symm
    · exact hb q.symm
  unfold Dk.rename
  rw [if_neg (by rw [hr]; decide), if_neg (by rw [ha]; decide)]
set_option maxHeartbeats 2000000 in
set_option maxRecDepth 100000 in
theorem rrename_call (base b : Nat) (r : Rl) (d : Dk) (s t : ByteArray) (w : World) (h : RD base b r d w) (ok : Ok d) (hst : d.steps + 1 < 1099511627776) :
    Calls Try.prog 36 #[ptr b, .string s, .string t] w fun e w' => e = .returned (.int .i64 (d.rename (bs s) (bs t)).2) ∧ RHas base b (d.rename (bs s) (bs t)).1 w' ∧ Ev ET base w w' := by
  have hl : d.names.length < 1099511627776 := Nat.lt_of_le_of_lt ok.nlen (by omega)
  have H1 := hid_of (rasked_call base b r d s w h hl)
  have H2 := hid_of (rfault_call base b r d w h (by omega))
  have HD := hid_of h
  have hol : d.opens.length < 1099511627776 := by have := ok.llen; omega
  have c6 : w.cell? ⟨b, 6, none⟩ = some (.bool d.down) := h.cell 6
  unfold ptr at *
  cases hd : d.down with
  | true =>
    have HE : Hid (d.rename (bs s) (bs t) = (d, 53)) := by
      show _ = _
      have hr : d.refuse [bs s, bs t] = 53 := by unfold Dk.refuse; rw [hd]; rfl
      unfold Dk.rename
      rw [if_pos (by rw [hr]; decide), hr]
    rw [hd] at c6
    clear h ok hd
    go_enter Try.func36, Try.ntmps36
    go_wp2_with fail
    go_ret
    rw [HE.out]
    exact ⟨rfl, ⟨r, HD.out⟩, Ev.refl _ _ _⟩
  | false =>
    rw [hd] at c6
    by_cases ht : bs t = []
    · have HE : Hid (d.rename (bs s) (bs t) = (d, 1)) := by
        show _ = _
        have hr : d.refuse [bs s, bs t] = 1 := by
          unfold Dk.refuse
          rw [hd, if_neg (by simp), if_pos]
          rw [ht]
          simp
        unfold Dk.rename
        rw [if_pos (by rw [hr]; decide), hr]
      have hte := empty_yes ht
      clear h ok hd ht
      go_enter Try.func36, Try.ntmps36
      go_wp2_with fail
      go_ret
      rw [HE.out]
      exact ⟨rfl, ⟨r, HD.out⟩, Ev.refl _ _ _⟩
    · have hte := empty_no ht
      by_cases ha : d.asked (bs s) = 0
      · have hren := rename_on ht ha
        rw [ask_yes ha, ha] at H1
        by_cases he : d.fault.2.2 = 0
        · rw [if_pos he] at hren
          rw [he] at H2
          by_cases hst2 : bs s = bs t
          · rw [if_pos hst2] at hren
            have HE := hid_of hren
            have hcmp : (s.toList == t.toList) = true := by rw [of_bs hst2]; simp
            clear h ok hd ht ha he hren hst2
            go_enter Try.func36, Try.ntmps36
            go_wp2_with fail
            refine H1.out.mono ?_
            rintro e w' ⟨rfl, rfl⟩
            go_wp2_with fail
            refine H2.out.mono ?_
            rintro e w1 ⟨rfl, h1, ev⟩
            have HR := hid_of (And.intro (RHas.mk h1) ev)
            clear h1 ev
            go_wp2_with fail
            go_ret
            rw [HE.out]
            exact ⟨rfl, HR.out.1, HR.out.2⟩
          · rw [if_neg hst2] at hren
            have HE := hid_of hren
            have hcmp := str_ne hst2
            have hfs := fault_same d
            have hnl : d.fault.1.names.length < 1099511627776 := by rw [hfs.2.1]; exact hl
            have hop : d.fault.1.opens.length < 1099511627776 := by rw [hfs.2.2.2.1]; exact hol
            obtain ⟨D, hDd⟩ : ∃ D, D = d.fault.1 := ⟨_, rfl⟩
            rw [← hDd] at H2 hnl hop HE
            have H3 := hid_of (fun (r' : Rl) (W : World) (hW : RD base b r' D W) => rturn_call base b r' D (.move (bs s) (bs t) (d.file (bs s))) W hW hnl hop)
            have hrcv : rcV (.move (bs s) (bs t) (d.file (bs s))) = .agg #[.int .i64 2, .string s, .string t, .int .i64 (d.file (bs s) : Int)] := by
              show Value.agg #[.int .i64 2, .string (mk (bs s)), .string (mk (bs t)), .int .i64 (d.file (bs s) : Int)] = _
              rw [mk_bs, mk_bs]
            rw [hrcv] at H3
            unfold ptr at H3
            clear h ok hd ht ha he hren hst2 hfs hrcv hDd
            go_enter Try.func36, Try.ntmps36
            go_wp2_with fail
            refine H1.out.mono ?_
            rintro e w' ⟨rfl, rfl⟩
            go_wp2_with fail
            refine H2.out.mono ?_
            rintro e w1 ⟨rfl, h1, ev⟩
            have HRD := hid_of h1
            have HEV := hid_of ev
            clear h1 ev
            go_wp2_with fail
            refine (H3.out _ w1 HRD.out).mono ?_
            rintro e w3 ⟨rfl, h3, ev3⟩
            have HR := hid_of (And.intro h3 (HEV.out.trans ev3))
            clear h3 ev3
            go_wp2_with fail
            go_ret
            rw [HE.out]
            exact ⟨rfl, HR.out.1, HR.out.2⟩
        · rw [if_neg he] at hren
          have HE := hid_of hren
          have heb := err_ne he
          clear h ok hd ht ha he hren
          go_enter Try.func36, Try.ntmps36
          go_wp2_with fail
          refine H1.out.mono ?_
          rintro e w' ⟨rfl, rfl⟩
          go_wp2_with fail
          refine H2.out.mono ?_
          rintro e w1 ⟨rfl, h1, ev⟩
          have HR := hid_of (And.intro (RHas.mk h1) ev)
          clear h1 ev
          go_wp2_with fail
          go_ret
          rw [HE.out]
          exact ⟨rfl, HR.out.1, HR.out.2⟩
      · have HE := hid_of (rename_asked hd ht ha)
        have hb := ask_ne ha
        clear h ok hd ht ha
        go_enter Try.func36, Try.ntmps36
        go_wp2_with fail
        refine H1.out.mono ?_
        rintro e w' ⟨rfl, rfl⟩
        go_wp2_with fail
        go_ret
        rw [HE.out]
        exact ⟨rfl, ⟨r, HD.out⟩, Ev.refl _ _ _⟩
/- the names are what the open changes make of the lasting ones -/
def Con (d : Dk) : Prop := d.names = applyAll d.opens d.last
set_option maxHeartbeats 1000000 in
set_option maxRecDepth 100000 in
theorem rsyncNames_call (base b : Nat) (r : Rl) (d : Dk) (w : World) (h : RD base b r d w) (hst : d.steps < 1099511627776) (hcon : Con d) :
    Calls Try.prog 38 #[ptr b] w fun e w' => e = .returned (.int .i64 d.syncNames.2) ∧ RHas base b d.syncNames.1 w' ∧ Ev ET base w w' := by
  have H2 := hid_of (rfault_call base b r d w h hst)
  have HD := hid_of h
  have c6 : w.cell? ⟨b, 6, none⟩ = some (.bool d.down) := h.cell 6
  unfold ptr at *
  cases hd : d.down with
  | true =>
    have HE : Hid (d.syncNames = (d, 53)) := by
      show _ = _
      have hr : d.refuse [] = 53 := by unfold Dk.refuse; rw [hd]; rfl
      unfold Dk.syncNames
      rw [if_pos (by rw [hr]; decide), hr]
    rw [hd] at c6
    clear h hd
    go_enter Try.func38, Try.ntmps38
    go_wp2_with fail
    go_ret
    rw [HE.out]
    exact ⟨rfl, ⟨r, HD.out⟩, Ev.refl _ _ _⟩
  | false =>
    rw [hd] at c6
    have hr : d.refuse [] = 0 := by unfold Dk.refuse; rw [hd]; rfl
    by_cases he : d.fault.2.2 = 0
    · have hfs := fault_same d
      have HE : Hid (d.syncNames = ({ d.fault.1 with last := d.fault.1.names, opens := [] }, 0)) := by
        show _ = _
        unfold Dk.syncNames
        rw [if_neg (by rw [hr]; decide)]
        show (if _ then _ else _) = _
        rw [if_pos he]
        have e : applyAll (d.fault.1.opens.take d.fault.1.opens.length) d.fault.1.last = d.fault.1.names := by
          rw [List.take_length, hfs.2.2.2.1, hfs.2.2.1, hfs.2.1]
          exact hcon.symm
        unfold Dk.settle
        rw [e]
      rw [he] at H2
      clear h hd hr he hfs hcon
      go_enter Try.func38, Try.ntmps38
      go_wp2_with fail
      refine H2.out.mono ?_
      rintro e w1 ⟨rfl, h1, ev⟩
      obtain ⟨an, cn, hnv, _⟩ := nm_row h1.nm
      have c1 : w1.cell? ⟨b, 1, none⟩ = some r.nv := h1.cell 1
      have c2 : w1.cell? ⟨b, 2, none⟩ = some r.lv := h1.cell 2
      have c3 : w1.cell? ⟨b, 3, none⟩ = some r.ov := h1.cell 3
      have z2 := h1.frozen 2
      have z3 := h1.frozen 3
      rw [hnv] at c1
      have HR : Hid (RHas base b { d.fault.1 with last := d.fault.1.names, opens := [] } ((w1.setCell ⟨b, 2, none⟩ (.slice an d.fault.1.names.length cn)).setCell ⟨b, 3, none⟩ (.slice none 0 0)) ∧ Ev ET base w ((w1.setCell ⟨b, 2, none⟩ (.slice an d.fault.1.names.length cn)).setCell ⟨b, 3, none⟩ (.slice none 0 0))) := by
        have hk : ∀ k, k < w1.heap.size → k ≠ b → ((w1.setCell ⟨b, 2, none⟩ (.slice an d.fault.1.names.length cn)).setCell ⟨b, 3, none⟩ (.slice none 0 0)).heap[k]? = w1.heap[k]? := fun k _ hn => (set_ne hn _).trans (set_ne hn _)
        have hb2 := set_at (i := 2) h1.disk (.slice an d.fault.1.names.length cn)
        refine ⟨⟨{ r with lv := .slice an d.fault.1.names.length cn, ov := .slice none 0 0 }, rd_own h1 hk (by rw [size_set, size_set]; exact Nat.le_refl _) (set_at (i := 3) hb2 _) rfl rfl (row_own h1 hk h1.nm (by decide)) ?_ (World.ownsRow_nil _ _ _ _) (row_own h1 hk h1.pl (by decide)) h1.left h1.rn h1.rn⟩, (ev.trans (Ev.set h1.disk h1.bb rfl _)).trans (Ev.set hb2 h1.bb rfl _)⟩
        have := row_own h1 hk h1.nm (by decide)
        rw [hnv] at this
        exact this
      clear h1 ev hnv
      go_wp2_with fail
      go_ret
      rw [HE.out]
      exact ⟨rfl, HR.out.1, HR.out.2⟩
    · have HE : Hid (d.syncNames = (d.fault.1, d.fault.2.2)) := by
        show _ = _
        unfold Dk.syncNames
        rw [if_neg (by rw [hr]; decide)]
        show (if _ then _ else _) = _
        rw [if_neg he]
      have heb := err_ne he
      clear h hd hr he hcon
      go_enter Try.func38, Try.ntmps38
      go_wp2_with fail
      refine H2.out.mono ?_
      rintro e w1 ⟨rfl, h1, ev⟩
      have HR := hid_of (And.intro (RHas.mk h1) ev)
      clear h1 ev
      go_wp2_with fail
      go_ret
      rw [HE.out]
      exact ⟨rfl, HR.out.1, HR.out.2⟩
end Go.Proofs.Ytilbffbmpgebmaa.RefOps2
