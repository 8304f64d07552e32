/- The document's own files: Append, Truncate, Sync. -/
import Derived.Test.YtilbffbmpgebmaaRefFiles
import Derived.Deep.RegionHeld3
namespace Go.Proofs.Ytilbffbmpgebmaa.RefFiles2
open Go.RowKit Go.Maps
open Go.Proofs.Ytilbffbmpgebmaa.DiskMath
open Go.Proofs.Ytilbffbmpgebmaa.RefMath
open Go.Proofs.Ytilbffbmpgebmaa.Base
open Go.Proofs.Ytilbffbmpgebmaa.Small
open Go.Proofs.Ytilbffbmpgebmaa.Append
open Go.Proofs.Ytilbffbmpgebmaa.Plan
open Go.Proofs.Ytilbffbmpgebmaa.File
open Go.Proofs.Ytilbffbmpgebmaa.File2
open Go.Proofs.Ytilbffbmpgebmaa.RefNames
open Go.Proofs.Ytilbffbmpgebmaa.RefWith
open Go.Proofs.Ytilbffbmpgebmaa.RefBase
open Go.Proofs.Ytilbffbmpgebmaa.RefChange
open Go.Proofs.Ytilbffbmpgebmaa.RefFault
open Go.Proofs.Ytilbffbmpgebmaa.RefFiles
set_option linter.unusedVariables false
set_option linter.unusedSimpArgs false

theorem RHas.mk {base b : Nat} {r : Rl} {d : Dk} {w : World} (h : RD base b r d w) : RHas base b d w := ⟨r, h⟩
/- the file behind a step -/
theorem fault_file {d : Dk} (ok : Ok d) {name : Bs} (ha : d.asked name = 0) : ∃ x, d.fault.1.files[d.file name]? = some x := by
  obtain ⟨x, hx, _, _⟩ := asked_ok ok ha
  exact ⟨x, by rw [(fault_same d).1]; exact hx⟩
theorem err_ne {d : Dk} (h : d.fault.2.2 ≠ 0) : (d.fault.2.2 == 0) = false := by rw [beq_eq_false_iff_ne]; exact h
set_option maxHeartbeats 1000000 in
set_option maxRecDepth 100000 in
theorem rsync_call (base b : Nat) (r : Rl) (d : Dk) (s : ByteArray) (w : World) (h : RD base b r d w) (ok : Ok d) (hst : d.steps < 1099511627776) (hz : ∀ x ∈ d.files, x.1.length ≤ 140737488355328) :
    Calls Try.prog 35 #[ptr b, .string s] w fun e w' => e = .returned (.int .i64 (d.sync (bs s)).2) ∧ RHas base b (d.sync (bs s)).1 w' ∧ Ev ET base w w' := by
  have hl : d.names.length < 1099511627776 := Nat.lt_of_le_of_lt ok.nlen hst
  have H1 := hid_of (rasked_call base b r d s w h hl)
  have H2 := hid_of (rfault_call base b r d w h hst)
  have HD := hid_of h
  unfold ptr at *
  by_cases ha : d.asked (bs s) = 0
  · rw [ask_yes ha, ha] at H1
    by_cases he : d.fault.2.2 = 0
    · obtain ⟨x, hx⟩ := fault_file ok ha
      have HE : Hid (d.sync (bs s) = (d.fault.1.upd (d.file (bs s)) syncF, 0)) := by
        show _ = _
        unfold Dk.sync
        rw [if_neg (by rw [ha]; decide)]
        show (if _ then _ else _) = _
        rw [if_pos he]
      have hxl : x.1.length ≤ 140737488355328 := hz x (by rw [← (fault_same d).1]; exact List.mem_of_getElem? hx)
      have HX := hid_of hx
      rw [he] at H2
      clear h ok ha he hx hz
      go_enter Try.func35, Try.ntmps35
      go_wp2_with fail
      refine H1.out.mono ?_
      rintro e w' ⟨rfl, rfl⟩
      go_wp2_with fail
      refine H2.out.mono ?_
      rintro e w1 ⟨rfl, h1, ev⟩
      obtain ⟨g, cap, at1⟩ := fl_at h1 HX.out
      have c0 : w1.cell? ⟨b, 0, none⟩ = some r.fv := h1.cell 0
      rw [at1.val] at c0
      have k0 := at1.c0
      have k1 := at1.c1
      have z1 := at1.frozen (d.file (bs s) * 2 + 1)
      have hlt : ((d.file (bs s) : Nat) : Int) < (d.fault.1.files.length : Int) := by have := at1.lt; omega
      have hlt2 := at1.lt
      have hmk : ((mk x.1).size : Int) = (x.1.length : Int) := by rw [mk_size]
      obtain ⟨hr2, ev2⟩ := rd_synced h1 at1 x.1.length
      have HR : Hid (RHas base b (d.fault.1.upd (d.file (bs s)) syncF) (w1.setCell ⟨g, d.file (bs s) * 2 + 1, none⟩ (.int .i64 (x.1.length : Int))) ∧ Ev ET base w' (w1.setCell ⟨g, d.file (bs s) * 2 + 1, none⟩ (.int .i64 (x.1.length : Int)))) := by
        refine ⟨⟨r, ?_⟩, ev.trans ev2⟩
        rw [upd_congr HX.out (g := fun x' => (x'.1, x.1.length)) rfl]
        exact hr2
      rw [← hmk] at HR
      clear h1 at1 hr2 ev ev2 hmk
      generalize mk x.1 = X at k0 HR
      go_wp2_with fail
      go_region
      all_goals
        try go_wp2_with fail
        go_ret
        rw [HE.out]
        exact ⟨rfl, HR.out.1.below ⟨rfl, rfl, rfl, Nat.le_refl _, fun _ _ => rfl⟩, HR.out.2.trans (Ev.of_below ⟨rfl, rfl, rfl, Nat.le_refl _, fun _ _ => rfl⟩)⟩
    · have HE : Hid (d.sync (bs s) = (d.fault.1, d.fault.2.2)) := by
        show _ = _
        unfold Dk.sync
        rw [if_neg (by rw [ha]; decide)]
        show (if _ then _ else _) = _
        rw [if_neg he]
      have heb := err_ne he
      clear h ok ha he hz
      go_enter Try.func35, Try.ntmps35
      go_wp2_with fail
      refine H1.out.mono ?_
      rintro e w' ⟨rfl, rfl⟩
      go_wp2_with fail
      refine H2.out.mono ?_
      rintro e w1 ⟨rfl, h1, ev⟩
      have HR := hid_of (And.intro (RHas.mk h1) ev)
      clear h1 ev
      go_wp2_with fail
      go_ret
      rw [HE.out]
      exact ⟨rfl, HR.out.1, HR.out.2⟩
  · have HE : Hid (d.sync (bs s) = (d, d.asked (bs s))) := by
      show _ = _
      unfold Dk.sync
      rw [if_pos ha]
    have hb := ask_ne ha
    clear h ok ha hz
    go_enter Try.func35, Try.ntmps35
    go_wp2_with fail
    refine H1.out.mono ?_
    rintro e w' ⟨rfl, rfl⟩
    go_wp2_with fail
    go_ret
    rw [HE.out]
    exact ⟨rfl, ⟨r, HD.out⟩, Ev.refl _ _ _⟩
theorem fault_n {d : Dk} (ok : Ok d) : 0 ≤ d.fault.2.1 := by
  unfold Dk.fault
  cases hp : d.plan with
  | nil => exact Int.le_refl _
  | cons f r =>
    show 0 ≤ (if _ then (if _ then _ else _) else _ : Dk × Int × Int).2.1
    have := ok.plan f (by rw [hp]; exact List.mem_cons_self)
    split
    · split
      · exact Int.le_refl _
      · exact this.2.2.2.2.1
    · exact Int.le_refl _
theorem cat_ext (a : Bs) (t : ByteArray) (k : Nat) : mk a ++ t.extract 0 k = mk (a ++ (bs t).take k) := by
  apply of_bs
  rw [bs_mk]
  have e1 : bs (mk a ++ t.extract 0 k) = a ++ bs (t.extract 0 k) := by unfold bs mk; simp
  rw [e1, ext_take]
theorem slice_to (t : ByteArray) (k : Nat) (hk : k ≤ t.size) (W : World) : (Instr.slice 9 (.string t) none (some (.int .i64 (k : Int))) none).run Try.prog W = .ok (.string (t.extract 0 k)) W := by
  have h1 : (0 : Int) ≤ (k : Int) := by omega
  have h2 : (k : Int) ≤ (t.size : Int) := by omega
  simp [go_sem, Try.underlying9, h1, h2]
theorem app_err {d : Dk} {s u : Bs} (ha : d.asked s = 0) (he : d.fault.2.2 ≠ 0) : d.append s u = (d.fault.1.upd (d.file s) (fun x => (x.1 ++ u.take (within d.fault.2.1 u.length), x.2)), ((u.take (within d.fault.2.1 u.length)).length : Int), d.fault.2.2) := by
  unfold Dk.append
  rw [if_neg (by rw [ha]; decide)]
  show (Dk.upd _ _ _, _, _) = _
  rw [if_neg he]
theorem app_ok {d : Dk} {s u : Bs} (ha : d.asked s = 0) (he : d.fault.2.2 = 0) : d.append s u = (d.fault.1.upd (d.file s) (fun x => (x.1 ++ u, x.2)), (u.length : Int), d.fault.2.2) := by
  unfold Dk.append
  rw [if_neg (by rw [ha]; decide)]
  show (Dk.upd _ _ _, _, _) = _
  rw [if_pos he]
set_option maxHeartbeats 2000000 in
set_option maxRecDepth 100000 in
theorem rappend_call (base b : Nat) (r : Rl) (d : Dk) (s t : ByteArray) (w : World) (h : RD base b r d w) (ok : Ok d) (hst : d.steps < 1099511627776) (hz : ∀ x ∈ d.files, x.1.length ≤ 140737488355328) (ht : t.size ≤ 140737488355328) :
    Calls Try.prog 33 #[ptr b, .string s, .string t] w fun e w' => e = .returned (.tuple #[.int .i64 (d.append (bs s) (bs t)).2.1, .int .i64 (d.append (bs s) (bs t)).2.2]) ∧ RHas base b (d.append (bs s) (bs t)).1 w' ∧ Ev ET base w w' := by
  have hl : d.names.length < 1099511627776 := Nat.lt_of_le_of_lt ok.nlen hst
  have H1 := hid_of (rasked_call base b r d s w h hl)
  have H2 := hid_of (rfault_call base b r d w h hst)
  have HD := hid_of h
  have hn0 := fault_n ok
  have htl : (bs t).length = t.size := len_bs t
  unfold ptr at *
  by_cases ha : d.asked (bs s) = 0
  · rw [ask_yes ha, ha] at H1
    obtain ⟨x, hx⟩ := fault_file ok ha
    have hxl : x.1.length ≤ 140737488355328 := hz x (by rw [← (fault_same d).1]; exact List.mem_of_getElem? hx)
    have HX := hid_of hx
    obtain ⟨nf, hnf⟩ : ∃ nf, nf = d.fault.2.1 := ⟨_, rfl⟩
    by_cases he : d.fault.2.2 = 0
    · obtain ⟨k, hkd⟩ : ∃ k, k = t.size := ⟨_, rfl⟩
      have hk : k ≤ t.size := by omega
      have HE : Hid (d.append (bs s) (bs t) = (d.fault.1.upd (d.file (bs s)) (fun x => (x.1 ++ (bs t).take k, x.2)), (k : Int), 0)) := by
        show _ = _
        rw [app_ok ha he, he, hkd, ← htl, List.take_length]
      have hkk : (t.size : Int) = (k : Int) := by omega
      rw [he] at H2
      rw [← hnf] at H2
      clear h ok ha he hx hz hn0 hnf htl hkd
      go_enter Try.func33, Try.ntmps33
      go_wp2_with fail
      refine H1.out.mono ?_
      rintro e w' ⟨rfl, rfl⟩
      go_wp2_with fail
      refine H2.out.mono ?_
      rintro e w1 ⟨rfl, h1, ev⟩
      obtain ⟨g, cap, at1⟩ := fl_at h1 HX.out
      have c0 : w1.cell? ⟨b, 0, none⟩ = some r.fv := h1.cell 0
      rw [at1.val] at c0
      have k0 := at1.c0
      have k1 := at1.c1
      have z0 := at1.frozen (d.file (bs s) * 2)
      have hlt : ((d.file (bs s) : Nat) : Int) < (d.fault.1.files.length : Int) := by have := at1.lt; omega
      have hlt2 := at1.lt
      obtain ⟨hr2, ev2⟩ := rd_bytes h1 at1 (x.1 ++ (bs t).take k)
      have HR : Hid (RHas base b (d.fault.1.upd (d.file (bs s)) (fun x => (x.1 ++ (bs t).take k, x.2))) (w1.setCell ⟨g, d.file (bs s) * 2, none⟩ (.string (mk (x.1 ++ (bs t).take k)))) ∧ Ev ET base w' (w1.setCell ⟨g, d.file (bs s) * 2, none⟩ (.string (mk (x.1 ++ (bs t).take k))))) := by
        refine ⟨⟨r, ?_⟩, ev.trans ev2⟩
        rw [upd_congr HX.out (g := fun x' => (x.1 ++ (bs t).take k, x'.2)) rfl]
        exact hr2
      have hsl := slice_to t k hk
      have hcat := cat_ext x.1 t k
      obtain ⟨Y, hY⟩ : ∃ Y, Y = t.extract 0 k := ⟨_, rfl⟩
      have hYs : Y.size ≤ 140737488355328 := by rw [hY, ext_size t k hk]; omega
      have hXs : (mk x.1).size ≤ 140737488355328 := by rw [mk_size]; exact hxl
      rw [← hY] at hsl hcat
      rw [← hcat] at HR
      clear h1 at1 hr2 ev ev2 hcat hY
      generalize mk x.1 = X at k0 HR hXs
      go_wp2_with fail
      go_region
      all_goals
        try go_wp2_with fail
        go_ret2
        rw [HE.out]
        exact ⟨rfl, HR.out.1.below ⟨rfl, rfl, rfl, Nat.le_refl _, fun _ _ => rfl⟩, HR.out.2.trans (Ev.of_below ⟨rfl, rfl, rfl, Nat.le_refl _, fun _ _ => rfl⟩)⟩
    · have heb := err_ne he
      obtain ⟨er, her⟩ : ∃ er, er = d.fault.2.2 := ⟨_, rfl⟩
      by_cases hgt : (t.size : Int) < nf
      · obtain ⟨k, hkd⟩ : ∃ k, k = t.size := ⟨_, rfl⟩
        have hk : k ≤ t.size := by omega
        have HE : Hid (d.append (bs s) (bs t) = (d.fault.1.upd (d.file (bs s)) (fun x => (x.1 ++ (bs t).take k, x.2)), (k : Int), er)) := by
          show _ = _
          have e1 : within d.fault.2.1 (bs t).length = k := by unfold within; rw [htl, ← hnf]; omega
          rw [app_err ha he, e1, List.length_take, her]
          congr 2
          omega
        have hkk : (t.size : Int) = (k : Int) := by omega
        rw [← her] at H2 heb
        rw [← hnf] at H2
        clear h ok ha he hx hz hn0 hnf htl hkd her
        go_enter Try.func33, Try.ntmps33
        go_wp2_with fail
        refine H1.out.mono ?_
        rintro e w' ⟨rfl, rfl⟩
        go_wp2_with fail
        refine H2.out.mono ?_
        rintro e w1 ⟨rfl, h1, ev⟩
        obtain ⟨g, cap, at1⟩ := fl_at h1 HX.out
        have c0 : w1.cell? ⟨b, 0, none⟩ = some r.fv := h1.cell 0
        rw [at1.val] at c0
        have k0 := at1.c0
        have k1 := at1.c1
        have z0 := at1.frozen (d.file (bs s) * 2)
        have hlt : ((d.file (bs s) : Nat) : Int) < (d.fault.1.files.length : Int) := by have := at1.lt; omega
        have hlt2 := at1.lt
        obtain ⟨hr2, ev2⟩ := rd_bytes h1 at1 (x.1 ++ (bs t).take k)
        have HR : Hid (RHas base b (d.fault.1.upd (d.file (bs s)) (fun x => (x.1 ++ (bs t).take k, x.2))) (w1.setCell ⟨g, d.file (bs s) * 2, none⟩ (.string (mk (x.1 ++ (bs t).take k)))) ∧ Ev ET base w' (w1.setCell ⟨g, d.file (bs s) * 2, none⟩ (.string (mk (x.1 ++ (bs t).take k))))) := by
          refine ⟨⟨r, ?_⟩, ev.trans ev2⟩
          rw [upd_congr HX.out (g := fun x' => (x.1 ++ (bs t).take k, x'.2)) rfl]
          exact hr2
        have hsl := slice_to t k hk
        have hcat := cat_ext x.1 t k
        obtain ⟨Y, hY⟩ : ∃ Y, Y = t.extract 0 k := ⟨_, rfl⟩
        have hYs : Y.size ≤ 140737488355328 := by rw [hY, ext_size t k hk]; omega
        have hXs : (mk x.1).size ≤ 140737488355328 := by rw [mk_size]; exact hxl
        rw [← hY] at hsl hcat
        rw [← hcat] at HR
        clear h1 at1 hr2 ev ev2 hcat hY
        generalize mk x.1 = X at k0 HR hXs
        go_wp2_with fail
        go_region
        all_goals
          try go_wp2_with fail
          go_ret2
          rw [HE.out]
          exact ⟨rfl, HR.out.1.below ⟨rfl, rfl, rfl, Nat.le_refl _, fun _ _ => rfl⟩, HR.out.2.trans (Ev.of_below ⟨rfl, rfl, rfl, Nat.le_refl _, fun _ _ => rfl⟩)⟩
      · obtain ⟨k, hkd⟩ : ∃ k : Nat, nf = (k : Int) := ⟨nf.toNat, by omega⟩
        have hk : k ≤ t.size := by omega
        have HE : Hid (d.append (bs s) (bs t) = (d.fault.1.upd (d.file (bs s)) (fun x => (x.1 ++ (bs t).take k, x.2)), (k : Int), er)) := by
          show _ = _
          have e1 : within d.fault.2.1 (bs t).length = k := by unfold within; rw [htl, ← hnf]; omega
          rw [app_err ha he, e1, List.length_take, her]
          congr 2
          omega
        rw [← her] at H2 heb
        rw [← hnf, hkd] at H2
        have hgt2 : ¬ (t.size : Int) < (k : Int) := by omega
        clear h ok ha he hx hz hn0 hnf htl her hgt hkd
        go_enter Try.func33, Try.ntmps33
        go_wp2_with fail
        refine H1.out.mono ?_
        rintro e w' ⟨rfl, rfl⟩
        go_wp2_with fail
        refine H2.out.mono ?_
        rintro e w1 ⟨rfl, h1, ev⟩
        obtain ⟨g, cap, at1⟩ := fl_at h1 HX.out
        have c0 : w1.cell? ⟨b, 0, none⟩ = some r.fv := h1.cell 0
        rw [at1.val] at c0
        have k0 := at1.c0
        have k1 := at1.c1
        have z0 := at1.frozen (d.file (bs s) * 2)
        have hlt : ((d.file (bs s) : Nat) : Int) < (d.fault.1.files.length : Int) := by have := at1.lt; omega
        have hlt2 := at1.lt
        obtain ⟨hr2, ev2⟩ := rd_bytes h1 at1 (x.1 ++ (bs t).take k)
        have HR : Hid (RHas base b (d.fault.1.upd (d.file (bs s)) (fun x => (x.1 ++ (bs t).take k, x.2))) (w1.setCell ⟨g, d.file (bs s) * 2, none⟩ (.string (mk (x.1 ++ (bs t).take k)))) ∧ Ev ET base w' (w1.setCell ⟨g, d.file (bs s) * 2, none⟩ (.string (mk (x.1 ++ (bs t).take k))))) := by
          refine ⟨⟨r, ?_⟩, ev.trans ev2⟩
          rw [upd_congr HX.out (g := fun x' => (x.1 ++ (bs t).take k, x'.2)) rfl]
          exact hr2
        have hsl := slice_to t k hk
        have hcat := cat_ext x.1 t k
        obtain ⟨Y, hY⟩ : ∃ Y, Y = t.extract 0 k := ⟨_, rfl⟩
        have hYs : Y.size ≤ 140737488355328 := by rw [hY, ext_size t k hk]; omega
        have hXs : (mk x.1).size ≤ 140737488355328 := by rw [mk_size]; exact hxl
        rw [← hY] at hsl hcat
        rw [← hcat] at HR
        clear h1 at1 hr2 ev ev2 hcat hY
        generalize mk x.1 = X at k0 HR hXs
        go_wp2_with fail
        go_region
        all_goals
          try go_wp2_with fail
          go_ret2
          rw [HE.out]
          exact ⟨rfl, HR.out.1.below ⟨rfl, rfl, rfl, Nat.le_refl _, fun _ _ => rfl⟩, HR.out.2.trans (Ev.of_below ⟨rfl, rfl, rfl, Nat.le_refl _, fun _ _ => rfl⟩)⟩
  · have HE : Hid (d.append (bs s) (bs t) = (d, 0, d.asked (bs s))) := by
      show _ = _
      unfold Dk.append
      rw [if_pos ha]
    have hb := ask_ne ha
    clear h ok ha hz hn0
    go_enter Try.func33, Try.ntmps33
    go_wp2_with fail
    refine H1.out.mono ?_
    rintro e w' ⟨rfl, rfl⟩
    go_wp2_with fail
    go_ret2
    rw [HE.out]
    exact ⟨rfl, ⟨r, HD.out⟩, Ev.refl _ _ _⟩
end Go.Proofs.Ytilbffbmpgebmaa.RefFiles2
