/- The document's own Truncate. -/
import Derived.Test.YtilbffbmpgebmaaRefFiles2
namespace Go.Proofs.Ytilbffbmpgebmaa.RefTrunc
open Go.RowKit Go.Maps
open Go.Proofs.Ytilbffbmpgebmaa.DiskMath
open Go.Proofs.Ytilbffbmpgebmaa.RefMath
open Go.Proofs.Ytilbffbmpgebmaa.Base
open Go.Proofs.Ytilbffbmpgebmaa.Small
open Go.Proofs.Ytilbffbmpgebmaa.Append
open Go.Proofs.Ytilbffbmpgebmaa.Plan
open Go.Proofs.Ytilbffbmpgebmaa.File
open Go.Proofs.Ytilbffbmpgebmaa.File2
open Go.Proofs.Ytilbffbmpgebmaa.RefNames
open Go.Proofs.Ytilbffbmpgebmaa.RefWith
open Go.Proofs.Ytilbffbmpgebmaa.RefBase
open Go.Proofs.Ytilbffbmpgebmaa.RefChange
open Go.Proofs.Ytilbffbmpgebmaa.RefFault
open Go.Proofs.Ytilbffbmpgebmaa.RefFiles
open Go.Proofs.Ytilbffbmpgebmaa.RefFiles2
set_option linter.unusedVariables false
set_option linter.unusedSimpArgs false

theorem mk_ext (a : Bs) (k : Nat) : (mk a).extract 0 k = mk (a.take k) := by
  apply of_bs
  rw [bs_mk, ext_take, bs_mk]
theorem upd_two (d : Dk) (f : Nat) (p q : Bs × Nat → Bs × Nat) : (d.upd f p).upd f q = d.upd f (fun x => q (p x)) := by
  unfold Dk.upd
  congr 1
  apply List.ext_getElem?
  intro i
  simp only [List.getElem?_modify]
  by_cases h : f = i
  · subst h; simp [Option.map_map, Function.comp_def]
  · simp [h]
theorem trunc_no {d : Dk} {s : Bs} {n : Int} (ha : d.asked s ≠ 0) : d.trunc s n = (d, d.asked s) := by unfold Dk.trunc; rw [if_pos ha]
theorem trunc_err {d : Dk} {s : Bs} {n : Int} (ha : d.asked s = 0) (he : d.fault.2.2 ≠ 0) : d.trunc s n = (d.fault.1, d.fault.2.2) := by
  unfold Dk.trunc
  rw [if_neg (by rw [ha]; decide)]
  show (if _ then _ else _) = _
  rw [if_neg he]
theorem trunc_ok {d : Dk} {s : Bs} {n : Int} (ha : d.asked s = 0) (he : d.fault.2.2 = 0) : d.trunc s n = (d.fault.1.upd (d.file s) (fun x => cutF (within n x.1.length) x), 0) := by
  unfold Dk.trunc
  rw [if_neg (by rw [ha]; decide)]
  show (if _ then _ else _) = _
  rw [if_pos he]
theorem upd_id (d : Dk) (f : Nat) : d.upd f (fun x => x) = d := by
  unfold Dk.upd
  have : d.files.modify f (fun x => x) = d.files := by
    apply List.ext_getElem?
    intro i
    simp [List.getElem?_modify]
  rw [this]
/- a file behind an update -/
theorem upd_get {d : Dk} {f : Nat} {x : Bs × Nat} (hx : d.files[f]? = some x) (p : Bs × Nat → Bs × Nat) : (d.upd f p).files[f]? = some (p x) := by
  show (d.files.modify f p)[f]? = _
  simp [List.getElem?_modify, hx]
set_option maxHeartbeats 4000000 in
set_option maxRecDepth 100000 in
theorem rtrunc_pos (base b : Nat) (r : Rl) (d : Dk) (s : ByteArray) (n : Int) (w : World) (h : RD base b r d w) (ok : Ok d) (hst : d.steps < 1099511627776) (hz : ∀ x ∈ d.files, x.2 ≤ x.1.length ∧ x.1.length ≤ 140737488355328) (ha : d.asked (bs s) = 0) (he : d.fault.2.2 = 0) :
    Calls Try.prog 34 #[ptr b, .string s, .int .i64 n] w fun e w' => e = .returned (.int .i64 (d.trunc (bs s) n).2) ∧ RHas base b (d.trunc (bs s) n).1 w' ∧ Ev ET base w w' := by
  have hl : d.names.length < 1099511627776 := Nat.lt_of_le_of_lt ok.nlen hst
  have H1 := hid_of (rasked_call base b r d s w h hl)
  have H2 := hid_of (rfault_call base b r d w h hst)
  unfold ptr at *
  rw [ask_yes ha, ha] at H1
  rw [he] at H2
  obtain ⟨x, hx⟩ := fault_file ok ha
  obtain ⟨hx2, hxl⟩ := hz x (by rw [← (fault_same d).1]; exact List.mem_of_getElem? hx)
  have HX := hid_of hx
  have HE := hid_of (trunc_ok (n := n) ha he)
  obtain ⟨m, hm⟩ : ∃ m : Nat, (m : Int) = if n < 0 then 0 else n := by
    by_cases hn : n < 0
    · exact ⟨0, by rw [if_pos hn]; rfl⟩
    · exact ⟨n.toNat, by rw [if_neg hn]; omega⟩
  have hw : within n x.1.length = min m x.1.length := by
    unfold within
    by_cases hn : n < 0
    · rw [if_pos hn] at hm; omega
    · rw [if_neg hn] at hm; omega
  have HC : Hid (∀ D : Dk, D.files[d.file (bs s)]? = some x → D.upd (d.file (bs s)) (fun x => cutF (within n x.1.length) x) = D.upd (d.file (bs s)) (fun x' => (x.1.take (min m x.1.length), min x.2 (min m x.1.length)))) := by
    intro D hD
    refine upd_congr hD ?_
    show cutF (within n x.1.length) x = _
    rw [hw]
    rfl
  have HCX : Hid (d.fault.1.upd (d.file (bs s)) (fun x => cutF (within n x.1.length) x) = d.fault.1.upd (d.file (bs s)) (fun x' => (x.1.take (min m x.1.length), min x.2 (min m x.1.length)))) := HC.out _ hx
  obtain ⟨f, hf⟩ : ∃ f, f = d.file (bs s) := ⟨_, rfl⟩
  rw [← hf] at HX HE HCX H1
  have hmk : (mk x.1).size = x.1.length := mk_size _
  have HMK := hid_of hmk
  clear h ok ha he hx hz hw HC hmk hf
  rcases (show n < 0 ∧ m = 0 ∨ ¬ n < 0 ∧ n = (m : Int) by
    by_cases hn : n < 0
    · rw [if_pos hn] at hm; exact Or.inl ⟨hn, by omega⟩
    · rw [if_neg hn] at hm; exact Or.inr ⟨hn, hm.symm⟩) with ⟨hn, hm0⟩ | ⟨hn, hm0⟩
  · subst hm0
    clear hm
    obtain ⟨m, hm⟩ : ∃ m : Nat, m = 0 := ⟨_, rfl⟩
    rw [← hm] at HCX
    by_cases hlt : m < x.1.length
    · go_enter Try.func34, Try.ntmps34
      go_wp2_with fail
      refine H1.out.mono ?_
      rintro e w' ⟨rfl, rfl⟩
      go_wp2_with fail
      refine H2.out.mono ?_
      rintro e w1 ⟨rfl, h1, ev⟩
      obtain ⟨g, cap, at1⟩ := fl_at h1 HX.out
      have c0 : w1.cell? ⟨b, 0, none⟩ = some r.fv := h1.cell 0
      rw [at1.val] at c0
      have k0 := at1.c0
      have k1 := at1.c1
      have z0 := at1.frozen (f * 2)
      have z1 := at1.frozen (f * 2 + 1)
      have hfl : ((f : Nat) : Int) < (d.fault.1.files.length : Int) := by have := at1.lt; omega
      have hfl2 := at1.lt
      obtain ⟨hr2, ev2⟩ := rd_bytes h1 at1 (x.1.take m)
      obtain ⟨w2, hw2⟩ : ∃ w2, w2 = w1.setCell ⟨g, f * 2, none⟩ (.string (mk (x.1.take m))) := ⟨_, rfl⟩
      rw [← hw2] at hr2 ev2
      have hx2' : (d.fault.1.upd f (fun x' => (x.1.take m, x'.2))).files[f]? = some (x.1.take m, x.2) := upd_get HX.out _
      obtain ⟨gg, cc, at2⟩ := fl_at hr2 hx2'
      have hgg : gg = g ∧ cc = cap := by
        have e1 := at2.val
        rw [at1.val] at e1
        injection e1 with e1 e2 e3
        injection e1 with e1
        injection e1 with e1
        exact ⟨e1.symm, e3.symm⟩
      obtain ⟨rfl, rfl⟩ := hgg
      have C2 : w2.cell? ⟨b, 0, none⟩ = some r.fv := hr2.cell 0
      rw [at1.val] at C2
      have K1 := at2.c1
      have Z1 := at2.frozen (f * 2 + 1)
      have hext : (mk x.1).extract 0 m = mk (x.1.take m) := mk_ext x.1 m
      have hsl := slice_to (mk x.1) m (by rw [HMK.out]; omega)
      rw [hext] at hsl
      have hg1 : ((m : Nat) : Int) < ((mk x.1).size : Int) := by rw [HMK.out]; omega
      have hm0 : ((m : Nat) : Int) = 0 := by omega
      rw [hm0] at hsl hg1
      by_cases hs2 : (m : Nat) < x.2
      · have hg2 : (0 : Int) < ((x.2 : Nat) : Int) := by omega
        obtain ⟨hr3, ev3⟩ := rd_synced hr2 at2 m
        rw [hm0] at hr3 ev3
        have HR : Hid (RHas base b (d.fault.1.upd f (fun x' => (x.1.take (min m x.1.length), min x.2 (min m x.1.length)))) (w2.setCell ⟨gg, f * 2 + 1, none⟩ (.int .i64 0)) ∧ Ev ET base w' (w2.setCell ⟨gg, f * 2 + 1, none⟩ (.int .i64 0))) := by
          refine ⟨⟨r, ?_⟩, (ev.trans ev2).trans ev3⟩
          rw [upd_two] at hr3
          rw [Nat.min_eq_left (by omega : m ≤ x.1.length), Nat.min_eq_right (by omega : m ≤ x.2)]
          exact hr3
        clear h1 at1 at2 hr2 hr3 ev ev2 ev3 hx2' hext
        generalize mk x.1 = X at k0 hg1 hsl
        generalize mk (x.1.take m) = Y at hsl hw2
        go_wp2_with fail
        go_region
        all_goals
          first | rw [← hw2] | skip
          clear hw2
          go_wp2_with fail
          go_ret
          rw [HE.out, HCX.out]
          exact ⟨rfl, HR.out.1.below ⟨rfl, rfl, rfl, Nat.le_refl _, fun _ _ => rfl⟩, HR.out.2.trans (Ev.of_below ⟨rfl, rfl, rfl, Nat.le_refl _, fun _ _ => rfl⟩)⟩
      · have hg2 : ¬ (0 : Int) < ((x.2 : Nat) : Int) := by omega
        have HR : Hid (RHas base b (d.fault.1.upd f (fun x' => (x.1.take (min m x.1.length), min x.2 (min m x.1.length)))) w2 ∧ Ev ET base w' w2) := by
          refine ⟨⟨r, ?_⟩, ev.trans ev2⟩
          rw [Nat.min_eq_left (by omega : m ≤ x.1.length), Nat.min_eq_left (by omega : x.2 ≤ m), upd_congr HX.out (g := fun x' => (x.1.take m, x'.2)) rfl]
          exact hr2
        clear h1 at1 at2 hr2 ev ev2 hx2' hext
        generalize mk x.1 = X at k0 hg1 hsl
        generalize mk (x.1.take m) = Y at hsl hw2
        go_wp2_with fail
        go_region
        all_goals
          first | rw [← hw2] | skip
          clear hw2
          go_wp2_with fail
          go_ret
          rw [HE.out, HCX.out]
          exact ⟨rfl, HR.out.1.below ⟨rfl, rfl, rfl, Nat.le_refl _, fun _ _ => rfl⟩, HR.out.2.trans (Ev.of_below ⟨rfl, rfl, rfl, Nat.le_refl _, fun _ _ => rfl⟩)⟩
    · go_enter Try.func34, Try.ntmps34
      go_wp2_with fail
      refine H1.out.mono ?_
      rintro e w' ⟨rfl, rfl⟩
      go_wp2_with fail
      refine H2.out.mono ?_
      rintro e w1 ⟨rfl, h1, ev⟩
      obtain ⟨g, cap, at1⟩ := fl_at h1 HX.out
      have c0 : w1.cell? ⟨b, 0, none⟩ = some r.fv := h1.cell 0
      rw [at1.val] at c0
      have k0 := at1.c0
      have k1 := at1.c1
      have z0 := at1.frozen (f * 2)
      have z1 := at1.frozen (f * 2 + 1)
      have hfl : ((f : Nat) : Int) < (d.fault.1.files.length : Int) := by have := at1.lt; omega
      have hfl2 := at1.lt
      have HR : Hid (RHas base b (d.fault.1.upd f (fun x' => (x.1.take (min m x.1.length), min x.2 (min m x.1.length)))) w1 ∧ Ev ET base w' w1) := by
        refine ⟨⟨r, ?_⟩, ev⟩
        rw [upd_congr HX.out (g := fun x' => x') (by rw [Nat.min_eq_right (by omega), List.take_length, Nat.min_eq_left hx2]), upd_id]
        exact h1
      have hg1 : ¬ ((m : Nat) : Int) < ((mk x.1).size : Int) := by rw [HMK.out]; omega
      have hg2 : ¬ (0 : Int) < ((x.2 : Nat) : Int) := by omega
      have hm0 : ((m : Nat) : Int) = 0 := by omega
      rw [hm0] at hg1
      clear h1 at1 ev
      generalize mk x.1 = X at k0 hg1
      go_wp2_with fail
      go_ret
      rw [HE.out, HCX.out]
      exact ⟨rfl, HR.out.1, HR.out.2⟩
  · subst hm0
    clear hm
    by_cases hlt : m < x.1.length
    · go_enter Try.func34, Try.ntmps34
      go_wp2_with fail
      refine H1.out.mono ?_
      rintro e w' ⟨rfl, rfl⟩
      go_wp2_with fail
      refine H2.out.mono ?_
      rintro e w1 ⟨rfl, h1, ev⟩
      obtain ⟨g, cap, at1⟩ := fl_at h1 HX.out
      have c0 : w1.cell? ⟨b, 0, none⟩ = some r.fv := h1.cell 0
      rw [at1.val] at c0
      have k0 := at1.c0
      have k1 := at1.c1
      have z0 := at1.frozen (f * 2)
      have z1 := at1.frozen (f * 2 + 1)
      have hfl : ((f : Nat) : Int) < (d.fault.1.files.length : Int) := by have := at1.lt; omega
      have hfl2 := at1.lt
      obtain ⟨hr2, ev2⟩ := rd_bytes h1 at1 (x.1.take m)
      obtain ⟨w2, hw2⟩ : ∃ w2, w2 = w1.setCell ⟨g, f * 2, none⟩ (.string (mk (x.1.take m))) := ⟨_, rfl⟩
      rw [← hw2] at hr2 ev2
      have hx2' : (d.fault.1.upd f (fun x' => (x.1.take m, x'.2))).files[f]? = some (x.1.take m, x.2) := upd_get HX.out _
      obtain ⟨gg, cc, at2⟩ := fl_at hr2 hx2'
      have hgg : gg = g ∧ cc = cap := by
        have e1 := at2.val
        rw [at1.val] at e1
        injection e1 with e1 e2 e3
        injection e1 with e1
        injection e1 with e1
        exact ⟨e1.symm, e3.symm⟩
      obtain ⟨rfl, rfl⟩ := hgg
      have C2 : w2.cell? ⟨b, 0, none⟩ = some r.fv := hr2.cell 0
      rw [at1.val] at C2
      have K1 := at2.c1
      have Z1 := at2.frozen (f * 2 + 1)
      have hext : (mk x.1).extract 0 m = mk (x.1.take m) := mk_ext x.1 m
      have hsl := slice_to (mk x.1) m (by rw [HMK.out]; omega)
      rw [hext] at hsl
      have hg1 : ((m : Nat) : Int) < ((mk x.1).size : Int) := by rw [HMK.out]; omega
      skip
      by_cases hs2 : (m : Nat) < x.2
      · have hg2 : ((m : Nat) : Int) < ((x.2 : Nat) : Int) := by omega
        obtain ⟨hr3, ev3⟩ := rd_synced hr2 at2 m
        have HR : Hid (RHas base b (d.fault.1.upd f (fun x' => (x.1.take (min m x.1.length), min x.2 (min m x.1.length)))) (w2.setCell ⟨gg, f * 2 + 1, none⟩ (.int .i64 ((m : Nat) : Int))) ∧ Ev ET base w' (w2.setCell ⟨gg, f * 2 + 1, none⟩ (.int .i64 ((m : Nat) : Int)))) := by
          refine ⟨⟨r, ?_⟩, (ev.trans ev2).trans ev3⟩
          rw [upd_two] at hr3
          rw [Nat.min_eq_left (by omega : m ≤ x.1.length), Nat.min_eq_right (by omega : m ≤ x.2)]
          exact hr3
        clear h1 at1 at2 hr2 hr3 ev ev2 ev3 hx2' hext
        generalize mk x.1 = X at k0 hg1 hsl
        generalize mk (x.1.take m) = Y at hsl hw2
        go_wp2_with fail
        go_region
        all_goals
          first | rw [← hw2] | skip
          clear hw2
          go_wp2_with fail
          go_ret
          rw [HE.out, HCX.out]
          exact ⟨rfl, HR.out.1.below ⟨rfl, rfl, rfl, Nat.le_refl _, fun _ _ => rfl⟩, HR.out.2.trans (Ev.of_below ⟨rfl, rfl, rfl, Nat.le_refl _, fun _ _ => rfl⟩)⟩
      · have hg2 : ¬ ((m : Nat) : Int) < ((x.2 : Nat) : Int) := by omega
        have HR : Hid (RHas base b (d.fault.1.upd f (fun x' => (x.1.take (min m x.1.length), min x.2 (min m x.1.length)))) w2 ∧ Ev ET base w' w2) := by
          refine ⟨⟨r, ?_⟩, ev.trans ev2⟩
          rw [Nat.min_eq_left (by omega : m ≤ x.1.length), Nat.min_eq_left (by omega : x.2 ≤ m), upd_congr HX.out (g := fun x' => (x.1.take m, x'.2)) rfl]
          exact hr2
        clear h1 at1 at2 hr2 ev ev2 hx2' hext
        generalize mk x.1 = X at k0 hg1 hsl
        generalize mk (x.1.take m) = Y at hsl hw2
        go_wp2_with fail
        go_region
        all_goals
          first | rw [← hw2] | skip
          clear hw2
          go_wp2_with fail
          go_ret
          rw [HE.out, HCX.out]
          exact ⟨rfl, HR.out.1.below ⟨rfl, rfl, rfl, Nat.le_refl _, fun _ _ => rfl⟩, HR.out.2.trans (Ev.of_below ⟨rfl, rfl, rfl, Nat.le_refl _, fun _ _ => rfl⟩)⟩
    · go_enter Try.func34, Try.ntmps34
      go_wp2_with fail
      refine H1.out.mono ?_
      rintro e w' ⟨rfl, rfl⟩
      go_wp2_with fail
      refine H2.out.mono ?_
      rintro e w1 ⟨rfl, h1, ev⟩
      obtain ⟨g, cap, at1⟩ := fl_at h1 HX.out
      have c0 : w1.cell? ⟨b, 0, none⟩ = some r.fv := h1.cell 0
      rw [at1.val] at c0
      have k0 := at1.c0
      have k1 := at1.c1
      have z0 := at1.frozen (f * 2)
      have z1 := at1.frozen (f * 2 + 1)
      have hfl : ((f : Nat) : Int) < (d.fault.1.files.length : Int) := by have := at1.lt; omega
      have hfl2 := at1.lt
      have HR : Hid (RHas base b (d.fault.1.upd f (fun x' => (x.1.take (min m x.1.length), min x.2 (min m x.1.length)))) w1 ∧ Ev ET base w' w1) := by
        refine ⟨⟨r, ?_⟩, ev⟩
        rw [upd_congr HX.out (g := fun x' => x') (by rw [Nat.min_eq_right (by omega), List.take_length, Nat.min_eq_left hx2]), upd_id]
        exact h1
      have hg1 : ¬ ((m : Nat) : Int) < ((mk x.1).size : Int) := by rw [HMK.out]; omega
      have hg2 : ¬ ((m : Nat) : Int) < ((x.2 : Nat) : Int) := by omega
      skip
      clear h1 at1 ev
      generalize mk x.1 = X at k0 hg1
      go_wp2_with fail
      go_ret
      rw [HE.out, HCX.out]
      exact ⟨rfl, HR.out.1, HR.out.2⟩
set_option maxHeartbeats 1000000 in
set_option maxRecDepth 100000 in
theorem rtrunc_call (base b : Nat) (r : Rl) (d : Dk) (s : ByteArray) (n : Int) (w : World) (h : RD base b r d w) (ok : Ok d) (hst : d.steps < 1099511627776) (hz : ∀ x ∈ d.files, x.2 ≤ x.1.length ∧ x.1.length ≤ 140737488355328) :
    Calls Try.prog 34 #[ptr b, .string s, .int .i64 n] w fun e w' => e = .returned (.int .i64 (d.trunc (bs s) n).2) ∧ RHas base b (d.trunc (bs s) n).1 w' ∧ Ev ET base w w' := by
  by_cases ha : d.asked (bs s) = 0
  · by_cases he : d.fault.2.2 = 0
    · exact rtrunc_pos base b r d s n w h ok hst hz ha he
    · have hl : d.names.length < 1099511627776 := Nat.lt_of_le_of_lt ok.nlen hst
      have H1 := hid_of (rasked_call base b r d s w h hl)
      have H2 := hid_of (rfault_call base b r d w h hst)
      have HE := hid_of (trunc_err (n := n) ha he)
      have heb := err_ne he
      unfold ptr at *
      rw [ask_yes ha, ha] at H1
      clear h ok ha he hz
      go_enter Try.func34, Try.ntmps34
      go_wp2_with fail
      refine H1.out.mono ?_
      rintro e w' ⟨rfl, rfl⟩
      go_wp2_with fail
      refine H2.out.mono ?_
      rintro e w1 ⟨rfl, h1, ev⟩
      have HR := hid_of (And.intro (RHas.mk h1) ev)
      clear h1 ev
      go_wp2_with fail
      go_ret
      rw [HE.out]
      exact ⟨rfl, HR.out.1, HR.out.2⟩
  · have hl : d.names.length < 1099511627776 := Nat.lt_of_le_of_lt ok.nlen hst
    have H1 := hid_of (rasked_call base b r d s w h hl)
    have HE := hid_of (trunc_no (n := n) ha)
    have hb := ask_ne ha
    have HD := hid_of h
    unfold ptr at *
    clear h ok ha hz
    go_enter Try.func34, Try.ntmps34
    go_wp2_with fail
    refine H1.out.mono ?_
    rintro e w' ⟨rfl, rfl⟩
    go_wp2_with fail
    go_ret
    rw [HE.out]
    exact ⟨rfl, ⟨r, HD.out⟩, Ev.refl _ _ _⟩
end Go.Proofs.Ytilbffbmpgebmaa.RefTrunc
