/- Create, Rename, Remove, SyncNames. -/
import Derived.Test.YtilbffbmpgebmaaSettle
namespace Go.Proofs.Ytilbffbmpgebmaa.Ops
open Go.RowKit Go.Maps
open Go.Proofs.Ytilbffbmpgebmaa.DiskMath
open Go.Proofs.Ytilbffbmpgebmaa.Base
open Go.Proofs.Ytilbffbmpgebmaa.Small
open Go.Proofs.Ytilbffbmpgebmaa.Find
open Go.Proofs.Ytilbffbmpgebmaa.File
open Go.Proofs.Ytilbffbmpgebmaa.File2
open Go.Proofs.Ytilbffbmpgebmaa.Append
open Go.Proofs.Ytilbffbmpgebmaa.Names
open Go.Proofs.Ytilbffbmpgebmaa.Settle
set_option linter.unusedVariables false

def pos1 (y : Lay) (n B : Nat) : Lay := { y with pos := fun i => if i = n then B else y.pos i, tv := fun i => if i = n then .slice none 0 0 else y.tv i }
theorem chs_agree {pos pos' : Nat → Nat} {n : Nat} : ∀ {l : List Ch}, (∀ c ∈ l, COk n c) → (∀ i, i < n → pos' i = pos i) → l.flatMap (chCells pos') = l.flatMap (chCells pos)
  | [], _, _ => rfl
  | c :: r, h, he => by
    rw [List.flatMap_cons, List.flatMap_cons, chs_agree (fun x hx => h x (List.mem_cons_of_mem _ hx)) he]
    congr 1
    unfold chCells
    have hc := h c List.mem_cons_self
    cases c with
    | make k f => show [_, _, ptr (pos' f)] = [_, _, ptr (pos f)]; rw [he f hc.2.1]
    | move a b f => show [_, _, ptr (pos' f)] = [_, _, ptr (pos f)]; rw [he f hc.2.2.1]
    | drop k => rfl
theorem DK.newfile {base b : Nat} {y : Lay} {d : Dk} {w : World} (h : DK base b y d w) :
    DK base b (pos1 y d.files.length w.heap.size) { d with files := d.files ++ [([], 0)] } (w.alloc (.cells #[.slice none 0 0, .int .i64 0] 86)) := by
  have h1 := h.alloc (.cells #[.slice none 0 0, .int .i64 0] 86)
  have ok := h.ok
  have he : ∀ i, i < d.files.length → (pos1 y d.files.length w.heap.size).pos i = y.pos i := fun i hi => by
    show (if i = d.files.length then _ else _) = _
    rw [if_neg (by omega)]
  have ht : ∀ i, i < d.files.length → (pos1 y d.files.length w.heap.size).tv i = y.tv i := fun i hi => by
    show (if i = d.files.length then _ else _) = _
    rw [if_neg (by omega)]
  have hn : (pos1 y d.files.length w.heap.size).pos d.files.length = w.heap.size := if_pos rfl
  have htn : (pos1 y d.files.length w.heap.size).tv d.files.length = .slice none 0 0 := if_pos rfl
  have hlt : ∀ i, i < d.files.length → y.pos i < w.heap.size := fun i hi => lt_of (h.fl i _ (List.getElem?_eq_getElem hi)).blk
  have hL : (d.files ++ [(([] : Bs), 0)]).length = d.files.length + 1 := by simp
  refine ⟨h1.disk, h.bb, h.nb, h.lb, h.ne, ?_, ?_, ?_, h1.pl, fun i x hx => ?_, fun i j hi hj e => ?_, fun i j g hi hj hne hg => ?_, ?_, h1.hb⟩
  · rw [show (toD (pos1 y d.files.length w.heap.size).pos d.names) = toD y.pos d.names from toD_agree ok.names he]; exact h1.nm
  · rw [show (toD (pos1 y d.files.length w.heap.size).pos d.last) = toD y.pos d.last from toD_agree ok.last he]; exact h1.ls
  · rw [show d.opens.flatMap (chCells (pos1 y d.files.length w.heap.size).pos) = d.opens.flatMap (chCells y.pos) from chs_agree ok.opens he]; exact h1.op
  · by_cases e : i < d.files.length
    · have hx' : d.files[i]? = some x := by
        have hx2 : (d.files ++ [(([] : Bs), 0)])[i]? = some x := hx
        rw [List.getElem?_append_left e] at hx2; exact hx2
      rw [he i e, ht i e]
      exact h1.fl i x hx'
    · have hi2 : i < d.files.length + 1 := by
        have := (List.getElem?_eq_some_iff.1 hx).1
        rw [hL] at this; exact this
      obtain rfl : i = d.files.length := by omega
      have hx2 : (d.files ++ [(([] : Bs), 0)])[d.files.length]? = some x := hx
      rw [List.getElem?_append_right (Nat.le_refl _)] at hx2
      simp at hx2
      subst hx2
      rw [hn, htn]
      exact ⟨heap_alloc_new w _, ⟨rfl, Or.inl ⟨rfl, rfl⟩⟩, h.hb, Nat.le_refl _, Nat.zero_le _⟩
  · change i < (d.files ++ [(([] : Bs), 0)]).length at hi
    change j < (d.files ++ [(([] : Bs), 0)]).length at hj
    rw [hL] at hi hj
    by_cases e1 : i < d.files.length
    · by_cases e2 : j < d.files.length
      · rw [he i e1, he j e2] at e; exact h.inj i j e1 e2 e
      · obtain rfl : j = d.files.length := by omega
        rw [he i e1, hn] at e
        have := hlt i e1
        omega
    · obtain rfl : i = d.files.length := by omega
      by_cases e2 : j < d.files.length
      · rw [he j e2, hn] at e
        have := hlt j e2
        omega
      · omega
  · change i < (d.files ++ [(([] : Bs), 0)]).length at hi
    change j < (d.files ++ [(([] : Bs), 0)]).length at hj
    rw [hL] at hi hj
    by_cases e1 : i < d.files.length
    · by_cases e2 : j < d.files.length
      · rw [ht j e2]
        rw [ht i e1] at hg
        exact h.apart i j g e1 e2 hne hg
      · obtain rfl : j = d.files.length := by omega
        rw [htn]
        intro e; cases e
    · obtain rfl : i = d.files.length := by omega
      rw [htn] at hg
      cases hg
  · exact ⟨by show NOk (d.files ++ [(([] : Bs), 0)]).length _; rw [hL]; exact ok.names.more (Nat.le_succ _), by show NOk (d.files ++ [(([] : Bs), 0)]).length _; rw [hL]; exact ok.last.more (Nat.le_succ _), fun c hc => by show COk (d.files ++ [(([] : Bs), 0)]).length _; rw [hL]; exact (ok.opens c hc).more (Nat.le_succ _), ok.nlen, ok.llen, ok.plan⟩
theorem asked_50 {d : Dk} {name : Bs} (h : d.asked name = 50) : name ≠ [] := by
  intro e
  unfold Dk.asked at h
  rw [if_pos e] at h
  split at h <;> cases h
set_option maxHeartbeats 2000000 in
set_option maxRecDepth 100000 in
theorem create_call (base b : Nat) (y : Lay) (d : Dk) (w : World) (h : DK base b y d w) (s : ByteArray) (hs : s.size ≤ 281474976710656) (hst : StepC base b d) (hs40 : d.steps + 1 < 1099511627776) :
    Calls Try.prog 26 #[ptr b, .string s] w fun e w' => e = .returned (.int .i64 (d.create (bs s)).2) ∧ Has base b (d.create (bs s)).1 w' ∧ Ev DT base w w' := by
  have H := hid_of h
  have H1 := hid_of (find_call base b y d w h s hs)
  have HS := hid_of hst
  by_cases h0 : d.asked (bs s) = 0
  · have e1 : d.create (bs s) = (d, 51) := by unfold Dk.create; rw [if_pos h0]
    rw [e1]
    rw [findV_yes h0, h0] at H1
    clear h h0 e1 hst
    unfold ptr at H1 ⊢
    go_enter Try.func26, Try.ntmps26
    go_wp2_with fail
    refine H1.out.mono ?_
    rintro e w1 ⟨rfl, b1⟩
    have B := hid_of b1
    clear b1
    go_wp2_with fail
    go_ret
    exact ⟨rfl, ⟨_, H.out.below B.out⟩, Ev.of_below B.out⟩
  · rw [findV_no h0] at H1
    have g0 : (d.asked (bs s) == 0) = false := by simpa using h0
    by_cases h50 : d.asked (bs s) = 50
    · rw [h50] at H1
      have HN := hid_of (asked_50 h50)
      by_cases he : d.fault.2.2 = 0
      · have e1 : d.create (bs s) = (({ d.fault.1 with files := d.fault.1.files ++ [([], 0)] } : Dk).turn (.make (bs s) d.fault.1.files.length), 0) := by
          unfold Dk.create; rw [if_neg h0, if_neg (by simp [h50])]; dsimp only; rw [if_pos he]
        rw [e1]
        have HE := hid_of he
        clear h h0 e1 hst g0 h50 he
        unfold ptr at H1 ⊢
        go_enter Try.func26, Try.ntmps26
        go_wp2_with fail
        refine H1.out.mono ?_
        rintro e w1 ⟨rfl, b1⟩
        have H2 := hid_of (HS.out y w1 (H.out.below b1))
        rw [HE.out] at H2
        unfold ptr at H2
        have B := hid_of b1
        clear b1
        go_wp2_with fail
        refine H2.out.mono ?_
        rintro e w2 ⟨rfl, ⟨pv, k2⟩, ev2⟩
        have k3 := DK.newfile k2
        have hfs := fault_same d
        have H3 := hid_of (alter_call base b _ _ _ k3 (.make (bs s) d.fault.1.files.length) ⟨HN.out, by show _ < (d.fault.1.files ++ [(([] : Bs), 0)]).length; simp, by rw [len_bs]; exact hs⟩ (by show d.fault.1.steps < _; rw [hfs.2.2.2.2]; exact hs40) (by show d.fault.1.names.length + 1 ≤ d.fault.1.steps; rw [hfs.2.1, hfs.2.2.2.2]; have := H.out.ok.nlen; omega) (by show d.fault.1.last.length + d.fault.1.opens.length + 1 ≤ d.fault.1.steps; rw [hfs.2.2.1, hfs.2.2.2.1, hfs.2.2.2.2]; have := H.out.ok.llen; omega))
        have ech : chVal (pos1 { y with pv := pv } d.fault.1.files.length w2.heap.size).pos (.make (bs s) d.fault.1.files.length) = .agg #[.string ⟨#[]⟩, .string s, .pointer (some ⟨w2.heap.size, 0, none⟩)] := by
          unfold chVal
          show Value.agg #[.string (mk []), .string (mk (bs s)), ptr (if d.fault.1.files.length = d.fault.1.files.length then w2.heap.size else _)] = _
          rw [if_pos rfl, mk_bs]
          rfl
        rw [ech] at H3
        unfold ptr at H3
        have V := hid_of (((Ev.of_below B.out).trans ev2).alloc (.cells #[.slice none 0 0, .int .i64 0] 86))
        clear k2 k3 ev2 hfs ech
        go_wp2_with fail
        refine H3.out.mono ?_
        rintro e w3 ⟨rfl, ⟨ov, k4⟩, ev4⟩
        have K4 := hid_of k4
        have V4 := hid_of ev4
        clear k4 ev4
        go_wp2_with fail
        go_ret
        exact ⟨rfl, ⟨_, K4.out⟩, V.out.trans V4.out⟩
      · have e1 : d.create (bs s) = (d.fault.1, d.fault.2.2) := by unfold Dk.create; rw [if_neg h0, if_neg (by simp [h50])]; dsimp only; rw [if_neg he]
        have g1 : (d.fault.2.2 == 0) = false := by simpa using he
        rw [e1]
        clear h h0 e1 hst g0 h50 he
        unfold ptr at H1 ⊢
        go_enter Try.func26, Try.ntmps26
        go_wp2_with fail
        refine H1.out.mono ?_
        rintro e w1 ⟨rfl, b1⟩
        have H2 := hid_of (HS.out y w1 (H.out.below b1))
        unfold ptr at H2
        have B := hid_of b1
        clear b1
        go_wp2_with fail
        refine H2.out.mono ?_
        rintro e w2 ⟨rfl, ⟨pv, k2⟩, ev2⟩
        have K := hid_of k2
        have V := hid_of ((Ev.of_below B.out).trans ev2)
        clear k2 ev2
        go_wp2_with fail
        go_ret
        exact ⟨rfl, ⟨_, K.out⟩, V.out⟩
    · have e1 : d.create (bs s) = (d, d.asked (bs s)) := by unfold Dk.create; rw [if_neg h0, if_pos h50]
      have g1 : (d.asked (bs s) == 50) = false := by simpa using h50
      rw [e1]
      clear h h0 e1 hst h50
      unfold ptr at H1 ⊢
      go_enter Try.func26, Try.ntmps26
      go_wp2_with fail
      refine H1.out.mono ?_
      rintro e w1 ⟨rfl, b1⟩
      have B := hid_of b1
      clear b1
      go_wp2_with fail
      go_ret
      exact ⟨rfl, ⟨_, H.out.below B.out⟩, Ev.of_below B.out⟩
/- SyncNames -/
set_option maxHeartbeats 2000000 in
set_option maxRecDepth 100000 in
theorem syncNames_call (base b : Nat) (y : Lay) (d : Dk) (w : World) (h : DK base b y d w) (hst : StepC base b d) (hs40 : d.steps + 1 < 1099511627776) :
    Calls Try.prog 27 #[ptr b] w fun e w' => e = .returned (.int .i64 d.syncNames.2) ∧ Has base b d.syncNames.1 w' ∧ Ev DT base w w' := by
  have H := hid_of h
  have H1 := hid_of (refuse_any base b y d w h (.slice none 0 0) false (Try.slices_Contains_string_empty none 0 ⟨#[]⟩ w))
  have HS := hid_of hst
  cases hd : d.down with
  | true =>
    have e1 : d.syncNames = (d, 53) := by unfold Dk.syncNames Dk.refuse; rw [hd, if_pos rfl, if_pos (by decide)]
    rw [e1]
    rw [hd, if_pos rfl] at H1
    clear h hst e1
    unfold ptr at H1 ⊢
    go_enter Try.func27, Try.ntmps27
    go_wp2_with fail
    refine H1.out.mono ?_
    rintro e w1 ⟨rfl, rfl⟩
    go_wp2_with fail
    go_ret
    exact ⟨rfl, ⟨_, H.out⟩, Ev.refl _ _ _⟩
  | false =>
    have er : d.refuse [] = 0 := by unfold Dk.refuse; rw [hd]; simp
    rw [hd, if_neg (by decide), if_neg (by decide)] at H1
    by_cases he : d.fault.2.2 = 0
    · have e1 : d.syncNames = (d.fault.1.settle d.fault.1.opens.length, 0) := by unfold Dk.syncNames; rw [er, if_neg (by decide)]; dsimp only; rw [if_pos he]
      rw [e1]
      have HE := hid_of he
      clear h hst e1 er he
      unfold ptr at H1 ⊢
      go_enter Try.func27, Try.ntmps27
      go_wp2_with fail
      refine H1.out.mono ?_
      rintro e w1 ⟨rfl, rfl⟩
      have H2 := hid_of (HS.out y w1 H.out)
      rw [HE.out] at H2
      unfold ptr at H2
      go_wp2_with fail
      refine H2.out.mono ?_
      rintro e w2 ⟨rfl, ⟨pv, k2⟩, ev2⟩
      have H3 := hid_of (settle_call base b _ _ w2 k2 d.fault.1.opens.length (Nat.le_refl _) (by rw [(fault_same d).2.2.2.2]; exact hs40))
      unfold ptr at H3
      obtain ⟨ao, co, hov⟩ := row_shape k2.op
      have c2 : w2.cell? ⟨b, 2, none⟩ = some (.slice ao d.fault.1.opens.length co) := by rw [← hov]; exact k2.cell 2
      have V := hid_of ev2
      clear k2 ev2 hov
      go_wp2_with fail
      refine H3.out.mono ?_
      rintro e w3 ⟨rfl, ⟨ov, k4⟩, ev4⟩
      have K4 := hid_of k4
      have V4 := hid_of ev4
      clear k4 ev4
      go_wp2_with fail
      go_ret
      exact ⟨rfl, ⟨_, K4.out⟩, V.out.trans V4.out⟩
    · have e1 : d.syncNames = (d.fault.1, d.fault.2.2) := by unfold Dk.syncNames; rw [er, if_neg (by decide)]; dsimp only; rw [if_neg he]
      have g1 : (d.fault.2.2 == 0) = false := by simpa using he
      rw [e1]
      clear h hst e1 er he
      unfold ptr at H1 ⊢
      go_enter Try.func27, Try.ntmps27
      go_wp2_with fail
      refine H1.out.mono ?_
      rintro e w1 ⟨rfl, rfl⟩
      have H2 := hid_of (HS.out y w1 H.out)
      unfold ptr at H2
      go_wp2_with fail
      refine H2.out.mono ?_
      rintro e w2 ⟨rfl, ⟨pv, k2⟩, ev2⟩
      have K := hid_of k2
      have V := hid_of ev2
      clear k2 ev2
      go_wp2_with fail
      go_ret
      exact ⟨rfl, ⟨_, K.out⟩, V.out⟩
end Go.Proofs.Ytilbffbmpgebmaa.Ops
