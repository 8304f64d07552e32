/- What a file holds: Read, Synced, begin, Sync, cut, Truncate, Append. -/
import Derived.Test.YtilbffbmpgebmaaFind
import Derived.Laws.IdiomStrings
import Derived.Laws.BytesArg
namespace Go.Proofs.Ytilbffbmpgebmaa.File
open Go.RowKit Go.Maps
open Go.Proofs.Ytilbffbmpgebmaa.DiskMath
open Go.Proofs.Ytilbffbmpgebmaa.Base
open Go.Proofs.Ytilbffbmpgebmaa.Small
open Go.Proofs.Ytilbffbmpgebmaa.Find
set_option linter.unusedVariables false

theorem row_shape {w : World} {base e sz n : Nat} {v : Value} {xs : List Value} (h : w.ownsRow base e sz v n xs) : ∃ a c, v = .slice a n c := by
  rcases h.2 with ⟨rfl, rfl⟩ | ⟨g, cap, cur, rfl, _⟩
  · exact ⟨_, _, rfl⟩
  · exact ⟨_, _, rfl⟩
theorem cells_get (t : Bs) (j : Nat) (hj : j < t.length) : (Lib.strCells (mk t))[j]? = some (.int .u8 (t[j].toNat : Int)) := by
  show (t.toArray.toList.map _)[j]? = _
  simp [hj]
theorem conv_run {base : Nat} {w : World} {v : Value} {t : Bs} (h : w.ownsRow base 5 1 v t.length (Lib.strCells (mk t))) : (convert 84 9 v).run Try.prog w = .ok (.string (mk t)) w := by
  have h' := h
  rcases h.2 with ⟨rfl, hn⟩ | ⟨g, cap, cur, rfl, _⟩
  · have : t = [] := List.length_eq_zero_iff.1 hn
    subst this
    exact run_convert_bytes_nil (P := Try.prog) w 84 5 Try.underlying84 Try.underlying5 0 0 9 Try.underlying9
  · exact run_convert_bytes_back w 84 9 5 ⟨g, 0, none⟩ cap t Try.underlying84 Try.underlying5 Try.underlying9 (fun j hj => h'.cells (g := g) rfl j _ (cells_get t j hj))
theorem asked_ok {d : Dk} (h : Ok d) {name : Bs} (ha : d.asked name = 0) : ∃ x, d.files[d.file name]? = some x ∧ lkp d.names name = some (d.file name) ∧ d.down = false := by
  unfold Dk.asked at ha
  split at ha
  · cases ha
  · rename_i hd
    split at ha
    · cases ha
    · cases hk : lkp d.names name with
      | none => rw [hk] at ha; cases ha
      | some f =>
        have hf : d.file name = f := by unfold Dk.file; rw [hk]; rfl
        rw [hf]
        have := h.names.ids _ (lkp_mem hk)
        exact ⟨d.files[f], by simp [this], rfl, by simpa using hd⟩
theorem findV_yes {y : Lay} {d : Dk} {name : Bs} (ha : d.asked name = 0) : findV y d name = ptr (y.pos (d.file name)) := by unfold findV; rw [if_pos ha]
theorem findV_no {y : Lay} {d : Dk} {name : Bs} (ha : d.asked name ≠ 0) : findV y d name = .pointer none := by unfold findV; rw [if_neg ha]
theorem asked_range (d : Dk) (name : Bs) : d.asked name = 0 ∨ ((d.asked name == 0) = false) := by
  by_cases h : d.asked name = 0
  · exact Or.inl h
  · exact Or.inr (by simpa using h)
set_option maxHeartbeats 1000000 in
set_option maxRecDepth 100000 in
theorem read_call (base b : Nat) (y : Lay) (d : Dk) (w : World) (h : DK base b y d w) (s : ByteArray) (hs : s.size ≤ 281474976710656) :
    Calls Try.prog 15 #[ptr b, .string s] w fun e w' => e = .returned (.tuple #[.string (mk (d.read (bs s)).1), .int .i64 (d.read (bs s)).2]) ∧ Below w.heap.size w w' := by
  have H1 := hid_of (find_call base b y d w h s hs)
  have H := hid_of h
  by_cases ha : d.asked (bs s) = 0
  · obtain ⟨x, hx, _⟩ := asked_ok h.ok ha
    rw [findV_yes ha, ha] at H1
    have e1 : d.read (bs s) = (x.1, 0) := by unfold Dk.read; rw [if_neg (by simp [ha]), hx]; rfl
    rw [e1]
    clear h ha e1
    unfold ptr at H1 ⊢
    go_enter Try.func15, Try.ntmps15
    go_wp2_with fail
    refine H1.out.mono ?_
    rintro e w1 ⟨rfl, b1⟩
    have q := (H.out.below b1).fl _ x hx
    have c0 : w1.cell? ⟨y.pos (d.file (bs s)), 0, none⟩ = some (y.tv (d.file (bs s))) := Lib.cell_of_heap q.blk 0
    obtain ⟨a, c, hv⟩ := row_shape q.row
    have hc := conv_run q.row
    rw [hv] at c0 hc
    have B := hid_of b1
    clear b1 q hx hv
    go_wp2_with fail
    go_ret2
    exact ⟨rfl, B.out⟩
  · have e1 : d.read (bs s) = ([], d.asked (bs s)) := by unfold Dk.read; rw [if_pos ha]
    have g1 : (d.asked (bs s) == 0) = false := by simpa using ha
    rw [findV_no ha] at H1
    rw [e1]
    clear h ha e1
    unfold ptr at H1 ⊢
    go_enter Try.func15, Try.ntmps15
    go_wp2_with fail
    refine H1.out.mono ?_
    rintro e w1 ⟨rfl, b1⟩
    go_wp2_with fail
    go_ret2
    exact ⟨rfl, b1⟩
/- begin -/
set_option maxHeartbeats 1000000 in
set_option maxRecDepth 100000 in
theorem begin_no (base b : Nat) (y : Lay) (d : Dk) (w : World) (h : DK base b y d w) (s : ByteArray) (hs : s.size ≤ 281474976710656) (ha : d.asked (bs s) ≠ 0) :
    Calls Try.prog 51 #[ptr b, .string s] w fun e w' => e = .returned (.tuple #[.pointer none, .int .i64 (d.asked (bs s))]) ∧ Below w.heap.size w w' := by
  have H1 := hid_of (find_call base b y d w h s hs)
  have g1 : (d.asked (bs s) == 0) = false := by simpa using ha
  rw [findV_no ha] at H1
  clear h ha
  unfold ptr at H1 ⊢
  go_enter Try.func51, Try.ntmps51
  go_wp2_with fail
  refine H1.out.mono ?_
  rintro e w1 ⟨rfl, b1⟩
  go_wp2_with fail
  go_ret2
  exact ⟨rfl, b1⟩
set_option maxHeartbeats 1000000 in
set_option maxRecDepth 100000 in
theorem begin_yes (base b : Nat) (y : Lay) (d : Dk) (w : World) (h : DK base b y d w) (s : ByteArray) (hs : s.size ≤ 281474976710656) (ha : d.asked (bs s) = 0) (hst : StepC base b d) :
    Calls Try.prog 51 #[ptr b, .string s] w fun e w' => e = .returned (.tuple #[ptr (y.pos (d.file (bs s))), .int .i64 d.fault.2.2]) ∧ (∃ pv, DK base b { y with pv := pv } d.fault.1 w') ∧ Ev DT base w w' := by
  have H1 := hid_of (find_call base b y d w h s hs)
  rw [findV_yes ha, ha] at H1
  have H := hid_of h
  have HS := hid_of hst
  clear h ha hst
  unfold ptr at H1 ⊢
  go_enter Try.func51, Try.ntmps51
  go_wp2_with fail
  refine H1.out.mono ?_
  rintro e w1 ⟨rfl, b1⟩
  have H2 := hid_of (HS.out y w1 (H.out.below b1))
  unfold ptr at H2
  have B := hid_of b1
  clear b1
  go_wp2_with fail
  refine H2.out.mono ?_
  rintro e w2 ⟨rfl, b2, b3⟩
  have B2 := hid_of b2
  have B3 := hid_of b3
  clear b2 b3
  go_wp2_with fail
  go_ret2
  exact ⟨rfl, B2.out, (Ev.of_below B.out).trans B3.out⟩
/- one file has turned -/
theorem DK.turn1 {base b : Nat} {y : Lay} {d : Dk} {w w' : World} (h : DK base b y d w) (i : Nat) (x : Bs × Nat) (hx : d.files[i]? = some x) (g : Bs × Nat → Bs × Nat) (tv : Value)
    (hk : ∀ k, k < w.heap.size → k ≠ y.pos i → (y.tv i).ownBlock ≠ some k → w'.heap[k]? = w.heap[k]?) (hs : w.heap.size ≤ w'.heap.size) (hf : FileAt base w' (y.pos i) tv (g x)) (hw : ∀ q, tv.ownBlock = some q → (y.tv i).ownBlock = some q ∨ w.heap.size ≤ q) :
    DK base b { y with tv := fun j => if j = i then tv else y.tv j } (d.upd i g) w' := by
  have qx := h.fl i x hx
  have hi : i < d.files.length := (List.getElem?_eq_some_iff.1 hx).1
  have hkk : ∀ k, k < w.heap.size → kd w k ≠ 88 → kd w k ≠ 7 → w'.heap[k]? = w.heap[k]? := fun k hk2 h1 h2 => hk k hk2 (fun e => h1 (by rw [e, kd_cells qx.blk])) (fun e => h2 (row_kd qx.row e).1)
  have hlen : (d.upd i g).files.length = d.files.length := by unfold Dk.upd; simp
  refine ⟨(hkk b (lt_of h.disk) (by rw [kd_cells h.disk]; decide) (by rw [kd_cells h.disk]; decide)).trans h.disk, h.bb, h.nb, h.lb, h.ne, map_later h.nm (hkk _ h.nm.lt (by rw [owns_kd h.nm]; decide) (by rw [owns_kd h.nm]; decide)), map_later h.ls (hkk _ h.ls.lt (by rw [owns_kd h.ls]; decide) (by rw [owns_kd h.ls]; decide)),
    row_later h.op (fun g hg => ?_), plan_later h.pl (fun k hk2 e => hkk k hk2 (by rw [e]; decide) (by rw [e]; decide)), fun j z hz => ?_, by rw [hlen]; exact h.inj, ?_, ?_, Nat.le_trans h.hb hs⟩
  · obtain ⟨q1, q2, _⟩ := row_kd h.op hg
    exact hkk g q2 (by rw [q1]; decide) (by rw [q1]; decide)
  · by_cases e : j = i
    · subst e
      have : z = g x := by
        have e2 : (d.upd j g).files[j]? = some (g x) := by unfold Dk.upd; simp [hx]
        rw [e2] at hz; cases hz; rfl
      rw [this]
      show FileAt base w' (y.pos j) (if j = j then tv else y.tv j) (g x)
      rw [if_pos rfl]
      exact hf
    · have hz' : d.files[j]? = some z := by
        have e2 : (d.upd i g).files[j]? = d.files[j]? := by unfold Dk.upd; simp [Ne.symm e]
        rw [e2] at hz; exact hz
      show FileAt base w' (y.pos j) (if j = i then tv else y.tv j) z
      rw [if_neg e]
      have q := h.fl j z hz'
      have hj : j < d.files.length := (List.getElem?_eq_some_iff.1 hz').1
      refine file_later q (hk _ (lt_of q.blk) (fun e1 => e (h.inj j i hj hi e1)) (fun e1 => ?_)) (fun k hk2 => hk k (row_kd q.row hk2).2.1 (fun e1 => ?_) (h.apart j i k hj hi e hk2))
      · have := (row_kd qx.row e1).1
        rw [kd_cells q.blk] at this
        cases this
      · have := (row_kd q.row hk2).1
        rw [e1, kd_cells qx.blk] at this
        cases this
  · rw [hlen]
    intro j k q hj hk2 hne
    show (if j = i then tv else y.tv j).ownBlock = some q → (if k = i then tv else y.tv k).ownBlock ≠ some q
    by_cases e1 : j = i
    · subst e1
      rw [if_pos rfl, if_neg (Ne.symm hne)]
      intro h1 h2
      obtain ⟨z, hz⟩ : ∃ z, d.files[k]? = some z := ⟨d.files[k], by simp [hk2]⟩
      rcases hw q h1 with h3 | h3
      · exact h.apart j k q hj hk2 hne h3 h2
      · have := (row_kd (h.fl k z hz).row h2).2.1
        omega
    · rw [if_neg e1]
      by_cases e2 : k = i
      · subst e2
        rw [if_pos rfl]
        intro h1 h2
        obtain ⟨z, hz⟩ : ∃ z, d.files[j]? = some z := ⟨d.files[j], by simp [hj]⟩
        rcases hw q h2 with h3 | h3
        · exact h.apart j k q hj hk2 hne h1 h3
        · have := (row_kd (h.fl j z hz).row h1).2.1
          omega
      · rw [if_neg e2]
        exact h.apart j k q hj hk2 hne
  · have o := h.ok
    exact ⟨by rw [hlen]; exact o.names, by rw [hlen]; exact o.last, by rw [hlen]; exact o.opens, o.nlen, o.llen, o.plan⟩
/- a fault leaves files, names and changes -/
theorem fault_same (d : Dk) : d.fault.1.files = d.files ∧ d.fault.1.names = d.names ∧ d.fault.1.last = d.last ∧ d.fault.1.opens = d.opens ∧ d.fault.1.steps = d.steps + 1 := by
  unfold Dk.fault
  split
  · exact ⟨rfl, rfl, rfl, rfl, rfl⟩
  · split
    · split <;> exact ⟨rfl, rfl, rfl, rfl, rfl⟩
    · exact ⟨rfl, rfl, rfl, rfl, rfl⟩
theorem fault_err (d : Dk) : d.fault.2.2 = 0 ∨ d.fault.2.2 = 52 ∨ d.fault.2.2 = 53 := by
  unfold Dk.fault
  split
  · exact Or.inl rfl
  · split
    · split
      · exact Or.inr (Or.inr rfl)
      · exact Or.inr (Or.inl rfl)
    · exact Or.inl rfl
end Go.Proofs.Ytilbffbmpgebmaa.File
