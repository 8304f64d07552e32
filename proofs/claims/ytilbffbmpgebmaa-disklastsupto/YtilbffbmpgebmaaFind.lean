/- find, step, begin. -/
import Derived.Test.YtilbffbmpgebmaaSmall
namespace Go.Proofs.Ytilbffbmpgebmaa.Find
open Go.RowKit Go.Maps
open Go.Proofs.Ytilbffbmpgebmaa.DiskMath
open Go.Proofs.Ytilbffbmpgebmaa.Base
open Go.Proofs.Ytilbffbmpgebmaa.Small
set_option linter.unusedVariables false

theorem law9 : Keyed Try.prog 9 := string_keyed Try.underlying9
theorem zero82 (w : World) : (zeroValue 82).run Try.prog w = .ok (.pointer none) w := by kernel_rfl
theorem key9 (s : ByteArray) (hs : s.size ≤ 281474976710656) : keyOf Try.prog 9 (.string s) = some (.string (bs s)) := WideMaps.keyOf_string_mk Try.underlying9 (by unfold maxLen; omega)
set_option maxRecDepth 100000 in
theorem look_run {w : World} {b n : Nat} {pos : Nat → Nat} {l : NL} (h : w.ownsMap Try.prog 9 RP b n (toD pos l)) (s : ByteArray) (hs : s.size ≤ 281474976710656) :
    (Instr.lookup 66 (.map (some b)) (.string s) true).run Try.prog w = .ok (.tuple #[optPtr pos (lkp l (bs s)), .bool (lkp l (bs s)).isSome]) w := by
  obtain ⟨v, ps, hrun, hv⟩ := h.look_ok law9 Try.underlying66 (zero82 w) (zd := .nil) (zp := []) rfl (key9 s hs)
  rw [hrun, has_D]
  rw [at_D] at hv
  congr 3
  cases hl : lkp l (bs s) with
  | none =>
    rw [hl] at hv
    rcases RP_inv hv with ⟨e, _⟩ | ⟨f, e, e2⟩
    · rw [e]; rfl
    · cases e2
  | some f =>
    rw [hl] at hv
    rcases RP_inv hv with ⟨e, e2⟩ | ⟨g, e, e2⟩
    · cases e2
    · rw [e]
      have : pos f = g := by injection e2 with e2; injection e2 with _ e2; exact Int.ofNat_inj.1 e2
      rw [← this]; rfl
def findV (y : Lay) (d : Dk) (name : Bs) : Value := if d.asked name = 0 then ptr (y.pos (d.file name)) else .pointer none
set_option maxRecDepth 100000 in
theorem find_nil (s : ByteArray) (w : World) : Calls Try.prog 49 #[.pointer none, .string s] w fun e w' => e = .returned (.tuple #[.pointer none, .int .i64 53]) ∧ Below w.heap.size w w' := by
  have H1 := hid_of refuse_nil
  go_enter Try.func49, Try.ntmps49
  go_wp2_with fail
  refine (H1.out _ _).mono ?_
  rintro e w1 ⟨rfl, rfl⟩
  go_wp2_with fail
  go_ret2
  exact ⟨rfl, (Below.refl _ w).alloc (Nat.le_refl _) _⟩
set_option maxHeartbeats 1000000 in
set_option maxRecDepth 100000 in
theorem find_call (base b : Nat) (y : Lay) (d : Dk) (w : World) (h : DK base b y d w) (s : ByteArray) (hs : s.size ≤ 281474976710656) :
    Calls Try.prog 49 #[ptr b, .string s] w fun e w' => e = .returned (.tuple #[findV y d (bs s), .int .i64 (d.asked (bs s))]) ∧ Below w.heap.size w w' := by
  have h1 := h.alloc (.cells #[.string s] 9)
  have H1 := hid_of (refuse_any base b y d _ h1 _ _ (contains_one s w.heap.size (w.alloc (.cells #[.string s] 9)) (Lib.cell_of_heap (heap_alloc_new w _) 0)))
  have HB : Hid (Below w.heap.size w (w.alloc (.cells #[.string s] 9))) := (Below.refl _ w).alloc (Nat.le_refl _) _
  have hl := look_run h1.nm s hs
  have c0 : (w.alloc (.cells #[.string s] 9)).cell? ⟨b, 0, none⟩ = some (.map (some y.bn)) := h1.cell 0
  unfold ptr at H1 ⊢
  clear h h1
  cases hd : d.down with
  | true =>
    have ea : d.asked (bs s) = 53 := by unfold Dk.asked; rw [hd, if_pos rfl]
    have ef : findV y d (bs s) = .pointer none := by unfold findV; rw [ea, if_neg (by decide)]
    rw [hd, if_pos rfl] at H1
    rw [ea, ef]
    clear ea ef hl
    go_enter Try.func49, Try.ntmps49
    go_wp2_with fail
    refine H1.out.mono ?_
    rintro e w1 ⟨rfl, rfl⟩
    go_wp2_with fail
    go_ret2
    exact ⟨rfl, HB.out⟩
  | false =>
    rw [hd, if_neg (by decide)] at H1
    by_cases he : bs s = []
    · have ea : d.asked (bs s) = 1 := by unfold Dk.asked; rw [hd, if_neg (by decide), if_pos he]
      have ef : findV y d (bs s) = .pointer none := by unfold findV; rw [ea, if_neg (by decide)]
      rw [decide_eq_true he, if_pos rfl] at H1
      rw [ea, ef]
      clear ea ef hl
      go_enter Try.func49, Try.ntmps49
      go_wp2_with fail
      refine H1.out.mono ?_
      rintro e w1 ⟨rfl, rfl⟩
      go_wp2_with fail
      go_ret2
      exact ⟨rfl, HB.out⟩
    · rw [decide_eq_false he, if_neg (by decide)] at H1
      cases hk : lkp d.names (bs s) with
      | none =>
        have ea : d.asked (bs s) = 50 := by unfold Dk.asked; rw [hd, if_neg (by decide), if_neg he, hk]
        have ef : findV y d (bs s) = .pointer none := by unfold findV; rw [ea, if_neg (by decide)]
        rw [hk] at hl
        rw [ea, ef]
        clear ea ef he
        unfold optPtr at hl
        simp only [Option.isSome_none] at hl
        go_enter Try.func49, Try.ntmps49
        go_wp2_with fail
        refine H1.out.mono ?_
        rintro e w1 ⟨rfl, rfl⟩
        go_wp2_with fail
        go_ret2
        exact ⟨rfl, HB.out⟩
      | some f =>
        have ea : d.asked (bs s) = 0 := by unfold Dk.asked; rw [hd, if_neg (by decide), if_neg he, hk]
        have ef : findV y d (bs s) = ptr (y.pos f) := by unfold findV Dk.file; rw [ea, if_pos rfl, hk]; rfl
        rw [hk] at hl
        rw [ea, ef]
        clear ea ef he
        unfold optPtr at hl
        simp only [Option.isSome_some] at hl
        unfold ptr at hl ⊢
        go_enter Try.func49, Try.ntmps49
        go_wp2_with fail
        refine H1.out.mono ?_
        rintro e w1 ⟨rfl, rfl⟩
        go_wp2_with fail
        go_ret2
        exact ⟨rfl, HB.out⟩
/- a step -/
def StepC (base b : Nat) (d : Dk) : Prop := ∀ y w, DK base b y d w → Calls Try.prog 50 #[ptr b] w fun e w' => e = .returned (.tuple #[.int .i64 d.fault.2.1, .int .i64 d.fault.2.2]) ∧ (∃ pv, DK base b { y with pv := pv } d.fault.1 w') ∧ Ev DT base w w'
theorem ok_step {d : Dk} (h : Ok d) : Ok { d with steps := d.steps + 1 } := ⟨h.names, h.last, h.opens, Nat.le_succ_of_le h.nlen, Nat.le_succ_of_le h.llen, h.plan⟩
set_option maxHeartbeats 1000000 in
set_option maxRecDepth 100000 in
theorem step_nil (base b : Nat) (d : Dk) (hp : d.plan = []) (hst : d.steps < 1099511627776) : StepC base b d := by
  intro y w h
  unfold Dk.fault
  rw [hp]
  dsimp only
  have hpl := h.pl
  rw [hp] at hpl
  have hpv : ∃ a c, y.pv = .slice a 0 c := by
    rcases hpl with ⟨_, hh⟩ | ⟨g, o, cap, cur, h1, h2, _⟩
    · exact hh
    · simp at h2
  obtain ⟨a, c, hpv⟩ := hpv
  have c4 : w.cell? ⟨b, 4, none⟩ = some (.int .i64 d.steps) := h.cell 4
  have f4 : w.frozen? ⟨b, 4, none⟩ = false := h.frozen 4
  have c3 : (w.setCell ⟨b, 4, none⟩ (.int .i64 ((d.steps : Int) + 1))).cell? ⟨b, 3, none⟩ = some (.slice a 0 c) := by
    rw [Lib.cell_of_heap (set_at h.disk _) 3]
    simp [hpv]
  have e1 : IntKind.i64.wrap ((d.steps : Int) + 1) = (d.steps : Int) + 1 := IntWalk.i64_in _ (by omega)
  have H := hid_of h
  clear h hpl
  unfold ptr
  go_enter Try.func50, Try.ntmps50
  go_wp2_with fail
  go_quiet (fail)
  go_wp2_with fail
  go_ret2
  have hd1 := set_at (i := 4) H.out.disk (.int .i64 ((d.steps : Int) + 1))
  refine ⟨rfl, ⟨y.pv, ?_⟩, (Ev.set H.out.disk H.out.bb rfl _).drewN _⟩
  refine DK.drewN ?_ _
  exact H.out.own (fun k hk hne _ => set_ne hne _) (by rw [size_set]; exact Nat.le_refl _) rfl rfl rfl rfl hd1 rfl rfl rfl (row_later H.out.op fun g hg => set_ne (fun e => by
    obtain ⟨q1, _, _⟩ := row_kd H.out.op hg
    rw [e, kd_cells H.out.disk] at q1
    cases q1) _) (Or.inl ⟨rfl, a, c, hpv⟩) (by
      have := ok_step H.out.ok
      rw [hp] at this
      exact this)
end Go.Proofs.Ytilbffbmpgebmaa.Find
