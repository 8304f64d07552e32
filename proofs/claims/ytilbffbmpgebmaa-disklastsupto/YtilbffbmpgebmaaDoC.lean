/- Do at a crash. -/
import Derived.Test.YtilbffbmpgebmaaDoA
import Derived.Test.YtilbffbmpgebmaaRefTurn
import Derived.Test.YtilbffbmpgebmaaLast2
import Derived.Deep.Upon
namespace Go.Proofs.Ytilbffbmpgebmaa.DoC
open Go.RowKit Go.Maps
open Go.Proofs.Ytilbffbmpgebmaa.DiskMath
open Go.Proofs.Ytilbffbmpgebmaa.RefMath
open Go.Proofs.Ytilbffbmpgebmaa.Base
open Go.Proofs.Ytilbffbmpgebmaa.Small
open Go.Proofs.Ytilbffbmpgebmaa.File
open Go.Proofs.Ytilbffbmpgebmaa.File2
open Go.Proofs.Ytilbffbmpgebmaa.Append
open Go.Proofs.Ytilbffbmpgebmaa.Crash
open Go.Proofs.Ytilbffbmpgebmaa.Crash2
open Go.Proofs.Ytilbffbmpgebmaa.RefBase
open Go.Proofs.Ytilbffbmpgebmaa.RefChange
open Go.Proofs.Ytilbffbmpgebmaa.RefFiles
open Go.Proofs.Ytilbffbmpgebmaa.RefCrash
open Go.Proofs.Ytilbffbmpgebmaa.RefTurn
open Go.Proofs.Ytilbffbmpgebmaa.Names
open Go.Proofs.Ytilbffbmpgebmaa.Pair
set_option linter.unusedVariables false
set_option linter.unusedSimpArgs false

def encI (i : Int) : Value := .int .i64 i
theorem info3 : (Try.prog.info? 3).map (fun i => (i.zero, i.size, i.bytes)) = some (some (.int .i64 0), 1, 8) := by kernel_rfl
theorem int_row {w : World} {base : Nat} {v : Value} {l : List Int} (h : w.ownsRow base 3 1 v l.length (l.map encI)) : IntSl w v l := by
  rcases h.2 with ⟨e, h0⟩ | ⟨g, cap, cur, e, _⟩
  · exact ⟨_, _, by rw [h0]; exact e, Or.inl (List.length_eq_zero_iff.1 h0)⟩
  · subst e
    refine ⟨_, _, rfl, Or.inr ⟨g, 0, rfl, fun j hj => ?_⟩⟩
    rw [Nat.zero_add, h.cellAt j (by omega), List.getElem?_map, List.getElem?_eq_getElem hj]
    rfl
theorem app_int (w : World) (v : Value) (l : List Int) (h : IntSl (w.alloc (.cells #[] 3)) v l) (hl : l.length ≤ 1048576) :
    ∃ a c w', (Builtin.append_ #[34, 34] 34 #[.slice (some ⟨w.heap.size, 0, none⟩) 0 0, v]).run Try.prog (w.alloc (.cells #[] 3)) = .ok (.slice a l.length c) w' ∧ w'.ownsRow w.heap.size 3 1 (.slice a l.length c) l.length (l.map encI) ∧ Below w.heap.size w w' := by
  obtain ⟨i, hi, hz0, hz1, hz2⟩ := parts info3
  obtain ⟨a, c, rfl, hc⟩ := h
  have HO : (w.alloc (.cells #[] 3)).ownsRow w.heap.size 3 1 (.slice (some ⟨w.heap.size, 0, none⟩) 0 0) 0 [] := World.ownsRow_made w #[] 0 (Nat.le_refl _) (by decide) rfl
  have HB : Below w.heap.size w (w.alloc (.cells #[] 3)) := (Below.refl _ w).alloc (Nat.le_refl _) _
  cases a with
  | none =>
    have h0 : l = [] := by
      rcases hc with h | ⟨g, o, e, _⟩
      · exact h
      · cases e
    subst h0
    exact ⟨_, _, _, run_append_nothing (P := Try.prog) _ 34 34 34 3 i Try.underlying34 hi _ 0 0 (Nat.le_refl _) _ (Src.ofNil _ Try.underlying34 c), HO, HB⟩
  | some ad =>
    have hnews : ∀ j u, (l.map encI)[j]? = some u → (w.alloc (.cells #[] 3)).cell? (ad.add j) = some u := by
      intro j u hj
      rcases hc with h | ⟨g, o, e, hc⟩
      · subst h; simp at hj
      · cases e
        rw [List.getElem?_map] at hj
        cases hq : l[j]? with
        | none => rw [hq] at hj; cases hj
        | some x =>
          rw [hq] at hj
          obtain ⟨hlt, hx⟩ := List.getElem?_eq_some_iff.1 hq
          have := hc j hlt
          rw [hx] at this
          simp at hj
          rw [← hj, Addr.add_lit]
          exact this
    obtain ⟨v', w', hr, ho, hg, _⟩ := run_append_own (P := Try.prog) (w := w.alloc (.cells #[] 3)) w.heap.size 34 34 3 i _ 1 8 Try.underlying34 hi hz0 hz1 hz2 rfl (by decide) _ 0 [] HO ad l.length c (l.map encI) (by simp) hnews (fun u hu => by obtain ⟨x, _, rfl⟩ := List.mem_map.1 hu; rfl) (by unfold maxLen; omega) (by omega) HB.size
    rw [Nat.zero_add, List.nil_append] at ho
    obtain ⟨a', c', hv⟩ := row_shape ho
    subst hv
    exact ⟨a', c', w', hr, ho, HB.grown hg HB.size (fun k hk => by cases hk; exact Nat.le_refl _)⟩
set_option maxHeartbeats 4000000 in
set_option maxRecDepth 100000 in
theorem do_crash (base b bd : Nat) (d : Dk) (n T : Nat) (A B : ByteArray) (N : Int) (fa : Option Addr) (fn fc : Nat) (cn : Int) (ba : Option Addr) (bn bc : Nat) (bytes : List Int) (w : World) (hp : Pr base b bd d n T w) (hn : n < 1000000000) (hbl : bytes.length ≤ 1048576)
    (hI : ∀ W, Below base w W → IntSl W (.slice ba bn bc) bytes) :
    Calls Try.prog 10 #[ptr b, ptr bd, .agg #[.int .i64 8, .string A, .string B, .int .i64 N, .slice fa fn fc, .int .i64 cn, .slice ba bn bc]] w fun e w' => e = .returned (.bool true) ∧ Pr base b bd (d.crash cn bytes) (n + 1) T w' ∧ Below base w w' := by
  obtain ⟨W0, hW0⟩ : ∃ W0, W0 = w.alloc (.cells #[.int .i64 8, .string A, .string B, .int .i64 N, .slice fa fn fc, .int .i64 cn, .slice ba bn bc] 38) := ⟨_, rfl⟩
  have b0 : Below w.heap.size w W0 := by rw [hW0]; exact (Below.refl _ w).alloc (Nat.le_refl _) _
  have BX0 : Hid (Bx w #[.int .i64 8, .string A, .string B, .int .i64 N, .slice fa fn fc, .int .i64 cn, .slice ba bn bc] W0) := ⟨by rw [hW0]; exact heap_alloc_new w _⟩
  have P0 := hid_of (hp.below b0)
  have hB0 : Below base w W0 := b0.mono hp.hb
  have B0 : Hid (Below base w W0) := hB0
  have hst : d.steps < 1099511627776 := by have := hp.iv.st; omega
  have ok := hp.ok
  have z := has_z hp.dk
  have IV : Hid (Iv (d.crash cn bytes) (n + 1) T) := hp.iv.crash _ _
  have hbW : base ≤ W0.heap.size := Nat.le_trans hp.hb b0.size
  have bA : Below W0.heap.size W0 (W0.drew.alloc (.cells #[] 3)) := (Below.refl _ W0).drew.alloc (Nat.le_refl _) _
  obtain ⟨a1, c1, w1, hr, ho, hb1⟩ := app_int W0.drew (.slice ba bn bc) bytes (hI _ (hB0.trans (bA.mono hbW))) hbl
  have hb1' : Below W0.heap.size W0 w1 := ⟨hb1.os, hb1.tape, hb1.output, hb1.size, hb1.block⟩
  have BXA : Hid (Bx w #[.int .i64 8, .string A, .string B, .int .i64 N, .slice fa fn fc, .int .i64 cn, .slice ba bn bc] w1) := BX0.out.ev (Ev.of_below (T := DT) (base := base) hb1') rfl
  have HI : Hid (∀ W, Ev DT base w1 W → IntSl W (.slice a1 bytes.length c1) bytes) := fun W hW => int_row (row_later ho fun g hg => by
    obtain ⟨q1, q2, _⟩ := row_kd ho hg
    exact hW.block g q2 (Or.inr (by rw [q1]; rfl)))
  have E1 := hid_of (Ev.of_below (T := DT) (base := base) hb1')
  have HC : Hid (Calls Try.prog 13 #[ptr b, .agg #[.int .i64 cn, .slice a1 bytes.length c1]] w1 fun e w' => e = .returned (.tuple #[]) ∧ Has base b (d.crash cn bytes) w' ∧ Ev DT base w1 w') := by
    obtain ⟨y, hy⟩ := (hp.dk.below b0).below hb1'
    exact crash_call base b y d w1 hy cn a1 bytes.length c1 bytes hst (by omega) HI.out
  have HR := hid_of (fun (r : Rl) (W : World) (hB : Below base w W) (hW : RD base bd r d W) => rcrash_call base bd r d W hW ok cn ba bn bc bytes hst (by omega) (fun W' hW' => hI W' (hB.trans (hW'.below (Nat.le_trans hp.hb hB.size)))) z)
  have g5 : W0.drew.cell? ⟨w.heap.size, 5, none⟩ = some (.int .i64 cn) := BX0.out.cell 5
  have g6 : W0.drew.cell? ⟨w.heap.size, 6, none⟩ = some (.slice ba bn bc) := BX0.out.cell 6
  have ga : (W0.drew.alloc (.cells #[] 3)).cell? ⟨w.heap.size, 5, none⟩ = some (.int .i64 cn) ∧ (W0.drew.alloc (.cells #[] 3)).cell? ⟨w.heap.size, 6, none⟩ = some (.slice ba bn bc) := by
    have := BX0.out.ev (Ev.of_below (T := DT) (base := base) bA) rfl
    exact ⟨this.cell 5, this.cell 6⟩
  have gb : w1.cell? ⟨w.heap.size, 5, none⟩ = some (.int .i64 cn) ∧ w1.cell? ⟨w.heap.size, 6, none⟩ = some (.slice ba bn bc) := ⟨BXA.out.cell 5, BXA.out.cell 6⟩
  have GA := hid_of ga
  have GB := hid_of gb
  obtain ⟨bl, hbl2⟩ : ∃ bl, bl = bytes.length := ⟨_, rfl⟩
  rw [← hbl2] at hr HC
  have HRun := hid_of hr
  unfold ptr at *
  clear hp b0 ok z hB0 bA ho hb1 hb1' hI HI ga gb hbW hr hbl hbl2
  go_enter Try.func10, Try.ntmps10
  go_wp2_with fail
  rw [← hW0]
  clear hW0
  refine Last.start (fun W => W.cell? ⟨w.heap.size, 5, none⟩ = some (.int .i64 cn) ∧ W.cell? ⟨w.heap.size, 6, none⟩ = some (.slice ba bn bc)) 10 (by kernel_rfl) ?_
  have hs0 : (fun W => W.cell? ⟨w.heap.size, 5, none⟩ = some (.int .i64 cn) ∧ W.cell? ⟨w.heap.size, 6, none⟩ = some (.slice ba bn bc)) W0.drew := ⟨g5, g6⟩
  refine Last.take2 12 (i := 0) (v := .pointer (some ⟨b, 0, none⟩)) rfl (by kernel_rfl) (by kernel_rfl) (by kernel_rfl) (by kernel_rfl) (by kernel_rfl) (fun _ _ _ h => h) (Or.inl ⟨by rfl, ?_⟩) (by assumption) ?_
  · intro W hSW
    obtain ⟨s0, s1⟩ := hSW
    go_simp
  simp only [Act.put, List.setIfInBounds_toArray, List.set_cons_zero, List.set_cons_succ]
  refine Last.take2 12 (i := 1) (v := .pointer (some ⟨w.heap.size, 5, none⟩)) rfl (by kernel_rfl) (by kernel_rfl) (by kernel_rfl) (by kernel_rfl) (by kernel_rfl) (fun _ _ _ h => h) (Or.inl ⟨by rfl, ?_⟩) (by assumption) ?_
  · intro W hSW
    obtain ⟨s0, s1⟩ := hSW
    go_simp
  simp only [Act.put, List.setIfInBounds_toArray, List.set_cons_zero, List.set_cons_succ]
  refine Last.take2 12 (i := 2) (v := .pointer (some ⟨w.heap.size, 5, none⟩)) rfl (by kernel_rfl) (by kernel_rfl) (by kernel_rfl) (by kernel_rfl) (by kernel_rfl) (fun _ _ _ h => h) (Or.inl ⟨by rfl, ?_⟩) (by assumption) ?_
  · intro W hSW
    obtain ⟨s0, s1⟩ := hSW
    go_simp
  simp only [Act.put, List.setIfInBounds_toArray, List.set_cons_zero, List.set_cons_succ]
  refine Last.take2 12 (i := 3) (v := .int .i64 cn) rfl (by kernel_rfl) (by kernel_rfl) (by kernel_rfl) (by kernel_rfl) (by kernel_rfl) (fun _ _ _ h => h) (Or.inl ⟨by rfl, ?_⟩) (by assumption) ?_
  · intro W hSW
    obtain ⟨s0, s1⟩ := hSW
    go_simp
  simp only [Act.put, List.setIfInBounds_toArray, List.set_cons_zero, List.set_cons_succ]
  refine Last.take2 12 (i := 5) (v := .pointer (some ⟨w.heap.size, 5, none⟩)) rfl (by kernel_rfl) (by kernel_rfl) (by kernel_rfl) (by kernel_rfl) (by kernel_rfl) (fun _ _ _ h => h) (Or.inl ⟨by rfl, ?_⟩) (by assumption) ?_
  · intro W hSW
    obtain ⟨s0, s1⟩ := hSW
    go_simp
  simp only [Act.put, List.setIfInBounds_toArray, List.set_cons_zero, List.set_cons_succ]
  refine Last.take2 12 (i := 6) (v := .pointer (some ⟨w.heap.size, 6, none⟩)) rfl (by kernel_rfl) (by kernel_rfl) (by kernel_rfl) (by kernel_rfl) (by kernel_rfl) (fun _ _ _ h => h) (Or.inl ⟨by rfl, ?_⟩) (by assumption) ?_
  · intro W hSW
    obtain ⟨s0, s1⟩ := hSW
    go_simp
  simp only [Act.put, List.setIfInBounds_toArray, List.set_cons_zero, List.set_cons_succ]
  refine Last.take2 12 (i := 7) (v := .slice ba bn bc) rfl (by kernel_rfl) (by kernel_rfl) (by kernel_rfl) (by kernel_rfl) (by kernel_rfl) (fun _ _ _ h => h) (Or.inl ⟨by rfl, ?_⟩) (by assumption) ?_
  · intro W hSW
    obtain ⟨s0, s1⟩ := hSW
    go_simp
  simp only [Act.put, List.setIfInBounds_toArray, List.set_cons_zero, List.set_cons_succ]
  refine Last.one (i := 4) rfl (by kernel_rfl) ?_
  intro K' hK0
  have hK := hid_of hK0
  clear hK0
  go_simp
  refine hK.out _ _ (fun _ => GA.out) ?_
  clear hK K'
  try simp only [Act.put, List.setIfInBounds_toArray, List.set_cons_zero, List.set_cons_succ]
  refine Last.one (i := 8) rfl (by kernel_rfl) ?_
  intro K' hK0
  have hK := hid_of hK0
  clear hK0
  refine step_eq rfl (.tmp 178) (.tmp 181) 34 34 rfl (.slice (some ⟨W0.drew.heap.size, 0, none⟩) 0 0) (.slice ba bn bc) (.slice a1 bl c1) _ w1 (by first | (simp [Act.eval]; done) | simp [Act.eval, Act.put]) (by first | (simp [Act.eval]; done) | simp [Act.eval, Act.put]) HRun.out ?_
  refine hK.out _ _ (fun _ => GB.out) ?_
  clear hK K'
  simp only [Act.put, List.setIfInBounds_toArray, List.set_cons_zero, List.set_cons_succ]
  refine Last.one (i := 9) rfl (by kernel_rfl) ?_
  intro K' hK0
  have hK := hid_of hK0
  clear hK0
  go_simp
  refine hK.out _ _ (fun _ => GB.out) ?_
  clear hK K'
  try simp only [Act.put, List.setIfInBounds_toArray, List.set_cons_zero, List.set_cons_succ]
  refine Last.one (i := 10) rfl (by kernel_rfl) ?_
  intro K' hK0
  have hK := hid_of hK0
  clear hK0
  go_simp
  refine HC.out.mono ?_
  rintro e w2 ⟨rfl, h2, ev2⟩
  have BX2 := hid_of (BXA.out.ev ev2 rfl)
  have x5 : w2.cell? ⟨w.heap.size, 5, none⟩ = some (.int .i64 cn) := BX2.out.cell 5
  have x6 : w2.cell? ⟨w.heap.size, 6, none⟩ = some (.slice ba bn bc) := BX2.out.cell 6
  have E2 := hid_of (E1.out.trans ev2)
  have H2 := hid_of h2
  clear h2 ev2
  try go_simp
  refine hK.out _ _ (fun h => absurd rfl h) ?_
  clear hK K'
  refine Last.fin (by kernel_rfl) ?_ _
  try simp only [Act.put, List.setIfInBounds_toArray, List.set_cons_zero, List.set_cons_succ]
  go_wp2_with fail
  obtain ⟨r1, hr1⟩ := rhas_code P0.out.rd E2.out
  refine (HR.out r1 _ (B0.out.trans (E2.out.below P0.out.hb)) hr1).mono ?_
  rintro e w3 ⟨rfl, h3, ev3⟩
  have FIN := hid_of (Pr.go P0.out.hb H2.out E2.out h3 ev3 IV.out)
  clear h3 ev3 hr1
  go_wp2_with fail
  go_ret
  exact ⟨rfl, FIN.out.1, B0.out.trans FIN.out.2⟩
end Go.Proofs.Ytilbffbmpgebmaa.DoC
