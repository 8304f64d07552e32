/- PushBack. -/
import Derived.Test.YtdmjfmojacnbeaaFree
namespace Go.Proofs.Ytdmjfmojacnbeaa.Push
open Go.RowKit
open Go.Proofs.Ytdmjfmojacnbeaa.Base
open Go.Proofs.Ytdmjfmojacnbeaa.Held
open Go.Proofs.Ytdmjfmojacnbeaa.Lay
open Go.Proofs.Ytdmjfmojacnbeaa.Free
set_option linter.unusedVariables false
set_option linter.unusedSimpArgs false
theorem back_is {xs l m : List El} {f : Nat} (h : (xs.drop f).take l.length = l) (hx : f + l.length + m.length ≤ xs.length) : ((lay xs (f + l.length) m).drop f).take (l ++ m).length = l ++ m := by
  have e1 : (xs.take (f + l.length)).drop f = l := by rw [List.drop_take, show f + l.length - f = l.length by omega, h]
  have e2 : (xs.take (f + l.length)).length = f + l.length := by simp; omega
  unfold lay
  rw [List.append_assoc, List.drop_append_of_le_length (by omega), e1, ← List.append_assoc, List.take_left']
  rfl
theorem SL.shape {G : Nat → Prop} {w : World} {v : Value} {m : List El} (h : SL G w v m) : ∃ a c, v = .slice a m.length c ∧ m.length ≤ c ∧ Rd G w a m := h
theorem rd_fr {F : Nat → Prop} {w w' : World} {a : Option Addr} {m : List El} (h : Rd (fun k => ¬ F k) w a m) (f : Fr F w w') : Rd (fun k => ¬ Gr F w k) w' a m := by
  refine (h.lt.keep fun k hk hn => f.block k hk hn.1).mono fun k _ hn e => ?_
  rcases e with e | e
  · exact hn.1 e
  · exact absurd hn.2 (by omega)
/-- what a copy behind the last element does -/
theorem copy_back {F G : Nat → Prop} {b : Nat} {a : Option Addr} {n c f : Nat} {xs l m : List El} {w : World} (h : DK F b a n c f xs l w) {am : Option Addr} {cm : Nat} (hm : Rd G w am m) (hf : f + l.length + m.length ≤ n) :
    ∃ W2 xs', (∀ ty, (Builtin.copy_ #[22, 22] ty #[.slice (ca a c (f + l.length)) (n - (f + l.length)) (c - (f + l.length)), .slice am m.length cm]).run Try.prog w = .ok (goInt m.length) W2) ∧
      DK F b a n c f xs' (l ++ m) (W2.setCell ⟨b, 2, none⟩ (.int .i64 ((f + l.length + m.length : Nat) : Int))) ∧ Fr F w W2 ∧ W2.heap[b]? = w.heap[b]? := by
  have hnc := h.nc
  by_cases q : m = []
  · subst q
    refine ⟨w, xs, fun ty => run_copy_none w 22 22 ty 3 _ _ _ _ _ _ Try.underlying22 size_some (by simp), ⟨?_, h.own, by simpa using h.fit, h.nc, h.lim, ?_, by simpa using h.is⟩, Fr.refl _ _, rfl⟩
    · rw [set_at h.blk]; simp
    · rcases h.row with r | ⟨g, e, hF, hx, hr⟩
      · exact .inl r
      · exact .inr ⟨g, e, hF, hx, (set_ne (Ne.symm (h.ne hr)) _).trans hr⟩
  · have hp : 0 < m.length := List.length_pos_iff.2 q
    have htk : m.take (n - (f + l.length)) = m := List.take_of_length_le (by omega)
    rcases h.row with ⟨_, rfl⟩ | ⟨g, rfl, hF, hx, hr⟩
    · omega
    · obtain ⟨W2, hcp, hr2, cs, hw2⟩ := copy_run (d := ca (some ⟨g, 0, none⟩) c (f + l.length)) (o := f + l.length) (dn := n - (f + l.length)) (dc := c - (f + l.length)) (sc := cm) hr hm (fun _ => by rw [ca_some _ _ _ _ (by omega), Nat.zero_add]) (by rw [htk]; omega)
      rw [htk] at hcp hr2
      have hb2 : W2.heap[b]? = w.heap[b]? := by rw [hw2, row_ne (h.ne hr)]
      refine ⟨W2, _, hcp, ⟨?_, h.own, by rw [List.length_append]; omega, h.nc, h.lim, .inr ⟨g, rfl, hF, by rw [lay_len (by omega)]; exact hx, (set_ne (Ne.symm (h.ne hr)) _).trans hr2⟩, back_is h.is (by omega)⟩, by rw [hw2]; exact Fr.row hF _, hb2⟩
      rw [set_at (hb2.trans h.blk)]
      simp [Nat.add_assoc]
set_option maxHeartbeats 1000000 in
set_option maxRecDepth 100000 in
theorem pushBack_call {F : Nat → Prop} {b : Nat} {l m : List El} {v : Value} {w : World} (h : DQ F b l w) (hm : SL (fun k => ¬ F k) w v m) (hs : (2 * (l.length + m.length) + l.length) * 8 ≤ 281474976710656) :
    Calls Try.prog 38 #[ptr b, v] w fun e w' => e = .returned (.tuple #[]) ∧ DQ (Gr F w) b (l ++ m) w' ∧ Fr F w w' := by
  have HF := hid_of (free_call h 0 m.length 0 (m.length : Int) rfl rfl (by omega))
  obtain ⟨am, cm, rfl, hcm, hrm⟩ := hm
  have HM := hid_of hrm
  have bm : m.length ≤ 281474976710656 := by omega
  clear h hrm hcm hs
  go_enter Try.func38, Try.ntmps38
  go_wp2_with fail
  refine HF.out.mono ?_
  rintro e w1 ⟨rfl, ⟨a, n, c, f, xs, k, hx, hy⟩, fr⟩
  have c0 : w1.cell? ⟨b, 0, none⟩ = some (.slice a n c) := k.cell 0
  obtain ⟨t, HT⟩ : ∃ t, Hid (t = f + l.length) := ⟨_, hid_of rfl⟩
  have c2 : w1.cell? ⟨b, 2, none⟩ = some (.int .i64 (t : Int)) := by rw [HT.out]; exact k.cell 2
  have ht : t ≤ n := by rw [HT.out]; exact k.fit
  have hn := k.lim
  have hcut := cut_lo a n c t (t : Int) rfl ht
  obtain ⟨W2, xs', hcp, k2, f2, hb2⟩ := copy_back (w := w1.drewN 1) (DK.drewN k 1) (cm := cm) (rd_fr HM.out (fr.drewN 1)) hy
  rw [← HT.out] at hcp k2
  have hcp1 : ∀ ty, (Builtin.copy_ #[22, 22] ty #[.slice (ca a c t) (n - t) (c - t), .slice am m.length cm]).run Try.prog w1.drew = .ok (goInt m.length) W2 := hcp
  have q0 := hb2.trans k.blk
  have d2 : W2.cell? ⟨b, 2, none⟩ = some (.int .i64 (t : Int)) := by rw [HT.out]; exact Lib.cell_of_heap q0 2
  have z2 : W2.frozen? ⟨b, 2, none⟩ = false := Lib.frozen_of_heap q0 2
  have hw : IntKind.i64.wrap ((t : Int) + (m.length : Int)) = (t : Int) + (m.length : Int) := IntWalk.i64_in _ (by omega)
  have hF : Fr F w W2 := (fr.drewN 1).trans f2
  have K := hid_of (And.intro k2 (hF.trans (Fr.set (i := 2) (k.own) (.int .i64 ((t + m.length : Nat) : Int)))))
  clear k fr k2 f2 hb2 q0 hcp hF hx hy
  go_wp2_with fail
  go_region
  all_goals
    go_end0
    obtain ⟨r1, r2⟩ := K.out
    rw [show ((t + m.length : Nat) : Int) = (t : Int) + (m.length : Int) by simp] at r1 r2
    exact ⟨rfl, ⟨_, _, _, _, _, r1⟩, r2⟩
end Go.Proofs.Ytdmjfmojacnbeaa.Push
