/- A run of a rank's entries; the whole list. -/
import Derived.Test.YtighoelipihifabGreatDoorRank1
namespace Go.Proofs.YtighoelipihifabGreatDoor.Run
open Go.RowKit Go.Maps Go.Sort
open Go.Proofs.YtighoelipihifabGreatDoor.MapMath
open Go.Proofs.YtighoelipihifabGreatDoor.RankMath
open Go.Proofs.YtighoelipihifabGreatDoor.RankMath2
open Go.Proofs.YtighoelipihifabGreatDoor.RankMath3
open Go.Proofs.YtighoelipihifabGreatDoor.Base
open Go.Proofs.YtighoelipihifabGreatDoor.Cmp
open Go.Proofs.YtighoelipihifabGreatDoor.Tree
open Go.Proofs.YtighoelipihifabGreatDoor.Piece
open Go.Proofs.YtighoelipihifabGreatDoor.Sorts
open Go.Proofs.YtighoelipihifabGreatDoor.Rank1
set_option linter.unusedVariables false
set_option linter.unusedSimpArgs false

def RunE (L : EL) (w : World) (e : Ending) (w' : World) : Prop := ∃ v, e = .returned v ∧ OR w.heap.size w' v L ∧ Below w.heap.size w w'
theorem seg_run {l : EL} {f n : Nat} (h : f + n ≤ l.length) : seg l f (f + n) = (l.drop f).take n := by
  unfold seg
  rw [List.drop_take]
  congr 1
  omega
set_option maxRecDepth 100000 in
theorem run_zero (p : Value) (f : Int) (r : Bool) (w : World) : Calls Tryz.prog 31 #[p, .int .i64 f, .int .i64 0, .bool r] w fun e w' => RunE [] w e w' := by
  go_enter Tryz.func31, Tryz.ntmps31
  go_wp2
  go_ret
  exact ⟨_, rfl, or_nil _ _, Below.refl _ _⟩
set_option maxHeartbeats 4000000 in
set_option maxRecDepth 100000 in
theorem run_call {B b : Nat} {l : EL} {w : World} (h : RK B b l w) (f n : Nat) (r : Bool) (hfn : f + n ≤ l.length) (hl : l.length ≤ big) : Calls Tryz.prog 31 #[ptr b, .int .i64 (f : Int), .int .i64 (n : Int), .bool r] w fun e w' => RunE (runS l f n r) w e w' := by
  by_cases h0 : n = 0
  · subst h0
    have : runS l f 0 r = [] := by unfold runS; simp
    rw [this]
    exact run_zero _ _ _ _
  have hL := hid_of (len_call h)
  obtain ⟨m, t, ml, h⟩ := h
  have c1 := h.c1
  have g0 : ((n : Int) == 0) = false := by simp; omega
  obtain ⟨i0, hi, hz0, hz1, hz2⟩ := parts_of info_sc
  obtain ⟨w1, hmk, hown, hgr⟩ := run_make_own (P := Tryz.prog) w.drew w.drew.heap.size 22 35 i0 (.agg #[.string ⟨#[]⟩, .int .i64 0]) 2 Tryz.underlying22 hi hz0 hz1 .i64 .i64 n (by rw [hz2]; unfold big at hl; omega) (by unfold maxLen; unfold big at hl; omega) (Nat.le_refl _)
  have b1 : Below w.drew.heap.size w.drew w1 := (Below.refl _ _).grown hgr (Nat.le_refl _) (fun k hk => by cases hk)
  have hbd : Bd w.drew (.slice (some ⟨w.drew.heap.size, 0, none⟩) 0 n) [] w1 := ⟨hown, b1⟩
  have hs1 : w1.cell? ⟨b, 1, none⟩ = some t.ptr := cell_on b1 h.c1
  have HP : Hid (∀ f' : Nat, f' + n ≤ l.length → Calls Tryz.prog 52 #[t.ptr, .slice (some ⟨w.drew.heap.size, 0, none⟩) 0 n, .int .i64 (f' : Int), .int .i64 ((f' + n : Nat) : Int)] w1 fun e w' => PcE w.drew [] ((l.drop f').take n) e w') := hid_of fun f' hf' => by
    have hq := piece_call t w.drew w1 _ [] f' ((f' + n : Nat) : Int) (h.tr.below ((Below.refl _ w).drew)) hbd (by unfold lim; unfold big at hl; omega) (by unfold lim; omega) (by unfold lim; unfold big at hl; omega) (by rw [h.list]; simp; exact hl)
    rw [Int.toNat_natCast, h.list, seg_run hf'] at hq
    exact hq
  have HC1 : Hid (∀ w4 {v4 : Value} {ys : EL}, Bd w.drew v4 ys w4 → w4.cell? ⟨b, 1, none⟩ = some t.ptr) := hid_of fun w4 _ _ hb => cell_on (show Below w.heap.size w w4 from (Below.refl _ w).drew.trans hb.bel) h.c1
  clear h hown hgr hbd b1 hi hz0 hz1 hz2
  unfold ptr
  unfold T.ptr at *
  generalize t.addr = A at *
  cases r with
  | false =>
    obtain ⟨U, hU⟩ : ∃ U : Nat, U = f + n := ⟨_, rfl⟩
    have H4 := hid_of (HP.out f hfn)
    rw [← hU] at H4
    have e1 : IntKind.i64.wrap ((f : Int) + (n : Int)) = (U : Int) := by rw [show (f : Int) + (n : Int) = (U : Int) from by omega]; exact IntWalk.i64_in _ (by unfold big at hl; omega)
    clear hU HP hL
    go_enter Tryz.func31, Tryz.ntmps31
    go_wp2_with fail
    refine Last.start (fun V => V.cell? ⟨b, 1, none⟩ = some (.pointer A)) 11 (by kernel_rfl) ?_
    have hs0 : (fun V => V.cell? ⟨b, 1, none⟩ = some (.pointer A)) w.drew := c1
    refine Last.take2 12 (i := 0) (v := .pointer (some ⟨b, 0, none⟩)) rfl (by kernel_rfl) (by kernel_rfl) (by kernel_rfl) (by kernel_rfl) (by kernel_rfl) (fun _ _ _ h => h) (Or.inl ⟨by rfl, ?_⟩) (by assumption) ?_
    · intro W hSW
      have s0 : W.cell? ⟨b, 1, none⟩ = some (.pointer A) := hSW
      go_simp
    simp only [Act.put, List.setIfInBounds_toArray, List.set_cons_zero, List.set_cons_succ]
    refine Last.take2 12 (i := 1) (v := .pointer (some ⟨b, 0, none⟩)) rfl (by kernel_rfl) (by kernel_rfl) (by kernel_rfl) (by kernel_rfl) (by kernel_rfl) (fun _ _ _ h => h) (Or.inl ⟨by rfl, ?_⟩) (by assumption) ?_
    · intro W hSW
      have s0 : W.cell? ⟨b, 1, none⟩ = some (.pointer A) := hSW
      go_simp
    simp only [Act.put, List.setIfInBounds_toArray, List.set_cons_zero, List.set_cons_succ]
    refine Last.take2 12 (i := 2) (v := .pointer (some ⟨b, 1, none⟩)) rfl (by kernel_rfl) (by kernel_rfl) (by kernel_rfl) (by kernel_rfl) (by kernel_rfl) (fun _ _ _ h => h) (Or.inl ⟨by rfl, ?_⟩) (by assumption) ?_
    · intro W hSW
      have s0 : W.cell? ⟨b, 1, none⟩ = some (.pointer A) := hSW
      go_simp
    simp only [Act.put, List.setIfInBounds_toArray, List.set_cons_zero, List.set_cons_succ]
    refine Last.take2 12 (i := 3) (v := .pointer A) rfl (by kernel_rfl) (by kernel_rfl) (by kernel_rfl) (by kernel_rfl) (by kernel_rfl) (fun _ _ _ h => h) (Or.inl ⟨by rfl, ?_⟩) (by assumption) ?_
    · intro W hSW
      have s0 : W.cell? ⟨b, 1, none⟩ = some (.pointer A) := hSW
      go_simp
    simp only [Act.put, List.setIfInBounds_toArray, List.set_cons_zero, List.set_cons_succ]
    refine Last.take2 12 (i := 4) (v := .int .i64 (n : Int)) rfl (by kernel_rfl) (by kernel_rfl) (by kernel_rfl) (by kernel_rfl) (by kernel_rfl) (fun _ _ _ h => h) (Or.inl ⟨by rfl, ?_⟩) (by assumption) ?_
    · intro W hSW
      have s0 : W.cell? ⟨b, 1, none⟩ = some (.pointer A) := hSW
      go_simp
    simp only [Act.put, List.setIfInBounds_toArray, List.set_cons_zero, List.set_cons_succ]
    refine Last.take2 12 (i := 6) (v := .int .i64 (f : Int)) rfl (by kernel_rfl) (by kernel_rfl) (by kernel_rfl) (by kernel_rfl) (by kernel_rfl) (fun _ _ _ h => h) (Or.inl ⟨by rfl, ?_⟩) (by assumption) ?_
    · intro W hSW
      have s0 : W.cell? ⟨b, 1, none⟩ = some (.pointer A) := hSW
      go_simp
    simp only [Act.put, List.setIfInBounds_toArray, List.set_cons_zero, List.set_cons_succ]
    refine Last.take2 12 (i := 7) (v := .int .i64 (f : Int)) rfl (by kernel_rfl) (by kernel_rfl) (by kernel_rfl) (by kernel_rfl) (by kernel_rfl) (fun _ _ _ h => h) (Or.inl ⟨by rfl, ?_⟩) (by assumption) ?_
    · intro W hSW
      have s0 : W.cell? ⟨b, 1, none⟩ = some (.pointer A) := hSW
      go_simp
    simp only [Act.put, List.setIfInBounds_toArray, List.set_cons_zero, List.set_cons_succ]
    refine Last.take2 12 (i := 8) (v := .int .i64 (n : Int)) rfl (by kernel_rfl) (by kernel_rfl) (by kernel_rfl) (by kernel_rfl) (by kernel_rfl) (fun _ _ _ h => h) (Or.inl ⟨by rfl, ?_⟩) (by assumption) ?_
    · intro W hSW
      have s0 : W.cell? ⟨b, 1, none⟩ = some (.pointer A) := hSW
      go_simp
    simp only [Act.put, List.setIfInBounds_toArray, List.set_cons_zero, List.set_cons_succ]
    refine Last.take2 12 (i := 9) (v := .int .i64 (U : Int)) rfl (by kernel_rfl) (by kernel_rfl) (by kernel_rfl) (by kernel_rfl) (by kernel_rfl) (fun _ _ _ h => h) (Or.inl ⟨by rfl, ?_⟩) (by assumption) ?_
    · intro W hSW
      have s0 : W.cell? ⟨b, 1, none⟩ = some (.pointer A) := hSW
      go_simp
    simp only [Act.put, List.setIfInBounds_toArray, List.set_cons_zero, List.set_cons_succ]
    refine Last.one (i := 5) rfl (by kernel_rfl) ?_
    intro K' hK0
    have hK := hid_of hK0
    clear hK0
    go_simp
    refine hK.out _ _ (fun _ => hs1) ?_
    clear hK K'
    try simp only [Act.put, List.setIfInBounds_toArray, List.set_cons_zero, List.set_cons_succ]
    refine Last.one (i := 10) rfl (by kernel_rfl) ?_
    intro K' hK0
    have hK := hid_of hK0
    clear hK0
    go_simp
    refine H4.out.mono ?_
    rintro e w4 ⟨v4, rfl, hb4⟩
    have HB4 := hid_of hb4
    have hs4 : (fun V => V.cell? ⟨b, 1, none⟩ = some (.pointer A)) w4 := HC1.out w4 hb4
    clear hb4
    refine hK.out _ _ (fun _ => hs4) ?_
    clear hK K'
    try simp only [Act.put, List.setIfInBounds_toArray, List.set_cons_zero, List.set_cons_succ]
    refine Last.one (i := 11) rfl (by kernel_rfl) ?_
    intro K' hK0
    have hK := hid_of hK0
    clear hK0
    go_simp
    refine hK.out _ _ (fun h => absurd rfl h) ?_
    clear hK K'
    refine Last.fin (by kernel_rfl) ?_ _
    go_wp2_with fail
    go_ret
    refine ⟨v4, rfl, ?_, (Below.refl _ w).drew.trans HB4.out.bel⟩
    have h := HB4.out.row
    rw [List.nil_append] at h
    exact h
  | true =>
    obtain ⟨F, hF⟩ : ∃ F : Nat, F = l.length - f - n := ⟨_, rfl⟩
    obtain ⟨U, hU⟩ : ∃ U : Nat, U = F + n := ⟨_, rfl⟩
    have H4 := hid_of (HP.out F (by omega))
    rw [← hU] at H4
    have e0 : IntKind.i64.wrap ((l.length : Int) - (f : Int)) = (l.length : Int) - (f : Int) := IntWalk.i64_in _ (by unfold big at hl; omega)
    have e2 : IntKind.i64.wrap ((l.length : Int) - (f : Int) - (n : Int)) = (F : Int) := by rw [show (l.length : Int) - (f : Int) - (n : Int) = (F : Int) from by omega]; exact IntWalk.i64_in _ (by unfold big at hl; omega)
    have e1 : IntKind.i64.wrap ((F : Int) + (n : Int)) = (U : Int) := by rw [show (F : Int) + (n : Int) = (U : Int) from by omega]; exact IntWalk.i64_in _ (by unfold big at hl; omega)
    have HRV : Hid (((l.drop F).take n).reverse = runS l f n true) := hid_of (by rw [hF]; exact run_rev hfn)
    have HLN : Hid (((l.drop F).take n).length ≤ big) := hid_of (by rw [List.length_take, List.length_drop]; unfold big at *; omega)
    clear hU HP hF
    go_enter Tryz.func31, Tryz.ntmps31
    go_wp2_with fail
    refine hL.out.mono ?_
    rintro e wl hwl
    obtain ⟨rfl, hww⟩ := hwl
    rw [hww]
    clear hL hww wl
    go_wp2_with fail
    refine Last.start (fun V => V.cell? ⟨b, 1, none⟩ = some (.pointer A)) 11 (by kernel_rfl) ?_
    have hs0 : (fun V => V.cell? ⟨b, 1, none⟩ = some (.pointer A)) w.drew := c1
    refine Last.take2 12 (i := 0) (v := .pointer (some ⟨b, 0, none⟩)) rfl (by kernel_rfl) (by kernel_rfl) (by kernel_rfl) (by kernel_rfl) (by kernel_rfl) (fun _ _ _ h => h) (Or.inl ⟨by rfl, ?_⟩) (by assumption) ?_
    · intro W hSW
      have s0 : W.cell? ⟨b, 1, none⟩ = some (.pointer A) := hSW
      go_simp
    simp only [Act.put, List.setIfInBounds_toArray, List.set_cons_zero, List.set_cons_succ]
    refine Last.take2 12 (i := 1) (v := .pointer (some ⟨b, 0, none⟩)) rfl (by kernel_rfl) (by kernel_rfl) (by kernel_rfl) (by kernel_rfl) (by kernel_rfl) (fun _ _ _ h => h) (Or.inl ⟨by rfl, ?_⟩) (by assumption) ?_
    · intro W hSW
      have s0 : W.cell? ⟨b, 1, none⟩ = some (.pointer A) := hSW
      go_simp
    simp only [Act.put, List.setIfInBounds_toArray, List.set_cons_zero, List.set_cons_succ]
    refine Last.take2 12 (i := 2) (v := .pointer (some ⟨b, 1, none⟩)) rfl (by kernel_rfl) (by kernel_rfl) (by kernel_rfl) (by kernel_rfl) (by kernel_rfl) (fun _ _ _ h => h) (Or.inl ⟨by rfl, ?_⟩) (by assumption) ?_
    · intro W hSW
      have s0 : W.cell? ⟨b, 1, none⟩ = some (.pointer A) := hSW
      go_simp
    simp only [Act.put, List.setIfInBounds_toArray, List.set_cons_zero, List.set_cons_succ]
    refine Last.take2 12 (i := 3) (v := .pointer A) rfl (by kernel_rfl) (by kernel_rfl) (by kernel_rfl) (by kernel_rfl) (by kernel_rfl) (fun _ _ _ h => h) (Or.inl ⟨by rfl, ?_⟩) (by assumption) ?_
    · intro W hSW
      have s0 : W.cell? ⟨b, 1, none⟩ = some (.pointer A) := hSW
      go_simp
    simp only [Act.put, List.setIfInBounds_toArray, List.set_cons_zero, List.set_cons_succ]
    refine Last.take2 12 (i := 4) (v := .int .i64 (n : Int)) rfl (by kernel_rfl) (by kernel_rfl) (by kernel_rfl) (by kernel_rfl) (by kernel_rfl) (fun _ _ _ h => h) (Or.inl ⟨by rfl, ?_⟩) (by assumption) ?_
    · intro W hSW
      have s0 : W.cell? ⟨b, 1, none⟩ = some (.pointer A) := hSW
      go_simp
    simp only [Act.put, List.setIfInBounds_toArray, List.set_cons_zero, List.set_cons_succ]
    refine Last.take2 12 (i := 6) (v := .int .i64 (F : Int)) rfl (by kernel_rfl) (by kernel_rfl) (by kernel_rfl) (by kernel_rfl) (by kernel_rfl) (fun _ _ _ h => h) (Or.inl ⟨by rfl, ?_⟩) (by assumption) ?_
    · intro W hSW
      have s0 : W.cell? ⟨b, 1, none⟩ = some (.pointer A) := hSW
      go_simp
    simp only [Act.put, List.setIfInBounds_toArray, List.set_cons_zero, List.set_cons_succ]
    refine Last.take2 12 (i := 7) (v := .int .i64 (F : Int)) rfl (by kernel_rfl) (by kernel_rfl) (by kernel_rfl) (by kernel_rfl) (by kernel_rfl) (fun _ _ _ h => h) (Or.inl ⟨by rfl, ?_⟩) (by assumption) ?_
    · intro W hSW
      have s0 : W.cell? ⟨b, 1, none⟩ = some (.pointer A) := hSW
      go_simp
    simp only [Act.put, List.setIfInBounds_toArray, List.set_cons_zero, List.set_cons_succ]
    refine Last.take2 12 (i := 8) (v := .int .i64 (n : Int)) rfl (by kernel_rfl) (by kernel_rfl) (by kernel_rfl) (by kernel_rfl) (by kernel_rfl) (fun _ _ _ h => h) (Or.inl ⟨by rfl, ?_⟩) (by assumption) ?_
    · intro W hSW
      have s0 : W.cell? ⟨b, 1, none⟩ = some (.pointer A) := hSW
      go_simp
    simp only [Act.put, List.setIfInBounds_toArray, List.set_cons_zero, List.set_cons_succ]
    refine Last.take2 12 (i := 9) (v := .int .i64 (U : Int)) rfl (by kernel_rfl) (by kernel_rfl) (by kernel_rfl) (by kernel_rfl) (by kernel_rfl) (fun _ _ _ h => h) (Or.inl ⟨by rfl, ?_⟩) (by assumption) ?_
    · intro W hSW
      have s0 : W.cell? ⟨b, 1, none⟩ = some (.pointer A) := hSW
      go_simp
    simp only [Act.put, List.setIfInBounds_toArray, List.set_cons_zero, List.set_cons_succ]
    refine Last.one (i := 5) rfl (by kernel_rfl) ?_
    intro K' hK0
    have hK := hid_of hK0
    clear hK0
    go_simp
    refine hK.out _ _ (fun _ => hs1) ?_
    clear hK K'
    try simp only [Act.put, List.setIfInBounds_toArray, List.set_cons_zero, List.set_cons_succ]
    refine Last.one (i := 10) rfl (by kernel_rfl) ?_
    intro K' hK0
    have hK := hid_of hK0
    clear hK0
    go_simp
    refine H4.out.mono ?_
    rintro e w4 ⟨v4, rfl, hb4⟩
    have HB4 := hid_of hb4
    have hs4 : (fun V => V.cell? ⟨b, 1, none⟩ = some (.pointer A)) w4 := HC1.out w4 hb4
    clear hb4
    refine hK.out _ _ (fun _ => hs4) ?_
    clear hK K'
    try simp only [Act.put, List.setIfInBounds_toArray, List.set_cons_zero, List.set_cons_succ]
    refine Last.one (i := 11) rfl (by kernel_rfl) ?_
    intro K' hK0
    have hK := hid_of hK0
    clear hK0
    go_simp
    refine hK.out _ _ (fun h => absurd rfl h) ?_
    clear hK K'
    refine Last.fin (by kernel_rfl) ?_ _
    have hrow := HB4.out.row
    rw [List.nil_append] at hrow
    have H5 := hid_of (rev_call hrow HLN.out HB4.out.bel.size)
    clear hrow
    go_wp2_with fail
    refine H5.out.mono ?_
    rintro e w5 hw5
    obtain ⟨rfl, o5, b5⟩ := hw5
    have O5 := hid_of o5
    have B5 := hid_of b5
    clear o5 b5
    go_wp2_with fail
    go_ret
    refine ⟨v4, rfl, ?_, (Below.refl _ _).drew.trans (HB4.out.bel.trans B5.out)⟩
    have h := O5.out
    rw [HRV.out] at h
    exact h
set_option maxRecDepth 100000 in
theorem list_nil (w : World) : Calls Tryz.prog 9 #[.pointer none] w fun e w' => RunE [] w e w' := by
  have H1 := hid_of (len_nil w)
  have H2 := hid_of (run_zero (.pointer none) 0 false w)
  go_enter Tryz.func9, Tryz.ntmps9
  go_wp2_with fail
  refine H1.out.mono ?_
  rintro e w1 hw1
  obtain ⟨rfl, hww⟩ := hw1
  subst hww
  go_wp2_with fail
  refine H2.out.mono ?_
  rintro e w2 hw2
  have HZ := hid_of hw2
  obtain ⟨v2, rfl, _, _⟩ := hw2
  go_wp2_with fail
  go_ret
  exact HZ.out
theorem run_all (l : EL) : runS l 0 l.length false = l := by unfold runS way; simp
set_option maxRecDepth 100000 in
theorem list_call {B b : Nat} {l : EL} {w : World} (h : RK B b l w) (hl : l.length ≤ big) : Calls Tryz.prog 9 #[ptr b] w fun e w' => RunE l w e w' := by
  have H1 := hid_of (len_call h)
  have H2 := hid_of (run_call h 0 l.length false (by omega) hl)
  rw [run_all, show ((0 : Nat) : Int) = 0 from rfl] at H2
  clear h
  unfold ptr at *
  go_enter Tryz.func9, Tryz.ntmps9
  go_wp2_with fail
  refine H1.out.mono ?_
  rintro e w1 hw1
  obtain ⟨rfl, hww⟩ := hw1
  subst hww
  go_wp2_with fail
  refine H2.out.mono ?_
  rintro e w2 hw2
  have HZ := hid_of hw2
  obtain ⟨v2, rfl, _, _⟩ := hw2
  go_wp2_with fail
  go_ret
  exact HZ.out
end Go.Proofs.YtighoelipihifabGreatDoor.Run
