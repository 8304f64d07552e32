/- Of: the rank of any entries, or the error. -/
import Derived.Test.YtighoelipihifabGreatDoorNames
namespace Go.Proofs.YtighoelipihifabGreatDoor.Of
open Go.RowKit Go.Maps Go.Sort
open Go.Proofs.YtighoelipihifabGreatDoor.MapMath
open Go.Proofs.YtighoelipihifabGreatDoor.RankMath
open Go.Proofs.YtighoelipihifabGreatDoor.RankMath2
open Go.Proofs.YtighoelipihifabGreatDoor.RankMath3
open Go.Proofs.YtighoelipihifabGreatDoor.Base
open Go.Proofs.YtighoelipihifabGreatDoor.Cmp
open Go.Proofs.YtighoelipihifabGreatDoor.Tree
open Go.Proofs.YtighoelipihifabGreatDoor.Sorts
open Go.Proofs.YtighoelipihifabGreatDoor.Rank1
set_option linter.unusedVariables false

def mapOf (l : EL) : EL := l.foldl (fun acc e => withL acc e.1 e.2) []
theorem mapOf_snoc (l : EL) (e : Ent) : mapOf (l ++ [e]) = withL (mapOf l) e.1 e.2 := by unfold mapOf; rw [List.foldl_append]; rfl
theorem mapOf_take {l : EL} {k : Nat} (h : k < l.length) : mapOf (l.take (k + 1)) = withL (mapOf (l.take k)) (l[k]'h).1 (l[k]'h).2 := by
  rw [List.take_succ_eq_append_getElem h, mapOf_snoc]
theorem ris_nil : Ris [] := List.Pairwise.nil
theorem fold_ris : ∀ (l acc : EL), Ris acc → Ris (l.foldl (fun acc e => withL acc e.1 e.2) acc)
  | [], acc, h => h
  | e :: r, acc, h => fold_ris r _ (with_ris h e.1 e.2)
theorem mapOf_ris (l : EL) : Ris (mapOf l) := fold_ris l [] ris_nil
theorem uq_snoc {l : EL} {e : Ent} : Uq (l ++ [e]) ↔ Uq l ∧ ok l e.1 = false := by
  unfold Uq
  rw [List.map_append, List.nodup_append]
  constructor
  · rintro ⟨h1, _, h3⟩
    refine ⟨h1, ?_⟩
    cases hh : ok l e.1 with
    | false => rfl
    | true =>
      obtain ⟨p, hp, e1⟩ := ok_iff.1 hh
      exact absurd e1 (h3 p.1 (List.mem_map.2 ⟨p, hp, rfl⟩) e.1 (by simp))
  · rintro ⟨h1, h2⟩
    refine ⟨h1, by simp, fun a ha b hb hab => ?_⟩
    obtain ⟨p, hp, rfl⟩ := List.mem_map.1 ha
    have hb2 : b = e.1 := by simpa using hb
    rw [ok_iff.2 ⟨p, hp, hab.trans hb2⟩] at h2
    cases h2
theorem map_facts : ∀ (n : Nat) (l : EL), l.length = n → (Uq l → (mapOf l).Perm l) ∧ (mapOf l).length ≤ l.length ∧ (¬ Uq l → (mapOf l).length < l.length)
  | 0, l, h => by
    have : l = [] := List.length_eq_zero_iff.1 h
    subst this
    exact ⟨fun _ => List.Perm.refl _, Nat.le_refl _, fun h => absurd List.nodup_nil h⟩
  | n + 1, l, h => by
    obtain ⟨r, e, rfl⟩ : ∃ r e, l = r ++ [e] := by
      have hne : l ≠ [] := by rintro rfl; cases h
      exact ⟨l.dropLast, l.getLast hne, (List.dropLast_concat_getLast hne).symm⟩
    have hr : r.length = n := by rw [List.length_append] at h; simp at h; exact h
    obtain ⟨i1, i2, i3⟩ := map_facts n r hr
    rw [mapOf_snoc, uq_snoc, List.length_append]
    refine ⟨fun ⟨hu, ho⟩ => ?_, ?_, fun hnu => ?_⟩
    · have hp := i1 hu
      refine (with_perm _ _ _).trans ?_
      rw [wout_no (by rw [ok_perm hp]; exact ho)]
      refine (List.Perm.cons _ hp).trans ?_
      exact (List.perm_append_comm (l₁ := [e]) (l₂ := r))
    · have := with_len (mapOf r) e.1 e.2
      simp only [List.length_cons, List.length_nil]
      omega
    · simp only [List.length_cons, List.length_nil]
      by_cases hu : Uq r
      · have hp := i1 hu
        have ho : ok r e.1 = true := by
          cases hh : ok r e.1 with
          | true => rfl
          | false => exact absurd ⟨hu, hh⟩ hnu
        have := with_len_eq (mapOf_ris r) e.1 e.2
        rw [ok_perm hp, ho, if_pos rfl, hp.length_eq] at this
        omega
      · have h1 := i3 hu
        have := with_len (mapOf r) e.1 e.2
        omega
def OfE (l : EL) (w : World) (e : Ending) (w' : World) : Prop := Below w.heap.size w w' ∧ ((¬ AllMay l ∧ e = .returned (.tuple #[.pointer none, .int .i64 120])) ∨ (AllMay l ∧ ¬ Uq l ∧ e = .returned (.tuple #[.pointer none, .int .i64 100])) ∨ (AllMay l ∧ Uq l ∧ ∃ b, e = .returned (.tuple #[ptr b, .int .i64 0]) ∧ RK w.heap.size b (srtL l) w'))
theorem mk_hint (n : Int) (w : World) : (Instr.makeMap 45 (some (.int .i64 n))).run Tryz.prog w = .ok (.map (some w.heap.size)) (w.alloc (.map #[] 0)) := by kernel_rfl
set_option maxHeartbeats 8000000 in
set_option maxRecDepth 100000 in
theorem of_call (v : Value) (l : EL) (w : World) (h : FS w v l) (hn : l.length ≤ big) (hk : ∀ p ∈ l, p.1.length ≤ 140737488355328) : Calls Tryz.prog 5 #[v] w fun e w' => OfE l w e w' := by
  have HF := hid_of h
  have HKk := hid_of hk
  obtain ⟨a, c, rfl, hc, h'⟩ := h
  have hmm := mk_hint
  have HSc := hid_of isScore_call
  obtain ⟨B, hB⟩ : ∃ B, B = w.heap.size := ⟨_, rfl⟩
  have HB := hid_of hB
  have HM0 : Hid (OM (w.alloc (.map #[] 0)) B (mapOf (l.take 0))) := hid_of (by
    have m1 := World.ownsMap_made w Tryz.prog 9 RI
    rw [← hB] at m1
    exact m1)
  have HB0 : Hid (Below w.heap.size w (w.alloc (.map #[] 0))) := hid_of (bnew w _)
  clear h' hk hB
  go_enter Tryz.func5, Tryz.ntmps5
  go_wp2_with fail
  rw [← HB.out]
  go_loopg [13] l.length (fun g si wx => ∃ k : Nat, k ≤ l.length ∧ l.length ≤ k + g ∧ si = .int .i64 (k : Int) ∧ Hid (∀ i (hi : i < l.length), i < k → May (l[i]'hi).2) ∧ Hid (OM wx B (mapOf (l.take k))) ∧ Hid (Below w.heap.size w wx))
  case atStart => exact ⟨0, by omega, by omega, rfl, hid_of (fun i _ hi => by omega), HM0, HB0⟩
  case round =>
    obtain ⟨k, hk, hg, rfl, HA, HM, HBx⟩ := hrel
    by_cases hlt : k < l.length
    · obtain ⟨g', rfl⟩ : ∃ g', gk = g' + 1 := ⟨gk - 1, by omega⟩
      obtain ⟨gb, o, rfl, hat⟩ := (HF.out.below HBx.out).at hlt
      obtain ⟨c0, c1⟩ := hat k hlt
      have g1 : (k : Int) < (l.length : Int) := by omega
      have e2 : IntKind.i64.wrap ((k : Int) + 1) = (k : Int) + 1 := IntWalk.i64_in _ (by unfold big at hn; omega)
      obtain ⟨E, hE⟩ : ∃ E, E = l[k]'hlt := ⟨_, rfl⟩
      have hmt := mapOf_take hlt
      rw [← hE] at c0 c1 hmt
      have hkE := HKk.out E (by rw [hE]; exact List.getElem_mem hlt)
      obtain ⟨V, hV⟩ : ∃ V, V = wr.alloc (.cells #[.string (mk E.1), .int .i64 E.2] 35) := ⟨_, rfl⟩
      have bV : Below wr.heap.size wr V := by rw [hV]; exact bnew wr _
      have d0 : V.cell? ⟨wr.heap.size, 0, none⟩ = some (.string (mk E.1)) := by rw [hV]; simp
      have d1 : V.cell? ⟨wr.heap.size, 1, none⟩ = some (.int .i64 E.2) := by rw [hV]; simp
      have H1 := hid_of (HSc.out E.2 V)
      have HBV : Hid (Below w.heap.size w V) := hid_of (Base.bel HBx.out bV (Nat.le_refl _))
      have HV := hid_of hV
      by_cases hmay : May E.2
      · rw [decide_eq_true hmay] at H1
        have hlen : (mapOf (l.take k)).length < 140737488355328 := by
          have := (map_facts _ (l.take k) rfl).2.1
          rw [List.length_take] at this
          unfold big at hn
          omega
        obtain ⟨w1, hu, hown, hturn⟩ := store_run (owns_later HM.out (bV.block B HM.out.lt)) hlen (mk E.1) E.2 (by rw [mk_size]; exact hkE)
        rw [bs_mk, ← hmt] at hown
        have HM1 := hid_of hown
        have HBw : Hid (Below w.heap.size w w1) := hid_of ((Mo.turned (S := fun i => i = B) hturn rfl).to_below (B := w.heap.size) HBV.out.size (fun i e => by rw [e, HB.out]; exact Nat.le_refl _) |> fun q => HBV.out.trans q)
        have HA2 : Hid (∀ i (hi : i < l.length), i < k + 1 → May (l[i]'hi).2) := hid_of fun i hi hik => by
          by_cases e : i = k
          · subst e; rw [← hE]; exact hmay
          · exact HA.out i hi (by omega)
        clear hown hturn hV bV hat hE hmt hkE hmay HM
        generalize mk E.1 = X at *
        generalize E.2 = xx at *
        rw [HV.out] at d0 d1 hu
        go_wp2_with fail
        rw [← HV.out]
        refine H1.out.mono ?_
        rintro e w2 hw2
        obtain ⟨rfl, hww⟩ := hw2
        rw [hww, HV.out]
        clear hww w2
        go_wp2_with fail
        go_roundg g'
        case measure => omega
        case rel => exact ⟨k + 1, by omega, by omega, by rw [show ((k + 1 : Nat) : Int) = (k : Int) + 1 from by omega], HA2, HM1, HBw⟩
      · rw [decide_eq_false hmay] at H1
        have HN : Hid (¬ AllMay l) := hid_of fun h => hmay (by have := h E (by rw [hE]; exact List.getElem_mem hlt); exact this)
        clear hV bV hat hE hmt hkE hmay HM
        generalize mk E.1 = X at *
        generalize E.2 = xx at *
        rw [HV.out] at d0 d1
        go_wp2_with fail
        rw [← HV.out]
        refine H1.out.mono ?_
        rintro e w2 hw2
        obtain ⟨rfl, hww⟩ := hw2
        rw [hww]
        clear hww w2
        go_wp2_with fail
        go_ret2
        exact ⟨HBV.out, Or.inl ⟨HN.out, rfl⟩⟩
    · have gi : ¬ (k : Int) < (l.length : Int) := by omega
      have HAll : Hid (AllMay l) := hid_of fun e he => by
        obtain ⟨i, hi, rfl⟩ := List.getElem_of_mem he
        exact HA.out i hi (by omega)
      have HMl : Hid (OM wr B (mapOf l)) := hid_of (by have := HM.out; rw [List.take_of_length_le (by omega)] at this; exact this)
      obtain ⟨mf1, mf2, mf3⟩ := map_facts _ l rfl
      have hml := HMl.out.len Tryz.underlying45
      rw [size_D] at hml
      clear HM HA
      obtain ⟨ML, hMLe⟩ : ∃ ML, ML = (mapOf l).length := ⟨_, rfl⟩
      rw [← hMLe] at hml mf2 mf3
      by_cases hu : Uq l
      · have hpm := mf1 hu
        have hML2 : ¬ (ML : Int) < (l.length : Int) := by rw [hMLe, hpm.length_eq]; omega
        have H1 := hid_of (clone_call (HF.out.below HBx.out) hn)
        have HU := hid_of hu
        have HPm := hid_of hpm
        clear mf1 mf2 mf3 hMLe hu hpm
        go_wp2_with fail
        refine H1.out.mono ?_
        rintro e w1 ⟨v1, rfl, o1, b1⟩
        have H2 := hid_of (sort_call o1 HU.out hn b1.size)
        have HB1 := hid_of b1
        clear o1 b1 H1
        go_wp2_with fail
        refine H2.out.mono ?_
        rintro e w2 hw2
        obtain ⟨rfl, o2, b2⟩ := hw2
        have HB2 : Hid (Below wr.heap.size wr w2) := hid_of (HB1.out.trans b2)
        have H3 := hid_of (bal_call _ v1 (srtL l) w2 (Nat.le_refl _) (fs_row o2) (by rw [srtL_len]; exact hn))
        clear o2 b2 H2
        go_wp2_with fail
        refine H3.out.mono ?_
        rintro e w3 ⟨q3, t3, rfl, R3⟩
        have HB3 : Hid (Below wr.heap.size wr w3) := hid_of (Base.bel HB2.out R3.out.2.bel (Nat.le_refl _))
        go_wp2_with fail
        go_ret2
        refine ⟨Base.bel (Base.bel HBx.out HB3.out (Nat.le_refl _)) (bnew _ _) (Nat.le_refl _), Or.inr (Or.inr ⟨HAll.out, HU.out, w3.heap.size, rfl, B, t3, mapOf l, ?_⟩)⟩
        have bN := bnew w3 (.cells #[.map (some B), .pointer q3] 52)
        have hm3 : OM w3 B (mapOf l) := owns_later HMl.out (HB3.out.block B HMl.out.lt)
        refine ⟨?_, owns_later hm3 (bN.block B hm3.lt), mapOf_ris l, HPm.out.trans (srtL_perm l).symm, R3.out.2.tr.below bN, R3.out.2.list, R3.out.2.nd, srtL_srt HU.out, srtL_uq HU.out, fun p hp => HKk.out p ((srtL_perm l).mem_iff.1 hp), fun p hp => HAll.out p ((srtL_perm l).mem_iff.1 hp), ?_, ?_, ?_⟩
        · rw [heap_alloc_new]
          unfold T.ptr
          rw [R3.out.1]
        · have := HBx.out.size; have := HB3.out.size; omega
        · rw [HB.out]; exact Nat.le_refl _
        · intro i hi
          have := R3.out.2.low i hi
          have := HBx.out.size
          have := HB2.out.size
          omega
      · have hlt2 := mf3 hu
        have hML2 : (ML : Int) < (l.length : Int) := by omega
        have HU := hid_of hu
        clear mf1 mf2 mf3 hMLe hu hlt2
        go_wp2_with fail
        go_ret2
        exact ⟨HBx.out, Or.inr (Or.inl ⟨HAll.out, HU.out, rfl⟩)⟩
end Go.Proofs.YtighoelipihifabGreatDoor.Of
