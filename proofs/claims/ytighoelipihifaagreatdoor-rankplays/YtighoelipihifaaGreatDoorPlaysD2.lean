/- The document's Scores and Names. -/
import Derived.Test.YtighoelipihifaaGreatDoorPlaysB
import Derived.Test.YtighoelipihifaaGreatDoorPlaysC
namespace Go.Proofs.YtighoelipihifaaGreatDoor.PlaysD2
open Go.RowKit Go.Maps Go.Sort
open Go.Proofs.YtighoelipihifaaGreatDoor.MapMath
open Go.Proofs.YtighoelipihifaaGreatDoor.RankMath
open Go.Proofs.YtighoelipihifaaGreatDoor.RankMath2
open Go.Proofs.YtighoelipihifaaGreatDoor.RankMath3
open Go.Proofs.YtighoelipihifaaGreatDoor.Base
open Go.Proofs.YtighoelipihifaaGreatDoor.Cmp
open Go.Proofs.YtighoelipihifaaGreatDoor.PlaysA
open Go.Proofs.YtighoelipihifaaGreatDoor.PlaysB
set_option linter.unusedVariables false
set_option linter.unusedSimpArgs false

set_option maxHeartbeats 20000000 in
set_option maxRecDepth 100000 in
theorem rnames_call (B : Nat) (v : Value) (l : EL) (lo hi : Bnd) (r : Bool) (skip most : Int) (w : World) (h : FS w v l) (hn : l.length ≤ big) (hlo : lo.inf ≤ 9223372036854775807) (hhi : hi.inf ≤ 9223372036854775807) : Calls Tryz.prog 40 #[v, bW lo, bW hi, .bool r, .int .i64 skip, .int .i64 most] w fun e w' => RR B (nmS l lo hi r skip most) w e w' := by
  have hn9 : l.length ≤ 9000000000000 := hn
  have HF := hid_of h
  obtain ⟨a, c, rfl, hc, h'⟩ := h
  clear h'
  obtain ⟨pr, hpr⟩ : ∃ pr : Ent → Bool, pr = fun e => nmL lo e && nmU hi e := ⟨_, rfl⟩
  have HFin : Hid (∀ L, L = l.filter pr → cutS (way L r) skip most = nmS l lo hi r skip most) := hid_of fun L hL => by rw [hL, hpr]; rfl
  have HPL : Hid (∀ e, nmL lo e = fits lo (cmpB e.1 lo.name) true ∧ nmU hi e = fits hi (cmpB e.1 hi.name) false) := hid_of fun e => ⟨rfl, rfl⟩
  have HPP : Hid (∀ e, pr e = (nmL lo e && nmU hi e)) := hid_of fun e => by rw [hpr]
  have HL1 := hid_of fun (k : Int) (hk : k = -1 ∨ k = 0 ∨ k = 1) (W : World) => lets_call lo k true W hk hlo
  have HL2 := hid_of fun (k : Int) (hk : k = -1 ∨ k = 0 ∨ k = 1) (W : World) => lets_call hi k false W hk hhi
  obtain ⟨V, hV⟩ : ∃ V, V = (w.alloc (.cells #[.int .i64 lo.inf, .bool lo.opn, .int .i64 lo.score, .string (mk lo.name)] 39)).alloc (.cells #[.int .i64 hi.inf, .bool hi.opn, .int .i64 hi.score, .string (mk hi.name)] 39) := ⟨_, rfl⟩
  have HBV : Hid (Below w.heap.size w V ∧ V.heap[w.heap.size]? = some (.cells #[.int .i64 lo.inf, .bool lo.opn, .int .i64 lo.score, .string (mk lo.name)] 39 (0, 0)) ∧ V.heap[w.heap.size + 1]? = some (.cells #[.int .i64 hi.inf, .bool hi.opn, .int .i64 hi.score, .string (mk hi.name)] 39 (0, 0))) := by
    have e1 : (w.alloc (.cells #[.int .i64 lo.inf, .bool lo.opn, .int .i64 lo.score, .string (mk lo.name)] 39)).heap.size = w.heap.size + 1 := by simp
    have h2 := heap_alloc_new (w.alloc (.cells #[.int .i64 lo.inf, .bool lo.opn, .int .i64 lo.score, .string (mk lo.name)] 39)) (.cells #[.int .i64 hi.inf, .bool hi.opn, .int .i64 hi.score, .string (mk hi.name)] 39)
    rw [e1] at h2
    rw [hV]
    exact ⟨Base.bel (bnew w _) (bnew _ _) (Nat.le_refl _), by rw [Below.heap_alloc _ _ _ (by omega)]; exact heap_alloc_new w _, h2⟩
  have HV := hid_of hV
  have HMK := hid_of fun (x : Ent) => And.intro (rfl : mk x.1 = mk x.1) (rfl : x.2 = x.2)
  clear hpr hV
  obtain ⟨li, lp, ls, ln⟩ := lo
  obtain ⟨ui, up, us, un⟩ := hi
  unfold bW at *
  dsimp only at HL1 HL2 HBV HV HPL ⊢
  go_enter Tryz.func40, Tryz.ntmps40
  go_wp2_with fail
  rw [← HV.out]
  clear HV
  go_loopg [13, 14] l.length (fun g s13 s14 wx => ∃ (k : Nat) (va : Option Addr) (vc : Nat), k ≤ l.length ∧ l.length ≤ k + g ∧ s13 = .slice va ((l.take k).filter pr).length vc ∧ s14 = .int .i64 (k : Int) ∧ Hid (Bd V (.slice va ((l.take k).filter pr).length vc) ((l.take k).filter pr) wx))
  case atStart => exact ⟨0, none, 0, by omega, by omega, by simp, rfl, hid_of (by simpa using bd_start V)⟩
  case round =>
    obtain ⟨k, va, vc, hk, hg, rfl, rfl, BD⟩ := hrel
    by_cases hlt : k < l.length
    · obtain ⟨g', rfl⟩ : ∃ g', gk = g' + 1 := ⟨gk - 1, by omega⟩
      have bw : Below w.heap.size w wr := Base.bel HBV.out.1 BD.out.bel (Nat.le_refl _)
      obtain ⟨gb, o, rfl, hat⟩ := (HF.out.below bw).at hlt
      obtain ⟨c0, c1⟩ := hat k hlt
      have HSS : Hid (∀ W, Below wr.heap.size wr W → (fun W => W.cell? ⟨gb, o + k * 2, none⟩ = some (.string (mk (l[k]'hlt).1)) ∧ W.cell? ⟨gb, o + k * 2 + 1, none⟩ = some (.int .i64 (l[k]'hlt).2) ∧ W.cell? ⟨w.heap.size, 0, none⟩ = some (.int .i64 li) ∧ W.cell? ⟨w.heap.size, 1, none⟩ = some (.bool lp) ∧ W.cell? ⟨w.heap.size, 2, none⟩ = some (.int .i64 ls) ∧ W.cell? ⟨w.heap.size, 3, none⟩ = some (.string (mk ln)) ∧ W.cell? ⟨w.heap.size + 1, 0, none⟩ = some (.int .i64 ui) ∧ W.cell? ⟨w.heap.size + 1, 1, none⟩ = some (.bool up) ∧ W.cell? ⟨w.heap.size + 1, 2, none⟩ = some (.int .i64 us) ∧ W.cell? ⟨w.heap.size + 1, 3, none⟩ = some (.string (mk un))) W) := hid_of fun W hW => by
        have y0 := (BD.out.bel.block _ (lt_of HBV.out.2.1)).trans HBV.out.2.1
        have y1 := (BD.out.bel.block _ (lt_of HBV.out.2.2)).trans HBV.out.2.2
        have z0 := (hW.block _ (lt_of y0)).trans y0
        have z1 := (hW.block _ (lt_of y1)).trans y1
        exact ⟨cell_on hW c0, cell_on hW c1, Lib.cell_of_heap z0 0, Lib.cell_of_heap z0 1, Lib.cell_of_heap z0 2, Lib.cell_of_heap z0 3, Lib.cell_of_heap z1 0, Lib.cell_of_heap z1 1, Lib.cell_of_heap z1 2, Lib.cell_of_heap z1 3⟩
      have hs0 : (fun W => W.cell? ⟨gb, o + k * 2, none⟩ = some (.string (mk (l[k]'hlt).1)) ∧ W.cell? ⟨gb, o + k * 2 + 1, none⟩ = some (.int .i64 (l[k]'hlt).2) ∧ W.cell? ⟨w.heap.size, 0, none⟩ = some (.int .i64 li) ∧ W.cell? ⟨w.heap.size, 1, none⟩ = some (.bool lp) ∧ W.cell? ⟨w.heap.size, 2, none⟩ = some (.int .i64 ls) ∧ W.cell? ⟨w.heap.size, 3, none⟩ = some (.string (mk ln)) ∧ W.cell? ⟨w.heap.size + 1, 0, none⟩ = some (.int .i64 ui) ∧ W.cell? ⟨w.heap.size + 1, 1, none⟩ = some (.bool up) ∧ W.cell? ⟨w.heap.size + 1, 2, none⟩ = some (.int .i64 us) ∧ W.cell? ⟨w.heap.size + 1, 3, none⟩ = some (.string (mk un))) wr.drew := HSS.out _ (Below.refl _ wr).drew
      have e2 : IntKind.i64.wrap ((k : Int) + 1) = (k : Int) + 1 := IntWalk.i64_in _ (by omega)
      have g2 : (k : Int) < (l.length : Int) := by omega
      have hP := HPL.out (l[k]'hlt)
      have H1 := hid_of fun W => HL1.out _ (cmpB_in (l[k]'hlt).1 ln) W
      have H2 := hid_of fun W => HL2.out _ (cmpB_in (l[k]'hlt).1 un) W
      rw [← hP.1] at H1
      rw [← hP.2] at H2
      have HO := hid_of fun x y W => texts_call x y W
      have HP3 := HPP.out (l[k]'hlt)
      have HTk : Hid ((l.take (k + 1)).filter pr = (l.take k).filter pr ++ (if pr (l[k]'hlt) then [l[k]'hlt] else [])) := hid_of (by
        rw [List.take_succ_eq_append_getElem hlt, List.filter_append]
        cases q : pr (l[k]'hlt) with
        | true => simp [q]
        | false => simp [q])
      have HLn : Hid (((l.take k).filter pr).length ≤ k) := hid_of (Nat.le_trans (List.length_filter_le _ _) (by rw [List.length_take]; omega))
      have HE : Hid (∀ W, Bd V (.slice va ((l.take k).filter pr).length vc) ((l.take k).filter pr) W → ∃ va2 vc2 w2, (Builtin.append_ #[22, 22] 22 #[.slice va ((l.take k).filter pr).length vc, .slice (some ⟨W.heap.size, 0, none⟩) 1 1]).run Tryz.prog (W.alloc (.cells #[.string (mk (l[k]'hlt).1), .int .i64 (l[k]'hlt).2] 46)) = .ok (.slice va2 (((l.take k).filter pr).length + 1) vc2) w2 ∧ Bd V (.slice va2 (((l.take k).filter pr).length + 1) vc2) ((l.take k).filter pr ++ [l[k]'hlt]) w2) := hid_of fun W hB => by
        obtain ⟨v2, w2, hr2, bd2⟩ := bd_app (hB.below (bnew W (.cells #[.string (mk (l[k]'hlt).1), .int .i64 (l[k]'hlt).2] 46))) (.slice (some ⟨W.heap.size, 0, none⟩) 1 1) [l[k]'hlt] (fs_one' W _) (by have := HLn.out; unfold big at *; simp only [List.length_cons, List.length_nil]; omega)
        obtain ⟨va2, vc2, hv2, _⟩ := fs_row bd2.row
        rw [List.length_append, List.length_singleton] at hv2
        subst hv2
        exact ⟨va2, vc2, w2, hr2, bd2⟩
      have BDD := hid_of (BD.out.below (Below.refl _ wr).drew)
      obtain ⟨Fk, hFk⟩ : ∃ Fk, Fk = (l.take k).filter pr := ⟨_, rfl⟩
      rw [← hFk] at HTk HE BD BDD HLn ⊢
      clear hat c0 c1 HL1 HL2 hP bw hFk
      generalize hex : l[k]'hlt = ee at *
      obtain ⟨E1, E2⟩ := ee
      dsimp only at *
      cases hl : nmL ⟨li, lp, ls, ln⟩ (E1, E2) with
      | false =>
        rw [hl] at H1 HP3
        rw [Bool.false_and] at HP3
        rw [HP3, if_neg (by decide), List.append_nil] at HTk
        clear HE HP3 H2 hex
        go_wp2_with fail
        refine wp_region_held (S := (fun W => W.cell? ⟨gb, o + k * 2, none⟩ = some (.string (mk E1)) ∧ W.cell? ⟨gb, o + k * 2 + 1, none⟩ = some (.int .i64 E2) ∧ W.cell? ⟨w.heap.size, 0, none⟩ = some (.int .i64 li) ∧ W.cell? ⟨w.heap.size, 1, none⟩ = some (.bool lp) ∧ W.cell? ⟨w.heap.size, 2, none⟩ = some (.int .i64 ls) ∧ W.cell? ⟨w.heap.size, 3, none⟩ = some (.string (mk ln)) ∧ W.cell? ⟨w.heap.size + 1, 0, none⟩ = some (.int .i64 ui) ∧ W.cell? ⟨w.heap.size + 1, 1, none⟩ = some (.bool up) ∧ W.cell? ⟨w.heap.size + 1, 2, none⟩ = some (.int .i64 us) ∧ W.cell? ⟨w.heap.size + 1, 3, none⟩ = some (.string (mk un)))) (by kernel_rfl) ?_
        change wpAnyH _ _ _ _ _ _ _ _ (World.drew _)
        refine wpAnyH_take (i := 0) (oi := { dst := some 21, op := _, type := _, pos := _, after := _, guard := _ }) (v := .agg #[.int .i64 li, .bool lp, .int .i64 ls, .string (mk ln)]) rfl (by kernel_rfl) (by kernel_rfl) (by kernel_rfl) (fun _ _ _ h => h) (Or.inl ⟨by kernel_rfl, ?_⟩) hs0 ?_
        · intro Wx hSW
          obtain ⟨s0, s1, s2, s3, s4, s5, s6, s7, s8, s9⟩ := hSW
          go_simp
        try simp only [Act.put, List.setIfInBounds_toArray, List.set_cons_zero, List.set_cons_succ]
        refine wpAnyH_take (i := 1) (oi := { dst := some 22, op := _, type := _, pos := _, after := _, guard := _ }) (v := .slice (some ⟨gb, o, none⟩) l.length c) rfl (by kernel_rfl) (by kernel_rfl) (by kernel_rfl) (fun _ _ _ h => h) (Or.inl ⟨by kernel_rfl, ?_⟩) hs0 ?_
        · intro Wx hSW
          obtain ⟨s0, s1, s2, s3, s4, s5, s6, s7, s8, s9⟩ := hSW
          go_simp
        try simp only [Act.put, List.setIfInBounds_toArray, List.set_cons_zero, List.set_cons_succ]
        refine wpAnyH_take (i := 2) (oi := { dst := some 23, op := _, type := _, pos := _, after := _, guard := _ }) (v := .int .i64 (k : Int)) rfl (by kernel_rfl) (by kernel_rfl) (by kernel_rfl) (fun _ _ _ h => h) (Or.inl ⟨by kernel_rfl, ?_⟩) hs0 ?_
        · intro Wx hSW
          obtain ⟨s0, s1, s2, s3, s4, s5, s6, s7, s8, s9⟩ := hSW
          go_simp
        try simp only [Act.put, List.setIfInBounds_toArray, List.set_cons_zero, List.set_cons_succ]
        refine wpAnyH_take (i := 3) (oi := { dst := some 24, op := _, type := _, pos := _, after := _, guard := _ }) (v := .pointer (some ⟨gb, o + k * 2, none⟩)) rfl (by kernel_rfl) (by kernel_rfl) (by kernel_rfl) (fun _ _ _ h => h) (Or.inl ⟨by kernel_rfl, ?_⟩) hs0 ?_
        · intro Wx hSW
          obtain ⟨s0, s1, s2, s3, s4, s5, s6, s7, s8, s9⟩ := hSW
          go_simp
        try simp only [Act.put, List.setIfInBounds_toArray, List.set_cons_zero, List.set_cons_succ]
        refine wpAnyH_take (i := 4) (oi := { dst := some 25, op := _, type := _, pos := _, after := _, guard := _ }) (v := .pointer (some ⟨gb, o + k * 2, none⟩)) rfl (by kernel_rfl) (by kernel_rfl) (by kernel_rfl) (fun _ _ _ h => h) (Or.inl ⟨by kernel_rfl, ?_⟩) hs0 ?_
        · intro Wx hSW
          obtain ⟨s0, s1, s2, s3, s4, s5, s6, s7, s8, s9⟩ := hSW
          go_simp
        try simp only [Act.put, List.setIfInBounds_toArray, List.set_cons_zero, List.set_cons_succ]
        refine wpAnyH_take (i := 5) (oi := { dst := some 26, op := _, type := _, pos := _, after := _, guard := _ }) (v := .string (mk E1)) rfl (by kernel_rfl) (by kernel_rfl) (by kernel_rfl) (fun _ _ _ h => h) (Or.inl ⟨by kernel_rfl, ?_⟩) hs0 ?_
        · intro Wx hSW
          obtain ⟨s0, s1, s2, s3, s4, s5, s6, s7, s8, s9⟩ := hSW
          go_simp
        try simp only [Act.put, List.setIfInBounds_toArray, List.set_cons_zero, List.set_cons_succ]
        refine wpAnyH_take (i := 6) (oi := { dst := some 27, op := _, type := _, pos := _, after := _, guard := _ }) (v := .pointer (some ⟨w.heap.size, 3, none⟩)) rfl (by kernel_rfl) (by kernel_rfl) (by kernel_rfl) (fun _ _ _ h => h) (Or.inl ⟨by kernel_rfl, ?_⟩) hs0 ?_
        · intro Wx hSW
          obtain ⟨s0, s1, s2, s3, s4, s5, s6, s7, s8, s9⟩ := hSW
          go_simp
        try simp only [Act.put, List.setIfInBounds_toArray, List.set_cons_zero, List.set_cons_succ]
        refine wpAnyH_take (i := 7) (oi := { dst := some 28, op := _, type := _, pos := _, after := _, guard := _ }) (v := .string (mk ln)) rfl (by kernel_rfl) (by kernel_rfl) (by kernel_rfl) (fun _ _ _ h => h) (Or.inl ⟨by kernel_rfl, ?_⟩) hs0 ?_
        · intro Wx hSW
          obtain ⟨s0, s1, s2, s3, s4, s5, s6, s7, s8, s9⟩ := hSW
          go_simp
        try simp only [Act.put, List.setIfInBounds_toArray, List.set_cons_zero, List.set_cons_succ]
        refine wpAnyH_ready (rs := [8]) (by kernel_rfl) (by simp) ?_
        refine AllReadyH.cons (o := { dst := some 29, op := _, type := _, pos := _, after := _, guard := _ }) rfl (fun K' hK => ?_) AllReadyH.nil
        go_simp
        refine (HO.out _ _ _).mono ?_
        rintro e w1 ⟨rfl, rfl⟩
        refine hK.out _ _ hs0 (fun _ => ?_)
        clear hK K'
        try simp only [Act.put, List.setIfInBounds_toArray, List.set_cons_zero, List.set_cons_succ]
        refine wpAnyH_ready (rs := [9]) (by kernel_rfl) (by simp) ?_
        refine AllReadyH.cons (o := { dst := some 30, op := _, type := _, pos := _, after := _, guard := _ }) rfl (fun K' hK => ?_) AllReadyH.nil
        go_simp
        refine (H1.out _).mono ?_
        rintro e w2 ⟨rfl, b2⟩
        have hs1 := HSS.out w2 ((Below.refl _ wr).drew.trans b2)
        refine hK.out _ _ hs1 (fun _ => ?_)
        clear hK K'
        try simp only [Act.put, List.setIfInBounds_toArray, List.set_cons_zero, List.set_cons_succ]
        refine wpAnyH_take (i := 10) (oi := { dst := some 31, op := _, type := _, pos := _, after := _, guard := _ }) (v := .bool false) rfl (by kernel_rfl) (by kernel_rfl) (by kernel_rfl) (fun _ _ _ h => h) (Or.inl ⟨by kernel_rfl, ?_⟩) hs1 ?_
        · intro Wx hSW
          obtain ⟨s0, s1, s2, s3, s4, s5, s6, s7, s8, s9⟩ := hSW
          go_simp
        try simp only [Act.put, List.setIfInBounds_toArray, List.set_cons_zero, List.set_cons_succ]
        refine wpAnyH_take (i := 11) (oi := { dst := some 32, op := _, type := _, pos := _, after := _, guard := _ }) (v := undef) rfl (by kernel_rfl) (by kernel_rfl) (by kernel_rfl) (fun _ _ _ h => h) (Or.inr ⟨by kernel_rfl, rfl⟩) hs1 ?_
        try simp only [Act.put, List.setIfInBounds_toArray, List.set_cons_zero, List.set_cons_succ]
        refine wpAnyH_take (i := 12) (oi := { dst := some 33, op := _, type := _, pos := _, after := _, guard := _ }) (v := undef) rfl (by kernel_rfl) (by kernel_rfl) (by kernel_rfl) (fun _ _ _ h => h) (Or.inr ⟨by kernel_rfl, rfl⟩) hs1 ?_
        try simp only [Act.put, List.setIfInBounds_toArray, List.set_cons_zero, List.set_cons_succ]
        refine wpAnyH_take (i := 13) (oi := { dst := some 34, op := _, type := _, pos := _, after := _, guard := _ }) (v := undef) rfl (by kernel_rfl) (by kernel_rfl) (by kernel_rfl) (fun _ _ _ h => h) (Or.inr ⟨by kernel_rfl, rfl⟩) hs1 ?_
        try simp only [Act.put, List.setIfInBounds_toArray, List.set_cons_zero, List.set_cons_succ]
        refine wpAnyH_take (i := 14) (oi := { dst := some 35, op := _, type := _, pos := _, after := _, guard := _ }) (v := undef) rfl (by kernel_rfl) (by kernel_rfl) (by kernel_rfl) (fun _ _ _ h => h) (Or.inr ⟨by kernel_rfl, rfl⟩) hs1 ?_
        try simp only [Act.put, List.setIfInBounds_toArray, List.set_cons_zero, List.set_cons_succ]
        refine wpAnyH_take (i := 15) (oi := { dst := some 36, op := _, type := _, pos := _, after := _, guard := _ }) (v := undef) rfl (by kernel_rfl) (by kernel_rfl) (by kernel_rfl) (fun _ _ _ h => h) (Or.inr ⟨by kernel_rfl, rfl⟩) hs1 ?_
        try simp only [Act.put, List.setIfInBounds_toArray, List.set_cons_zero, List.set_cons_succ]
        refine wpAnyH_take (i := 16) (oi := { dst := some 37, op := _, type := _, pos := _, after := _, guard := _ }) (v := undef) rfl (by kernel_rfl) (by kernel_rfl) (by kernel_rfl) (fun _ _ _ h => h) (Or.inr ⟨by kernel_rfl, rfl⟩) hs1 ?_
        try simp only [Act.put, List.setIfInBounds_toArray, List.set_cons_zero, List.set_cons_succ]
        refine wpAnyH_take (i := 17) (oi := { dst := some 38, op := _, type := _, pos := _, after := _, guard := _ }) (v := undef) rfl (by kernel_rfl) (by kernel_rfl) (by kernel_rfl) (fun _ _ _ h => h) (Or.inr ⟨by kernel_rfl, rfl⟩) hs1 ?_
        try simp only [Act.put, List.setIfInBounds_toArray, List.set_cons_zero, List.set_cons_succ]
        refine wpAnyH_take (i := 18) (oi := { dst := some 39, op := _, type := _, pos := _, after := _, guard := _ }) (v := undef) rfl (by kernel_rfl) (by kernel_rfl) (by kernel_rfl) (fun _ _ _ h => h) (Or.inr ⟨by kernel_rfl, rfl⟩) hs1 ?_
        try simp only [Act.put, List.setIfInBounds_toArray, List.set_cons_zero, List.set_cons_succ]
        refine wpAnyH_take (i := 19) (oi := { dst := some 40, op := _, type := _, pos := _, after := _, guard := _ }) (v := undef) rfl (by kernel_rfl) (by kernel_rfl) (by kernel_rfl) (fun _ _ _ h => h) (Or.inr ⟨by kernel_rfl, rfl⟩) hs1 ?_
        try simp only [Act.put, List.setIfInBounds_toArray, List.set_cons_zero, List.set_cons_succ]
        refine wpAnyH_take (i := 20) (oi := { dst := some 41, op := _, type := _, pos := _, after := _, guard := _ }) (v := undef) rfl (by kernel_rfl) (by kernel_rfl) (by kernel_rfl) (fun _ _ _ h => h) (Or.inr ⟨by kernel_rfl, rfl⟩) hs1 ?_
        try simp only [Act.put, List.setIfInBounds_toArray, List.set_cons_zero, List.set_cons_succ]
        refine wpAnyH_take (i := 21) (oi := { dst := some 42, op := _, type := _, pos := _, after := _, guard := _ }) (v := .bool false) rfl (by kernel_rfl) (by kernel_rfl) (by kernel_rfl) (fun _ _ _ h => h) (Or.inl ⟨by kernel_rfl, ?_⟩) hs1 ?_
        · intro Wx hSW
          obtain ⟨s0, s1, s2, s3, s4, s5, s6, s7, s8, s9⟩ := hSW
          go_simp
        try simp only [Act.put, List.setIfInBounds_toArray, List.set_cons_zero, List.set_cons_succ]
        refine wpAnyH_done (by kernel_rfl) ?_ _
        go_wp2_with fail
        go_roundg g'
        case measure => omega
        case rel => exact ⟨k + 1, va, vc, by omega, by omega, by rw [HTk.out], by rw [show ((k + 1 : Nat) : Int) = (k : Int) + 1 from by omega], by rw [HTk.out]; exact hid_of (BDD.out.below b2)⟩
      | true =>
        rw [hl, Bool.true_and] at HP3
        rw [hl] at H1
        cases hu : nmU ⟨ui, up, us, un⟩ (E1, E2) with
        | false =>
          rw [hu] at H2 HP3
          rw [HP3, if_neg (by decide), List.append_nil] at HTk
          clear HE HP3 hex
          go_wp2_with fail
          refine wp_region_held (S := (fun W => W.cell? ⟨gb, o + k * 2, none⟩ = some (.string (mk E1)) ∧ W.cell? ⟨gb, o + k * 2 + 1, none⟩ = some (.int .i64 E2) ∧ W.cell? ⟨w.heap.size, 0, none⟩ = some (.int .i64 li) ∧ W.cell? ⟨w.heap.size, 1, none⟩ = some (.bool lp) ∧ W.cell? ⟨w.heap.size, 2, none⟩ = some (.int .i64 ls) ∧ W.cell? ⟨w.heap.size, 3, none⟩ = some (.string (mk ln)) ∧ W.cell? ⟨w.heap.size + 1, 0, none⟩ = some (.int .i64 ui) ∧ W.cell? ⟨w.heap.size + 1, 1, none⟩ = some (.bool up) ∧ W.cell? ⟨w.heap.size + 1, 2, none⟩ = some (.int .i64 us) ∧ W.cell? ⟨w.heap.size + 1, 3, none⟩ = some (.string (mk un)))) (by kernel_rfl) ?_
          change wpAnyH _ _ _ _ _ _ _ _ (World.drew _)
          refine wpAnyH_take (i := 0) (oi := { dst := some 21, op := _, type := _, pos := _, after := _, guard := _ }) (v := .agg #[.int .i64 li, .bool lp, .int .i64 ls, .string (mk ln)]) rfl (by kernel_rfl) (by kernel_rfl) (by kernel_rfl) (fun _ _ _ h => h) (Or.inl ⟨by kernel_rfl, ?_⟩) hs0 ?_
          · intro Wx hSW
            obtain ⟨s0, s1, s2, s3, s4, s5, s6, s7, s8, s9⟩ := hSW
            go_simp
          try simp only [Act.put, List.setIfInBounds_toArray, List.set_cons_zero, List.set_cons_succ]
          refine wpAnyH_take (i := 1) (oi := { dst := some 22, op := _, type := _, pos := _, after := _, guard := _ }) (v := .slice (some ⟨gb, o, none⟩) l.length c) rfl (by kernel_rfl) (by kernel_rfl) (by kernel_rfl) (fun _ _ _ h => h) (Or.inl ⟨by kernel_rfl, ?_⟩) hs0 ?_
          · intro Wx hSW
            obtain ⟨s0, s1, s2, s3, s4, s5, s6, s7, s8, s9⟩ := hSW
            go_simp
          try simp only [Act.put, List.setIfInBounds_toArray, List.set_cons_zero, List.set_cons_succ]
          refine wpAnyH_take (i := 2) (oi := { dst := some 23, op := _, type := _, pos := _, after := _, guard := _ }) (v := .int .i64 (k : Int)) rfl (by kernel_rfl) (by kernel_rfl) (by kernel_rfl) (fun _ _ _ h => h) (Or.inl ⟨by kernel_rfl, ?_⟩) hs0 ?_
          · intro Wx hSW
            obtain ⟨s0, s1, s2, s3, s4, s5, s6, s7, s8, s9⟩ := hSW
            go_simp
          try simp only [Act.put, List.setIfInBounds_toArray, List.set_cons_zero, List.set_cons_succ]
          refine wpAnyH_take (i := 3) (oi := { dst := some 24, op := _, type := _, pos := _, after := _, guard := _ }) (v := .pointer (some ⟨gb, o + k * 2, none⟩)) rfl (by kernel_rfl) (by kernel_rfl) (by kernel_rfl) (fun _ _ _ h => h) (Or.inl ⟨by kernel_rfl, ?_⟩) hs0 ?_
          · intro Wx hSW
            obtain ⟨s0, s1, s2, s3, s4, s5, s6, s7, s8, s9⟩ := hSW
            go_simp
          try simp only [Act.put, List.setIfInBounds_toArray, List.set_cons_zero, List.set_cons_succ]
          refine wpAnyH_take (i := 4) (oi := { dst := some 25, op := _, type := _, pos := _, after := _, guard := _ }) (v := .pointer (some ⟨gb, o + k * 2, none⟩)) rfl (by kernel_rfl) (by kernel_rfl) (by kernel_rfl) (fun _ _ _ h => h) (Or.inl ⟨by kernel_rfl, ?_⟩) hs0 ?_
          · intro Wx hSW
            obtain ⟨s0, s1, s2, s3, s4, s5, s6, s7, s8, s9⟩ := hSW
            go_simp
          try simp only [Act.put, List.setIfInBounds_toArray, List.set_cons_zero, List.set_cons_succ]
          refine wpAnyH_take (i := 5) (oi := { dst := some 26, op := _, type := _, pos := _, after := _, guard := _ }) (v := .string (mk E1)) rfl (by kernel_rfl) (by kernel_rfl) (by kernel_rfl) (fun _ _ _ h => h) (Or.inl ⟨by kernel_rfl, ?_⟩) hs0 ?_
          · intro Wx hSW
            obtain ⟨s0, s1, s2, s3, s4, s5, s6, s7, s8, s9⟩ := hSW
            go_simp
          try simp only [Act.put, List.setIfInBounds_toArray, List.set_cons_zero, List.set_cons_succ]
          refine wpAnyH_take (i := 6) (oi := { dst := some 27, op := _, type := _, pos := _, after := _, guard := _ }) (v := .pointer (some ⟨w.heap.size, 3, none⟩)) rfl (by kernel_rfl) (by kernel_rfl) (by kernel_rfl) (fun _ _ _ h => h) (Or.inl ⟨by kernel_rfl, ?_⟩) hs0 ?_
          · intro Wx hSW
            obtain ⟨s0, s1, s2, s3, s4, s5, s6, s7, s8, s9⟩ := hSW
            go_simp
          try simp only [Act.put, List.setIfInBounds_toArray, List.set_cons_zero, List.set_cons_succ]
          refine wpAnyH_take (i := 7) (oi := { dst := some 28, op := _, type := _, pos := _, after := _, guard := _ }) (v := .string (mk ln)) rfl (by kernel_rfl) (by kernel_rfl) (by kernel_rfl) (fun _ _ _ h => h) (Or.inl ⟨by kernel_rfl, ?_⟩) hs0 ?_
          · intro Wx hSW
            obtain ⟨s0, s1, s2, s3, s4, s5, s6, s7, s8, s9⟩ := hSW
            go_simp
          try simp only [Act.put, List.setIfInBounds_toArray, List.set_cons_zero, List.set_cons_succ]
          refine wpAnyH_ready (rs := [8]) (by kernel_rfl) (by simp) ?_
          refine AllReadyH.cons (o := { dst := some 29, op := _, type := _, pos := _, after := _, guard := _ }) rfl (fun K' hK => ?_) AllReadyH.nil
          go_simp
          refine (HO.out _ _ _).mono ?_
          rintro e w1 ⟨rfl, rfl⟩
          refine hK.out _ _ hs0 (fun _ => ?_)
          clear hK K'
          try simp only [Act.put, List.setIfInBounds_toArray, List.set_cons_zero, List.set_cons_succ]
          refine wpAnyH_ready (rs := [9]) (by kernel_rfl) (by simp) ?_
          refine AllReadyH.cons (o := { dst := some 30, op := _, type := _, pos := _, after := _, guard := _ }) rfl (fun K' hK => ?_) AllReadyH.nil
          go_simp
          refine (H1.out _).mono ?_
          rintro e w2 ⟨rfl, b2⟩
          have hs1 := HSS.out w2 ((Below.refl _ wr).drew.trans b2)
          refine hK.out _ _ hs1 (fun _ => ?_)
          clear hK K'
          try simp only [Act.put, List.setIfInBounds_toArray, List.set_cons_zero, List.set_cons_succ]
          refine wpAnyH_take (i := 10) (oi := { dst := some 31, op := _, type := _, pos := _, after := _, guard := _ }) (v := .bool true) rfl (by kernel_rfl) (by kernel_rfl) (by kernel_rfl) (fun _ _ _ h => h) (Or.inl ⟨by kernel_rfl, ?_⟩) hs1 ?_
          · intro Wx hSW
            obtain ⟨s0, s1, s2, s3, s4, s5, s6, s7, s8, s9⟩ := hSW
            go_simp
          try simp only [Act.put, List.setIfInBounds_toArray, List.set_cons_zero, List.set_cons_succ]
          refine wpAnyH_take (i := 11) (oi := { dst := some 32, op := _, type := _, pos := _, after := _, guard := _ }) (v := .agg #[.int .i64 ui, .bool up, .int .i64 us, .string (mk un)]) rfl (by kernel_rfl) (by kernel_rfl) (by kernel_rfl) (fun _ _ _ h => h) (Or.inl ⟨by kernel_rfl, ?_⟩) hs1 ?_
          · intro Wx hSW
            obtain ⟨s0, s1, s2, s3, s4, s5, s6, s7, s8, s9⟩ := hSW
            go_simp
          try simp only [Act.put, List.setIfInBounds_toArray, List.set_cons_zero, List.set_cons_succ]
          refine wpAnyH_take (i := 12) (oi := { dst := some 33, op := _, type := _, pos := _, after := _, guard := _ }) (v := .slice (some ⟨gb, o, none⟩) l.length c) rfl (by kernel_rfl) (by kernel_rfl) (by kernel_rfl) (fun _ _ _ h => h) (Or.inl ⟨by kernel_rfl, ?_⟩) hs1 ?_
          · intro Wx hSW
            obtain ⟨s0, s1, s2, s3, s4, s5, s6, s7, s8, s9⟩ := hSW
            go_simp
          try simp only [Act.put, List.setIfInBounds_toArray, List.set_cons_zero, List.set_cons_succ]
          refine wpAnyH_take (i := 13) (oi := { dst := some 34, op := _, type := _, pos := _, after := _, guard := _ }) (v := .int .i64 (k : Int)) rfl (by kernel_rfl) (by kernel_rfl) (by kernel_rfl) (fun _ _ _ h => h) (Or.inl ⟨by kernel_rfl, ?_⟩) hs1 ?_
          · intro Wx hSW
            obtain ⟨s0, s1, s2, s3, s4, s5, s6, s7, s8, s9⟩ := hSW
            go_simp
          try simp only [Act.put, List.setIfInBounds_toArray, List.set_cons_zero, List.set_cons_succ]
          refine wpAnyH_take (i := 14) (oi := { dst := some 35, op := _, type := _, pos := _, after := _, guard := _ }) (v := .pointer (some ⟨gb, o + k * 2, none⟩)) rfl (by kernel_rfl) (by kernel_rfl) (by kernel_rfl) (fun _ _ _ h => h) (Or.inl ⟨by kernel_rfl, ?_⟩) hs1 ?_
          · intro Wx hSW
            obtain ⟨s0, s1, s2, s3, s4, s5, s6, s7, s8, s9⟩ := hSW
            go_simp
          try simp only [Act.put, List.setIfInBounds_toArray, List.set_cons_zero, List.set_cons_succ]
          refine wpAnyH_take (i := 15) (oi := { dst := some 36, op := _, type := _, pos := _, after := _, guard := _ }) (v := .pointer (some ⟨gb, o + k * 2, none⟩)) rfl (by kernel_rfl) (by kernel_rfl) (by kernel_rfl) (fun _ _ _ h => h) (Or.inl ⟨by kernel_rfl, ?_⟩) hs1 ?_
          · intro Wx hSW
            obtain ⟨s0, s1, s2, s3, s4, s5, s6, s7, s8, s9⟩ := hSW
            go_simp
          try simp only [Act.put, List.setIfInBounds_toArray, List.set_cons_zero, List.set_cons_succ]
          refine wpAnyH_take (i := 16) (oi := { dst := some 37, op := _, type := _, pos := _, after := _, guard := _ }) (v := .string (mk E1)) rfl (by kernel_rfl) (by kernel_rfl) (by kernel_rfl) (fun _ _ _ h => h) (Or.inl ⟨by kernel_rfl, ?_⟩) hs1 ?_
          · intro Wx hSW
            obtain ⟨s0, s1, s2, s3, s4, s5, s6, s7, s8, s9⟩ := hSW
            go_simp
          try simp only [Act.put, List.setIfInBounds_toArray, List.set_cons_zero, List.set_cons_succ]
          refine wpAnyH_take (i := 17) (oi := { dst := some 38, op := _, type := _, pos := _, after := _, guard := _ }) (v := .pointer (some ⟨w.heap.size + 1, 3, none⟩)) rfl (by kernel_rfl) (by kernel_rfl) (by kernel_rfl) (fun _ _ _ h => h) (Or.inl ⟨by kernel_rfl, ?_⟩) hs1 ?_
          · intro Wx hSW
            obtain ⟨s0, s1, s2, s3, s4, s5, s6, s7, s8, s9⟩ := hSW
            go_simp
          try simp only [Act.put, List.setIfInBounds_toArray, List.set_cons_zero, List.set_cons_succ]
          refine wpAnyH_take (i := 18) (oi := { dst := some 39, op := _, type := _, pos := _, after := _, guard := _ }) (v := .string (mk un)) rfl (by kernel_rfl) (by kernel_rfl) (by kernel_rfl) (fun _ _ _ h => h) (Or.inl ⟨by kernel_rfl, ?_⟩) hs1 ?_
          · intro Wx hSW
            obtain ⟨s0, s1, s2, s3, s4, s5, s6, s7, s8, s9⟩ := hSW
            go_simp
          try simp only [Act.put, List.setIfInBounds_toArray, List.set_cons_zero, List.set_cons_succ]
          refine wpAnyH_ready (rs := [19]) (by kernel_rfl) (by simp) ?_
          refine AllReadyH.cons (o := { dst := some 40, op := _, type := _, pos := _, after := _, guard := _ }) rfl (fun K' hK => ?_) AllReadyH.nil
          go_simp
          refine (HO.out _ _ _).mono ?_
          rintro e w1 ⟨rfl, rfl⟩
          refine hK.out _ _ hs1 (fun _ => ?_)
          clear hK K'
          try simp only [Act.put, List.setIfInBounds_toArray, List.set_cons_zero, List.set_cons_succ]
          refine wpAnyH_ready (rs := [20]) (by kernel_rfl) (by simp) ?_
          refine AllReadyH.cons (o := { dst := some 41, op := _, type := _, pos := _, after := _, guard := _ }) rfl (fun K' hK => ?_) AllReadyH.nil
          go_simp
          refine (H2.out _).mono ?_
          rintro e w3 ⟨rfl, b3⟩
          have hs2 := HSS.out w3 (((Below.refl _ wr).drew.trans b2).trans (b3.mono ((Below.refl _ wr).drew.trans b2).size))
          refine hK.out _ _ hs2 (fun _ => ?_)
          clear hK K'
          try simp only [Act.put, List.setIfInBounds_toArray, List.set_cons_zero, List.set_cons_succ]
          refine wpAnyH_take (i := 21) (oi := { dst := some 42, op := _, type := _, pos := _, after := _, guard := _ }) (v := .bool false) rfl (by kernel_rfl) (by kernel_rfl) (by kernel_rfl) (fun _ _ _ h => h) (Or.inl ⟨by kernel_rfl, ?_⟩) hs2 ?_
          · intro Wx hSW
            obtain ⟨s0, s1, s2, s3, s4, s5, s6, s7, s8, s9⟩ := hSW
            go_simp
          try simp only [Act.put, List.setIfInBounds_toArray, List.set_cons_zero, List.set_cons_succ]
          refine wpAnyH_done (by kernel_rfl) ?_ _
          go_wp2_with fail
          go_roundg g'
          case measure => omega
          case rel => exact ⟨k + 1, va, vc, by omega, by omega, by rw [HTk.out], by rw [show ((k + 1 : Nat) : Int) = (k : Int) + 1 from by omega], by rw [HTk.out]; exact hid_of ((BDD.out.below b2).below b3)⟩
        | true =>
          rw [hu] at H2 HP3
          rw [HP3, if_pos rfl] at HTk
          clear HP3 hex
          go_wp2_with fail
          refine wp_region_held (S := (fun W => W.cell? ⟨gb, o + k * 2, none⟩ = some (.string (mk E1)) ∧ W.cell? ⟨gb, o + k * 2 + 1, none⟩ = some (.int .i64 E2) ∧ W.cell? ⟨w.heap.size, 0, none⟩ = some (.int .i64 li) ∧ W.cell? ⟨w.heap.size, 1, none⟩ = some (.bool lp) ∧ W.cell? ⟨w.heap.size, 2, none⟩ = some (.int .i64 ls) ∧ W.cell? ⟨w.heap.size, 3, none⟩ = some (.string (mk ln)) ∧ W.cell? ⟨w.heap.size + 1, 0, none⟩ = some (.int .i64 ui) ∧ W.cell? ⟨w.heap.size + 1, 1, none⟩ = some (.bool up) ∧ W.cell? ⟨w.heap.size + 1, 2, none⟩ = some (.int .i64 us) ∧ W.cell? ⟨w.heap.size + 1, 3, none⟩ = some (.string (mk un)))) (by kernel_rfl) ?_
          change wpAnyH _ _ _ _ _ _ _ _ (World.drew _)
          refine wpAnyH_take (i := 0) (oi := { dst := some 21, op := _, type := _, pos := _, after := _, guard := _ }) (v := .agg #[.int .i64 li, .bool lp, .int .i64 ls, .string (mk ln)]) rfl (by kernel_rfl) (by kernel_rfl) (by kernel_rfl) (fun _ _ _ h => h) (Or.inl ⟨by kernel_rfl, ?_⟩) hs0 ?_
          · intro Wx hSW
            obtain ⟨s0, s1, s2, s3, s4, s5, s6, s7, s8, s9⟩ := hSW
            go_simp
          try simp only [Act.put, List.setIfInBounds_toArray, List.set_cons_zero, List.set_cons_succ]
          refine wpAnyH_take (i := 1) (oi := { dst := some 22, op := _, type := _, pos := _, after := _, guard := _ }) (v := .slice (some ⟨gb, o, none⟩) l.length c) rfl (by kernel_rfl) (by kernel_rfl) (by kernel_rfl) (fun _ _ _ h => h) (Or.inl ⟨by kernel_rfl, ?_⟩) hs0 ?_
          · intro Wx hSW
            obtain ⟨s0, s1, s2, s3, s4, s5, s6, s7, s8, s9⟩ := hSW
            go_simp
          try simp only [Act.put, List.setIfInBounds_toArray, List.set_cons_zero, List.set_cons_succ]
          refine wpAnyH_take (i := 2) (oi := { dst := some 23, op := _, type := _, pos := _, after := _, guard := _ }) (v := .int .i64 (k : Int)) rfl (by kernel_rfl) (by kernel_rfl) (by kernel_rfl) (fun _ _ _ h => h) (Or.inl ⟨by kernel_rfl, ?_⟩) hs0 ?_
          · intro Wx hSW
            obtain ⟨s0, s1, s2, s3, s4, s5, s6, s7, s8, s9⟩ := hSW
            go_simp
          try simp only [Act.put, List.setIfInBounds_toArray, List.set_cons_zero, List.set_cons_succ]
          refine wpAnyH_take (i := 3) (oi := { dst := some 24, op := _, type := _, pos := _, after := _, guard := _ }) (v := .pointer (some ⟨gb, o + k * 2, none⟩)) rfl (by kernel_rfl) (by kernel_rfl) (by kernel_rfl) (fun _ _ _ h => h) (Or.inl ⟨by kernel_rfl, ?_⟩) hs0 ?_
          · intro Wx hSW
            obtain ⟨s0, s1, s2, s3, s4, s5, s6, s7, s8, s9⟩ := hSW
            go_simp
          try simp only [Act.put, List.setIfInBounds_toArray, List.set_cons_zero, List.set_cons_succ]
          refine wpAnyH_take (i := 4) (oi := { dst := some 25, op := _, type := _, pos := _, after := _, guard := _ }) (v := .pointer (some ⟨gb, o + k * 2, none⟩)) rfl (by kernel_rfl) (by kernel_rfl) (by kernel_rfl) (fun _ _ _ h => h) (Or.inl ⟨by kernel_rfl, ?_⟩) hs0 ?_
          · intro Wx hSW
            obtain ⟨s0, s1, s2, s3, s4, s5, s6, s7, s8, s9⟩ := hSW
            go_simp
          try simp only [Act.put, List.setIfInBounds_toArray, List.set_cons_zero, List.set_cons_succ]
          refine wpAnyH_take (i := 5) (oi := { dst := some 26, op := _, type := _, pos := _, after := _, guard := _ }) (v := .string (mk E1)) rfl (by kernel_rfl) (by kernel_rfl) (by kernel_rfl) (fun _ _ _ h => h) (Or.inl ⟨by kernel_rfl, ?_⟩) hs0 ?_
          · intro Wx hSW
            obtain ⟨s0, s1, s2, s3, s4, s5, s6, s7, s8, s9⟩ := hSW
            go_simp
          try simp only [Act.put, List.setIfInBounds_toArray, List.set_cons_zero, List.set_cons_succ]
          refine wpAnyH_take (i := 6) (oi := { dst := some 27, op := _, type := _, pos := _, after := _, guard := _ }) (v := .pointer (some ⟨w.heap.size, 3, none⟩)) rfl (by kernel_rfl) (by kernel_rfl) (by kernel_rfl) (fun _ _ _ h => h) (Or.inl ⟨by kernel_rfl, ?_⟩) hs0 ?_
          · intro Wx hSW
            obtain ⟨s0, s1, s2, s3, s4, s5, s6, s7, s8, s9⟩ := hSW
            go_simp
          try simp only [Act.put, List.setIfInBounds_toArray, List.set_cons_zero, List.set_cons_succ]
          refine wpAnyH_take (i := 7) (oi := { dst := some 28, op := _, type := _, pos := _, after := _, guard := _ }) (v := .string (mk ln)) rfl (by kernel_rfl) (by kernel_rfl) (by kernel_rfl) (fun _ _ _ h => h) (Or.inl ⟨by kernel_rfl, ?_⟩) hs0 ?_
          · intro Wx hSW
            obtain ⟨s0, s1, s2, s3, s4, s5, s6, s7, s8, s9⟩ := hSW
            go_simp
          try simp only [Act.put, List.setIfInBounds_toArray, List.set_cons_zero, List.set_cons_succ]
          refine wpAnyH_ready (rs := [8]) (by kernel_rfl) (by simp) ?_
          refine AllReadyH.cons (o := { dst := some 29, op := _, type := _, pos := _, after := _, guard := _ }) rfl (fun K' hK => ?_) AllReadyH.nil
          go_simp
          refine (HO.out _ _ _).mono ?_
          rintro e w1 ⟨rfl, rfl⟩
          refine hK.out _ _ hs0 (fun _ => ?_)
          clear hK K'
          try simp only [Act.put, List.setIfInBounds_toArray, List.set_cons_zero, List.set_cons_succ]
          refine wpAnyH_ready (rs := [9]) (by kernel_rfl) (by simp) ?_
          refine AllReadyH.cons (o := { dst := some 30, op := _, type := _, pos := _, after := _, guard := _ }) rfl (fun K' hK => ?_) AllReadyH.nil
          go_simp
          refine (H1.out _).mono ?_
          rintro e w2 ⟨rfl, b2⟩
          have hs1 := HSS.out w2 ((Below.refl _ wr).drew.trans b2)
          refine hK.out _ _ hs1 (fun _ => ?_)
          clear hK K'
          try simp only [Act.put, List.setIfInBounds_toArray, List.set_cons_zero, List.set_cons_succ]
          refine wpAnyH_take (i := 10) (oi := { dst := some 31, op := _, type := _, pos := _, after := _, guard := _ }) (v := .bool true) rfl (by kernel_rfl) (by kernel_rfl) (by kernel_rfl) (fun _ _ _ h => h) (Or.inl ⟨by kernel_rfl, ?_⟩) hs1 ?_
          · intro Wx hSW
            obtain ⟨s0, s1, s2, s3, s4, s5, s6, s7, s8, s9⟩ := hSW
            go_simp
          try simp only [Act.put, List.setIfInBounds_toArray, List.set_cons_zero, List.set_cons_succ]
          refine wpAnyH_take (i := 11) (oi := { dst := some 32, op := _, type := _, pos := _, after := _, guard := _ }) (v := .agg #[.int .i64 ui, .bool up, .int .i64 us, .string (mk un)]) rfl (by kernel_rfl) (by kernel_rfl) (by kernel_rfl) (fun _ _ _ h => h) (Or.inl ⟨by kernel_rfl, ?_⟩) hs1 ?_
          · intro Wx hSW
            obtain ⟨s0, s1, s2, s3, s4, s5, s6, s7, s8, s9⟩ := hSW
            go_simp
          try simp only [Act.put, List.setIfInBounds_toArray, List.set_cons_zero, List.set_cons_succ]
          refine wpAnyH_take (i := 12) (oi := { dst := some 33, op := _, type := _, pos := _, after := _, guard := _ }) (v := .slice (some ⟨gb, o, none⟩) l.length c) rfl (by kernel_rfl) (by kernel_rfl) (by kernel_rfl) (fun _ _ _ h => h) (Or.inl ⟨by kernel_rfl, ?_⟩) hs1 ?_
          · intro Wx hSW
            obtain ⟨s0, s1, s2, s3, s4, s5, s6, s7, s8, s9⟩ := hSW
            go_simp
          try simp only [Act.put, List.setIfInBounds_toArray, List.set_cons_zero, List.set_cons_succ]
          refine wpAnyH_take (i := 13) (oi := { dst := some 34, op := _, type := _, pos := _, after := _, guard := _ }) (v := .int .i64 (k : Int)) rfl (by kernel_rfl) (by kernel_rfl) (by kernel_rfl) (fun _ _ _ h => h) (Or.inl ⟨by kernel_rfl, ?_⟩) hs1 ?_
          · intro Wx hSW
            obtain ⟨s0, s1, s2, s3, s4, s5, s6, s7, s8, s9⟩ := hSW
            go_simp
          try simp only [Act.put, List.setIfInBounds_toArray, List.set_cons_zero, List.set_cons_succ]
          refine wpAnyH_take (i := 14) (oi := { dst := some 35, op := _, type := _, pos := _, after := _, guard := _ }) (v := .pointer (some ⟨gb, o + k * 2, none⟩)) rfl (by kernel_rfl) (by kernel_rfl) (by kernel_rfl) (fun _ _ _ h => h) (Or.inl ⟨by kernel_rfl, ?_⟩) hs1 ?_
          · intro Wx hSW
            obtain ⟨s0, s1, s2, s3, s4, s5, s6, s7, s8, s9⟩ := hSW
            go_simp
          try simp only [Act.put, List.setIfInBounds_toArray, List.set_cons_zero, List.set_cons_succ]
          refine wpAnyH_take (i := 15) (oi := { dst := some 36, op := _, type := _, pos := _, after := _, guard := _ }) (v := .pointer (some ⟨gb, o + k * 2, none⟩)) rfl (by kernel_rfl) (by kernel_rfl) (by kernel_rfl) (fun _ _ _ h => h) (Or.inl ⟨by kernel_rfl, ?_⟩) hs1 ?_
          · intro Wx hSW
            obtain ⟨s0, s1, s2, s3, s4, s5, s6, s7, s8, s9⟩ := hSW
            go_simp
          try simp only [Act.put, List.setIfInBounds_toArray, List.set_cons_zero, List.set_cons_succ]
          refine wpAnyH_take (i := 16) (oi := { dst := some 37, op := _, type := _, pos := _, after := _, guard := _ }) (v := .string (mk E1)) rfl (by kernel_rfl) (by kernel_rfl) (by kernel_rfl) (fun _ _ _ h => h) (Or.inl ⟨by kernel_rfl, ?_⟩) hs1 ?_
          · intro Wx hSW
            obtain ⟨s0, s1, s2, s3, s4, s5, s6, s7, s8, s9⟩ := hSW
            go_simp
          try simp only [Act.put, List.setIfInBounds_toArray, List.set_cons_zero, List.set_cons_succ]
          refine wpAnyH_take (i := 17) (oi := { dst := some 38, op := _, type := _, pos := _, after := _, guard := _ }) (v := .pointer (some ⟨w.heap.size + 1, 3, none⟩)) rfl (by kernel_rfl) (by kernel_rfl) (by kernel_rfl) (fun _ _ _ h => h) (Or.inl ⟨by kernel_rfl, ?_⟩) hs1 ?_
          · intro Wx hSW
            obtain ⟨s0, s1, s2, s3, s4, s5, s6, s7, s8, s9⟩ := hSW
            go_simp
          try simp only [Act.put, List.setIfInBounds_toArray, List.set_cons_zero, List.set_cons_succ]
          refine wpAnyH_take (i := 18) (oi := { dst := some 39, op := _, type := _, pos := _, after := _, guard := _ }) (v := .string (mk un)) rfl (by kernel_rfl) (by kernel_rfl) (by kernel_rfl) (fun _ _ _ h => h) (Or.inl ⟨by kernel_rfl, ?_⟩) hs1 ?_
          · intro Wx hSW
            obtain ⟨s0, s1, s2, s3, s4, s5, s6, s7, s8, s9⟩ := hSW
            go_simp
          try simp only [Act.put, List.setIfInBounds_toArray, List.set_cons_zero, List.set_cons_succ]
          refine wpAnyH_ready (rs := [19]) (by kernel_rfl) (by simp) ?_
          refine AllReadyH.cons (o := { dst := some 40, op := _, type := _, pos := _, after := _, guard := _ }) rfl (fun K' hK => ?_) AllReadyH.nil
          go_simp
          refine (HO.out _ _ _).mono ?_
          rintro e w1 ⟨rfl, rfl⟩
          refine hK.out _ _ hs1 (fun _ => ?_)
          clear hK K'
          try simp only [Act.put, List.setIfInBounds_toArray, List.set_cons_zero, List.set_cons_succ]
          refine wpAnyH_ready (rs := [20]) (by kernel_rfl) (by simp) ?_
          refine AllReadyH.cons (o := { dst := some 41, op := _, type := _, pos := _, after := _, guard := _ }) rfl (fun K' hK => ?_) AllReadyH.nil
          go_simp
          refine (H2.out _).mono ?_
          rintro e w3 ⟨rfl, b3⟩
          have hs2 := HSS.out w3 (((Below.refl _ wr).drew.trans b2).trans (b3.mono ((Below.refl _ wr).drew.trans b2).size))
          refine hK.out _ _ hs2 (fun _ => ?_)
          clear hK K'
          try simp only [Act.put, List.setIfInBounds_toArray, List.set_cons_zero, List.set_cons_succ]
          refine wpAnyH_take (i := 21) (oi := { dst := some 42, op := _, type := _, pos := _, after := _, guard := _ }) (v := .bool true) rfl (by kernel_rfl) (by kernel_rfl) (by kernel_rfl) (fun _ _ _ h => h) (Or.inl ⟨by kernel_rfl, ?_⟩) hs2 ?_
          · intro Wx hSW
            obtain ⟨s0, s1, s2, s3, s4, s5, s6, s7, s8, s9⟩ := hSW
            go_simp
          try simp only [Act.put, List.setIfInBounds_toArray, List.set_cons_zero, List.set_cons_succ]
          refine wpAnyH_done (by kernel_rfl) ?_ _
          obtain ⟨va2, vc2, w4, hr4, bd4⟩ := HE.out w3 ((BDD.out.below b2).below b3)
          have B4 := hid_of bd4
          obtain ⟨s0, s1, _⟩ := hs2
          clear bd4 HE
          go_wp2_with (first
            | (at_builtin; refine wpl_eq rfl _ _ 22 22 rfl (.slice va Fk.length vc) (.slice (some ⟨w3.heap.size, 0, none⟩) 1 1) (.slice va2 (Fk.length + 1) vc2) _ w4 rfl rfl hr4 ?_; clear hr4))
          go_roundg g'
          case measure => omega
          case rel => exact ⟨k + 1, va2, vc2, by omega, by omega, by rw [HTk.out, List.length_append, List.length_singleton], by rw [show ((k + 1 : Nat) : Int) = (k : Int) + 1 from by omega], by rw [HTk.out, List.length_append, List.length_singleton]; exact B4⟩
    · have gi : ¬ (k : Int) < (l.length : Int) := by omega
      have hB : Bd V (.slice va ((l.take k).filter pr).length vc) ((l.take k).filter pr) wr := BD.out
      rw [List.take_of_length_le (by omega)] at hB ⊢
      have hll : (l.filter pr).length ≤ big := Nat.le_trans (List.length_filter_le _ _) hn
      have HW := hid_of (way_call 0 _ (l.filter pr) r wr (fs_row hB.row) (kp_row hB.row) hll)
      have HBB := hid_of (Base.bel HBV.out.1 hB.bel (Nat.le_refl _))
      have HLL := hid_of hll
      clear BD hB
      go_wp2_with fail
      refine HW.out.mono ?_
      rintro e w5 ⟨v5, rfl, f5, k5, b5⟩
      have HC := hid_of (cut_call 0 v5 (way (l.filter pr) r) skip most w5 f5 k5 (by rw [way_len]; exact HLL.out))
      have B5 := hid_of (Base.bel HBB.out b5 (Nat.le_refl _))
      obtain ⟨a5, c5, rfl, _⟩ := id f5
      clear f5 k5 b5
      go_wp2_with fail
      refine HC.out.mono ?_
      rintro e w6 ⟨v6, rfl, f6, k6, b6⟩
      have F6 := hid_of (And.intro f6 (And.intro k6 (Base.bel B5.out b6 (Nat.le_refl _))))
      obtain ⟨a6, c6, rfl, _⟩ := id f6
      clear f6 k6 b6
      go_wp2_with fail
      go_ret
      exact ⟨_, rfl, by rw [← HFin.out _ rfl]; exact F6.out.1, fun p n c e => (F6.out.2.1 p n c e).imp (fun q => absurd q (Nat.not_lt_zero _)) id, F6.out.2.2⟩
end Go.Proofs.YtighoelipihifaaGreatDoor.PlaysD2
