/- A piece of a tree, laid behind a list. -/
import Derived.Test.YtighoelipihifabGreatDoorTree
namespace Go.Proofs.YtighoelipihifabGreatDoor.Piece
open Go.RowKit Go.Maps Go.Sort
open Go.Proofs.YtighoelipihifabGreatDoor.MapMath
open Go.Proofs.YtighoelipihifabGreatDoor.RankMath
open Go.Proofs.YtighoelipihifabGreatDoor.RankMath2
open Go.Proofs.YtighoelipihifabGreatDoor.RankMath3
open Go.Proofs.YtighoelipihifabGreatDoor.Base
open Go.Proofs.YtighoelipihifabGreatDoor.Cmp
open Go.Proofs.YtighoelipihifabGreatDoor.Tree
set_option linter.unusedVariables false

def seg (l : EL) (f u : Nat) : EL := (l.take u).drop f
theorem seg_none {l : EL} {f u : Nat} (h : u ≤ f) : seg l f u = [] := by
  unfold seg
  exact List.drop_eq_nil_of_le (by rw [List.length_take]; omega)
theorem seg_node (L R : EL) (x : Ent) (f u : Nat) : seg (L ++ x :: R) f u = seg L f (min u L.length) ++ (if f ≤ L.length ∧ L.length < u then [x] else []) ++ seg R (f - L.length - 1) (u - L.length - 1) := by
  unfold seg
  by_cases h : u ≤ L.length
  · rw [if_neg (by omega), Nat.min_eq_left h, show u - L.length - 1 = 0 from by omega, List.take_append_of_le_length h]
    simp
  · obtain ⟨k, rfl⟩ : ∃ k, u = L.length + 1 + k := ⟨u - L.length - 1, by omega⟩
    have e1 : (L ++ x :: R).take (L.length + 1 + k) = L ++ x :: R.take k := by
      rw [List.take_append, List.take_of_length_le (by omega), show L.length + 1 + k - L.length = k + 1 from by omega]
      simp
    rw [e1, show L.length + 1 + k - L.length - 1 = k from by omega, Nat.min_eq_right (by omega), List.take_of_length_le (Nat.le_refl _)]
    by_cases h2 : f ≤ L.length
    · rw [if_pos ⟨h2, by omega⟩, show f - L.length - 1 = 0 from by omega, List.drop_append_of_le_length h2]
      simp
    · obtain ⟨j, rfl⟩ : ∃ j, f = L.length + 1 + j := ⟨f - L.length - 1, by omega⟩
      rw [if_neg (by omega), show L.length + 1 + j - L.length - 1 = j from by omega, List.drop_append, show L.drop (L.length + 1 + j) = [] from List.drop_eq_nil_of_le (by omega), show L.length + 1 + j - L.length = j + 1 from by omega]
      simp
theorem seg_len (l : EL) (f u : Nat) : (seg l f u).length ≤ l.length := by unfold seg; rw [List.length_drop, List.length_take]; omega
def PcE (w1 : World) (xs ys : EL) (e : Ending) (w' : World) : Prop := ∃ v', e = .returned v' ∧ Bd w1 v' (xs ++ ys) w'
abbrev lim : Int := 1000000000000000000
set_option maxHeartbeats 4000000 in
set_option maxRecDepth 100000 in
theorem piece_call : ∀ (t : T) (w1 W : World) (v : Value) (xs : EL) (f : Nat) (u : Int), Tr w1 t → Bd w1 v xs W → (f : Int) ≤ lim → -lim ≤ u → u ≤ lim → xs.length + t.list.length ≤ big → Calls Tryz.prog 52 #[t.ptr, v, .int .i64 (f : Int), .int .i64 u] W fun e w' => PcE w1 xs (seg t.list f u.toNat) e w'
  | .nil, w1, W, v, xs, f, u, ht, hB, hf, hu1, hu2, hn => by
    show Calls Tryz.prog 52 #[.pointer none, v, .int .i64 (f : Int), .int .i64 u] W _
    have HB := hid_of hB
    clear hB ht
    go_enter Tryz.func52, Tryz.ntmps52
    go_wp2
    go_ret
    refine ⟨v, rfl, ?_⟩
    have : seg (T.nil).list f u.toNat = [] := by show (List.take _ []).drop _ = []; simp
    rw [this, List.append_nil]
    exact HB.out
  | .node b l x r, w1, W, v, xs, f, u, ht, hB, hf, hu1, hu2, hn => by
    have HB := hid_of hB
    have hl2 : (T.node b l x r).list.length = l.list.length + 1 + r.list.length := by show (l.list ++ x :: r.list).length = _; simp; omega
    rw [hl2] at hn
    by_cases hfu : u ≤ (f : Int)
    · show Calls Tryz.prog 52 #[.pointer (some ⟨b, 0, none⟩), v, .int .i64 (f : Int), .int .i64 u] W _
      clear hB ht
      go_enter Tryz.func52, Tryz.ntmps52
      go_wp2
      go_ret
      refine ⟨v, rfl, ?_⟩
      rw [seg_none (by omega), List.append_nil]
      exact HB.out
    · obtain ⟨N, hN⟩ : ∃ N, N = l.list.length := ⟨_, rfl⟩
      have HT := hid_of ht
      have hc : ∀ W', Below w1.heap.size w1 W' → W'.cell? ⟨b, 0, none⟩ = some (.string (mk x.1)) ∧ W'.cell? ⟨b, 1, none⟩ = some (.int .i64 x.2) ∧ W'.cell? ⟨b, 2, none⟩ = some (.int .i64 ((l.list.length + 1 + r.list.length : Nat) : Int)) ∧ W'.cell? ⟨b, 3, none⟩ = some l.ptr ∧ W'.cell? ⟨b, 4, none⟩ = some r.ptr := fun W' hb => node_c (n := ((l.list.length + 1 + r.list.length : Nat) : Int)) ((hb.block b (lt_of ht.1)).trans ht.1)
      have HC := hid_of hc
      have HSG := hid_of (seg_node l.list r.list x f u.toNat)
      have H1 : Hid (∀ W', Below w1.heap.size w1 W' → Calls Tryz.prog 44 #[l.ptr] W' fun e w' => e = .returned (.int .i64 (N : Int)) ∧ w' = W') := hid_of fun W' hb => by rw [hN]; exact tlen_call l W' (ht.2.1.below hb)
      obtain ⟨MU, hMU⟩ : ∃ MU, MU = min u (N : Int) := ⟨_, rfl⟩
      have H2 := hid_of (piece_call l w1 W v xs f MU ht.2.1 hB hf (by unfold lim at *; unfold big at hn; omega) (by unfold lim at *; omega) (by unfold big at *; omega))
      have H3 : Hid (∀ W' v' (ys : EL) (f' : Nat) (u' : Int), Bd w1 v' ys W' → (f' : Int) ≤ lim → -lim ≤ u' → u' ≤ lim → ys.length + r.list.length ≤ big → Calls Tryz.prog 52 #[r.ptr, v', .int .i64 (f' : Int), .int .i64 u'] W' fun e w' => PcE w1 ys (seg r.list f' u'.toNat) e w') := hid_of fun W' v' ys f' u' k1 k2 k3 k4 k5 => piece_call r w1 W' v' ys f' u' ht.2.2 k1 k2 k3 k4 k5
      obtain ⟨c0, c1, c2, c3, c4⟩ := hc W hB.bel
      have HSL := hid_of (seg_len l.list f MU.toNat)
      have HMN : Hid (MU.toNat = min u.toNat N) := hid_of (by omega)
      have HSEG : Hid (seg (T.node b l x r).list f u.toNat = seg l.list f MU.toNat ++ (if f ≤ N ∧ N < u.toNat then [x] else []) ++ seg r.list (f - N - 1) (u.toNat - N - 1)) := hid_of (by rw [HMN.out, hN]; exact HSG.out)
      have hn2 : N ≤ 9000000000000 := by unfold big at hn; omega
      have e1 : IntKind.i64.wrap ((f : Int) - (N : Int)) = (f : Int) - N := IntWalk.i64_in _ (by unfold lim at *; omega)
      have e2 : IntKind.i64.wrap ((f : Int) - (N : Int) - 1) = (f : Int) - N - 1 := IntWalk.i64_in _ (by unfold lim at *; omega)
      obtain ⟨F', hF'⟩ : ∃ F' : Nat, F' = f - N - 1 := ⟨_, rfl⟩
      have e3 : max ((f : Int) - (N : Int) - 1) 0 = (F' : Int) := by omega
      obtain ⟨U', hU'⟩ : ∃ U' : Int, U' = u - (N : Int) - 1 := ⟨_, rfl⟩
      have e4 : IntKind.i64.wrap (u - (N : Int)) = u - (N : Int) := IntWalk.i64_in _ (by unfold lim at *; omega)
      have e5 : IntKind.i64.wrap (u - (N : Int) - 1) = U' := by rw [hU']; exact IntWalk.i64_in _ (by unfold lim at *; omega)
      have HFF : Hid ((F' : Int) ≤ lim ∧ -lim ≤ U' ∧ U' ≤ lim ∧ U'.toNat = u.toNat - N - 1 ∧ F' = f - N - 1) := hid_of (by unfold lim at *; omega)
      have g0 : ¬ u ≤ (f : Int) := hfu
      have hmin : min u (N : Int) = MU := hMU.symm
      have HN := hid_of hN
      have HLn : Hid (xs.length + (N + 1 + r.list.length) ≤ big) := hid_of (by rw [hN]; exact hn)
      clear hN hMU hF' hU' hB ht hc hfu HSG hl2 hn
      show Calls Tryz.prog 52 #[.pointer (some ⟨b, 0, none⟩), v, .int .i64 (f : Int), .int .i64 u] W _
      unfold T.ptr at *
      generalize l.addr = LA at *
      generalize r.addr = RA at *
      have H1W := H1.out W HB.out.bel
      go_enter Tryz.func52, Tryz.ntmps52
      go_wp2_with fail
      refine H1W.mono ?_
      rintro e wa hwa
      obtain ⟨rfl, rfl⟩ := hwa
      clear H1W
      go_wp2_with fail
      refine H2.out.mono ?_
      rintro e wb ⟨vb, rfl, hbb⟩
      have HBB := hid_of hbb
      obtain ⟨d0, d1, d2, d3, d4⟩ := HC.out wb hbb.bel
      clear H2 hbb c0 c1 c2 c3 c4
      by_cases hq : f ≤ N ∧ N < u.toNat
      · have g1 : (f : Int) ≤ (N : Int) := by omega
        have g2 : (N : Int) < u := by omega
        rw [if_pos hq] at HSEG
        have bA : Below wb.heap.size wb (wb.alloc (.cells #[.string (mk x.1), .int .i64 x.2] 35)) := bnew _ _
        obtain ⟨vc, wc, hr, hbc⟩ := bd_app (HBB.out.below bA) (.slice (some ⟨wb.heap.size, 0, none⟩) 1 1) [x] (fs_one wb x) (by have := HLn.out; have := HSL.out; rw [List.length_append]; simp; rw [HN.out] at *; unfold big at *; omega)
        obtain ⟨x0, x1, x2, x3, x4⟩ := HC.out wc hbc.bel
        have H4 := hid_of (H3.out wc vc _ F' U' hbc HFF.out.1 HFF.out.2.1 HFF.out.2.2.1 (by have := HLn.out; have := HSL.out; rw [List.length_append, List.length_append]; simp; rw [HN.out] at *; unfold big at *; omega))
        have HBC := hid_of hbc
        clear hbc hq bA
        generalize mk x.1 = X at *
        generalize x.2 = xs' at *
        go_wp2_with (at_builtin; refine wpl_eq rfl _ _ 22 22 rfl vb (.slice (some ⟨wb.heap.size, 0, none⟩) 1 1) vc _ wc rfl rfl hr ?_)
        refine H4.out.mono ?_
        rintro e wd ⟨vd, rfl, hbd⟩
        have HBD := hid_of hbd
        clear hbd
        go_wp2_with fail
        go_ret
        refine ⟨vd, rfl, ?_⟩
        have h := HBD.out
        rw [HFF.out.2.2.2.1, HFF.out.2.2.2.2] at h
        rw [HSEG.out]
        simp only [List.append_assoc] at h ⊢
        exact h
      · rw [if_neg hq] at HSEG
        have H4 := hid_of (H3.out wb vb _ F' U' HBB.out HFF.out.1 HFF.out.2.1 HFF.out.2.2.1 (by have := HLn.out; have := HSL.out; rw [List.length_append]; rw [HN.out] at *; unfold big at *; omega))
        have hfin : ∀ vd wd, Bd w1 vd (xs ++ seg l.list f MU.toNat ++ seg r.list F' U'.toNat) wd → Bd w1 vd (xs ++ seg (T.node b l x r).list f u.toNat) wd := fun vd wd h => by
          rw [HFF.out.2.2.2.1, HFF.out.2.2.2.2] at h
          rw [HSEG.out]
          simp only [List.append_assoc, List.nil_append] at h ⊢
          exact h
        have HFI := hid_of hfin
        clear hfin
        by_cases g1 : (f : Int) ≤ (N : Int)
        · have g2 : ¬ (N : Int) < u := by omega
          clear hq
          go_wp2_with fail
          refine H4.out.mono ?_
          rintro e wd ⟨vd, rfl, hbd⟩
          have HBD := hid_of hbd
          clear hbd
          go_wp2_with fail
          go_ret
          exact ⟨vd, rfl, HFI.out _ _ HBD.out⟩
        · clear hq
          go_wp2_with fail
          refine H4.out.mono ?_
          rintro e wd ⟨vd, rfl, hbd⟩
          have HBD := hid_of hbd
          clear hbd
          go_wp2_with fail
          go_ret
          exact ⟨vd, rfl, HFI.out _ _ HBD.out⟩
end Go.Proofs.YtighoelipihifabGreatDoor.Piece
