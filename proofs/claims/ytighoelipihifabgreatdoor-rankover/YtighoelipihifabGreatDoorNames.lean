/- Intervals of names; what is popped. -/
import Derived.Test.YtighoelipihifabGreatDoorDelete
namespace Go.Proofs.YtighoelipihifabGreatDoor.Names
open Go.RowKit Go.Maps Go.Sort
open Go.Proofs.YtighoelipihifabGreatDoor.MapMath
open Go.Proofs.YtighoelipihifabGreatDoor.RankMath
open Go.Proofs.YtighoelipihifabGreatDoor.RankMath2
open Go.Proofs.YtighoelipihifabGreatDoor.RankMath3
open Go.Proofs.YtighoelipihifabGreatDoor.Base
open Go.Proofs.YtighoelipihifabGreatDoor.Cmp
open Go.Proofs.YtighoelipihifabGreatDoor.Sorts
open Go.Proofs.YtighoelipihifabGreatDoor.Rank1
open Go.Proofs.YtighoelipihifabGreatDoor.Run
open Go.Proofs.YtighoelipihifabGreatDoor.Bound
open Go.Proofs.YtighoelipihifabGreatDoor.Seek
open Go.Proofs.YtighoelipihifabGreatDoor.Scores
open Go.Proofs.YtighoelipihifabGreatDoor.Delete
set_option linter.unusedVariables false

theorem run_way (l : EL) (r : Bool) : runS l 0 l.length r = way l r := by
  unfold runS
  rw [List.drop_zero, List.take_of_length_le (by rw [way_len]; exact Nat.le_refl _)]
set_option maxHeartbeats 8000000 in
set_option maxRecDepth 100000 in
theorem names_gen (p : Value) (L : EL) (lo hi : Bnd) (r : Bool) (skip most : Int) (w : World) (hn : L.length ≤ big)
    (hl : ∀ W, Below w.heap.size w W → Calls Tryz.prog 28 #[p] W fun e w' => e = .returned (.int .i64 (L.length : Int)) ∧ w' = W)
    (hr : ∀ W, Below w.heap.size w W → Calls Tryz.prog 31 #[p, .int .i64 0, .int .i64 (L.length : Int), .bool r] W fun e w' => RunE (way L r) W e w') :
    Calls Tryz.prog 30 #[p, bV lo, bV hi, .bool r, .int .i64 skip, .int .i64 most] w fun e w' => RunE (nmS L lo hi r skip most) w e w' := by
  obtain ⟨M, hM⟩ : ∃ M, M = (way L r).filter fun e => !(!(nmL lo e && nmU hi e)) := ⟨_, rfl⟩
  have hM2 : M = way (nmF L lo hi) r := by rw [hM, nmF_way]; exact List.filter_congr fun x _ => by simp
  have HE : Hid (nmS L lo hi r skip most = (M.drop (clampS skip M.length)).take (clampN most (M.length - clampS skip M.length))) := hid_of (by unfold nmS; rw [cutS_eq, ← hM2])
  have hML : M.length ≤ L.length := by rw [hM, ← way_len L r]; exact List.length_filter_le _ _
  obtain ⟨V, hV⟩ : ∃ V, V = iW lo hi w := ⟨_, rfl⟩
  have HBV : Hid (Below w.heap.size w V) := hid_of (by rw [hV]; exact iW_below lo hi w)
  have HV : Hid (V = ((w.alloc (.cells #[.int .i64 lo.inf, .bool lo.opn, .int .i64 lo.score, .string (mk lo.name)] 59)).alloc (.cells #[.int .i64 hi.inf, .bool hi.opn, .int .i64 hi.score, .string (mk hi.name)] 59)).alloc (.cells #[.int .i64 lo.inf, .bool lo.opn, .int .i64 lo.score, .string (mk lo.name), .int .i64 hi.inf, .bool hi.opn, .int .i64 hi.score, .string (mk hi.name)] 80)) := hid_of hV
  have H1 := hid_of (hl V HBV.out)
  have H2 := hid_of (hr V HBV.out)
  have H3 : Hid (∀ w1 v1, OR V.heap.size w1 v1 (way L r) → Below V.heap.size V w1 → Calls Tryz.prog 49 #[v1, .func (.func 50) #[] #[.pointer (some ⟨w.heap.size + 2, 0, none⟩)]] w1 fun e w' => ∃ v', e = .returned v' ∧ Hid (OR V.heap.size w' v' M) ∧ Hid (Below V.heap.size V w')) := hid_of fun w1 v1 ho hb => by
    have h0 := delete_call (way L r) (fun e => !(nmL lo e && nmU hi e)) 50 #[.pointer (some ⟨w.heap.size + 2, 0, none⟩)] v1 w1 ho (by rw [way_len]; exact hn) hb.size (enters_of Tryz.func50 (by kernel_rfl) rfl) (fun x W hW => clo_name lo hi x _ W (iW_cells lo hi w W (by rw [← hV]; exact hb.trans hW)))
    exact h0.mono fun e w' ⟨v', q1, q2, q3⟩ => ⟨v', q1, by rw [hM]; exact q2, hb.trans q3⟩
  clear hl hr hV hM2 hM
  obtain ⟨N, hN⟩ : ∃ N, N = M.length := ⟨_, rfl⟩
  obtain ⟨SK, hSK⟩ : ∃ SK, SK = clampS skip N := ⟨_, rfl⟩
  obtain ⟨SM, hSM⟩ : ∃ SM, SM = clampN most (N - SK) := ⟨_, rfl⟩
  have HNN := hid_of (fun W => narrowed_call N skip most W (by unfold big at hn; omega))
  rw [← hSK, ← hSM] at HNN
  rw [← hN, ← hSK, ← hSM] at HE
  have hskle : SK ≤ N := by rw [hSK]; unfold clampS; omega
  have hsmle : SM ≤ N - SK := by rw [hSM]; unfold clampN; split <;> omega
  obtain ⟨UU, hUU⟩ : ∃ UU, UU = SK + SM := ⟨_, rfl⟩
  have hNb : N ≤ 9000000000000 := by unfold big at hn; omega
  have e1 : IntKind.i64.wrap ((SK : Int) + (SM : Int)) = (UU : Int) := by rw [show (SK : Int) + (SM : Int) = (UU : Int) from by omega]; exact IntWalk.i64_in _ (by omega)
  have H5 : Hid (∀ W v, FS W v ((M.drop SK).take SM) → Calls Tryz.prog 17 #[v] W fun e w' => ∃ v', e = .returned v' ∧ OR W.heap.size w' v' ((M.drop SK).take SM) ∧ Below W.heap.size W w') := hid_of fun W v h => clone_call h (by rw [List.length_take, List.length_drop]; unfold big; omega)
  have HNh := hid_of hN
  have HUU := hid_of hUU
  clear hSK hSM hUU hN hML
  unfold bV
  generalize mk lo.name = N1 at *
  generalize mk hi.name = N2 at *
  generalize lo.inf = I at *
  generalize hi.inf = I2 at *
  generalize lo.opn = O at *
  generalize hi.opn = O2 at *
  generalize lo.score = S at *
  generalize hi.score = S2 at *
  go_enter Tryz.func30, Tryz.ntmps30
  go_wp2_with fail
  rw [← HV.out]
  refine H1.out.mono ?_
  rintro e w0 hw0
  obtain ⟨rfl, hww⟩ := hw0
  rw [hww]
  clear hww w0 H1
  go_wp2_with fail
  refine H2.out.mono ?_
  rintro e w1 ⟨v1, rfl, o1, b1⟩
  have H3' := hid_of (H3.out w1 v1 o1 b1)
  clear o1 b1 H2 H3
  go_wp2_with fail
  refine H3'.out.mono ?_
  rintro e w2 ⟨v2, rfl, O2h, B2h⟩
  have hfs := fs_row O2h.out
  obtain ⟨a, c, hv2, hcap, _⟩ := id hfs
  subst hv2
  rw [← HNh.out] at hcap hfs ⊢
  have hcut := cut_any a N c SK UU (by rw [HUU.out]; omega) (by have := HUU.out; omega)
  have HNN' := hid_of (HNN.out w2)
  have HFS : Hid (FS w2 (.slice (ca a c SK) (UU - SK) (c - SK)) ((M.drop SK).take SM)) := hid_of (by
    have h1 : FS w2 (.slice a M.length c) M := by rw [← HNh.out]; exact hfs
    have h2 := h1.drop SK (by rw [← HNh.out]; exact hskle)
    have h4 : M.length - SK = (M.drop SK).length := by rw [List.length_drop]
    rw [h4] at h2
    have h3 := h2.take SM (by rw [List.length_drop, ← HNh.out]; exact hsmle)
    rw [show UU - SK = SM from by rw [HUU.out]; omega]
    exact h3)
  have H5' := hid_of (H5.out w2 _ HFS.out)
  clear hfs H3' H5 HNN
  go_wp2_with fail
  refine HNN'.out.mono ?_
  rintro e w3 hw3
  obtain ⟨rfl, hww⟩ := hw3
  rw [hww]
  clear hww w3
  go_wp2_with fail
  refine H5'.out.mono ?_
  rintro e w4 ⟨v4, rfl, o4, b4⟩
  have HZ : Hid (RunE (nmS L lo hi r skip most) w (.returned v4) w4) := hid_of (by
    rw [HE.out]
    refine ⟨v4, rfl, row_mono o4 (Nat.le_trans HBV.out.size B2h.out.size), ?_⟩
    exact Base.bel HBV.out (Base.bel B2h.out b4 (Nat.le_refl _)) (Nat.le_refl _))
  clear o4 b4
  go_wp2_with fail
  go_ret
  exact HZ.out
theorem names_call {B b : Nat} {l : EL} {w : World} (h : RK B b l w) (lo hi : Bnd) (r : Bool) (skip most : Int) (hn : l.length ≤ big) : Calls Tryz.prog 30 #[ptr b, bV lo, bV hi, .bool r, .int .i64 skip, .int .i64 most] w fun e w' => RunE (nmS l lo hi r skip most) w e w' :=
  names_gen (ptr b) l lo hi r skip most w hn (fun W hW => len_call (h.below hW)) (fun W hW => by
    have := run_call (h.below hW) 0 l.length r (by omega) hn
    rw [run_way] at this
    exact this)
theorem nmS_nil (lo hi : Bnd) (r : Bool) (skip most : Int) : nmS [] lo hi r skip most = [] := by
  unfold nmS nmF way cutS
  cases r <;> simp
theorem way_nil (r : Bool) : way [] r = [] := by cases r <;> rfl
theorem names_nil (lo hi : Bnd) (r : Bool) (skip most : Int) (w : World) : Calls Tryz.prog 30 #[.pointer none, bV lo, bV hi, .bool r, .int .i64 skip, .int .i64 most] w fun e w' => RunE [] w e w' := by
  have := names_gen (.pointer none) [] lo hi r skip most w (by simp [big]) (fun W _ => len_nil W) (fun W _ => by rw [way_nil]; exact run_zero _ 0 r W)
  rw [nmS_nil] at this
  exact this
/- what is popped -/
theorem pop_len (l : EL) (k : Nat) (g : Bool) (h : k ≤ l.length) : (popS l k g).length = k := by
  unfold popS runS
  rw [List.length_take, List.length_drop, way_len]
  omega
set_option maxHeartbeats 4000000 in
set_option maxRecDepth 100000 in
theorem pop_call {B b : Nat} {l : EL} {w : World} (h : RK B b l w) (n : Int) (g : Bool) (hn : l.length ≤ big) (hB : B ≤ w.heap.size) : Calls Tryz.prog 10 #[ptr b, .int .i64 n, .bool g] w fun e w' => ∃ v, e = .returned v ∧ OR w.heap.size w' v (popS l (clampS n l.length) g) ∧ RK B b (leftS l (clampS n l.length) g) w' ∧ Ev B w w' := by
  have H1 := hid_of (len_call h)
  obtain ⟨K, hK⟩ : ∃ K, K = clampS n l.length := ⟨_, rfl⟩
  have hKl : K ≤ l.length := by rw [hK]; unfold clampS; omega
  have hs : Srt l ∧ Uq l ∧ (∀ p ∈ l, p.1.length ≤ 140737488355328) := by obtain ⟨m, t, ml, h⟩ := h; exact ⟨h.srt, h.uq, h.len⟩
  have H2 := hid_of (run_call h 0 K g (by omega) hn)
  obtain ⟨P, hP⟩ : ∃ P, P = popS l K g := ⟨_, rfl⟩
  have hPl : P.length = K := by rw [hP]; exact pop_len l K g hKl
  rw [show runS l 0 K g = P from hP.symm, show ((0 : Nat) : Int) = 0 from rfl] at H2
  have HPN : Hid (∀ k (hk : k < P.length), (P[k]'hk).1.length ≤ 140737488355328) := hid_of fun k hk => by
    have hm : ∀ x ∈ P, x ∈ l := fun x h1 => by
      rw [hP] at h1
      unfold popS runS at h1
      exact (way_perm l g).mem_iff.1 (List.mem_of_mem_drop (List.mem_of_mem_take h1))
    exact hs.2.2 _ (hm _ (List.getElem_mem hk))
  have HFin : Hid (dropAll l P = leftS l K g) := hid_of (by rw [hP]; exact pop_left hs.2.1 hKl g)
  rw [← hK, ← hP]
  obtain ⟨X, hX⟩ : ∃ X, X = max n 0 := ⟨_, rfl⟩
  have e1 : max n 0 = X := hX.symm
  have e2 : min X (l.length : Int) = (K : Int) := by rw [hK]; unfold clampS; omega
  have HR0 := hid_of h
  have HPl := hid_of hPl
  have HBB : Hid (B ≤ w.heap.size) := hB
  have hKb : K ≤ 9000000000000 := by unfold big at hn; omega
  clear hX hK hP hs h hPl
  unfold ptr at *
  go_enter Tryz.func10, Tryz.ntmps10
  go_wp2_with fail
  refine H1.out.mono ?_
  rintro e w0 hw0
  obtain ⟨rfl, hww⟩ := hw0
  rw [hww]
  clear hww w0 H1
  go_wp2_with fail
  refine H2.out.mono ?_
  rintro e w1 ⟨v1, rfl, o1, b1⟩
  have hfs := fs_row o1
  obtain ⟨a, c, hv1, hcap, _⟩ := id hfs
  rw [HPl.out] at hv1 hcap
  subst hv1
  have HO1 := hid_of o1
  have HB1 := hid_of b1
  have HR1 := hid_of (HR0.out.below b1)
  clear o1 b1 hfs
  go_wp2_with fail
  go_loopg [20] K (fun gg si wx => ∃ k : Nat, k ≤ K ∧ K ≤ k + gg ∧ si = .int .i64 (k : Int) ∧ Hid (RK B b (dropAll l (P.take k)) wx) ∧ Hid (OR w.heap.size wx (.slice a K c) P) ∧ Hid (Ev B w wx))
  case atStart => exact ⟨0, by omega, by omega, rfl, hid_of (by rw [List.take_zero, dropAll_nil]; exact HR1.out), HO1, hid_of (Ev.of_below HB1.out)⟩
  case round =>
    obtain ⟨k, hk, hg, rfl, HR, HO, HE⟩ := hrel
    by_cases hlt : k < K
    · obtain ⟨g', rfl⟩ : ∃ g', gk = g' + 1 := ⟨gk - 1, by omega⟩
      have hkP : k < P.length := by rw [HPl.out]; exact hlt
      obtain ⟨gb, o, rfl, hat⟩ := (fs_row HO.out).at hkP
      obtain ⟨c0, c1⟩ := hat k hkP
      have g1 : (k : Int) < (K : Int) := by omega
      have e3 : IntKind.i64.wrap ((k : Int) + 1) = (k : Int) + 1 := IntWalk.i64_in _ (by omega)
      obtain ⟨V, hV⟩ : ∃ V, V = wr.alloc (.cells #[.string (mk (P[k]'hkP).1), .int .i64 (P[k]'hkP).2] 35) := ⟨_, rfl⟩
      have bV : Below wr.heap.size wr V := by rw [hV]; exact bnew wr _
      have H3 := hid_of (drop_call (HR.out.below bV) (P[k]'hkP).1 (HPN.out k hkP) (Nat.le_trans (dropAll_len l _) hn))
      rw [dropAll_take l P hkP] at H3
      have HV := hid_of hV
      have HOV := hid_of (row_below HO.out bV)
      have HEV := hid_of (Ev.trans HE.out (Ev.of_below bV))
      generalize ok (dropAll l (P.take k)) (P[k]'hkP).1 = OKK at *
      generalize mk (P[k]'hkP).1 = XX at *
      generalize (P[k]'hkP).2 = xx at *
      clear hV bV hat
      unfold ptr at H3
      go_wp2_with fail
      rw [← HV.out]
      refine H3.out.mono ?_
      rintro e w3 hw3
      obtain ⟨rfl, r3, e3'⟩ := hw3
      have R3 := hid_of r3
      have E3 := hid_of e3'
      clear r3 e3'
      go_wp2_with fail
      go_roundg g'
      case measure => omega
      case rel => exact ⟨k + 1, by omega, by omega, by rw [show ((k + 1 : Nat) : Int) = (k : Int) + 1 from by omega], R3, hid_of (row_ev HOV.out E3.out), hid_of (Ev.trans HEV.out E3.out)⟩
    · obtain rfl : k = K := by omega
      have gi : ¬ (k : Int) < (k : Int) := by omega
      go_wp2_with fail
      go_ret
      refine ⟨_, rfl, HO.out, ?_, HE.out⟩
      have h1 := HR.out
      rw [List.take_of_length_le (by rw [HPl.out]; exact Nat.le_refl _), HFin.out] at h1
      exact h1
end Go.Proofs.YtighoelipihifabGreatDoor.Names
