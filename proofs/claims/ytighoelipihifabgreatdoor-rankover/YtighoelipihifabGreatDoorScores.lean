/- Intervals of scores. -/
import Derived.Test.YtighoelipihifabGreatDoorSeek
namespace Go.Proofs.YtighoelipihifabGreatDoor.Scores
open Go.RowKit Go.Maps Go.Sort
open Go.Proofs.YtighoelipihifabGreatDoor.MapMath
open Go.Proofs.YtighoelipihifabGreatDoor.RankMath
open Go.Proofs.YtighoelipihifabGreatDoor.RankMath2
open Go.Proofs.YtighoelipihifabGreatDoor.RankMath3
open Go.Proofs.YtighoelipihifabGreatDoor.Base
open Go.Proofs.YtighoelipihifabGreatDoor.Cmp
open Go.Proofs.YtighoelipihifabGreatDoor.Rank1
open Go.Proofs.YtighoelipihifabGreatDoor.Run
open Go.Proofs.YtighoelipihifabGreatDoor.Bound
open Go.Proofs.YtighoelipihifabGreatDoor.Seek
set_option linter.unusedVariables false

def iW (lo hi : Bnd) (w : World) : World := ((w.alloc (.cells #[.int .i64 lo.inf, .bool lo.opn, .int .i64 lo.score, .string (mk lo.name)] 59)).alloc (.cells #[.int .i64 hi.inf, .bool hi.opn, .int .i64 hi.score, .string (mk hi.name)] 59)).alloc (.cells (iO lo hi) 80)
theorem iW_below (lo hi : Bnd) (w : World) : Below w.heap.size w (iW lo hi w) := Base.bel (Base.bel (bnew w _) (bnew _ _) (Nat.le_refl _)) (bnew _ _) (Nat.le_refl _)
theorem iW_cells (lo hi : Bnd) (w W : World) (h : Below (iW lo hi w).heap.size (iW lo hi w) W) : ∀ i (hi2 : i < 8), W.cell? ⟨w.heap.size + 2, i, none⟩ = (iO lo hi)[i]? := fun i hi2 => by
  have e : ((w.alloc (.cells #[.int .i64 lo.inf, .bool lo.opn, .int .i64 lo.score, .string (mk lo.name)] 59)).alloc (.cells #[.int .i64 hi.inf, .bool hi.opn, .int .i64 hi.score, .string (mk hi.name)] 59)).heap.size = w.heap.size + 2 := by simp
  have h0 : (iW lo hi w).heap[w.heap.size + 2]? = some (.cells (iO lo hi) 80 (0, 0)) := by
    rw [← e]
    exact heap_alloc_new _ _
  have h1 : W.heap[w.heap.size + 2]? = some (.cells (iO lo hi) 80 (0, 0)) := (h.block _ (lt_of h0)).trans h0
  exact Lib.cell_of_heap h1 i
theorem later_run {L : EL} {w w1 : World} (h : Below w.heap.size w w1) {e : Ending} {w' : World} (hf : RunE L w1 e w') : RunE L w e w' := by
  obtain ⟨v, he, ho, hb⟩ := hf
  exact ⟨v, he, row_mono ho h.size, Base.bel h hb (Nat.le_refl _)⟩
set_option maxHeartbeats 8000000 in
set_option maxRecDepth 100000 in
theorem scores_gen (p : Value) (L : EL) (lo hi : Bnd) (r : Bool) (skip most : Int) (w : World) (hs : Srt L) (hn : L.length ≤ big)
    (hl : ∀ W, Below w.heap.size w W → Calls Tryz.prog 28 #[p] W fun e w' => e = .returned (.int .i64 (L.length : Int)) ∧ w' = W)
    (h1 : ∀ W, Below w.heap.size w W → Below (iW lo hi w).heap.size (iW lo hi w) W → Calls Tryz.prog 41 #[p, .func (.func 45) #[] #[.pointer (some ⟨w.heap.size + 2, 0, none⟩)]] W fun e w' => e = .returned (.int .i64 (cntL L lo : Int)) ∧ Below W.heap.size W w')
    (h2 : ∀ W, Below w.heap.size w W → Below (iW lo hi w).heap.size (iW lo hi w) W → Calls Tryz.prog 41 #[p, .func (.func 47) #[] #[.pointer (some ⟨w.heap.size + 2, 0, none⟩)]] W fun e w' => e = .returned (.int .i64 (cntU L hi : Int)) ∧ Below W.heap.size W w')
    (hr : ∀ W, Below w.heap.size w W → ∀ f' n' : Nat, f' + n' ≤ L.length → Calls Tryz.prog 31 #[p, .int .i64 (f' : Int), .int .i64 (n' : Int), .bool r] W fun e w' => RunE (runS L f' n' r) W e w') :
    Calls Tryz.prog 29 #[p, bV lo, bV hi, .bool r, .int .i64 skip, .int .i64 most] w fun e w' => RunE (scS L lo hi r skip most) w e w' := by
  have HE := hid_of (scS_eq hs lo hi r skip most)
  have hle := scA_le L lo hi r
  have hcl := cntL_le L lo
  have hcu := cntU_le L hi
  have hAr : scA L lo hi r = if r then L.length - cntL L lo - scN L lo hi else cntL L lo := rfl
  have hNr : scN L lo hi = cntU L hi - cntL L lo := rfl
  obtain ⟨V, hV⟩ : ∃ V, V = iW lo hi w := ⟨_, rfl⟩
  have HBV : Hid (Below w.heap.size w V) := hid_of (by rw [hV]; exact iW_below lo hi w)
  have HV : Hid (V = ((w.alloc (.cells #[.int .i64 lo.inf, .bool lo.opn, .int .i64 lo.score, .string (mk lo.name)] 59)).alloc (.cells #[.int .i64 hi.inf, .bool hi.opn, .int .i64 hi.score, .string (mk hi.name)] 59)).alloc (.cells #[.int .i64 lo.inf, .bool lo.opn, .int .i64 lo.score, .string (mk lo.name), .int .i64 hi.inf, .bool hi.opn, .int .i64 hi.score, .string (mk hi.name)] 80)) := hid_of hV
  rw [← hV] at h1 h2
  have H1 := hid_of (h1 V HBV.out (Below.refl _ _))
  have H2 : Hid (∀ W, Below V.heap.size V W → Calls Tryz.prog 41 #[p, .func (.func 47) #[] #[.pointer (some ⟨w.heap.size + 2, 0, none⟩)]] W fun e w' => e = .returned (.int .i64 (cntU L hi : Int)) ∧ Below W.heap.size W w') := hid_of fun W hW => h2 W (Base.bel HBV.out hW (Nat.le_refl _)) hW
  have HL := hid_of hl
  have HR := hid_of hr
  clear h1 h2 hl hr hV
  obtain ⟨CL, hCL⟩ : ∃ CL, CL = cntL L lo := ⟨_, rfl⟩
  obtain ⟨CU, hCU⟩ : ∃ CU, CU = cntU L hi := ⟨_, rfl⟩
  obtain ⟨SN, hSN⟩ : ∃ SN, SN = scN L lo hi := ⟨_, rfl⟩
  obtain ⟨SA, hSA⟩ : ∃ SA, SA = scA L lo hi r := ⟨_, rfl⟩
  rw [← hCL] at H1 hcl hAr hNr
  rw [← hCU] at H2 hcu hNr
  rw [← hSN] at HE hle hAr hNr
  rw [← hSA] at HE hle hAr
  clear hCL hCU hSN hSA
  obtain ⟨SK, hSK⟩ : ∃ SK, SK = clampS skip SN := ⟨_, rfl⟩
  obtain ⟨SM, hSM⟩ : ∃ SM, SM = clampN most (SN - SK) := ⟨_, rfl⟩
  have HN := hid_of (fun W => narrowed_call SN skip most W (by unfold big at hn; omega))
  rw [← hSK, ← hSM] at HN
  rw [← hSK, ← hSM] at HE
  have hskle : SK ≤ SN := by rw [hSK]; unfold clampS; omega
  have hsmle : SM ≤ SN - SK := by rw [hSM]; unfold clampN; split <;> omega
  have hNb : L.length ≤ 9000000000000 := hn
  have e1 : IntKind.i64.wrap ((CU : Int) - (CL : Int)) = (CU : Int) - (CL : Int) := IntWalk.i64_in _ (by omega)
  have e2 : max ((CU : Int) - (CL : Int)) 0 = (SN : Int) := by omega
  obtain ⟨FF, hFF⟩ : ∃ FF, FF = SA + SK := ⟨_, rfl⟩
  have e5 : IntKind.i64.wrap ((SA : Int) + (SK : Int)) = (FF : Int) := by rw [show (SA : Int) + (SK : Int) = (FF : Int) from by omega]; exact IntWalk.i64_in _ (by omega)
  rw [← hFF] at HE
  have HRR : Hid (∀ W, Below w.heap.size w W → Calls Tryz.prog 31 #[p, .int .i64 (FF : Int), .int .i64 (SM : Int), .bool r] W fun e w' => RunE (runS L FF SM r) W e w') := hid_of fun W hW => HR.out W hW FF SM (by omega)
  clear hSK hSM HR hFF hs
  unfold bV
  generalize mk lo.name = N at *
  generalize mk hi.name = N2 at *
  generalize hI : lo.inf = I at *
  generalize hi.inf = I2 at *
  generalize lo.opn = O at *
  generalize hi.opn = O2 at *
  generalize lo.score = S at *
  generalize hi.score = S2 at *
  clear hI
  have hfin : ∀ W3 (e : Ending) w4, Below w.heap.size w W3 → RunE (runS L FF SM r) W3 e w4 → RunE (scS L lo hi r skip most) w e w4 := fun W3 e w4 hb h => by rw [HE.out]; exact later_run hb h
  have HFI := hid_of hfin
  clear hfin HE
  cases r with
  | false =>
    have hSA0 : SA = CL := hAr
    subst hSA0
    clear hAr hNr
    go_enter Tryz.func29, Tryz.ntmps29
    go_wp2_with fail
    rw [← HV.out]
    refine H1.out.mono ?_
    rintro e w1 hw1
    obtain ⟨rfl, b1⟩ := hw1
    have H2' := hid_of (H2.out w1 b1)
    have B1 := hid_of b1
    clear b1 H1 H2
    go_wp2_with fail
    refine H2'.out.mono ?_
    rintro e w2 hw2
    obtain ⟨rfl, b2⟩ := hw2
    have B2 : Hid (Below w.heap.size w w2) := hid_of (Base.bel HBV.out (Base.bel B1.out b2 (Nat.le_refl _)) (Nat.le_refl _))
    have HN' := hid_of (HN.out w2)
    have HR' := hid_of (HRR.out w2 B2.out)
    clear b2 H2' B1
    go_wp2_with fail
    refine HN'.out.mono ?_
    rintro e w3 hw3
    obtain ⟨rfl, hww⟩ := hw3
    rw [hww]
    clear hww w3
    go_wp2_with fail
    refine HR'.out.mono ?_
    rintro e w4 hw4
    have HZ := hid_of (HFI.out w2 e w4 B2.out hw4)
    obtain ⟨v4, rfl, _, _⟩ := hw4
    go_wp2_with fail
    go_ret
    exact HZ.out
  | true =>
    have hSA0 : SA = L.length - CL - SN := hAr
    have e3 : IntKind.i64.wrap ((L.length : Int) - (CL : Int)) = (L.length : Int) - (CL : Int) := IntWalk.i64_in _ (by omega)
    have e4 : IntKind.i64.wrap ((L.length : Int) - (CL : Int) - (SN : Int)) = (SA : Int) := by rw [show (L.length : Int) - (CL : Int) - (SN : Int) = (SA : Int) from by omega]; exact IntWalk.i64_in _ (by omega)
    clear hAr hNr hSA0
    go_enter Tryz.func29, Tryz.ntmps29
    go_wp2_with fail
    rw [← HV.out]
    refine H1.out.mono ?_
    rintro e w1 hw1
    obtain ⟨rfl, b1⟩ := hw1
    have H2' := hid_of (H2.out w1 b1)
    have B1 := hid_of b1
    clear b1 H1 H2
    go_wp2_with fail
    refine H2'.out.mono ?_
    rintro e w2 hw2
    obtain ⟨rfl, b2⟩ := hw2
    have B2 : Hid (Below w.heap.size w w2) := hid_of (Base.bel HBV.out (Base.bel B1.out b2 (Nat.le_refl _)) (Nat.le_refl _))
    have HN' := hid_of (HN.out w2)
    have HR' := hid_of (HRR.out w2 B2.out)
    have HL' := hid_of (HL.out w2 B2.out)
    clear b2 H2' B1
    go_wp2_with fail
    refine HL'.out.mono ?_
    rintro e w5 hw5
    obtain ⟨rfl, hww⟩ := hw5
    rw [hww]
    clear hww w5
    go_wp2_with fail
    refine HN'.out.mono ?_
    rintro e w3 hw3
    obtain ⟨rfl, hww⟩ := hw3
    rw [hww]
    clear hww w3
    go_wp2_with fail
    refine HR'.out.mono ?_
    rintro e w4 hw4
    have HZ := hid_of (HFI.out w2 e w4 B2.out hw4)
    obtain ⟨v4, rfl, _, _⟩ := hw4
    go_wp2_with fail
    go_ret
    exact HZ.out
theorem scores_call {B b : Nat} {l : EL} {w : World} (h : RK B b l w) (lo hi : Bnd) (r : Bool) (skip most : Int) (hn : l.length ≤ big) : Calls Tryz.prog 29 #[ptr b, bV lo, bV hi, .bool r, .int .i64 skip, .int .i64 most] w fun e w' => RunE (scS l lo hi r skip most) w e w' := by
  have hs : Srt l := by obtain ⟨m, t, ml, h⟩ := h; exact h.srt
  exact scores_gen (ptr b) l lo hi r skip most w hs hn (fun W hW => len_call (h.below hW))
    (fun W hW hI => rlead_call (h.below hW) (fun e => !scL lo e) _ _ (srt_dn hs (scL_dn lo)) hn (enters_of Tryz.func45 (by kernel_rfl) rfl) (fun x W' _ hW' => clo_score0 lo hi x _ W' (iW_cells lo hi w W' (Base.bel hI hW' (Nat.le_refl _)))))
    (fun W hW hI => rlead_call (h.below hW) (scU hi) _ _ (srt_dn hs (scU_dn hi)) hn (enters_of Tryz.func47 (by kernel_rfl) rfl) (fun x W' _ hW' => clo_score1 lo hi x _ W' (iW_cells lo hi w W' (Base.bel hI hW' (Nat.le_refl _)))))
    (fun W hW f' n' hh => run_call (h.below hW) f' n' r hh hn)
theorem scS_nil (lo hi : Bnd) (r : Bool) (skip most : Int) : scS [] lo hi r skip most = [] := by
  unfold scS scF way cutS
  cases r <;> simp
theorem scores_nil (lo hi : Bnd) (r : Bool) (skip most : Int) (w : World) : Calls Tryz.prog 29 #[.pointer none, bV lo, bV hi, .bool r, .int .i64 skip, .int .i64 most] w fun e w' => RunE [] w e w' := by
  have := scores_gen (.pointer none) [] lo hi r skip most w List.Pairwise.nil (by simp [big]) (fun W _ => len_nil W)
    (fun W _ _ => (rlead_nil _ W).mono fun e w' ⟨h1, h2⟩ => ⟨h1, by rw [h2]; exact Below.refl _ _⟩)
    (fun W _ _ => (rlead_nil _ W).mono fun e w' ⟨h1, h2⟩ => ⟨h1, by rw [h2]; exact Below.refl _ _⟩)
    (fun W _ f' n' hh => run_nil _ f' n' r W hh)
  rw [scS_nil] at this
  exact this
end Go.Proofs.YtighoelipihifabGreatDoor.Scores
