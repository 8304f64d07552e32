/- Whether a rank may be. -/
import Derived.Test.YtdcnkdkhanmklaaMay
import Derived.Test.YtdcnkdkhanmklaaCmp
import Derived.Test.YtdcnkdkhanmklaaOf
namespace Go.Proofs.Ytdcnkdkhanmklaa.MayR
open Go.RowKit Go.Maps
open Go.Proofs.Ytdcnkdkhanmklaa.SetMath
open Go.Proofs.Ytdcnkdkhanmklaa.ValueMath
open Go.Proofs.Ytdcnkdkhanmklaa.Base
open Go.Proofs.Ytdcnkdkhanmklaa.Vals
open Go.Proofs.Ytdcnkdkhanmklaa.May
open Go.Proofs.Ytdcnkdkhanmklaa.ROf (RW)
set_option linter.unusedVariables false
set_option linter.unusedSimpArgs false

theorem okAt_at {l : EL} {k : Nat} (hk : k < l.length) : okAt l k = (scOk l[k].2 && (k == 0 || ahd (l[k - 1]'(by omega)) l[k])) := by
  unfold okAt
  rw [List.getElem?_eq_getElem hk, List.getElem?_eq_getElem (show k - 1 < l.length by omega)]
theorem ord_no {l : EL} {k : Nat} (hk : k < l.length) (h : okAt l k = false) : ordB l = false := by
  unfold ordB
  cases e : (List.range l.length).all (okAt l)
  · rfl
  · rw [List.all_eq_true.1 e k (List.mem_range.2 hk)] at h
    cases h
theorem ord_yes {l : EL} (h : ∀ j, j < l.length → okAt l j = true) : ordB l = true := List.all_eq_true.2 fun j hj => h j (List.mem_range.1 hj)
def Rok (l : EL) : Prop := ∀ p ∈ l, p.1.length ≤ 140737488355328
set_option maxHeartbeats 8000000 in
set_option maxRecDepth 100000 in
theorem rank_call {w : World} {v : Value} {l : EL} (h : ERow.FS w v l) (hb : l.length * 24 ≤ 140737488355328) (hs : Rok l) :
    Calls Try.prog 99 #[v] w fun e w' => e = .returned (.bool (rankOk l)) ∧ Below w.heap.size w w' := by
  obtain ⟨i0, hi, hz0, hz1, hz2⟩ := info_parts info9'
  have HF := hid_of h
  have HS := hid_of hs
  obtain ⟨a, c, rfl, hc, hr⟩ := h
  obtain ⟨L, HL⟩ : ∃ L, Hid (L = List.length l) := ⟨_, hid_of rfl⟩
  rw [← HL.out] at hb hc HF ⊢
  clear hr hs
  go_enter Try.func99, Try.ntmps99
  go_wp2_with (at_make; refine wpList_make_full _ rfl _ _ 22 rfl w.heap.size 9 i0 (.string ⟨#[]⟩) 1 Try.underlying22 hi hz0 hz1 _ _ _ _ L rfl rfl rfl rfl ?b2 ?b3 (Nat.le_refl _) ?_)
  case b2 => rw [hz2]; omega
  case b3 => unfold maxLen; omega
  intro w0 hown0 hgrow0
  have R0 : Hid (RW w.heap.size w0 w.heap.size L (pnm (·.1) l 0) ∧ Below w.heap.size w w0) := hid_of ⟨by rw [pnm_zero, ← HL.out]; exact made_rw hown0, (Below.refl _ _).grown hgrow0 (Nat.le_refl _) (fun k h => by cases h)⟩
  clear hown0 hgrow0
  go_wp2_with fail
  go_loopg [11] L (fun g s3 wx => ∃ j : Nat, j ≤ L ∧ L ≤ j + g ∧ s3 = .int .i64 (j : Int) ∧ Hid (∀ i, i < j → okAt l i = true) ∧ Hid (RW w.heap.size wx w.heap.size L (pnm (·.1) l j) ∧ Below w.heap.size w wx))
  case atStart => exact ⟨0, by omega, by omega, rfl, hid_of (fun i hi => by omega), R0⟩
  case round =>
    obtain ⟨j, hj, hg, rfl, HA, R⟩ := hrel
    by_cases hlt : j < L
    · obtain ⟨g', rfl⟩ : ∃ g', gk = g' + 1 := ⟨gk - 1, by omega⟩
      have hjl : j < List.length l := by rw [← HL.out]; exact hlt
      obtain ⟨ga, oa, rfl, ha⟩ := ERow.FS.at (HF.out.below R.out.2) hjl
      obtain ⟨a0, a1⟩ := ha j hjl
      have hgl : ga < wr.heap.size := Base.cell_lt a0
      have HAH : Hid (∀ h : j - 1 < List.length l, wr.cell? ⟨ga, oa + (j - 1) * 2, none⟩ = some (.string (mk (l[j - 1]'h).1)) ∧ wr.cell? ⟨ga, oa + (j - 1) * 2 + 1, none⟩ = some (.int .i64 (l[j - 1]'h).2)) := hid_of fun h => ha (j - 1) h
      clear ha
      have HO := hid_of (okAt_at hjl)
      have HN : Hid (okAt l j = true → ∀ i, i < j + 1 → okAt l i = true) := hid_of fun q i hi => by
        by_cases e : i = j
        · subst e; exact q
        · exact HA.out i (by omega)
      have HX : Hid (okAt l j = false → rankOk l = false) := hid_of fun q => by unfold rankOk; rw [ord_no hjl q]; rfl
      have HC := hid_of (fun W => Cmp.score_call l[j].2 W)
      have HP := hid_of (fun W => Cmp.order_call (l[j - 1]'(by omega)) l[j] W)
      have rb := R.out.1.set j l[j].1
      rw [pnm_set (·.1) l j hjl] at rb
      have RB : Hid (∀ W, Below wr.heap.size wr W → RW w.heap.size (W.setCell ⟨w.heap.size, j, none⟩ (.string (mk l[j].1))) w.heap.size L (pnm (·.1) l (j + 1)) ∧ Below w.heap.size w (W.setCell ⟨w.heap.size, j, none⟩ (.string (mk l[j].1)))) := hid_of fun W hW => by
        have q := (rw_below R.out.1 hW).set j l[j].1
        rw [pnm_set (·.1) l j hjl] at q
        exact ⟨q, bset (FRow.bel R.out.2 hW (Nat.le_refl _)) (Nat.le_refl _) _⟩
      clear rb
      have hfz := R.out.1.frozen j
      obtain ⟨y, hy⟩ : ∃ y, (pnm (·.1) l j)[j]? = some y := ⟨_, List.getElem?_eq_getElem (by rw [pnm_len _ _ _ (by omega)]; exact hjl)⟩
      have hcl := R.out.1.cell hy
      have hlt2 : w.heap.size < wr.heap.size := by
        obtain ⟨_, cur, h2, _⟩ := R.out.1
        exact lt_of h2
      clear hy
      have HP0 := HAH.out (by omega)
      generalize l[j - 1]'(by omega) = z at *
      generalize l[j] = x at *
      obtain ⟨x1, x2⟩ := x
      obtain ⟨z1, z2⟩ := z
      simp only [Cmp.eV] at a0 a1 HN HX HC RB HO HP HP0
      obtain ⟨p0, p1⟩ := HP0
      have w1 : IntKind.i64.wrap ((j : Int) + 1) = (j : Int) + 1 := IntWalk.i64_in _ (by omega)
      have d1 : (j : Int) < (L : Int) := by omega
      generalize mk x1 = X1 at *
      generalize mk z1 = Z1 at *
      generalize mk y = Y at *
      generalize ahd (z1, z2) (x1, x2) = ab at *
      generalize scOk x2 = b at *
      clear HAH
      obtain ⟨V, hV⟩ : ∃ V, V = wr.alloc (.cells #[.string X1, .int .i64 x2] 50) := ⟨_, rfl⟩
      have bV : Below wr.heap.size wr V := by rw [hV]; exact FRow.bnew wr _
      have v0 : V.heap[wr.heap.size]? = some (.cells #[.string X1, .int .i64 x2] 50 (0, 0)) := by rw [hV]; exact heap_alloc_new wr _
      have HV := hid_of hV
      have HBV := hid_of bV
      have HV0 := hid_of v0
      have HQ : Hid (∀ m, Calls Try.prog 102 #[.int .i64 x2] (V.drewN m) fun e w' => e = .returned (.bool b) ∧ ∃ q, w' = V.drewN q) := hid_of fun m => (HC.out (V.drewN m)).mono fun e w' ⟨h1, h2⟩ => ⟨h1, m, h2⟩
      obtain ⟨⟨t0, t1⟩, tz⟩ := box2 v0
      have hcl2 := FRow.cell_on bV hcl
      have hfz2 := (rw_below R.out.1 bV).frozen j
      have q0 := FRow.cell_on bV p0
      have q1 := FRow.cell_on bV p1
      clear v0 bV hV
      cases b
      · have HZ := hid_of (HX.out (by rw [HO.out]; rfl))
        clear HX HN HO HP HC
        go_wp2_with fail
        rw [← HV.out]
        go_quiet (first | exact (HQ.out _).mono fun _ _ h => h)
        go_wp2_with fail
        go_ret
        exact ⟨ret_b HZ.out.symm, FRow.bdrew (FRow.bel R.out.2 HBV.out (Nat.le_refl _)) nq⟩
      · by_cases h0 : j = 0
        · have h00 : decide ((0 : Int) < (j : Int)) = false := decide_eq_false (by omega)
          have h01 : decide (0 < j) = false := decide_eq_false (by omega)
          have HZ := hid_of (HN.out (by rw [HO.out, h0]; rfl))
          clear HX HN HO HP HC p0 p1 q0 q1 h0
          go_wp2_with fail
          rw [← HV.out]
          go_quiet (first | exact (HQ.out _).mono fun _ _ h => h)
          go_wp2_with fail
          go_roundg g'
          case measure => omega
          case rel => exact ⟨j + 1, by omega, by omega, by simp, HZ, hid_of (RB.out _ (FRow.bdrew HBV.out nq))⟩
        · have h00 : decide ((0 : Int) < (j : Int)) = true := decide_eq_true (by omega)
          have h01 : decide (0 < j) = true := decide_eq_true (by omega)
          have hj0 : (j == 0) = false := by simpa using h0
          have wz : IntKind.i64.wrap ((j : Int) - 1) = ((j - 1 : Nat) : Int) := by rw [show ((j - 1 : Nat) : Int) = (j : Int) - 1 by omega]; exact IntWalk.i64_in _ (by omega)
          have ix : j - 1 < L := by omega
          have HO2 := hid_of (HO.out.trans (by rw [hj0]; rfl : _ = ab))
          clear HO hj0 p0 p1
          go_wp2_with fail
          rw [← HV.out]
          go_region_held3 (fun W => W.cell? ⟨wr.heap.size, 0, none⟩ = some (.string X1) ∧ W.cell? ⟨wr.heap.size, 1, none⟩ = some (.int .i64 x2) ∧ W.cell? ⟨ga, oa + (j - 1) * 2, none⟩ = some (.string Z1) ∧ W.cell? ⟨ga, oa + (j - 1) * 2 + 1, none⟩ = some (.int .i64 z2)) (first | exact ⟨t0, t1, q0, q1⟩ | exact ⟨FRow.cell_on hw3 t0, FRow.cell_on hw3 t1, FRow.cell_on hw3 q0, FRow.cell_on hw3 q1⟩) (first
            | (go_at_call 102; refine (HC.out _).mono ?_; rintro e w2 ⟨rfl, hw2⟩; rw [hw2]; clear hw2 w2)
            | (go_at_call 103; refine (HP.out _).mono ?_; rintro e w3 ⟨rfl, hw3⟩))
          have HB3 := hid_of (show Below V.heap.size V w3 from ⟨hw3.os, hw3.tape, hw3.output, hw3.size, hw3.block⟩)
          clear hw3
          have hB := FRow.bel HBV.out HB3.out (Nat.le_refl _)
          have y0 := FRow.cell_on HB3.out t0
          have y1 := FRow.cell_on HB3.out t1
          have hcl3 := FRow.cell_on HB3.out hcl2
          have hfz3 := (rw_below R.out.1 hB).frozen j
          have HB4 := hid_of hB
          clear hB t0 t1 q0 q1 hcl2 hfz2 a0 a1 HP HC HQ
          cases ab
          · have HZ := hid_of (HX.out HO2.out)
            clear HX HN HO2
            go_wp2_with fail
            go_ret
            exact ⟨ret_b HZ.out.symm, FRow.bel R.out.2 HB4.out (Nat.le_refl _)⟩
          · have HZ := hid_of (HN.out HO2.out)
            clear HX HN HO2
            go_wp2_with fail
            go_roundg g'
            case measure => omega
            case rel => exact ⟨j + 1, by omega, by omega, by simp, HZ, hid_of (RB.out _ HB4.out)⟩
    · obtain rfl : j = L := by omega
      have d1 : ¬ (j : Int) < (j : Int) := by omega
      have rl : RW w.heap.size wr w.heap.size j (enames l) := by
        have := R.out.1
        rw [HL.out, pnm_all, ← HL.out] at this
        exact this
      have hfl : (enames l).length = j := by rw [HL.out]; exact List.length_map _
      have nl := rl.nr
      rw [hfl] at nl
      have hsm : Sml (enames l) := fun x hx => by obtain ⟨p, hp, rfl⟩ := List.mem_map.1 hx; exact HS.out p hp
      have HC := hid_of (list_call nl.sl (by rw [hfl]; omega) hsm)
      have HOf := hid_of (Of.of_call nl.sl (by rw [hfl]; omega))
      have HT : Hid (rankOk l = (lOk (enames l) && (((S (enames l)).length : Int) == (j : Int)))) := hid_of (by
        unfold rankOk
        rw [ord_yes fun i hi => HA.out i (by have := HL.out; omega), Bool.true_and, ← HL.out]
        congr 1
        rw [Bool.eq_iff_iff]
        simp
        omega)
      clear rl nl hfl HA hsm
      generalize lOk (enames l) = b at *
      go_wp2_with fail
      refine HC.out.mono ?_
      rintro e w2 ⟨rfl, hw2⟩
      rw [hw2]
      clear hw2 w2 HC
      cases b
      · go_wp2_with fail
        go_ret
        exact ⟨ret_b (by rw [HT.out]; rfl), R.out.2⟩
      · go_wp2_with fail
        refine HOf.out.mono ?_
        rintro e w2 ⟨r2, rfl, n2, b2⟩
        obtain ⟨ra, rc, rfl, _⟩ := n2.shape
        have B2 := hid_of (FRow.bel R.out.2 b2 (Nat.le_refl _))
        clear b2 n2
        generalize (S (enames l)).length = M at *
        cases he : ((M : Int) == (j : Int))
        · have HT2 := hid_of HT.out
          rw [he] at HT2
          clear HT
          go_wp2_with fail
          go_ret
          exact ⟨ret_b HT2.out.symm, B2.out⟩
        · have HT2 := hid_of HT.out
          rw [he] at HT2
          clear HT
          go_wp2_with fail
          go_ret
          exact ⟨ret_b HT2.out.symm, B2.out⟩
end Go.Proofs.Ytdcnkdkhanmklaa.MayR
