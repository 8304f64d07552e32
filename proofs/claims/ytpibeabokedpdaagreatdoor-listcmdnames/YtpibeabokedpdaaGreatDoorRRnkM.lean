/- The document's Ahead and ranked. A list's cell. The document's Check. The document's Check. -/
import Derived.Test.YtpibeabokedpdaaGreatDoorQCmdM
import Derived.Test.YtpibeabokedpdaaGreatDoorMayM
import Derived.Test.YtpibeabokedpdaaGreatDoorEqualM
section
namespace Go.Proofs.YtpibeabokedpdaaGreatDoor.RRnk
open Go.RowKit Go.Maps
open Go.Proofs.YtpibeabokedpdaaGreatDoor.SetMath
open Go.Proofs.YtpibeabokedpdaaGreatDoor.ValueMath
open Go.Proofs.YtpibeabokedpdaaGreatDoor.Base
open Go.Proofs.YtpibeabokedpdaaGreatDoor.Vals
open Go.Proofs.YtpibeabokedpdaaGreatDoor.May
open Go.Proofs.YtpibeabokedpdaaGreatDoor.MayR
open Go.Proofs.YtpibeabokedpdaaGreatDoor.Cmp (eV)
set_option linter.unusedVariables false
set_option linter.unusedSimpArgs false

set_option maxHeartbeats 2000000 in
set_option maxRecDepth 100000 in
theorem ahead_call (a b : Bs × Int) (w : World) : Calls Tryz.prog 176 #[eV a, eV b] w fun e w' => e = .returned (.bool (ahd a b)) ∧ Below w.heap.size w w' := by
  obtain ⟨a1, a2⟩ := a
  obtain ⟨b1, b2⟩ := b
  have ll := str_lt a1 b1
  unfold eV ahd
  simp only
  generalize decide (a1 < b1) = d at *
  generalize mk a1 = X at *
  generalize mk b1 = Y at *
  by_cases h1 : a2 < b2
  · go_enter Tryz.func176, Tryz.ntmps176
    go_wp2
    go_ret
    exact ⟨ret_b (by simp [h1]), FRow.bel (FRow.bnew w _) (FRow.bnew _ _) (Nat.le_refl _)⟩
  · by_cases h2 : a2 = b2
    · subst h2
      have e2 : (a2 == a2) = true := by simp
      cases d
      · go_enter Tryz.func176, Tryz.ntmps176
        go_wp2
        go_ret
        exact ⟨ret_b (by simp), FRow.bel (FRow.bnew w _) (FRow.bnew _ _) (Nat.le_refl _)⟩
      · go_enter Tryz.func176, Tryz.ntmps176
        go_wp2
        go_ret
        exact ⟨ret_b (by simp), FRow.bel (FRow.bnew w _) (FRow.bnew _ _) (Nat.le_refl _)⟩
    · have e2 : (a2 == b2) = false := by simpa using h2
      go_enter Tryz.func176, Tryz.ntmps176
      go_wp2
      go_ret
      exact ⟨ret_b (by simp [h1, h2]), FRow.bel (FRow.bnew w _) (FRow.bnew _ _) (Nat.le_refl _)⟩
def rAt (l : EL) (k : Nat) : Bool := match l[k]? with
  | none => true
  | some e => tOk e.1 && okAt l k
def rAll (l : EL) : Bool := (List.range l.length).all (rAt l)
theorem rAt_at {l : EL} {k : Nat} (hk : k < l.length) : rAt l k = (tOk l[k].1 && (decide (-9007199254740992 ≤ l[k].2) && (decide (l[k].2 ≤ 9007199254740992) && (k == 0 || ahd (l[k - 1]'(by omega)) l[k])))) := by
  unfold rAt
  rw [List.getElem?_eq_getElem hk]
  simp only
  rw [okAt_at hk]
  unfold scOk
  rw [Bool.and_assoc]
theorem rAll_no {l : EL} {k : Nat} (hk : k < l.length) (h : rAt l k = false) : rAll l = false := by
  unfold rAll
  cases e : (List.range l.length).all (rAt l)
  · rfl
  · rw [List.all_eq_true.1 e k (List.mem_range.2 hk)] at h
    cases h
theorem rAll_yes {l : EL} (h : ∀ j, j < l.length → rAt l j = true) : rAll l = true := List.all_eq_true.2 fun j hj => h j (List.mem_range.1 hj)
def rkd (l : EL) : Bool := rAll l && ((S (enames l)).length == l.length)
theorem rkd_rank {l : EL} (h : 0 < l.length) : rkd l = rankOk l := by
  unfold rkd rankOk
  have e : rAll l = (ordB l && lOk (enames l)) := by
    rw [Bool.eq_iff_iff]
    unfold rAll ordB lOk
    simp only [Bool.and_eq_true, List.all_eq_true, decide_eq_true_eq, List.mem_range]
    constructor
    · intro q
      refine ⟨fun j hj => ?_, fun t ht => ?_, by unfold enames; simpa using h⟩
      · have := q j hj
        unfold rAt at this
        rw [List.getElem?_eq_getElem hj] at this
        simp only [Bool.and_eq_true] at this
        exact this.2
      · obtain ⟨p, hp, rfl⟩ := List.mem_map.1 ht
        obtain ⟨j, hj, rfl⟩ := List.getElem_of_mem hp
        have := q j hj
        unfold rAt at this
        rw [List.getElem?_eq_getElem hj] at this
        simp only [Bool.and_eq_true] at this
        exact this.1
    · rintro ⟨h1, h2, _⟩ j hj
      unfold rAt
      rw [List.getElem?_eq_getElem hj]
      simp only [Bool.and_eq_true]
      exact ⟨h2 _ (List.mem_map.2 ⟨l[j], List.getElem_mem hj, rfl⟩), h1 j hj⟩
  rw [e]
theorem en_take (l : EL) (j : Nat) (h : j < l.length) : enames (l.take j) ++ [l[j].1] = enames (l.take (j + 1)) := by
  unfold enames
  rw [List.take_succ_eq_append_getElem h, List.map_append]
  rfl
set_option maxHeartbeats 8000000 in
set_option maxRecDepth 100000 in
theorem ranked_call {w : World} {v : Value} {l : EL} (h : ERow.FS w v l) (hb : l.length * 24 ≤ 140737488355328) (hs : Rok l) :
    Calls Tryz.prog 147 #[v] w fun e w' => e = .returned (.bool (rkd l)) ∧ Below w.heap.size w w' := by
  have HF := hid_of h
  have HS := hid_of hs
  obtain ⟨a, c, rfl, hc, hr⟩ := h
  obtain ⟨L, HL⟩ : ∃ L, Hid (L = List.length l) := ⟨_, hid_of rfl⟩
  rw [← HL.out] at hb hc HF ⊢
  clear hr hs hc
  go_enter Tryz.func147, Tryz.ntmps147
  go_wp2_with fail
  go_loopg [3, 4] L (fun g s3 s4 wx => ∃ (j : Nat) (ra : Option Addr) (rc : Nat), j ≤ L ∧ L ≤ j + g ∧ s3 = .slice ra j rc ∧ s4 = .int .i64 (j : Int) ∧ Hid (∀ i, i < j → rAt l i = true) ∧ Hid (NR w.heap.size wx (.slice ra j rc) (enames (l.take j)) ∧ Below w.heap.size w wx))
  case atStart => exact ⟨0, none, 0, by omega, by omega, rfl, rfl, hid_of (fun i hi => by omega), hid_of ⟨.inl ⟨rfl, rfl⟩, Below.refl _ _⟩⟩
  case round =>
    obtain ⟨j, ra, rc, hj, hg, rfl, rfl, HA, R⟩ := hrel
    by_cases hlt : j < L
    · obtain ⟨g', rfl⟩ : ∃ g', gk = g' + 1 := ⟨gk - 1, by omega⟩
      have hjl : j < List.length l := by rw [← HL.out]; exact hlt
      obtain ⟨ga, oa, rfl, ha⟩ := ERow.FS.at (HF.out.below R.out.2) hjl
      obtain ⟨a0, a1⟩ := ha j hjl
      obtain ⟨p0, p1⟩ := ha (j - 1) (by omega)
      clear ha
      have HO := hid_of (rAt_at hjl)
      have HN : Hid (rAt l j = true → ∀ i, i < j + 1 → rAt l i = true) := hid_of fun q i hi => by
        by_cases e : i = j
        · subst e; exact q
        · exact HA.out i (by omega)
      have HX : Hid (rAt l j = false → rkd l = false) := hid_of fun q => by unfold rkd; rw [rAll_no hjl q]; rfl
      have HP := hid_of (fun W => ahead_call (l[j - 1]'(by omega)) l[j] W)
      have htl : (enames (l.take j)).length = j := by unfold enames; rw [List.length_map, List.length_take]; omega
      have HAP : Hid (∀ W, Below wr.heap.size wr W → ∃ ra' rc' w', (Builtin.append_ #[22, 22] 22 #[.slice ra j rc, .slice (some ⟨W.heap.size, 0, none⟩) 1 1]).run Tryz.prog (W.alloc (.cells #[.string (mk l[j].1)] 9)) = .ok (.slice ra' (j + 1) rc') w' ∧ Hid (NR w.heap.size w' (.slice ra' (j + 1) rc') (enames (l.take (j + 1))) ∧ Below w.heap.size w w')) := hid_of fun W hW => by
        obtain ⟨v', w', q1, q2, q3⟩ := app_one l[j].1 (R.out.1.below hW) (by rw [htl]; omega) (Nat.le_trans R.out.2.size hW.size) 22
        obtain ⟨ra', rc', e, _⟩ := q2.shape
        rw [en_take l j hjl] at q2 e
        have hl2 : (enames (l.take (j + 1))).length = j + 1 := by unfold enames; rw [List.length_map, List.length_take]; omega
        rw [hl2] at e
        rw [e] at q1 q2
        exact ⟨ra', rc', w', q1, q2, (FRow.bel R.out.2 hW (Nat.le_refl _)).trans q3⟩
      generalize l[j - 1]'(by omega) = z at *
      generalize l[j] = x at *
      obtain ⟨x1, x2⟩ := x
      obtain ⟨z1, z2⟩ := z
      simp only [eV] at a0 a1 HN HX HO p0 p1 HP HAP
      have w1 : IntKind.i64.wrap ((j : Int) + 1) = (j : Int) + 1 := IntWalk.i64_in _ (by omega)
      have d1 : (j : Int) < (L : Int) := by omega
      have m1 := mk_size x1
      have k1 : decide ((1048576 : Int) < ((mk x1).size : Int)) = !tOk x1 := by unfold tOk; rw [m1, Bool.eq_iff_iff]; simp; omega
      have k2 : decide (x2 < -9007199254740992) = !decide (-9007199254740992 ≤ x2) := by rw [Bool.eq_iff_iff]; simp
      have k3 : decide ((9007199254740992 : Int) < x2) = !decide (x2 ≤ 9007199254740992) := by rw [Bool.eq_iff_iff]; simp
      clear m1 htl
      generalize mk x1 = X1 at *
      generalize mk z1 = Z1 at *
      generalize tOk x1 = b1 at *
      generalize decide (-9007199254740992 ≤ x2) = b2 at *
      generalize decide (x2 ≤ 9007199254740992) = b3 at *
      generalize ahd (z1, z2) (x1, x2) = b4 at *
      cases b1
      · have HZ := hid_of (HX.out (by rw [HO.out]; rfl))
        simp only [Bool.not_false] at k1
        clear HX HN HO k2 k3 HP HAP p0 p1
        go_wp2_with fail
        go_quiet (fail)
        go_wp2_with fail
        go_ret
        exact ⟨ret_b HZ.out.symm, FRow.bdrew R.out.2 nq⟩
      · simp only [Bool.not_true] at k1
        cases b2
        · have HZ := hid_of (HX.out (by rw [HO.out]; rfl))
          simp only [Bool.not_false] at k2
          clear HX HN HO k3 HP HAP p0 p1
          go_wp2_with fail
          go_quiet (fail)
          go_wp2_with fail
          go_ret
          exact ⟨ret_b HZ.out.symm, FRow.bdrew R.out.2 nq⟩
        · simp only [Bool.not_true] at k2
          cases b3
          · have HZ := hid_of (HX.out (by rw [HO.out]; rfl))
            simp only [Bool.not_false] at k3
            clear HX HN HO HP HAP p0 p1
            go_wp2_with fail
            go_quiet (fail)
            go_wp2_with fail
            go_ret
            exact ⟨ret_b HZ.out.symm, FRow.bdrew R.out.2 nq⟩
          · simp only [Bool.not_true] at k3
            by_cases h0 : j = 0
            · have h00 : decide ((0 : Int) < (j : Int)) = false := decide_eq_false (by omega)
              have h01 : decide (0 < j) = false := decide_eq_false (by omega)
              have HZ := hid_of (HN.out (by rw [HO.out, h0]; rfl))
              clear HX HN HO HP p0 p1 h0
              go_wp2_with fail
              go_quiet (fail)
              obtain ⟨ra', rc', w', hrun, RS⟩ := HAP.out (wr.drewN nq) (bel_drewN wr nq)
              clear HAP
              go_wp2_with (at_builtin; refine wpl_eq rfl _ _ 22 22 rfl (.slice ra j rc) (.slice (some ⟨wr.heap.size, 0, none⟩) 1 1) (.slice ra' (j + 1) rc') _ w' rfl rfl hrun ?_)
              go_roundg g'
              case measure => omega
              case rel => exact ⟨j + 1, ra', rc', by omega, by omega, rfl, by simp, HZ, RS⟩
            · have h00 : decide ((0 : Int) < (j : Int)) = true := decide_eq_true (by omega)
              have h01 : decide (0 < j) = true := decide_eq_true (by omega)
              have wz : IntKind.i64.wrap ((j : Int) - 1) = ((j - 1 : Nat) : Int) := by rw [show ((j - 1 : Nat) : Int) = (j : Int) - 1 by omega]; exact IntWalk.i64_in _ (by omega)
              have hj0 : (j == 0) = false := by simpa using h0
              have ix : j - 1 < L := by omega
              have HO2 := hid_of (HO.out.trans (by rw [hj0]; rfl : _ = b4))
              clear HO hj0 h0
              go_wp2_with fail
              go_region_held3 (fun W => W.cell? ⟨ga, oa + j * 2, none⟩ = some (.string X1) ∧ W.cell? ⟨ga, oa + j * 2 + 1, none⟩ = some (.int .i64 x2) ∧ W.cell? ⟨ga, oa + (j - 1) * 2, none⟩ = some (.string Z1) ∧ W.cell? ⟨ga, oa + (j - 1) * 2 + 1, none⟩ = some (.int .i64 z2)) (first | exact ⟨a0, a1, p0, p1⟩ | exact ⟨FRow.cell_on hw3 a0, FRow.cell_on hw3 a1, FRow.cell_on hw3 p0, FRow.cell_on hw3 p1⟩)
                (first | (go_at_call 176; refine (HP.out _).mono ?_; rintro e w3 ⟨rfl, hw3⟩))
              have HB3 := hid_of (show Below wr.heap.size wr w3 from ⟨hw3.os, hw3.tape, hw3.output, hw3.size, hw3.block⟩)
              clear hw3
              have y0 := FRow.cell_on HB3.out a0
              have y1 := FRow.cell_on HB3.out a1
              clear a0 a1 p0 p1 HP
              cases b4
              · have HZ := hid_of (HX.out HO2.out)
                clear HX HN HO2 HAP
                go_wp2_with fail
                go_ret
                exact ⟨ret_b HZ.out.symm, FRow.bel R.out.2 HB3.out (Nat.le_refl _)⟩
              · have HZ := hid_of (HN.out HO2.out)
                obtain ⟨ra', rc', w', hrun, RS⟩ := HAP.out w3 HB3.out
                clear HX HN HO2 HAP
                go_wp2_with (at_builtin; refine wpl_eq rfl _ _ 22 22 rfl (.slice ra j rc) (.slice (some ⟨w3.heap.size, 0, none⟩) 1 1) (.slice ra' (j + 1) rc') _ w' rfl rfl hrun ?_)
                go_roundg g'
                case measure => omega
                case rel => exact ⟨j + 1, ra', rc', by omega, by omega, rfl, by simp, HZ, RS⟩
    · obtain rfl : j = L := by omega
      have d1 : ¬ (j : Int) < (j : Int) := by omega
      have hfl : (enames l).length = j := by rw [HL.out]; exact List.length_map _
      have nl : NR w.heap.size wr (.slice ra j rc) (enames l) := by
        have := R.out.1
        rw [List.take_of_length_le (by have := HL.out; omega)] at this
        exact this
      have HOf := hid_of (ROf.rof_call nl.sl (by rw [hfl]; omega))
      have HT : Hid (rkd l = (((S (enames l)).length : Int) == (j : Int))) := hid_of (by
        unfold rkd
        rw [rAll_yes fun i hi => HA.out i (by have := HL.out; omega), Bool.true_and, ← HL.out]
        rw [Bool.eq_iff_iff]
        simp
        omega)
      clear nl hfl HA
      go_wp2_with fail
      refine HOf.out.mono ?_
      rintro e w2 ⟨r2, rfl, n2, b2⟩
      obtain ⟨ra2, rc2, rfl, _⟩ := n2.shape
      have B2 := hid_of (FRow.bel R.out.2 b2 (Nat.le_refl _))
      clear b2 n2
      generalize (S (enames l)).length = M at *
      cases he : ((M : Int) == (j : Int))
      · have HT2 := hid_of HT.out
        rw [he] at HT2
        clear HT
        go_wp2_with fail
        go_ret
        exact ⟨ret_b HT2.out.symm, B2.out⟩
      · have HT2 := hid_of HT.out
        rw [he] at HT2
        clear HT
        go_wp2_with fail
        go_ret
        exact ⟨ret_b HT2.out.symm, B2.out⟩
end Go.Proofs.YtpibeabokedpdaaGreatDoor.RRnk
end
section
namespace Go.Proofs.YtpibeabokedpdaaGreatDoor.Write
open Go.RowKit Go.Maps
open Go.Proofs.YtpibeabokedpdaaGreatDoor.SetMath
open Go.Proofs.YtpibeabokedpdaaGreatDoor.Base
open Go.Proofs.YtpibeabokedpdaaGreatDoor.Vals
set_option linter.unusedVariables false
set_option linter.unusedSimpArgs false
theorem sl_at {G : Nat → Prop} {w : World} {a : Option Addr} {L c : Nat} {l : List El} (h : SL G w (.slice a L c) l) {j : Nat} (hj : j < l.length) : ∃ g o, a = some ⟨g, o, none⟩ ∧ w.cell? ⟨g, o + j, none⟩ = some (.string (mk l[j])) := by
  obtain ⟨a1, c1, e, _, hr⟩ := h
  injection e with e1 _ _
  subst e1
  obtain ⟨g, o, rfl, _, q⟩ := Rd.get hr (by omega)
  exact ⟨g, o, rfl, q j _ (List.getElem?_eq_getElem hj)⟩
end Go.Proofs.YtpibeabokedpdaaGreatDoor.Write
end
section
namespace Go.Proofs.YtpibeabokedpdaaGreatDoor.RCheck0
open Go.RowKit Go.Maps
open Go.Proofs.YtpibeabokedpdaaGreatDoor.SetMath
open Go.Proofs.YtpibeabokedpdaaGreatDoor.ValueMath
open Go.Proofs.YtpibeabokedpdaaGreatDoor.Base
open Go.Proofs.YtpibeabokedpdaaGreatDoor.Vals
open Go.Proofs.YtpibeabokedpdaaGreatDoor.Check0
open Go.Proofs.YtpibeabokedpdaaGreatDoor.May
open Go.Proofs.YtpibeabokedpdaaGreatDoor.MayR
open Go.Proofs.YtpibeabokedpdaaGreatDoor.RChk
open Go.Proofs.YtpibeabokedpdaaGreatDoor.RRnk
set_option linter.unusedVariables false
set_option linter.unusedSimpArgs false
def rcB (k : Int) (bL bt bl bf br em va fo ro al : Bool) : Int := if (bL || (bt && k != 1) || (bl && k != 2 && k != 4) || (bf && k != 3) || (br && k != 5)) then 131 else if (em || (k == 4 && !va) || !fo || !ro || !al) then 131 else 0
theorem ret_i {a b : Int} (h : a = b) : Ending.returned (.int .i64 a) = .returned (.int .i64 b) := by rw [h]

end Go.Proofs.YtpibeabokedpdaaGreatDoor.RCheck0
end
section
namespace Go.Proofs.YtpibeabokedpdaaGreatDoor.RCheckK1
open Go.RowKit Go.Maps
open Go.Proofs.YtpibeabokedpdaaGreatDoor.SetMath
open Go.Proofs.YtpibeabokedpdaaGreatDoor.ValueMath
open Go.Proofs.YtpibeabokedpdaaGreatDoor.Base
open Go.Proofs.YtpibeabokedpdaaGreatDoor.Vals
open Go.Proofs.YtpibeabokedpdaaGreatDoor.Check0
open Go.Proofs.YtpibeabokedpdaaGreatDoor.May
open Go.Proofs.YtpibeabokedpdaaGreatDoor.MayR
open Go.Proofs.YtpibeabokedpdaaGreatDoor.RChk
open Go.Proofs.YtpibeabokedpdaaGreatDoor.RRnk
open Go.Proofs.YtpibeabokedpdaaGreatDoor.RCheck0
set_option linter.unusedVariables false
set_option linter.unusedSimpArgs false

set_option maxHeartbeats 8000000 in
set_option maxRecDepth 100000 in
theorem rraw1 (X : ByteArray) (aa ba ca : Option Addr) (an bn cn ac bc cc : Nat) (l : List Bs) (bL bt bl bf br em va fo ro : Bool) (w : World) (han : an ≤ 140737488355328) (HLn : Hid (l.length = an))
    (hL : decide ((1048576 : Int) < (X.size : Int)) = bL) (ht : X.toList.isEmpty = !bt) (ha : decide ((0 : Int) < (an : Int)) = bl) (hb : decide ((0 : Int) < (bn : Int)) = bf) (hc : decide ((0 : Int) < (cn : Int)) = br) (ha' : decide (0 < an) = bl) (hb' : decide (0 < bn) = bf) (hc' : decide (0 < cn) = br)
    (HSL : Hid (∀ W, Below w.heap.size w W → SL TT W (.slice aa an ac) l))
    (HEm : Hid (∀ W, Below w.heap.size w W → Calls Tryz.prog 144 #[.agg #[.int .i64 1, .string X, .slice aa an ac, .slice ba bn bc, .slice ca cn cc]] W fun e w' => e = .returned (.bool em) ∧ Below W.heap.size W w'))
    (HVa : Hid (∀ W, Below w.heap.size w W → Calls Tryz.prog 145 #[.slice aa an ac] W fun e w' => e = .returned (.bool va) ∧ Below W.heap.size W w'))
    (HFo : Hid (∀ W, Below w.heap.size w W → Calls Tryz.prog 146 #[.slice ba bn bc] W fun e w' => e = .returned (.bool fo) ∧ Below W.heap.size W w'))
    (HRo : Hid (∀ W, Below w.heap.size w W → Calls Tryz.prog 147 #[.slice ca cn cc] W fun e w' => e = .returned (.bool ro) ∧ Below W.heap.size W w')) :
    Calls Tryz.prog 103 #[.agg #[.int .i64 1, .string X, .slice aa an ac, .slice ba bn bc, .slice ca cn cc]] w fun e w' => e = .returned (.int .i64 (rcB 1 bL bt bl bf br em va fo ro (l.all tOk))) ∧ Below w.heap.size w w' := by
  obtain ⟨V, hV⟩ : ∃ V, V = w.alloc (.cells #[.int .i64 1, .string X, .slice aa an ac, .slice ba bn bc, .slice ca cn cc] 40) := ⟨_, rfl⟩
  have bV : Below w.heap.size w V := by rw [hV]; exact FRow.bnew w _
  have v0 : V.heap[w.heap.size]? = some (.cells #[.int .i64 1, .string X, .slice aa an ac, .slice ba bn bc, .slice ca cn cc] 40 (0, 0)) := by rw [hV]; exact heap_alloc_new w _
  have HV := hid_of hV
  have BBV := hid_of bV
  have BVV := hid_of (Below.refl V.heap.size V)
  have HX := hid_of fun (W : World) (hW : Below V.heap.size V W) => box5 ((hW.block _ (lt_of v0)).trans v0)
  obtain ⟨⟨c0, c1, c2, c3, c4⟩, _⟩ := box5 v0
  clear v0 bV hV
  go_enter Tryz.func103, Tryz.ntmps103
  cases bL
  · cases bt
    · cases bl
      · cases bf
        · cases br
          · go_wp2_with fail
            rw [← HV.out]
            refine (HEm.out V BBV.out).mono ?_
            rintro e w1 ⟨rfl, bb⟩
            have BVw1 := hid_of (FRow.bel BVV.out bb (Nat.le_refl _))
            have BBw1 := hid_of (FRow.bel BBV.out bb (Nat.le_refl _))
            clear c0 c1 c2 c3 c4
            obtain ⟨⟨c0, c1, c2, c3, c4⟩, _⟩ := HX.out w1 BVw1.out
            clear bb HEm
            cases em
            · go_wp2_with fail
              refine (HFo.out w1 BBw1.out).mono ?_
              rintro e w3 ⟨rfl, bb⟩
              have BVw3 := hid_of (FRow.bel BVw1.out bb (Nat.le_refl _))
              have BBw3 := hid_of (FRow.bel BBw1.out bb (Nat.le_refl _))
              clear c0 c1 c2 c3 c4
              obtain ⟨⟨c0, c1, c2, c3, c4⟩, _⟩ := HX.out w3 BVw3.out
              clear bb HFo
              cases fo
              · go_wp2_with fail
                go_ret
                exact ⟨ret_i (by first | rfl | simp [rcB]), BBw3.out⟩
              · go_wp2_with fail
                refine (HRo.out w3 BBw3.out).mono ?_
                rintro e w5 ⟨rfl, bb⟩
                have BVw5 := hid_of (FRow.bel BVw3.out bb (Nat.le_refl _))
                have BBw5 := hid_of (FRow.bel BBw3.out bb (Nat.le_refl _))
                clear c0 c1 c2 c3 c4
                obtain ⟨⟨c0, c1, c2, c3, c4⟩, _⟩ := HX.out w5 BVw5.out
                clear bb HRo
                cases ro
                · go_wp2_with fail
                  go_ret
                  exact ⟨ret_i (by first | rfl | simp [rcB]), BBw5.out⟩
                · go_wp2_with fail
                  go_loopg [3] an (fun g s3 wx => ∃ j : Nat, j ≤ an ∧ an ≤ j + g ∧ s3 = .int .i64 (j : Int) ∧ Hid ((l.take j).all tOk = true) ∧ wx = w5)
                  case atStart => exact ⟨0, by omega, by omega, rfl, hid_of rfl, rfl⟩
                  case round =>
                    obtain ⟨j, hj, hg, rfl, HAA, hwx⟩ := hrel
                    by_cases hlt : j < an
                    · obtain ⟨g', rfl⟩ : ∃ g', gk = g' + 1 := ⟨gk - 1, by omega⟩
                      have hjl : j < l.length := by rw [HLn.out]; exact hlt
                      obtain ⟨g1, o1, rfl, c9⟩ := Write.sl_at (HSL.out w5 BBw5.out) hjl
                      have HN := hid_of (fun q => all_take (p := tOk) hjl HAA.out q)
                      have HF := hid_of (fun q => all_no (p := tOk) hjl q)
                      have m1 := mk_size l[j]
                      have k1 : decide ((1048576 : Int) < ((mk l[j]).size : Int)) = !tOk l[j] := by unfold tOk; rw [m1, Bool.eq_iff_iff]; simp; omega
                      clear m1
                      generalize l[j] = x at *
                      generalize mk x = X9 at *
                      have w1' : IntKind.i64.wrap ((j : Int) + 1) = (j : Int) + 1 := IntWalk.i64_in _ (by omega)
                      have d1 : (j : Int) < (an : Int) := by omega
                      generalize tOk x = b at *
                      rw [hwx]
                      clear hwx
                      cases b
                      · have HZ := hid_of (HF.out rfl)
                        simp only [Bool.not_false] at k1
                        have k1' : (1048576 : Int) < (X9.size : Int) := of_decide_eq_true k1
                        clear HF HN k1
                        go_wp2_with fail
                        go_ret
                        exact ⟨ret_i (by rw [HZ.out]; first | rfl | simp [rcB]), BBw5.out⟩
                      · have HZ := hid_of (HN.out rfl)
                        simp only [Bool.not_true] at k1
                        have k1' : ¬ (1048576 : Int) < (X9.size : Int) := of_decide_eq_false k1
                        clear HF HN k1
                        go_wp2_with fail
                        go_roundg g'
                        case measure => omega
                        case rel => exact ⟨j + 1, by omega, by omega, by simp, HZ, rfl⟩
                    · obtain rfl : j = an := by omega
                      have d1 : ¬ (j : Int) < (j : Int) := by omega
                      have HT : Hid (l.all tOk = true) := hid_of (by
                        have := HAA.out
                        rw [List.take_of_length_le (by have := HLn.out; omega)] at this
                        exact this)
                      rw [hwx]
                      clear hwx
                      go_wp2_with fail
                      go_ret
                      exact ⟨ret_i (by rw [HT.out]; first | rfl | simp [rcB]), BBw5.out⟩
            · go_wp2_with fail
              go_ret
              exact ⟨ret_i (by first | rfl | simp [rcB]), BBw1.out⟩
          · go_wp2_with fail
            go_ret
            exact ⟨ret_i (by first | rfl | simp [rcB]), by rw [← HV.out]; exact BBV.out⟩
        · go_wp2_with fail
          go_ret
          exact ⟨ret_i (by first | rfl | simp [rcB]), by rw [← HV.out]; exact BBV.out⟩
      · go_wp2_with fail
        go_ret
        exact ⟨ret_i (by first | rfl | simp [rcB]), by rw [← HV.out]; exact BBV.out⟩
    · cases bl
      · cases bf
        · cases br
          · go_wp2_with fail
            rw [← HV.out]
            refine (HEm.out V BBV.out).mono ?_
            rintro e w1 ⟨rfl, bb⟩
            have BVw1 := hid_of (FRow.bel BVV.out bb (Nat.le_refl _))
            have BBw1 := hid_of (FRow.bel BBV.out bb (Nat.le_refl _))
            clear c0 c1 c2 c3 c4
            obtain ⟨⟨c0, c1, c2, c3, c4⟩, _⟩ := HX.out w1 BVw1.out
            clear bb HEm
            cases em
            · go_wp2_with fail
              refine (HFo.out w1 BBw1.out).mono ?_
              rintro e w3 ⟨rfl, bb⟩
              have BVw3 := hid_of (FRow.bel BVw1.out bb (Nat.le_refl _))
              have BBw3 := hid_of (FRow.bel BBw1.out bb (Nat.le_refl _))
              clear c0 c1 c2 c3 c4
              obtain ⟨⟨c0, c1, c2, c3, c4⟩, _⟩ := HX.out w3 BVw3.out
              clear bb HFo
              cases fo
              · go_wp2_with fail
                go_ret
                exact ⟨ret_i (by first | rfl | simp [rcB]), BBw3.out⟩
              · go_wp2_with fail
                refine (HRo.out w3 BBw3.out).mono ?_
                rintro e w5 ⟨rfl, bb⟩
                have BVw5 := hid_of (FRow.bel BVw3.out bb (Nat.le_refl _))
                have BBw5 := hid_of (FRow.bel BBw3.out bb (Nat.le_refl _))
                clear c0 c1 c2 c3 c4
                obtain ⟨⟨c0, c1, c2, c3, c4⟩, _⟩ := HX.out w5 BVw5.out
                clear bb HRo
                cases ro
                · go_wp2_with fail
                  go_ret
                  exact ⟨ret_i (by first | rfl | simp [rcB]), BBw5.out⟩
                · go_wp2_with fail
                  go_loopg [3] an (fun g s3 wx => ∃ j : Nat, j ≤ an ∧ an ≤ j + g ∧ s3 = .int .i64 (j : Int) ∧ Hid ((l.take j).all tOk = true) ∧ wx = w5)
                  case atStart => exact ⟨0, by omega, by omega, rfl, hid_of rfl, rfl⟩
                  case round =>
                    obtain ⟨j, hj, hg, rfl, HAA, hwx⟩ := hrel
                    by_cases hlt : j < an
                    · obtain ⟨g', rfl⟩ : ∃ g', gk = g' + 1 := ⟨gk - 1, by omega⟩
                      have hjl : j < l.length := by rw [HLn.out]; exact hlt
                      obtain ⟨g1, o1, rfl, c9⟩ := Write.sl_at (HSL.out w5 BBw5.out) hjl
                      have HN := hid_of (fun q => all_take (p := tOk) hjl HAA.out q)
                      have HF := hid_of (fun q => all_no (p := tOk) hjl q)
                      have m1 := mk_size l[j]
                      have k1 : decide ((1048576 : Int) < ((mk l[j]).size : Int)) = !tOk l[j] := by unfold tOk; rw [m1, Bool.eq_iff_iff]; simp; omega
                      clear m1
                      generalize l[j] = x at *
                      generalize mk x = X9 at *
                      have w1' : IntKind.i64.wrap ((j : Int) + 1) = (j : Int) + 1 := IntWalk.i64_in _ (by omega)
                      have d1 : (j : Int) < (an : Int) := by omega
                      generalize tOk x = b at *
                      rw [hwx]
                      clear hwx
                      cases b
                      · have HZ := hid_of (HF.out rfl)
                        simp only [Bool.not_false] at k1
                        have k1' : (1048576 : Int) < (X9.size : Int) := of_decide_eq_true k1
                        clear HF HN k1
                        go_wp2_with fail
                        go_ret
                        exact ⟨ret_i (by rw [HZ.out]; first | rfl | simp [rcB]), BBw5.out⟩
                      · have HZ := hid_of (HN.out rfl)
                        simp only [Bool.not_true] at k1
                        have k1' : ¬ (1048576 : Int) < (X9.size : Int) := of_decide_eq_false k1
                        clear HF HN k1
                        go_wp2_with fail
                        go_roundg g'
                        case measure => omega
                        case rel => exact ⟨j + 1, by omega, by omega, by simp, HZ, rfl⟩
                    · obtain rfl : j = an := by omega
                      have d1 : ¬ (j : Int) < (j : Int) := by omega
                      have HT : Hid (l.all tOk = true) := hid_of (by
                        have := HAA.out
                        rw [List.take_of_length_le (by have := HLn.out; omega)] at this
                        exact this)
                      rw [hwx]
                      clear hwx
                      go_wp2_with fail
                      go_ret
                      exact ⟨ret_i (by rw [HT.out]; first | rfl | simp [rcB]), BBw5.out⟩
            · go_wp2_with fail
              go_ret
              exact ⟨ret_i (by first | rfl | simp [rcB]), BBw1.out⟩
          · go_wp2_with fail
            go_ret
            exact ⟨ret_i (by first | rfl | simp [rcB]), by rw [← HV.out]; exact BBV.out⟩
        · go_wp2_with fail
          go_ret
          exact ⟨ret_i (by first | rfl | simp [rcB]), by rw [← HV.out]; exact BBV.out⟩
      · go_wp2_with fail
        go_ret
        exact ⟨ret_i (by first | rfl | simp [rcB]), by rw [← HV.out]; exact BBV.out⟩
  · go_wp2_with fail
    go_ret
    exact ⟨ret_i (by first | rfl | simp [rcB]), by rw [← HV.out]; exact BBV.out⟩

end Go.Proofs.YtpibeabokedpdaaGreatDoor.RCheckK1
end
