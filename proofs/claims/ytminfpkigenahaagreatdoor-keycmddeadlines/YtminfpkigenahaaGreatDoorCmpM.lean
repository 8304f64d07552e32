/- The order of entries: cmp.Compare, cmp.Or, inOrder; isScore. Whether a rank may be. contentOf, strayed, checked, Check. A space in memory: its block, its map of entries, its index of deadlines, its mark; what a call may touch. -/
import Derived.Test.YtminfpkigenahaaGreatDoorEqualM
import Derived.Test.YtminfpkigenahaaGreatDoorSpaceMathM
import Derived.Test.YtminfpkigenahaaGreatDoorCallRowSM
section
namespace Go.Proofs.YtminfpkigenahaaGreatDoor.Cmp
open Go.RowKit Go.Maps Go.Sort
open Go.Proofs.YtminfpkigenahaaGreatDoor.SetMath
open Go.Proofs.YtminfpkigenahaaGreatDoor.ValueMath
open Go.Proofs.YtminfpkigenahaaGreatDoor.Base
open Go.Proofs.YtminfpkigenahaaGreatDoor.Vals
set_option linter.unusedVariables false
set_option linter.unusedSimpArgs false
def cmpI (a b : Int) : Int := if a < b then -1 else if b < a then 1 else 0
def cmpB (a b : Bs) : Int := if a < b then -1 else if b < a then 1 else 0
def ltE (a b : Bs × Int) : Prop := a.2 < b.2 ∨ a.2 = b.2 ∧ a.1 < b.1
theorem nan_int (x : Int) (w : World) : Calls Tryz.prog 248 #[.int .i64 x] w fun e w' => e = .returned (.bool false) ∧ w' = w := by
  go_enter Tryz.func248, Tryz.ntmps248
  go_wp2
  go_ret
  exact ⟨by simp, rfl⟩
theorem nan_string (x : ByteArray) (w : World) : Calls Tryz.prog 155 #[.string x] w fun e w' => e = .returned (.bool false) ∧ w' = w := by
  go_enter Tryz.func155, Tryz.ntmps155
  go_wp2
  go_ret
  exact ⟨by simp, rfl⟩
set_option maxHeartbeats 1000000 in
theorem cmp_int (x y : Int) (w : World) : Calls Tryz.prog 245 #[.int .i64 x, .int .i64 y] w fun e w' => e = .returned (.int .i64 (cmpI x y)) ∧ w' = w := by
  have h1 := nan_int x w
  have h2 := nan_int y w
  unfold cmpI
  by_cases hl : x < y
  · rw [if_pos hl]
    go_enter Tryz.func245, Tryz.ntmps245
    go_wp2
    go_ret
    exact ⟨rfl, rfl⟩
  · rw [if_neg hl]
    by_cases hg : y < x
    · rw [if_pos hg]
      go_enter Tryz.func245, Tryz.ntmps245
      go_wp2
      go_ret
      exact ⟨rfl, rfl⟩
    · rw [if_neg hg]
      go_enter Tryz.func245, Tryz.ntmps245
      go_wp2
      go_ret
      exact ⟨rfl, rfl⟩
set_option maxHeartbeats 1000000 in
theorem cmp_str (x y : Bs) (w : World) : Calls Tryz.prog 246 #[.string (mk x), .string (mk y)] w fun e w' => e = .returned (.int .i64 (cmpB x y)) ∧ w' = w := by
  have h1 := nan_string (mk x) w
  have h2 := nan_string (mk y) w
  have l1 := str_lt x y
  have l2 := str_lt y x
  have l3 := str_eq x y
  unfold cmpB
  by_cases hl : x < y
  · rw [if_pos hl]
    rw [decide_eq_true hl] at l1
    clear hl l2 l3
    generalize mk x = X at *
    generalize mk y = Y at *
    go_enter Tryz.func246, Tryz.ntmps246
    go_wp2
    go_ret
    exact ⟨rfl, rfl⟩
  · rw [if_neg hl]
    rw [decide_eq_false hl] at l1
    by_cases hg : y < x
    · rw [if_pos hg]
      rw [decide_eq_true hg] at l2
      rw [show decide (x = y) = false from by simp; rintro rfl; exact hl hg] at l3
      clear hl hg
      generalize mk x = X at *
      generalize mk y = Y at *
      go_enter Tryz.func246, Tryz.ntmps246
      go_wp2
      go_ret
      exact ⟨rfl, rfl⟩
    · rw [if_neg hg]
      rw [decide_eq_false hg] at l2
      rw [show decide (x = y) = true from by simp; rcases lt_tot x y with q | q | q; exact absurd q hl; exact q; exact absurd q hg] at l3
      clear hl hg
      generalize mk x = X at *
      generalize mk y = Y at *
      go_enter Tryz.func246, Tryz.ntmps246
      go_wp2
      go_ret
      exact ⟨rfl, rfl⟩
set_option maxHeartbeats 1000000 in
theorem or_call (x y : Int) (g : Nat) (w : World) (h0 : w.cell? ⟨g, 0, none⟩ = some (.int .i64 x)) (h1 : w.cell? ⟨g, 1, none⟩ = some (.int .i64 y)) : Calls Tryz.prog 244 #[.slice (some ⟨g, 0, none⟩) 2 2] w fun e w' => e = .returned (.int .i64 (if x = 0 then y else x)) ∧ w' = w := by
  by_cases hx : x = 0
  · rw [if_pos hx]
    subst hx
    by_cases hy : y = 0
    · subst hy
      go_enter Tryz.func244, Tryz.ntmps244
      go_wp2
      refine wp_loop_rounds 3 ?_
      rw [rounds_succ]
      go_wp2
      rw [rounds_succ]
      go_wp2
      rw [rounds_succ]
      go_wp2
      go_ret
      exact ⟨rfl, rfl⟩
    · go_enter Tryz.func244, Tryz.ntmps244
      go_wp2
      refine wp_loop_rounds 3 ?_
      rw [rounds_succ]
      go_wp2
      rw [rounds_succ]
      go_wp2
      go_ret
      exact ⟨rfl, rfl⟩
  · rw [if_neg hx]
    go_enter Tryz.func244, Tryz.ntmps244
    go_wp2
    refine wp_loop_rounds 3 ?_
    rw [rounds_succ]
    go_wp2
    go_ret
    exact ⟨rfl, rfl⟩
def cmpE (a b : Bs × Int) : Int := if cmpI a.2 b.2 = 0 then cmpB a.1 b.1 else cmpI a.2 b.2
theorem cmpE_lt (a b : Bs × Int) : cmpE a b < 0 ↔ ltE a b := by
  unfold cmpE cmpI cmpB ltE
  by_cases h1 : a.2 < b.2
  · simp [h1]
  · by_cases h2 : b.2 < a.2
    · simp [h1, h2]; omega
    · have h3 : a.2 = b.2 := by omega
      rw [if_neg h1, if_neg h2, if_pos rfl]
      by_cases h4 : a.1 < b.1
      · simp [h4, h3]
      · rw [if_neg h4]
        by_cases h5 : b.1 < a.1
        · rw [if_pos h5]; simp [h4, h1]
        · rw [if_neg h5]; simp [h4, h1]

def eV (p : Bs × Int) : Value := .agg #[.string (mk p.1), .int .i64 p.2]
theorem ahd_eq (a b : Bs × Int) : ahd a b = decide (cmpE a b < 0) := by
  have h := cmpE_lt a b
  unfold ltE at h
  rw [Bool.eq_iff_iff, decide_eq_true_iff, h]
  unfold ahd
  simp
set_option maxHeartbeats 4000000 in
set_option maxRecDepth 100000 in
theorem order_call (a b : Bs × Int) (w : World) : Calls Tryz.prog 242 #[eV a, eV b] w fun e w' => e = .returned (.bool (ahd a b)) ∧ Below w.heap.size w w' := by
  have hI : ∀ W, Calls Tryz.prog 245 #[.int .i64 a.2, .int .i64 b.2] W fun e w' => e = .returned (.int .i64 (cmpI a.2 b.2)) ∧ w' = W := cmp_int a.2 b.2
  have hS : ∀ W, Calls Tryz.prog 246 #[.string (mk a.1), .string (mk b.1)] W fun e w' => e = .returned (.int .i64 (cmpB a.1 b.1)) ∧ w' = W := cmp_str a.1 b.1
  have hO := or_call (cmpI a.2 b.2) (cmpB a.1 b.1)
  rw [show (if cmpI a.2 b.2 = 0 then cmpB a.1 b.1 else cmpI a.2 b.2) = cmpE a b from rfl] at hO
  have HA := hid_of (ahd_eq a b)
  unfold eV
  rw [show ahd a b = decide (cmpE a b < 0) from HA.out]
  clear HA
  generalize cmpE a b = R at *
  generalize cmpI a.2 b.2 = CI at *
  generalize cmpB a.1 b.1 = CS at *
  generalize mk a.1 = X at *
  generalize mk b.1 = Y at *
  generalize a.2 = x at *
  generalize b.2 = y at *
  go_enter Tryz.func242, Tryz.ntmps242
  go_wp2_with fail
  obtain ⟨W, hW⟩ : ∃ W, W = (w.alloc (.cells #[.string X, .int .i64 x] 69)).alloc (.cells #[.string Y, .int .i64 y] 69) := ⟨_, rfl⟩
  have p0 : W.cell? ⟨w.heap.size, 0, none⟩ = some (.string X) := by rw [hW]; simp
  have p1 : W.cell? ⟨w.heap.size, 1, none⟩ = some (.int .i64 x) := by rw [hW]; simp
  have p2 : W.cell? ⟨w.heap.size + 1, 0, none⟩ = some (.string Y) := by rw [hW]; simp
  have p3 : W.cell? ⟨w.heap.size + 1, 1, none⟩ = some (.int .i64 y) := by rw [hW]; simp
  have HW := hid_of hW
  rw [← hW]
  have hs : w.heap.size + 2 = W.heap.size := by rw [hW]; simp
  clear hW
  obtain ⟨V, hV⟩ : ∃ V, V = W.alloc (.cells #[.int .i64 CI, .int .i64 CS] 3) := ⟨_, rfl⟩
  have bV : Below W.heap.size W V := by rw [hV]; exact FRow.bnew W _
  have q0 : (W.alloc (.cells #[.int .i64 CI, .int .i64 CS] 3)).drew.cell? ⟨w.heap.size, 0, none⟩ = some (.string X) := by rw [← hV]; exact FRow.cell_on bV p0
  have q1 : (W.alloc (.cells #[.int .i64 CI, .int .i64 CS] 3)).drew.cell? ⟨w.heap.size, 1, none⟩ = some (.int .i64 x) := by rw [← hV]; exact FRow.cell_on bV p1
  have q2 : (W.alloc (.cells #[.int .i64 CI, .int .i64 CS] 3)).drew.cell? ⟨w.heap.size + 1, 0, none⟩ = some (.string Y) := by rw [← hV]; exact FRow.cell_on bV p2
  have q3 : (W.alloc (.cells #[.int .i64 CI, .int .i64 CS] 3)).drew.cell? ⟨w.heap.size + 1, 1, none⟩ = some (.int .i64 y) := by rw [← hV]; exact FRow.cell_on bV p3
  have HO := hid_of (hO W.heap.size (W.alloc (.cells #[.int .i64 CI, .int .i64 CS] 3)) (by simp) (by simp))
  have HO2 := hid_of (hO W.heap.size (W.alloc (.cells #[.int .i64 CI, .int .i64 CS] 3)).drew (by simp) (by simp))
  clear bV hV hO hs
  go_region_held3 (fun V => V.cell? ⟨w.heap.size, 0, none⟩ = some (.string X) ∧ V.cell? ⟨w.heap.size, 1, none⟩ = some (.int .i64 x) ∧ V.cell? ⟨w.heap.size + 1, 0, none⟩ = some (.string Y) ∧ V.cell? ⟨w.heap.size + 1, 1, none⟩ = some (.int .i64 y)) (first | exact ⟨p0, p1, p2, p3⟩ | exact ⟨q0, q1, q2, q3⟩) (first
    | (go_at_call 245; refine (hI _).mono ?_; rintro e w1 ⟨rfl, rfl⟩)
    | (go_at_call 246; refine (hS _).mono ?_; rintro e w1 ⟨rfl, rfl⟩)
    | (go_at_call 244; first | (refine HO.out.mono ?_; rintro e w1 ⟨rfl, rfl⟩) | (refine HO2.out.mono ?_; rintro e w1 ⟨rfl, rfl⟩)))
  go_wp2_with fail
  go_ret
  exact ⟨rfl, by
    have b0 : Below w.heap.size w W := by rw [HW.out]; exact FRow.bel (FRow.bnew w _) (FRow.bnew _ _) (Nat.le_refl _)
    exact (FRow.bel b0 (FRow.bnew W _) (Nat.le_refl _)).drew⟩

set_option maxRecDepth 100000 in
theorem score_call (n : Int) (w : World) : Calls Tryz.prog 241 #[.int .i64 n] w fun e w' => e = .returned (.bool (scOk n)) ∧ w' = w := by
  unfold scOk
  by_cases h1 : -9007199254740992 ≤ n
  · by_cases h2 : n ≤ 9007199254740992
    · go_enter Tryz.func241, Tryz.ntmps241
      go_wp2
      go_ret
      exact ⟨ret_b (by simp [h1, h2]), rfl⟩
    · go_enter Tryz.func241, Tryz.ntmps241
      go_wp2
      go_ret
      exact ⟨ret_b (by simp [h1, h2]), rfl⟩
  · go_enter Tryz.func241, Tryz.ntmps241
    go_wp2
    go_ret
    exact ⟨ret_b (by simp; omega), rfl⟩
end Go.Proofs.YtminfpkigenahaaGreatDoor.Cmp
end
section
namespace Go.Proofs.YtminfpkigenahaaGreatDoor.MayR
open Go.RowKit Go.Maps
open Go.Proofs.YtminfpkigenahaaGreatDoor.SetMath
open Go.Proofs.YtminfpkigenahaaGreatDoor.ValueMath
open Go.Proofs.YtminfpkigenahaaGreatDoor.Base
open Go.Proofs.YtminfpkigenahaaGreatDoor.Vals
open Go.Proofs.YtminfpkigenahaaGreatDoor.May
open Go.Proofs.YtminfpkigenahaaGreatDoor.ROf (RW)
set_option linter.unusedVariables false
set_option linter.unusedSimpArgs false

theorem okAt_at {l : EL} {k : Nat} (hk : k < l.length) : okAt l k = (scOk l[k].2 && (k == 0 || ahd (l[k - 1]'(by omega)) l[k])) := by
  unfold okAt
  rw [List.getElem?_eq_getElem hk, List.getElem?_eq_getElem (show k - 1 < l.length by omega)]
theorem ord_no {l : EL} {k : Nat} (hk : k < l.length) (h : okAt l k = false) : ordB l = false := by
  unfold ordB
  cases e : (List.range l.length).all (okAt l)
  · rfl
  · rw [List.all_eq_true.1 e k (List.mem_range.2 hk)] at h
    cases h
theorem ord_yes {l : EL} (h : ∀ j, j < l.length → okAt l j = true) : ordB l = true := List.all_eq_true.2 fun j hj => h j (List.mem_range.1 hj)
def Rok (l : EL) : Prop := ∀ p ∈ l, p.1.length ≤ 140737488355328
set_option maxHeartbeats 8000000 in
set_option maxRecDepth 100000 in
theorem rank_call {w : World} {v : Value} {l : EL} (h : ERow.FS w v l) (hb : l.length * 24 ≤ 140737488355328) (hs : Rok l) :
    Calls Tryz.prog 238 #[v] w fun e w' => e = .returned (.bool (rankOk l)) ∧ Below w.heap.size w w' := by
  obtain ⟨i0, hi, hz0, hz1, hz2⟩ := info_parts info9'
  have HF := hid_of h
  have HS := hid_of hs
  obtain ⟨a, c, rfl, hc, hr⟩ := h
  obtain ⟨L, HL⟩ : ∃ L, Hid (L = List.length l) := ⟨_, hid_of rfl⟩
  rw [← HL.out] at hb hc HF ⊢
  clear hr hs
  go_enter Tryz.func238, Tryz.ntmps238
  go_wp2_with (at_make; refine wpList_make_full _ rfl _ _ 26 rfl w.heap.size 9 i0 (.string ⟨#[]⟩) 1 Tryz.underlying26 hi hz0 hz1 _ _ _ _ L rfl rfl rfl rfl ?b2 ?b3 (Nat.le_refl _) ?_)
  case b2 => rw [hz2]; omega
  case b3 => unfold maxLen; omega
  intro w0 hown0 hgrow0
  have R0 : Hid (RW w.heap.size w0 w.heap.size L (pnm (·.1) l 0) ∧ Below w.heap.size w w0) := hid_of ⟨by rw [pnm_zero, ← HL.out]; exact made_rw hown0, (Below.refl _ _).grown hgrow0 (Nat.le_refl _) (fun k h => by cases h)⟩
  clear hown0 hgrow0
  go_wp2_with fail
  go_loopg [11] L (fun g s3 wx => ∃ j : Nat, j ≤ L ∧ L ≤ j + g ∧ s3 = .int .i64 (j : Int) ∧ Hid (∀ i, i < j → okAt l i = true) ∧ Hid (RW w.heap.size wx w.heap.size L (pnm (·.1) l j) ∧ Below w.heap.size w wx))
  case atStart => exact ⟨0, by omega, by omega, rfl, hid_of (fun i hi => by omega), R0⟩
  case round =>
    obtain ⟨j, hj, hg, rfl, HA, R⟩ := hrel
    by_cases hlt : j < L
    · obtain ⟨g', rfl⟩ : ∃ g', gk = g' + 1 := ⟨gk - 1, by omega⟩
      have hjl : j < List.length l := by rw [← HL.out]; exact hlt
      obtain ⟨ga, oa, rfl, ha⟩ := ERow.FS.at (HF.out.below R.out.2) hjl
      obtain ⟨a0, a1⟩ := ha j hjl
      have hgl : ga < wr.heap.size := Base.cell_lt a0
      have HAH : Hid (∀ h : j - 1 < List.length l, wr.cell? ⟨ga, oa + (j - 1) * 2, none⟩ = some (.string (mk (l[j - 1]'h).1)) ∧ wr.cell? ⟨ga, oa + (j - 1) * 2 + 1, none⟩ = some (.int .i64 (l[j - 1]'h).2)) := hid_of fun h => ha (j - 1) h
      clear ha
      have HO := hid_of (okAt_at hjl)
      have HN : Hid (okAt l j = true → ∀ i, i < j + 1 → okAt l i = true) := hid_of fun q i hi => by
        by_cases e : i = j
        · subst e; exact q
        · exact HA.out i (by omega)
      have HX : Hid (okAt l j = false → rankOk l = false) := hid_of fun q => by unfold rankOk; rw [ord_no hjl q]; rfl
      have HC := hid_of (fun W => Cmp.score_call l[j].2 W)
      have HP := hid_of (fun W => Cmp.order_call (l[j - 1]'(by omega)) l[j] W)
      have rb := R.out.1.set j l[j].1
      rw [pnm_set (·.1) l j hjl] at rb
      have RB : Hid (∀ W, Below wr.heap.size wr W → RW w.heap.size (W.setCell ⟨w.heap.size, j, none⟩ (.string (mk l[j].1))) w.heap.size L (pnm (·.1) l (j + 1)) ∧ Below w.heap.size w (W.setCell ⟨w.heap.size, j, none⟩ (.string (mk l[j].1)))) := hid_of fun W hW => by
        have q := (rw_below R.out.1 hW).set j l[j].1
        rw [pnm_set (·.1) l j hjl] at q
        exact ⟨q, bset (FRow.bel R.out.2 hW (Nat.le_refl _)) (Nat.le_refl _) _⟩
      clear rb
      have hfz := R.out.1.frozen j
      obtain ⟨y, hy⟩ : ∃ y, (pnm (·.1) l j)[j]? = some y := ⟨_, List.getElem?_eq_getElem (by rw [pnm_len _ _ _ (by omega)]; exact hjl)⟩
      have hcl := R.out.1.cell hy
      have hlt2 : w.heap.size < wr.heap.size := by
        obtain ⟨_, cur, h2, _⟩ := R.out.1
        exact lt_of h2
      clear hy
      have HP0 := HAH.out (by omega)
      generalize l[j - 1]'(by omega) = z at *
      generalize l[j] = x at *
      obtain ⟨x1, x2⟩ := x
      obtain ⟨z1, z2⟩ := z
      simp only [Cmp.eV] at a0 a1 HN HX HC RB HO HP HP0
      obtain ⟨p0, p1⟩ := HP0
      have w1 : IntKind.i64.wrap ((j : Int) + 1) = (j : Int) + 1 := IntWalk.i64_in _ (by omega)
      have d1 : (j : Int) < (L : Int) := by omega
      generalize mk x1 = X1 at *
      generalize mk z1 = Z1 at *
      generalize mk y = Y at *
      generalize ahd (z1, z2) (x1, x2) = ab at *
      generalize scOk x2 = b at *
      clear HAH
      obtain ⟨V, hV⟩ : ∃ V, V = wr.alloc (.cells #[.string X1, .int .i64 x2] 69) := ⟨_, rfl⟩
      have bV : Below wr.heap.size wr V := by rw [hV]; exact FRow.bnew wr _
      have v0 : V.heap[wr.heap.size]? = some (.cells #[.string X1, .int .i64 x2] 69 (0, 0)) := by rw [hV]; exact heap_alloc_new wr _
      have HV := hid_of hV
      have HBV := hid_of bV
      have HV0 := hid_of v0
      have HQ : Hid (∀ m, Calls Tryz.prog 241 #[.int .i64 x2] (V.drewN m) fun e w' => e = .returned (.bool b) ∧ ∃ q, w' = V.drewN q) := hid_of fun m => (HC.out (V.drewN m)).mono fun e w' ⟨h1, h2⟩ => ⟨h1, m, h2⟩
      obtain ⟨⟨t0, t1⟩, tz⟩ := box2 v0
      have hcl2 := FRow.cell_on bV hcl
      have hfz2 := (rw_below R.out.1 bV).frozen j
      have q0 := FRow.cell_on bV p0
      have q1 := FRow.cell_on bV p1
      clear v0 bV hV
      cases b
      · have HZ := hid_of (HX.out (by rw [HO.out]; rfl))
        clear HX HN HO HP HC
        go_wp2_with fail
        rw [← HV.out]
        go_quiet (first | exact (HQ.out _).mono fun _ _ h => h)
        go_wp2_with fail
        go_ret
        exact ⟨ret_b HZ.out.symm, FRow.bdrew (FRow.bel R.out.2 HBV.out (Nat.le_refl _)) nq⟩
      · by_cases h0 : j = 0
        · have h00 : decide ((0 : Int) < (j : Int)) = false := decide_eq_false (by omega)
          have h01 : decide (0 < j) = false := decide_eq_false (by omega)
          have HZ := hid_of (HN.out (by rw [HO.out, h0]; rfl))
          clear HX HN HO HP HC p0 p1 q0 q1 h0
          go_wp2_with fail
          rw [← HV.out]
          go_quiet (first | exact (HQ.out _).mono fun _ _ h => h)
          go_wp2_with fail
          go_roundg g'
          case measure => omega
          case rel => exact ⟨j + 1, by omega, by omega, by simp, HZ, hid_of (RB.out _ (FRow.bdrew HBV.out nq))⟩
        · have h00 : decide ((0 : Int) < (j : Int)) = true := decide_eq_true (by omega)
          have h01 : decide (0 < j) = true := decide_eq_true (by omega)
          have hj0 : (j == 0) = false := by simpa using h0
          have wz : IntKind.i64.wrap ((j : Int) - 1) = ((j - 1 : Nat) : Int) := by rw [show ((j - 1 : Nat) : Int) = (j : Int) - 1 by omega]; exact IntWalk.i64_in _ (by omega)
          have ix : j - 1 < L := by omega
          have HO2 := hid_of (HO.out.trans (by rw [hj0]; rfl : _ = ab))
          clear HO hj0 p0 p1
          go_wp2_with fail
          rw [← HV.out]
          go_region_held3 (fun W => W.cell? ⟨wr.heap.size, 0, none⟩ = some (.string X1) ∧ W.cell? ⟨wr.heap.size, 1, none⟩ = some (.int .i64 x2) ∧ W.cell? ⟨ga, oa + (j - 1) * 2, none⟩ = some (.string Z1) ∧ W.cell? ⟨ga, oa + (j - 1) * 2 + 1, none⟩ = some (.int .i64 z2)) (first | exact ⟨t0, t1, q0, q1⟩ | exact ⟨FRow.cell_on hw3 t0, FRow.cell_on hw3 t1, FRow.cell_on hw3 q0, FRow.cell_on hw3 q1⟩) (first
            | (go_at_call 241; refine (HC.out _).mono ?_; rintro e w2 ⟨rfl, hw2⟩; rw [hw2]; clear hw2 w2)
            | (go_at_call 242; refine (HP.out _).mono ?_; rintro e w3 ⟨rfl, hw3⟩))
          have HB3 := hid_of (show Below V.heap.size V w3 from ⟨hw3.os, hw3.tape, hw3.output, hw3.size, hw3.block⟩)
          clear hw3
          have hB := FRow.bel HBV.out HB3.out (Nat.le_refl _)
          have y0 := FRow.cell_on HB3.out t0
          have y1 := FRow.cell_on HB3.out t1
          have hcl3 := FRow.cell_on HB3.out hcl2
          have hfz3 := (rw_below R.out.1 hB).frozen j
          have HB4 := hid_of hB
          clear hB t0 t1 q0 q1 hcl2 hfz2 a0 a1 HP HC HQ
          cases ab
          · have HZ := hid_of (HX.out HO2.out)
            clear HX HN HO2
            go_wp2_with fail
            go_ret
            exact ⟨ret_b HZ.out.symm, FRow.bel R.out.2 HB4.out (Nat.le_refl _)⟩
          · have HZ := hid_of (HN.out HO2.out)
            clear HX HN HO2
            go_wp2_with fail
            go_roundg g'
            case measure => omega
            case rel => exact ⟨j + 1, by omega, by omega, by simp, HZ, hid_of (RB.out _ HB4.out)⟩
    · obtain rfl : j = L := by omega
      have d1 : ¬ (j : Int) < (j : Int) := by omega
      have rl : RW w.heap.size wr w.heap.size j (enames l) := by
        have := R.out.1
        rw [HL.out, pnm_all, ← HL.out] at this
        exact this
      have hfl : (enames l).length = j := by rw [HL.out]; exact List.length_map _
      have nl := rl.nr
      rw [hfl] at nl
      have hsm : Sml (enames l) := fun x hx => by obtain ⟨p, hp, rfl⟩ := List.mem_map.1 hx; exact HS.out p hp
      have HC := hid_of (list_call nl.sl (by rw [hfl]; omega) hsm)
      have HOf := hid_of (Of.of_call nl.sl (by rw [hfl]; omega))
      have HT : Hid (rankOk l = (lOk (enames l) && (((S (enames l)).length : Int) == (j : Int)))) := hid_of (by
        unfold rankOk
        rw [ord_yes fun i hi => HA.out i (by have := HL.out; omega), Bool.true_and, ← HL.out]
        congr 1
        rw [Bool.eq_iff_iff]
        simp
        omega)
      clear rl nl hfl HA hsm
      generalize lOk (enames l) = b at *
      go_wp2_with fail
      refine HC.out.mono ?_
      rintro e w2 ⟨rfl, hw2⟩
      rw [hw2]
      clear hw2 w2 HC
      cases b
      · go_wp2_with fail
        go_ret
        exact ⟨ret_b (by rw [HT.out]; rfl), R.out.2⟩
      · go_wp2_with fail
        refine HOf.out.mono ?_
        rintro e w2 ⟨r2, rfl, n2, b2⟩
        obtain ⟨ra, rc, rfl, _⟩ := n2.shape
        have B2 := hid_of (FRow.bel R.out.2 b2 (Nat.le_refl _))
        clear b2 n2
        generalize (S (enames l)).length = M at *
        cases he : ((M : Int) == (j : Int))
        · have HT2 := hid_of HT.out
          rw [he] at HT2
          clear HT
          go_wp2_with fail
          go_ret
          exact ⟨ret_b HT2.out.symm, B2.out⟩
        · have HT2 := hid_of HT.out
          rw [he] at HT2
          clear HT
          go_wp2_with fail
          go_ret
          exact ⟨ret_b HT2.out.symm, B2.out⟩
end Go.Proofs.YtminfpkigenahaaGreatDoor.MayR
end
section
namespace Go.Proofs.YtminfpkigenahaaGreatDoor.Check0
open Go.RowKit Go.Maps
open Go.Proofs.YtminfpkigenahaaGreatDoor.SetMath
open Go.Proofs.YtminfpkigenahaaGreatDoor.ValueMath
open Go.Proofs.YtminfpkigenahaaGreatDoor.Base
open Go.Proofs.YtminfpkigenahaaGreatDoor.Vals
open Go.Proofs.YtminfpkigenahaaGreatDoor.May
open Go.Proofs.YtminfpkigenahaaGreatDoor.MayR
set_option linter.unusedVariables false
set_option linter.unusedSimpArgs false

structure Wel (x : Vl) : Prop extends Fit x where
  t : x.text.length ≤ 140737488355328
  ls : Sml x.list
  fs : Fok x.fields
  rs : Rok x.ranked
  r24 : x.ranked.length * 24 ≤ 140737488355328
def cv (k : Int) (X a b c : Value) : Value := if k = 1 then .iface 106 X else if k = 2 then .iface 107 a else if k = 3 then .iface 108 b else if k = 4 then .iface 109 a else if k = 5 then .iface 110 c else .nilIface
set_option maxHeartbeats 2000000 in
set_option maxRecDepth 100000 in
theorem content_call (k : Int) (X : ByteArray) (aa ba ca : Option Addr) (an bn cn ac bc cc : Nat) (w : World) :
    Calls Tryz.prog 31 #[.agg #[.int .i64 k, .string X, .slice aa an ac, .slice ba bn bc, .slice ca cn cc]] w fun e w' => e = .returned (cv k (.string X) (.slice aa an ac) (.slice ba bn bc) (.slice ca cn cc)) ∧ Below w.heap.size w w' := by
  unfold cv
  by_cases h1 : k = 1
  · rw [if_pos h1]
    subst h1
    go_enter Tryz.func31, Tryz.ntmps31
    go_wp2
    go_ret
    exact ⟨rfl, FRow.bnew w _⟩
  · rw [if_neg h1]
    have e1 : (k == 1) = false := by simpa using h1
    by_cases h2 : k = 2
    · rw [if_pos h2]
      subst h2
      go_enter Tryz.func31, Tryz.ntmps31
      go_wp2
      go_ret
      exact ⟨rfl, FRow.bnew w _⟩
    · rw [if_neg h2]
      have e2 : (k == 2) = false := by simpa using h2
      by_cases h3 : k = 3
      · rw [if_pos h3]
        subst h3
        go_enter Tryz.func31, Tryz.ntmps31
        go_wp2
        go_ret
        exact ⟨rfl, FRow.bnew w _⟩
      · rw [if_neg h3]
        have e3 : (k == 3) = false := by simpa using h3
        by_cases h4 : k = 4
        · rw [if_pos h4]
          subst h4
          go_enter Tryz.func31, Tryz.ntmps31
          go_wp2
          go_ret
          exact ⟨rfl, FRow.bnew w _⟩
        · rw [if_neg h4]
          have e4 : (k == 4) = false := by simpa using h4
          by_cases h5 : k = 5
          · rw [if_pos h5]
            subst h5
            go_enter Tryz.func31, Tryz.ntmps31
            go_wp2
            go_ret
            exact ⟨rfl, FRow.bnew w _⟩
          · rw [if_neg h5]
            have e5 : (k == 5) = false := by simpa using h5
            go_enter Tryz.func31, Tryz.ntmps31
            go_wp2
            go_ret
            exact ⟨rfl, FRow.bnew w _⟩
def strB (k : Int) (bt bl bf br : Bool) : Bool := (bt && k != 1) || (bl && k != 2 && k != 4) || (bf && k != 3) || (br && k != 5)
theorem stray_eq (x : Vl) : stray x = strB x.kind (x.text != []) (x.list != []) (x.fields != []) (x.ranked != []) := rfl
theorem nil_len {α : Type} [BEq α] [LawfulBEq α] (l : List α) : (l != []) = decide (0 < l.length) := by cases l <;> simp
end Go.Proofs.YtminfpkigenahaaGreatDoor.Check0
end
section
namespace Go.Proofs.YtminfpkigenahaaGreatDoor.SBase
open Go.RowKit Go.Maps
open Go.Proofs.YtminfpkigenahaaGreatDoor.SpaceMath (wout withL lkp keys Ris toD)
open Go.Proofs.YtminfpkigenahaaGreatDoor.ValueMath (Vl chk small)
open Go.Proofs.YtminfpkigenahaaGreatDoor.Base (mk mk_list mk_size Gr hid_of SL NR)
open Go.Proofs.YtminfpkigenahaaGreatDoor.Turn
open Go.Proofs.YtminfpkigenahaaGreatDoor.RowB (Es)
open Go.Proofs.YtminfpkigenahaaGreatDoor.Swap (row_later law9 key9 turned_block owns_cells)
open Go.Proofs.YtminfpkigenahaaGreatDoor.Push (row_kd)
open Go.Proofs.YtminfpkigenahaaGreatDoor.ThingS (RT)
open Go.Proofs.YtminfpkigenahaaGreatDoor.IndexS (IX)
open Go.Proofs.YtminfpkigenahaaGreatDoor.Vals
open Go.Proofs.YtminfpkigenahaaGreatDoor.Check0 (Wel)
set_option linter.unusedVariables false
set_option linter.unusedSimpArgs false
abbrev Bs := List UInt8
abbrev KL (α : Type) := List (Bs × α)
abbrev ptr (b : Nat) : Value := .pointer (some ⟨b, 0, none⟩)
/- an index that is looked at from a later world, through another set -/
theorem ix_re {M M' : Nat → Prop} {b : Nat} {s : Es} {w w' : World} (h : IX M b w s) (hs : w.heap.size ≤ w'.heap.size) (hk : ∀ k, k < w.heap.size → M k → w'.heap[k]? = w.heap[k]?) (hm : ∀ k, k < w.heap.size → M k → M' k) (up : ∀ k, w'.heap.size ≤ k → M' k) : IX M' b w' s := by
  obtain ⟨l, ⟨⟨ev, mv, h⟩, hl⟩, hh, hp⟩ := h
  refine ⟨l, ⟨⟨ev, mv, ⟨(hk b (lt_of h.idx) h.bb).trans h.idx, hm b (lt_of h.idx) h.bb, row_later h.ent fun g hg => hk g (row_kd h.ent hg).2.1 (h.eb g hg), ?_, h.keys, h.wide, fun g hg => hm g (row_kd h.ent hg).2.1 (h.eb g hg), up⟩⟩, hl⟩, hh, hp⟩
  rcases h.map with q | ⟨bm, D, e, hbm, own, sp⟩
  · exact .inl q
  · refine .inr ⟨bm, D, e, hm bm own.lt hbm, ?_, sp⟩
    obtain ⟨es, c, q, r⟩ := own
    exact ⟨es, c, (hk bm (lt_of q) hbm).trans q, r⟩
theorem ix_lt {M : Nat → Prop} {b : Nat} {s : Es} {w : World} (h : IX M b w s) : b < w.heap.size ∧ M b := by
  obtain ⟨l, ⟨⟨ev, mv, h⟩, hl⟩, hh, hp⟩ := h
  exact ⟨lt_of h.idx, h.bb⟩
theorem ix_len {M : Nat → Prop} {b : Nat} {s : Es} {w : World} (h : IX M b w s) : s.length < 1099511627776 := by
  obtain ⟨l, hl, hh, hp⟩ := h
  rw [← hp.length_eq]
  exact hl.2
/- what is held in a map as it is -/
def RH : Value → Option (DataW Value × List MemPlace) := fun v => some (.held v, [])
theorem RH_inv {v : Value} {y : Value} {ps : List MemPlace} (h : RH v = some (.held y, ps)) : v = y := by
  unfold RH at h
  cases h
  rfl
/- values that stand while the blocks of X turn -/
def VS (X : Nat → Prop) (w : World) (v : Value) (x : Vl) : Prop := ∀ w', Ev X w w' → VA w' v x
theorem VS.va {X : Nat → Prop} {w : World} {v : Value} {x : Vl} (h : VS X w v x) : VA w v x := h w (Ev.refl _ _)
theorem VS.re {X X' : Nat → Prop} {w w' : World} {v : Value} {x : Vl} (h : VS X w v x) (e : Ev X w w') (hX : ∀ k, k < w.heap.size → X' k → X k) : VS X' w' v x := fun w'' e' =>
  h w'' ⟨e'.os.trans e.os, e'.tape.trans e.tape, e'.output.trans e.output, Nat.le_trans e.size e'.size, fun k hk hn => (e'.block k (Nat.lt_of_lt_of_le hk e.size) (fun q => hn (hX k hk q))).trans (e.block k hk hn)⟩
/-- a value in new memory stands -/
theorem vs_new {X : Nat → Prop} {B : Nat} {w : World} {v : Value} {x : Vl} (h : VN B w v x) (hX : ∀ k, X k → k < B) : VS X w v x := fun w' e => by
  obtain ⟨a, b, c, rfl, ha, hb, hc⟩ := h
  have st : ∀ k, k < w.heap.size → B ≤ k → w'.heap[k]? = w.heap[k]? := fun k hk hB => e.block k hk (fun q => by have := hX k q; omega)
  have lo : ∀ {ty sz n : Nat} {v : Value} {xs : List Value} {g : Nat}, w.ownsRow B ty sz v n xs → v.ownBlock = some g → B ≤ g ∧ g < w.heap.size := fun h hg => by
    have := row_kd h hg
    exact ⟨this.2.2, this.2.1⟩
  refine VN.va (B := B) ⟨a, b, c, rfl, ha.keep st, FRow.row_later hb fun g cs t fz hg hh _ => st g (lo hb hg).2 (lo hb hg).1, FRow.row_later hc fun g cs t fz hg hh _ => st g (lo hc hg).2 (lo hc hg).1⟩
/- entries -/
structure En where
  val : Vl
  due : Int
  ver : Nat
def vV (x : Vl) (a b c : Value) : Value := .agg #[.int .i64 x.kind, .string (mk x.text), a, b, c]
def eV (k : Bs) (x : Vl) (a b c : Value) (d : Int) (n : Nat) : Value := .agg #[.string (mk k), .int .i64 x.kind, .string (mk x.text), a, b, c, .int .i64 d, .int .u64 n]
abbrev zE : Value := .agg #[.string ⟨#[]⟩, .int .i64 0, .string ⟨#[]⟩, .slice none 0 0, .slice none 0 0, .slice none 0 0, .int .i64 0, .int .u64 0]
/-- a value that a space may hold -/
structure Gd (x : Vl) : Prop where
  chk : chk x = 0
  wel : Wel x
  sm : small x
structure EnAt (X : Nat → Prop) (w : World) (k : Bs) (v : Value) (e : En) : Prop where
  ex : ∃ a b c, v = eV k e.val a b c e.due e.ver ∧ VS X w (vV e.val a b c) e.val
  gd : Gd e.val
  due : 0 ≤ e.due ∧ e.due ≤ 9007199254740992
  ver : 0 < e.ver ∧ e.ver < 18446744073709551616
def HeldAt (X : Nat → Prop) (w : World) (k : Bs) (v : Value) : Option En → Prop
  | none => v = zE
  | some e => EnAt X w k v e
theorem EnAt.re {X X' : Nat → Prop} {w w' : World} {k : Bs} {v : Value} {e : En} (h : EnAt X w k v e) (ev : Ev X w w') (hX : ∀ k, k < w.heap.size → X' k → X k) : EnAt X' w' k v e := by
  obtain ⟨a, b, c, hv, hs⟩ := h.ex
  exact ⟨⟨a, b, c, hv, hs.re ev hX⟩, h.gd, h.due, h.ver⟩
theorem HeldAt.re {X X' : Nat → Prop} {w w' : World} {k : Bs} {v : Value} {o : Option En} (h : HeldAt X w k v o) (ev : Ev X w w') (hX : ∀ k, k < w.heap.size → X' k → X k) : HeldAt X' w' k v o := by
  cases o with
  | none => exact h
  | some e => exact EnAt.re h ev hX
/-- the slices of a value, in their shapes -/
theorem EnAt.shape {X : Nat → Prop} {w : World} {k : Bs} {v : Value} {e : En} (h : EnAt X w k v e) : ∃ a1 c1 a2 c2 a3 c3, v = eV k e.val (.slice a1 e.val.list.length c1) (.slice a2 e.val.fields.length c2) (.slice a3 e.val.ranked.length c3) e.due e.ver ∧ VS X w (vV e.val (.slice a1 e.val.list.length c1) (.slice a2 e.val.fields.length c2) (.slice a3 e.val.ranked.length c3)) e.val := by
  obtain ⟨a, b, c, rfl, hs⟩ := h.ex
  obtain ⟨a', b', c', q, ⟨a1, c1, h1, _⟩, ⟨a2, c2, h2, _⟩, ⟨a3, c3, h3, _⟩⟩ := hs.va
  unfold vV at q
  simp only [Value.agg.injEq, Array.mk.injEq, List.cons.injEq, and_true] at q
  obtain ⟨_, _, rfl, rfl, rfl⟩ := q
  subst h1 h2 h3
  exact ⟨a1, c1, a2, c2, a3, c3, rfl, hs⟩
/- effects -/
structure Ef where
  kind : Int
  key : Bs
  val : Vl
  due : Int
def efC (f : Ef) (a b c : Value) : List Value := [.int .i64 f.kind, .string (mk f.key), .int .i64 f.val.kind, .string (mk f.val.text), a, b, c, .int .i64 f.due]
def EfAt (X : Nat → Prop) (w : World) (cs : List Value) (f : Ef) : Prop := ∃ a b c, cs = efC f a b c ∧ VS X w (vV f.val a b c) f.val
theorem EfAt.re {X X' : Nat → Prop} {w w' : World} {cs : List Value} {f : Ef} (h : EfAt X w cs f) (ev : Ev X w w') (hX : ∀ k, k < w.heap.size → X' k → X k) : EfAt X' w' cs f := by
  obtain ⟨a, b, c, hv, hs⟩ := h
  exact ⟨a, b, c, hv, hs.re ev hX⟩
structure Mk where
  cnt : Nat
  ahead : KL (Option En)
  chs : List Ef
structure Sp where
  l : KL En
  cnt : Nat
  mrk : Option Mk
def Two {α β : Type} (R : α → β → Prop) : Option α → Option β → Prop
  | none, none => True
  | some a, some b => R a b
  | _, _ => False
theorem Two.mono {α β : Type} {R Q : α → β → Prop} (h : ∀ a b, R a b → Q a b) : ∀ {x : Option α} {y : Option β}, Two R x y → Two Q x y
  | none, none, _ => trivial
  | some a, some b, q => h a b q
/- the mark -/
structure MkAt (F FI X : Nat → Prop) (b bm bk bm2 : Nat) (cv : Value) (L2 : KL Value) (C2 : List (List Value)) (w : World) (m : Mk) : Prop where
  blk : w.heap[bk]? = some (.cells #[.int .u64 m.cnt, .map (some bm2), cv] 75 (0, 0))
  fk : F bk
  fm : F bm2
  nk : ¬ FI bk
  nm : ¬ FI bm2
  ne : bm2 ≠ bm
  neb : bk ≠ b
  nkm : bk ≠ bm
  nmb : bm2 ≠ b
  map : w.ownsMap Tryz.prog 9 RH bm2 L2.length (toD L2)
  ris : Ris L2
  ris2 : Ris m.ahead
  kl : ∀ p ∈ L2, p.1.length ≤ 281474976710656
  ent : ∀ k, Two (HeldAt X w k) (lkp L2 k) (lkp m.ahead k)
  row : w.ownsRow 0 54 8 cv m.chs.length C2.flatten
  len : C2.length = m.chs.length
  efs : ∀ i (h : i < C2.length) (h' : i < m.chs.length), EfAt X w C2[i] m.chs[i]
  cb : ∀ g, cv.ownBlock = some g → F g ∧ ¬ FI g ∧ g ≠ b ∧ g ≠ bm
  num : m.cnt < 18446744073709551616
def MarkAt (F FI X : Nat → Prop) (b bm : Nat) (w : World) (mv : Value) : Option Mk → Prop
  | none => mv = .pointer none
  | some m => ∃ bk bm2 cv L2 C2, mv = ptr bk ∧ MkAt F FI X b bm bk bm2 cv L2 C2 w m
def dues (l : KL En) : Es := l.filterMap fun p => if 0 < p.2.due then some (p.1, p.2.due) else none
structure SPa (F X FI : Nat → Prop) (b bm bi : Nat) (mv : Value) (L : KL Value) (s : Es) (w : World) (S : Sp) : Prop where
  blk : w.heap[b]? = some (.cells #[.map (some bm), ptr bi, .int .u64 S.cnt, mv] 44 (0, 0))
  fb : F b
  fm : F bm
  fi : ∀ k, FI k → F k
  nb : ¬ FI b
  nm : ¬ FI bm
  lo : ∀ k, F k → k < w.heap.size
  fx : ∀ k, F k → X k
  xl : ∀ k, X k → k < w.heap.size
  map : w.ownsMap Tryz.prog 9 RH bm L.length (toD L)
  ris : Ris L
  ris2 : Ris S.l
  kl : ∀ p ∈ L, p.1.length ≤ 281474976710656
  ent : ∀ k, Two (EnAt X w k) (lkp L k) (lkp S.l k)
  ix : IX (Gr FI w) bi w s
  du : s.Perm (dues S.l)
  mark : MarkAt F FI X b bm w mv S.mrk
  num : S.cnt < 18446744073709551616
def SP (F X : Nat → Prop) (b : Nat) (w : World) (S : Sp) : Prop := ∃ FI bm bi mv L s, SPa F X FI b bm bi mv L s w S
theorem MarkAt.re {F FI X F' FI' X' : Nat → Prop} {b bm : Nat} {w w' : World} {mv : Value} {o : Option Mk} (h : MarkAt F FI X b bm w mv o) (hk : ∀ k, k < w.heap.size → F k → ¬ FI k → k ≠ b → k ≠ bm → w'.heap[k]? = w.heap[k]?)
    (hF : ∀ k, k < w.heap.size → F k → F' k) (hFI : ∀ k, k < w.heap.size → FI' k → FI k) (ev : Ev X w w') (hX : ∀ k, k < w.heap.size → X' k → X k) : MarkAt F' FI' X' b bm w' mv o := by
  cases o with
  | none => exact h
  | some m =>
    obtain ⟨bk, bm2, cv, L2, C2, rfl, h⟩ := h
    have lk := lt_of h.blk
    have lm := h.map.lt
    refine ⟨bk, bm2, cv, L2, C2, rfl, ⟨(hk bk lk h.fk h.nk h.neb h.nkm).trans h.blk, hF bk lk h.fk, hF bm2 lm h.fm, fun q => h.nk (hFI bk lk q), fun q => h.nm (hFI bm2 lm q), h.ne, h.neb, h.nkm, h.nmb, ?_, h.ris, h.ris2, h.kl, fun k => (h.ent k).mono fun a b q => HeldAt.re q ev hX, ?_, h.len, fun i h1 h2 => (h.efs i h1 h2).re ev hX, fun g hg => ?_, h.num⟩⟩
    · obtain ⟨es, c, q, r⟩ := h.map
      exact ⟨es, c, (hk bm2 lm h.fm h.nm h.nmb h.ne).trans q, r⟩
    · refine FRow.row_later h.row fun g cs t fz hg hh _ => ?_
      have q := h.cb g hg
      exact hk g (lt_of hh) q.1 q.2.1 q.2.2.1 q.2.2.2
    · have q := h.cb g hg
      have l := (row_kd h.row hg).2.1
      exact ⟨hF g l q.1, fun e => q.2.1 (hFI g l e), q.2.2⟩
/-- a space that is looked at from a later world, in which nothing of its own has turned -/
theorem SPa.re {F X X' FI : Nat → Prop} {b bm bi : Nat} {mv : Value} {L : KL Value} {s : Es} {w w' : World} {S : Sp} (h : SPa F X FI b bm bi mv L s w S) (hk : ∀ k, F k → w'.heap[k]? = w.heap[k]?) (ev : Ev X w w') (hX : ∀ k, k < w.heap.size → X' k → X k) (fx : ∀ k, F k → X' k) (xl : ∀ k, X' k → k < w'.heap.size) : SPa F X' FI b bm bi mv L s w' S := by
  refine ⟨(hk b h.fb).trans h.blk, h.fb, h.fm, h.fi, h.nb, h.nm, fun k q => Nat.lt_of_lt_of_le (h.lo k q) ev.size, fx, xl, ?_, h.ris, h.ris2, h.kl, fun k => (h.ent k).mono fun a b q => EnAt.re q ev hX, ?_, h.du, h.mark.re (fun k _ q _ _ _ => hk k q) (fun k _ q => q) (fun k _ q => q) ev hX, h.num⟩
  · obtain ⟨es, c, q, r⟩ := h.map
    exact ⟨es, c, (hk bm h.fm).trans q, r⟩
  · refine ix_re h.ix ev.size (fun k hl q => ?_) (fun k hl q => ?_) (fun k q => .inr q)
    · rcases q with q | q
      · exact hk k (h.fi k q)
      · omega
    · rcases q with q | q
      · exact .inl q
      · omega
theorem SPa.below {F X FI : Nat → Prop} {b bm bi : Nat} {mv : Value} {L : KL Value} {s : Es} {w w' : World} {S : Sp} (h : SPa F X FI b bm bi mv L s w S) (hb : Below w.heap.size w w') : SPa F X FI b bm bi mv L s w' S :=
  h.re (fun k q => hb.block k (h.lo k q)) (Ev.of_below hb) (fun k _ q => q) h.fx (fun k q => Nat.lt_of_lt_of_le (h.xl k q) hb.size)
theorem SP.re {F X X' : Nat → Prop} {b : Nat} {w w' : World} {S : Sp} (h : SP F X b w S) (hk : ∀ k, F k → w'.heap[k]? = w.heap[k]?) (ev : Ev X w w') (hX : ∀ k, k < w.heap.size → X' k → X k) (fx : ∀ k, F k → X' k) (xl : ∀ k, X' k → k < w'.heap.size) : SP F X' b w' S := by
  obtain ⟨FI, bm, bi, mv, L, s, h⟩ := h
  exact ⟨FI, bm, bi, mv, L, s, h.re hk ev hX fx xl⟩
theorem SP.below {F X : Nat → Prop} {b : Nat} {w w' : World} {S : Sp} (h : SP F X b w S) (hb : Below w.heap.size w w') : SP F X b w' S := by
  obtain ⟨FI, bm, bi, mv, L, s, h⟩ := h
  exact ⟨FI, bm, bi, mv, L, s, h.below hb⟩
theorem SP.lo {F X : Nat → Prop} {b : Nat} {w : World} {S : Sp} (h : SP F X b w S) : ∀ k, F k → k < w.heap.size := by
  obtain ⟨FI, bm, bi, mv, L, s, h⟩ := h
  exact h.lo
theorem SP.xl {F X : Nat → Prop} {b : Nat} {w : World} {S : Sp} (h : SP F X b w S) : ∀ k, X k → k < w.heap.size := by
  obtain ⟨FI, bm, bi, mv, L, s, h⟩ := h
  exact h.xl
theorem SP.fx {F X : Nat → Prop} {b : Nat} {w : World} {S : Sp} (h : SP F X b w S) : ∀ k, F k → X k := by
  obtain ⟨FI, bm, bi, mv, L, s, h⟩ := h
  exact h.fx
/-- what a call leaves of a space: what it may touch may have grown by new blocks -/
def Dn (F X : Nat → Prop) (b : Nat) (w w' : World) (S : Sp) : Prop := ∃ F' : Nat → Prop, SP F' (fun k => X k ∨ F' k) b w' S ∧ Ev F w w' ∧ ∀ k, F' k → F k ∨ w.heap.size ≤ k
theorem Dn.of {F X : Nat → Prop} {b : Nat} {w w' : World} {S : Sp} (h : SP F X b w S) (hb : Below w.heap.size w w') : Dn F X b w w' S :=
  ⟨F, (h.below hb).re (fun _ _ => rfl) (Ev.refl _ _) (fun k _ q => q.elim id (h.fx k)) (fun k q => .inr q) (fun k q => Nat.lt_of_lt_of_le (q.elim (h.xl k) (h.lo k)) hb.size), Ev.of_below hb, fun k q => .inl q⟩
theorem Dn.trans {F X : Nat → Prop} {b : Nat} {w w1 w2 : World} {S1 S2 : Sp} {F1 : Nat → Prop} (e1 : Ev F w w1) (n1 : ∀ k, F1 k → F k ∨ w.heap.size ≤ k) (h2 : Dn F1 (fun k => X k ∨ F1 k) b w1 w2 S2) : Dn F X b w w2 S2 := by
  obtain ⟨F2, s2, e2, n2⟩ := h2
  refine ⟨F2, s2.re (fun _ _ => rfl) (Ev.refl _ _) (fun k _ q => q.elim (fun q => .inl (.inl q)) .inr) (fun k q => .inr q) (fun k q => q.elim (fun q => s2.xl k (.inl (.inl q))) (s2.lo k)), ?_, fun k q => ?_⟩
  · refine ⟨e2.os.trans e1.os, e2.tape.trans e1.tape, e2.output.trans e1.output, Nat.le_trans e1.size e2.size, fun k hk hn => (e2.block k (Nat.lt_of_lt_of_le hk e1.size) (fun q => ?_)).trans (e1.block k hk hn)⟩
    rcases n1 k q with q | q
    · exact hn q
    · omega
  · rcases n2 k q with q | q
    · exact n1 k q
    · exact .inr (Nat.le_trans e1.size q)
end Go.Proofs.YtminfpkigenahaaGreatDoor.SBase
end
