/- Whether a text, a list, a set, a hash may be. The order of entries: cmp.Compare, cmp.Or, inOrder; isScore. Whether a rank may be. contentOf, strayed, checked, Check. -/
import Derived.Test.YtpibeabokedpdaaGreatDoorEqualM
section
namespace Go.Proofs.YtpibeabokedpdaaGreatDoor.May
open Go.RowKit Go.Maps
open Go.Proofs.YtpibeabokedpdaaGreatDoor.SetMath
open Go.Proofs.YtpibeabokedpdaaGreatDoor.ValueMath
open Go.Proofs.YtpibeabokedpdaaGreatDoor.Base
open Go.Proofs.YtpibeabokedpdaaGreatDoor.Vals
open Go.Proofs.YtpibeabokedpdaaGreatDoor.ROf (RW)
set_option linter.unusedVariables false

set_option maxRecDepth 100000 in
theorem text_call (t : Bs) (w : World) (hl : t.length ≤ 140737488355328) : Calls Tryz.prog 256 #[.string (mk t)] w fun e w' => e = .returned (.bool (tOk t)) ∧ w' = w := by
  have hs := mk_size t
  unfold tOk
  rw [← hs] at hl ⊢
  generalize mk t = X at *
  clear hs
  by_cases h : X.size ≤ 1048576
  · go_enter Tryz.func256, Tryz.ntmps256
    go_wp2
    go_ret
    exact ⟨ret_b (by simp; omega), rfl⟩
  · go_enter Tryz.func256, Tryz.ntmps256
    go_wp2
    go_ret
    exact ⟨ret_b (by simp; omega), rfl⟩
theorem all_take {α : Type} {p : α → Bool} {l : List α} {k : Nat} (hk : k < l.length) (h : (l.take k).all p = true) (hp : p l[k] = true) : (l.take (k + 1)).all p = true := by
  rw [List.take_succ_eq_append_getElem hk, List.all_append, h]
  simp [hp]
theorem all_no {α : Type} {p : α → Bool} {l : List α} {k : Nat} (hk : k < l.length) (hp : p l[k] = false) : l.all p = false := by
  cases e : l.all p
  · rfl
  · rw [List.all_eq_true.1 e _ (List.getElem_mem hk)] at hp
    cases hp
def Sml (l : List Bs) : Prop := ∀ x ∈ l, x.length ≤ 140737488355328
set_option maxHeartbeats 1000000 in
set_option maxRecDepth 100000 in
theorem list_call {G : Nat → Prop} {w : World} {v : Value} {l : List El} (h : SL G w v l) (hb : l.length ≤ 140737488355328) (hs : Sml l) :
    Calls Tryz.prog 259 #[v] w fun e w' => e = .returned (.bool (lOk l)) ∧ w' = w := by
  obtain ⟨a, c, rfl, hc, hr⟩ := h
  have H1 := hid_of hr
  have HS := hid_of hs
  obtain ⟨L, HL⟩ : ∃ L, Hid (L = l.length) := ⟨_, hid_of rfl⟩
  rw [← HL.out] at hb ⊢
  clear hr hc hs
  go_enter Tryz.func259, Tryz.ntmps259
  go_wp2_with fail
  go_loopg [7] L (fun g s3 wx => ∃ j : Nat, j ≤ L ∧ L ≤ j + g ∧ s3 = .int .i64 (j : Int) ∧ Hid ((l.take j).all tOk = true) ∧ wx = w)
  case atStart => exact ⟨0, by omega, by omega, rfl, hid_of rfl, rfl⟩
  case round =>
    obtain ⟨j, hj, hg, rfl, HA, hwx⟩ := hrel
    subst hwx
    by_cases hlt : j < L
    · obtain ⟨g', rfl⟩ : ∃ g', gk = g' + 1 := ⟨gk - 1, by omega⟩
      have hjl : j < l.length := by rw [← HL.out]; exact hlt
      obtain ⟨g1, o1, rfl, _, q1⟩ := Rd.get H1.out (by omega)
      have c1 : wr.cell? ⟨g1, o1 + j, none⟩ = some (.string (mk l[j])) := q1 j _ (List.getElem?_eq_getElem hjl)
      have HN := hid_of (fun q => all_take (p := tOk) hjl HA.out q)
      have HF := hid_of (fun q => all_no (p := tOk) hjl q)
      have HC := hid_of (text_call l[j] wr (HS.out _ (List.getElem_mem hjl)))
      generalize l[j] = x at *
      have w1 : IntKind.i64.wrap ((j : Int) + 1) = (j : Int) + 1 := IntWalk.i64_in _ (by omega)
      have d1 : (j : Int) < (L : Int) := by omega
      clear q1
      generalize mk x = X at *
      generalize tOk x = b at *
      go_wp2_with fail
      refine HC.out.mono ?_
      rintro e w2 ⟨rfl, hw2⟩
      rw [hw2]
      clear hw2 HC
      cases b
      · have HZ := hid_of (HF.out rfl)
        clear HF HN
        go_wp2_with fail
        go_ret
        exact ⟨ret_b (by unfold lOk; rw [HZ.out]; rfl), rfl⟩
      · have HZ := hid_of (HN.out rfl)
        clear HF HN
        go_wp2_with fail
        go_roundg g'
        case measure => omega
        case rel => exact ⟨j + 1, by omega, by omega, by simp, HZ, rfl⟩
    · have d1 : ¬ (j : Int) < (L : Int) := by omega
      have HT : Hid (lOk l = decide (0 < L)) := hid_of (by
        have := HA.out
        rw [List.take_of_length_le (by have := HL.out; omega)] at this
        unfold lOk
        rw [this, HL.out, Bool.true_and])
      go_wp2_with fail
      go_ret
      exact ⟨ret_b (by rw [HT.out]), rfl⟩
set_option maxRecDepth 100000 in
theorem set_call {G : Nat → Prop} {w : World} {v : Value} {l : List El} (h : SL G w v l) (hb : l.length ≤ 140737488355328) (hs : Sml l) :
    Calls Tryz.prog 265 #[v] w fun e w' => e = .returned (.bool (setOk l)) ∧ Below w.heap.size w w' := by
  have HC := hid_of (list_call h hb hs)
  have HV := hid_of (Small.valid_call h hb)
  unfold setOk
  obtain ⟨a, c, rfl, _, _⟩ := h
  generalize lOk l = b at *
  generalize decide (Ris l) = d at *
  go_enter Tryz.func265, Tryz.ntmps265
  go_wp2_with fail
  refine HC.out.mono ?_
  rintro e w1 ⟨rfl, hw1⟩
  rw [hw1]
  clear hw1
  cases b
  · go_wp2_with fail
    go_ret
    exact ⟨rfl, Below.refl _ _⟩
  · go_wp2_with fail
    refine HV.out.mono ?_
    rintro e w2 ⟨rfl, m, hm⟩
    rw [hm]
    clear hm
    go_wp2_with fail
    go_ret
    exact ⟨rfl, bel_drewN _ _⟩
/- the names of the first k, then nothing -/
def pnm {α : Type} (f : α → Bs) (l : List α) (k : Nat) : List Bs := (l.take k).map f ++ List.replicate (l.length - k) []
theorem pnm_len {α : Type} (f : α → Bs) (l : List α) (k : Nat) (h : k ≤ l.length) : (pnm f l k).length = l.length := by simp [pnm]; omega
theorem pnm_set {α : Type} (f : α → Bs) (l : List α) (k : Nat) (h : k < l.length) : (pnm f l k).set k (f l[k]) = pnm f l (k + 1) := by
  unfold pnm
  rw [List.set_append_right _ _ (by simp; omega)]
  have e : k - ((l.take k).map f).length = 0 := by simp; omega
  rw [e, show l.length - k = (l.length - (k + 1)) + 1 by omega, List.replicate_succ, List.set_cons_zero, List.take_succ_eq_append_getElem h, List.map_append, List.append_assoc]
  rfl
theorem pnm_zero {α : Type} (f : α → Bs) (l : List α) : pnm f l 0 = List.replicate l.length [] := by simp [pnm]
theorem pnm_all {α : Type} (f : α → Bs) (l : List α) : pnm f l l.length = l.map f := by simp [pnm]
theorem made_rw {w w0 : World} {n : Nat} (h : w0.ownsRow w.heap.size 9 1 (.slice (some ⟨w.heap.size, 0, none⟩) n n) n (madeCells #[.string ⟨#[]⟩] n).toList) : RW w.heap.size w0 w.heap.size n (List.replicate n []) := by
  rw [toList_madeCells_one] at h
  rcases h.2 with ⟨e, _⟩ | ⟨g, c, cur, e, hb, hr, h1, h2, h3, h4⟩
  · cases e
  · injection e with e1 e2 e3
    injection e1 with e1
    injection e1 with e1
    subst e1
    subst e3
    refine ⟨Nat.le_refl _, cur, hr, by simpa using h3, by simp, ?_⟩
    rw [List.length_replicate]
    rw [Nat.mul_one] at h4
    rw [h4]
    simp [V, mk]
theorem info9' : (Tryz.prog.info? 9).map (fun i => (i.zero, i.size, i.bytes)) = some (some (.string ⟨#[]⟩), 1, 16) := by kernel_rfl
theorem rw_below {B : Nat} {w w' : World} {g c : Nat} {l : List El} (h : RW B w g c l) (hb : Below w.heap.size w w') : RW B w' g c l := by
  obtain ⟨h1, cur, h2, h3⟩ := h
  exact ⟨h1, cur, (hb.block g (lt_of h2)).trans h2, h3⟩
structure Fok (l : FL) : Prop where
  n : ∀ p ∈ l, p.1.length ≤ 140737488355328
  v : ∀ p ∈ l, p.2.length ≤ 140737488355328
set_option maxHeartbeats 4000000 in
set_option maxRecDepth 100000 in
theorem hash_call {w : World} {v : Value} {l : FL} (h : FRow.FS w v l) (hb : l.length ≤ FRow.big) (hs : Fok l) :
    Calls Tryz.prog 262 #[v] w fun e w' => e = .returned (.bool (hashOk l)) ∧ Below w.heap.size w w' := by
  obtain ⟨i0, hi, hz0, hz1, hz2⟩ := info_parts info9'
  have HF := hid_of h
  have HS := hid_of hs
  obtain ⟨a, c, rfl, hc, hr⟩ := h
  obtain ⟨L, HL⟩ : ∃ L, Hid (L = List.length l) := ⟨_, hid_of rfl⟩
  unfold FRow.big at hb
  rw [← HL.out] at hb hc HF ⊢
  clear hr hs hc
  go_enter Tryz.func262, Tryz.ntmps262
  go_wp2_with (at_make; refine wpList_make_full _ rfl _ _ 22 rfl w.heap.size 9 i0 (.string ⟨#[]⟩) 1 Tryz.underlying22 hi hz0 hz1 _ _ _ _ L rfl rfl rfl rfl ?b2 ?b3 (Nat.le_refl _) ?_)
  case b2 => rw [hz2]; omega
  case b3 => unfold maxLen; omega
  intro w0 hown0 hgrow0
  have R0 : Hid (RW w.heap.size w0 w.heap.size L (pnm (·.1) l 0) ∧ Below w.heap.size w w0) := hid_of ⟨by rw [pnm_zero, ← HL.out]; exact made_rw hown0, (Below.refl _ _).grown hgrow0 (Nat.le_refl _) (fun k h => by cases h)⟩
  clear hown0 hgrow0
  go_wp2_with fail
  go_loopg [11] L (fun g s3 wx => ∃ j : Nat, j ≤ L ∧ L ≤ j + g ∧ s3 = .int .i64 (j : Int) ∧ Hid ((l.take j).all (fun p => tOk p.2) = true) ∧ Hid (RW w.heap.size wx w.heap.size L (pnm (·.1) l j) ∧ Below w.heap.size w wx))
  case atStart => exact ⟨0, by omega, by omega, rfl, hid_of rfl, R0⟩
  case round =>
    obtain ⟨j, hj, hg, rfl, HA, R⟩ := hrel
    by_cases hlt : j < L
    · obtain ⟨g', rfl⟩ : ∃ g', gk = g' + 1 := ⟨gk - 1, by omega⟩
      have hjl : j < List.length l := by rw [← HL.out]; exact hlt
      obtain ⟨ga, oa, rfl, ha⟩ := FRow.FS.at (HF.out.below R.out.2) hjl
      obtain ⟨a0, a1⟩ := ha j hjl
      clear ha
      have HN := hid_of (fun q => all_take (p := fun p : Bs × Bs => tOk p.2) hjl HA.out q)
      have HX := hid_of (fun q => all_no (p := fun p : Bs × Bs => tOk p.2) hjl q)
      have HC := hid_of (fun W => text_call l[j].2 W (HS.out.v _ (List.getElem_mem hjl)))
      have rb := R.out.1.set j l[j].1
      rw [pnm_set (·.1) l j hjl] at rb
      have rs := rw_below rb (FRow.bnew _ (.cells #[.string (mk l[j].1), .string (mk l[j].2)] 148))
      have hw2 : Below w.heap.size w ((wr.setCell ⟨w.heap.size, j, none⟩ (.string (mk l[j].1))).alloc (.cells #[.string (mk l[j].1), .string (mk l[j].2)] 148)) := (bset R.out.2 (Nat.le_refl _) _).alloc (by rw [size_set]; exact R.out.2.size) _
      have hfz := R.out.1.frozen j
      obtain ⟨y, hy⟩ : ∃ y, (pnm (·.1) l j)[j]? = some y := ⟨_, List.getElem?_eq_getElem (by rw [pnm_len _ _ _ (by omega)]; exact hjl)⟩
      have hcl := R.out.1.cell hy
      have RS := hid_of (And.intro rs hw2)
      have hlt2 : w.heap.size < wr.heap.size := by
        obtain ⟨_, cur, h2, _⟩ := R.out.1
        exact lt_of h2
      clear rb rs hw2 hy
      generalize l[j] = x at *
      obtain ⟨x1, x2⟩ := x
      simp only at a0 a1 HN HX HC RS
      have w1 : IntKind.i64.wrap ((j : Int) + 1) = (j : Int) + 1 := IntWalk.i64_in _ (by omega)
      have d1 : (j : Int) < (L : Int) := by omega
      generalize mk x1 = X1 at *
      generalize mk x2 = X2 at *
      generalize mk y = Y at *
      generalize tOk x2 = b at *
      go_wp2_with fail
      refine (HC.out _).mono ?_
      rintro e w2 ⟨rfl, hw2⟩
      rw [hw2]
      clear hw2 HC
      cases b
      · have HZ := hid_of (HX.out rfl)
        clear HX HN
        go_wp2_with fail
        go_ret
        exact ⟨ret_b (by unfold hashOk; rw [HZ.out]; rfl), R.out.2.alloc R.out.2.size _⟩
      · have HZ := hid_of (HN.out rfl)
        clear HX HN
        go_wp2_with fail
        go_roundg g'
        case measure => omega
        case rel => exact ⟨j + 1, by omega, by omega, by simp, HZ, RS⟩
    · obtain rfl : j = L := by omega
      have d1 : ¬ (j : Int) < (j : Int) := by omega
      have rl : RW w.heap.size wr w.heap.size j (fnames l) := by
        have := R.out.1
        rw [HL.out, pnm_all, ← HL.out] at this
        exact this
      have hfl : (fnames l).length = j := by rw [HL.out]; exact List.length_map _
      have nl := rl.nr
      rw [hfl] at nl
      have HC := hid_of (set_call nl.sl (by rw [hfl]; omega) (fun x hx => by obtain ⟨p, hp, rfl⟩ := List.mem_map.1 hx; exact HS.out.n p hp))
      have HT : Hid (hashOk l = setOk (fnames l)) := hid_of (by
        have := HA.out
        rw [List.take_of_length_le (by have := HL.out; omega)] at this
        unfold hashOk
        rw [this]; rfl)
      clear rl nl hfl HA
      generalize setOk (fnames l) = b at *
      go_wp2_with fail
      refine HC.out.mono ?_
      rintro e w2 ⟨rfl, b2⟩
      have B2 := hid_of (FRow.bel R.out.2 b2 (Nat.le_refl _))
      clear b2
      go_wp2_with fail
      go_ret
      exact ⟨ret_b HT.out.symm, B2.out⟩
end Go.Proofs.YtpibeabokedpdaaGreatDoor.May
end
section
namespace Go.Proofs.YtpibeabokedpdaaGreatDoor.Cmp
open Go.RowKit Go.Maps Go.Sort
open Go.Proofs.YtpibeabokedpdaaGreatDoor.SetMath
open Go.Proofs.YtpibeabokedpdaaGreatDoor.ValueMath
open Go.Proofs.YtpibeabokedpdaaGreatDoor.Base
open Go.Proofs.YtpibeabokedpdaaGreatDoor.Vals
set_option linter.unusedVariables false
set_option linter.unusedSimpArgs false
def cmpI (a b : Int) : Int := if a < b then -1 else if b < a then 1 else 0
def cmpB (a b : Bs) : Int := if a < b then -1 else if b < a then 1 else 0
def ltE (a b : Bs × Int) : Prop := a.2 < b.2 ∨ a.2 = b.2 ∧ a.1 < b.1
theorem nan_int (x : Int) (w : World) : Calls Tryz.prog 203 #[.int .i64 x] w fun e w' => e = .returned (.bool false) ∧ w' = w := by
  go_enter Tryz.func203, Tryz.ntmps203
  go_wp2
  go_ret
  exact ⟨by simp, rfl⟩
theorem nan_string (x : ByteArray) (w : World) : Calls Tryz.prog 153 #[.string x] w fun e w' => e = .returned (.bool false) ∧ w' = w := by
  go_enter Tryz.func153, Tryz.ntmps153
  go_wp2
  go_ret
  exact ⟨by simp, rfl⟩
set_option maxHeartbeats 1000000 in
theorem cmp_int (x y : Int) (w : World) : Calls Tryz.prog 276 #[.int .i64 x, .int .i64 y] w fun e w' => e = .returned (.int .i64 (cmpI x y)) ∧ w' = w := by
  have h1 := nan_int x w
  have h2 := nan_int y w
  unfold cmpI
  by_cases hl : x < y
  · rw [if_pos hl]
    go_enter Tryz.func276, Tryz.ntmps276
    go_wp2
    go_ret
    exact ⟨rfl, rfl⟩
  · rw [if_neg hl]
    by_cases hg : y < x
    · rw [if_pos hg]
      go_enter Tryz.func276, Tryz.ntmps276
      go_wp2
      go_ret
      exact ⟨rfl, rfl⟩
    · rw [if_neg hg]
      go_enter Tryz.func276, Tryz.ntmps276
      go_wp2
      go_ret
      exact ⟨rfl, rfl⟩
set_option maxHeartbeats 1000000 in
theorem cmp_str (x y : Bs) (w : World) : Calls Tryz.prog 277 #[.string (mk x), .string (mk y)] w fun e w' => e = .returned (.int .i64 (cmpB x y)) ∧ w' = w := by
  have h1 := nan_string (mk x) w
  have h2 := nan_string (mk y) w
  have l1 := str_lt x y
  have l2 := str_lt y x
  have l3 := str_eq x y
  unfold cmpB
  by_cases hl : x < y
  · rw [if_pos hl]
    rw [decide_eq_true hl] at l1
    clear hl l2 l3
    generalize mk x = X at *
    generalize mk y = Y at *
    go_enter Tryz.func277, Tryz.ntmps277
    go_wp2
    go_ret
    exact ⟨rfl, rfl⟩
  · rw [if_neg hl]
    rw [decide_eq_false hl] at l1
    by_cases hg : y < x
    · rw [if_pos hg]
      rw [decide_eq_true hg] at l2
      rw [show decide (x = y) = false from by simp; rintro rfl; exact hl hg] at l3
      clear hl hg
      generalize mk x = X at *
      generalize mk y = Y at *
      go_enter Tryz.func277, Tryz.ntmps277
      go_wp2
      go_ret
      exact ⟨rfl, rfl⟩
    · rw [if_neg hg]
      rw [decide_eq_false hg] at l2
      rw [show decide (x = y) = true from by simp; rcases lt_tot x y with q | q | q; exact absurd q hl; exact q; exact absurd q hg] at l3
      clear hl hg
      generalize mk x = X at *
      generalize mk y = Y at *
      go_enter Tryz.func277, Tryz.ntmps277
      go_wp2
      go_ret
      exact ⟨rfl, rfl⟩
set_option maxHeartbeats 1000000 in
theorem or_call (x y : Int) (g : Nat) (w : World) (h0 : w.cell? ⟨g, 0, none⟩ = some (.int .i64 x)) (h1 : w.cell? ⟨g, 1, none⟩ = some (.int .i64 y)) : Calls Tryz.prog 275 #[.slice (some ⟨g, 0, none⟩) 2 2] w fun e w' => e = .returned (.int .i64 (if x = 0 then y else x)) ∧ w' = w := by
  by_cases hx : x = 0
  · rw [if_pos hx]
    subst hx
    by_cases hy : y = 0
    · subst hy
      go_enter Tryz.func275, Tryz.ntmps275
      go_wp2
      refine wp_loop_rounds 3 ?_
      rw [rounds_succ]
      go_wp2
      rw [rounds_succ]
      go_wp2
      rw [rounds_succ]
      go_wp2
      go_ret
      exact ⟨rfl, rfl⟩
    · go_enter Tryz.func275, Tryz.ntmps275
      go_wp2
      refine wp_loop_rounds 3 ?_
      rw [rounds_succ]
      go_wp2
      rw [rounds_succ]
      go_wp2
      go_ret
      exact ⟨rfl, rfl⟩
  · rw [if_neg hx]
    go_enter Tryz.func275, Tryz.ntmps275
    go_wp2
    refine wp_loop_rounds 3 ?_
    rw [rounds_succ]
    go_wp2
    go_ret
    exact ⟨rfl, rfl⟩
def cmpE (a b : Bs × Int) : Int := if cmpI a.2 b.2 = 0 then cmpB a.1 b.1 else cmpI a.2 b.2
theorem cmpE_lt (a b : Bs × Int) : cmpE a b < 0 ↔ ltE a b := by
  unfold cmpE cmpI cmpB ltE
  by_cases h1 : a.2 < b.2
  · simp [h1]
  · by_cases h2 : b.2 < a.2
    · simp [h1, h2]; omega
    · have h3 : a.2 = b.2 := by omega
      rw [if_neg h1, if_neg h2, if_pos rfl]
      by_cases h4 : a.1 < b.1
      · simp [h4, h3]
      · rw [if_neg h4]
        by_cases h5 : b.1 < a.1
        · rw [if_pos h5]; simp [h4, h1]
        · rw [if_neg h5]; simp [h4, h1]

def eV (p : Bs × Int) : Value := .agg #[.string (mk p.1), .int .i64 p.2]
theorem ahd_eq (a b : Bs × Int) : ahd a b = decide (cmpE a b < 0) := by
  have h := cmpE_lt a b
  unfold ltE at h
  rw [Bool.eq_iff_iff, decide_eq_true_iff, h]
  unfold ahd
  simp
set_option maxHeartbeats 4000000 in
set_option maxRecDepth 100000 in
theorem order_call (a b : Bs × Int) (w : World) : Calls Tryz.prog 273 #[eV a, eV b] w fun e w' => e = .returned (.bool (ahd a b)) ∧ Below w.heap.size w w' := by
  have hI : ∀ W, Calls Tryz.prog 276 #[.int .i64 a.2, .int .i64 b.2] W fun e w' => e = .returned (.int .i64 (cmpI a.2 b.2)) ∧ w' = W := cmp_int a.2 b.2
  have hS : ∀ W, Calls Tryz.prog 277 #[.string (mk a.1), .string (mk b.1)] W fun e w' => e = .returned (.int .i64 (cmpB a.1 b.1)) ∧ w' = W := cmp_str a.1 b.1
  have hO := or_call (cmpI a.2 b.2) (cmpB a.1 b.1)
  rw [show (if cmpI a.2 b.2 = 0 then cmpB a.1 b.1 else cmpI a.2 b.2) = cmpE a b from rfl] at hO
  have HA := hid_of (ahd_eq a b)
  unfold eV
  rw [show ahd a b = decide (cmpE a b < 0) from HA.out]
  clear HA
  generalize cmpE a b = R at *
  generalize cmpI a.2 b.2 = CI at *
  generalize cmpB a.1 b.1 = CS at *
  generalize mk a.1 = X at *
  generalize mk b.1 = Y at *
  generalize a.2 = x at *
  generalize b.2 = y at *
  go_enter Tryz.func273, Tryz.ntmps273
  go_wp2_with fail
  obtain ⟨W, hW⟩ : ∃ W, W = (w.alloc (.cells #[.string X, .int .i64 x] 151)).alloc (.cells #[.string Y, .int .i64 y] 151) := ⟨_, rfl⟩
  have p0 : W.cell? ⟨w.heap.size, 0, none⟩ = some (.string X) := by rw [hW]; simp
  have p1 : W.cell? ⟨w.heap.size, 1, none⟩ = some (.int .i64 x) := by rw [hW]; simp
  have p2 : W.cell? ⟨w.heap.size + 1, 0, none⟩ = some (.string Y) := by rw [hW]; simp
  have p3 : W.cell? ⟨w.heap.size + 1, 1, none⟩ = some (.int .i64 y) := by rw [hW]; simp
  have HW := hid_of hW
  rw [← hW]
  have hs : w.heap.size + 2 = W.heap.size := by rw [hW]; simp
  clear hW
  obtain ⟨V, hV⟩ : ∃ V, V = W.alloc (.cells #[.int .i64 CI, .int .i64 CS] 3) := ⟨_, rfl⟩
  have bV : Below W.heap.size W V := by rw [hV]; exact FRow.bnew W _
  have q0 : (W.alloc (.cells #[.int .i64 CI, .int .i64 CS] 3)).drew.cell? ⟨w.heap.size, 0, none⟩ = some (.string X) := by rw [← hV]; exact FRow.cell_on bV p0
  have q1 : (W.alloc (.cells #[.int .i64 CI, .int .i64 CS] 3)).drew.cell? ⟨w.heap.size, 1, none⟩ = some (.int .i64 x) := by rw [← hV]; exact FRow.cell_on bV p1
  have q2 : (W.alloc (.cells #[.int .i64 CI, .int .i64 CS] 3)).drew.cell? ⟨w.heap.size + 1, 0, none⟩ = some (.string Y) := by rw [← hV]; exact FRow.cell_on bV p2
  have q3 : (W.alloc (.cells #[.int .i64 CI, .int .i64 CS] 3)).drew.cell? ⟨w.heap.size + 1, 1, none⟩ = some (.int .i64 y) := by rw [← hV]; exact FRow.cell_on bV p3
  have HO := hid_of (hO W.heap.size (W.alloc (.cells #[.int .i64 CI, .int .i64 CS] 3)) (by simp) (by simp))
  have HO2 := hid_of (hO W.heap.size (W.alloc (.cells #[.int .i64 CI, .int .i64 CS] 3)).drew (by simp) (by simp))
  clear bV hV hO hs
  go_region_held3 (fun V => V.cell? ⟨w.heap.size, 0, none⟩ = some (.string X) ∧ V.cell? ⟨w.heap.size, 1, none⟩ = some (.int .i64 x) ∧ V.cell? ⟨w.heap.size + 1, 0, none⟩ = some (.string Y) ∧ V.cell? ⟨w.heap.size + 1, 1, none⟩ = some (.int .i64 y)) (first | exact ⟨p0, p1, p2, p3⟩ | exact ⟨q0, q1, q2, q3⟩) (first
    | (go_at_call 276; refine (hI _).mono ?_; rintro e w1 ⟨rfl, rfl⟩)
    | (go_at_call 277; refine (hS _).mono ?_; rintro e w1 ⟨rfl, rfl⟩)
    | (go_at_call 275; first | (refine HO.out.mono ?_; rintro e w1 ⟨rfl, rfl⟩) | (refine HO2.out.mono ?_; rintro e w1 ⟨rfl, rfl⟩)))
  go_wp2_with fail
  go_ret
  exact ⟨rfl, by
    have b0 : Below w.heap.size w W := by rw [HW.out]; exact FRow.bel (FRow.bnew w _) (FRow.bnew _ _) (Nat.le_refl _)
    exact (FRow.bel b0 (FRow.bnew W _) (Nat.le_refl _)).drew⟩

set_option maxRecDepth 100000 in
theorem score_call (n : Int) (w : World) : Calls Tryz.prog 272 #[.int .i64 n] w fun e w' => e = .returned (.bool (scOk n)) ∧ w' = w := by
  unfold scOk
  by_cases h1 : -9007199254740992 ≤ n
  · by_cases h2 : n ≤ 9007199254740992
    · go_enter Tryz.func272, Tryz.ntmps272
      go_wp2
      go_ret
      exact ⟨ret_b (by simp [h1, h2]), rfl⟩
    · go_enter Tryz.func272, Tryz.ntmps272
      go_wp2
      go_ret
      exact ⟨ret_b (by simp [h1, h2]), rfl⟩
  · go_enter Tryz.func272, Tryz.ntmps272
    go_wp2
    go_ret
    exact ⟨ret_b (by simp; omega), rfl⟩
end Go.Proofs.YtpibeabokedpdaaGreatDoor.Cmp
end
section
namespace Go.Proofs.YtpibeabokedpdaaGreatDoor.MayR
open Go.RowKit Go.Maps
open Go.Proofs.YtpibeabokedpdaaGreatDoor.SetMath
open Go.Proofs.YtpibeabokedpdaaGreatDoor.ValueMath
open Go.Proofs.YtpibeabokedpdaaGreatDoor.Base
open Go.Proofs.YtpibeabokedpdaaGreatDoor.Vals
open Go.Proofs.YtpibeabokedpdaaGreatDoor.May
open Go.Proofs.YtpibeabokedpdaaGreatDoor.ROf (RW)
set_option linter.unusedVariables false
set_option linter.unusedSimpArgs false

theorem okAt_at {l : EL} {k : Nat} (hk : k < l.length) : okAt l k = (scOk l[k].2 && (k == 0 || ahd (l[k - 1]'(by omega)) l[k])) := by
  unfold okAt
  rw [List.getElem?_eq_getElem hk, List.getElem?_eq_getElem (show k - 1 < l.length by omega)]
theorem ord_no {l : EL} {k : Nat} (hk : k < l.length) (h : okAt l k = false) : ordB l = false := by
  unfold ordB
  cases e : (List.range l.length).all (okAt l)
  · rfl
  · rw [List.all_eq_true.1 e k (List.mem_range.2 hk)] at h
    cases h
theorem ord_yes {l : EL} (h : ∀ j, j < l.length → okAt l j = true) : ordB l = true := List.all_eq_true.2 fun j hj => h j (List.mem_range.1 hj)
def Rok (l : EL) : Prop := ∀ p ∈ l, p.1.length ≤ 140737488355328
set_option maxHeartbeats 8000000 in
set_option maxRecDepth 100000 in
theorem rank_call {w : World} {v : Value} {l : EL} (h : ERow.FS w v l) (hb : l.length * 24 ≤ 140737488355328) (hs : Rok l) :
    Calls Tryz.prog 269 #[v] w fun e w' => e = .returned (.bool (rankOk l)) ∧ Below w.heap.size w w' := by
  obtain ⟨i0, hi, hz0, hz1, hz2⟩ := info_parts info9'
  have HF := hid_of h
  have HS := hid_of hs
  obtain ⟨a, c, rfl, hc, hr⟩ := h
  obtain ⟨L, HL⟩ : ∃ L, Hid (L = List.length l) := ⟨_, hid_of rfl⟩
  rw [← HL.out] at hb hc HF ⊢
  clear hr hs
  go_enter Tryz.func269, Tryz.ntmps269
  go_wp2_with (at_make; refine wpList_make_full _ rfl _ _ 22 rfl w.heap.size 9 i0 (.string ⟨#[]⟩) 1 Tryz.underlying22 hi hz0 hz1 _ _ _ _ L rfl rfl rfl rfl ?b2 ?b3 (Nat.le_refl _) ?_)
  case b2 => rw [hz2]; omega
  case b3 => unfold maxLen; omega
  intro w0 hown0 hgrow0
  have R0 : Hid (RW w.heap.size w0 w.heap.size L (pnm (·.1) l 0) ∧ Below w.heap.size w w0) := hid_of ⟨by rw [pnm_zero, ← HL.out]; exact made_rw hown0, (Below.refl _ _).grown hgrow0 (Nat.le_refl _) (fun k h => by cases h)⟩
  clear hown0 hgrow0
  go_wp2_with fail
  go_loopg [11] L (fun g s3 wx => ∃ j : Nat, j ≤ L ∧ L ≤ j + g ∧ s3 = .int .i64 (j : Int) ∧ Hid (∀ i, i < j → okAt l i = true) ∧ Hid (RW w.heap.size wx w.heap.size L (pnm (·.1) l j) ∧ Below w.heap.size w wx))
  case atStart => exact ⟨0, by omega, by omega, rfl, hid_of (fun i hi => by omega), R0⟩
  case round =>
    obtain ⟨j, hj, hg, rfl, HA, R⟩ := hrel
    by_cases hlt : j < L
    · obtain ⟨g', rfl⟩ : ∃ g', gk = g' + 1 := ⟨gk - 1, by omega⟩
      have hjl : j < List.length l := by rw [← HL.out]; exact hlt
      obtain ⟨ga, oa, rfl, ha⟩ := ERow.FS.at (HF.out.below R.out.2) hjl
      obtain ⟨a0, a1⟩ := ha j hjl
      have hgl : ga < wr.heap.size := Base.cell_lt a0
      have HAH : Hid (∀ h : j - 1 < List.length l, wr.cell? ⟨ga, oa + (j - 1) * 2, none⟩ = some (.string (mk (l[j - 1]'h).1)) ∧ wr.cell? ⟨ga, oa + (j - 1) * 2 + 1, none⟩ = some (.int .i64 (l[j - 1]'h).2)) := hid_of fun h => ha (j - 1) h
      clear ha
      have HO := hid_of (okAt_at hjl)
      have HN : Hid (okAt l j = true → ∀ i, i < j + 1 → okAt l i = true) := hid_of fun q i hi => by
        by_cases e : i = j
        · subst e; exact q
        · exact HA.out i (by omega)
      have HX : Hid (okAt l j = false → rankOk l = false) := hid_of fun q => by unfold rankOk; rw [ord_no hjl q]; rfl
      have HC := hid_of (fun W => Cmp.score_call l[j].2 W)
      have HP := hid_of (fun W => Cmp.order_call (l[j - 1]'(by omega)) l[j] W)
      have rb := R.out.1.set j l[j].1
      rw [pnm_set (·.1) l j hjl] at rb
      have RB : Hid (∀ W, Below wr.heap.size wr W → RW w.heap.size (W.setCell ⟨w.heap.size, j, none⟩ (.string (mk l[j].1))) w.heap.size L (pnm (·.1) l (j + 1)) ∧ Below w.heap.size w (W.setCell ⟨w.heap.size, j, none⟩ (.string (mk l[j].1)))) := hid_of fun W hW => by
        have q := (rw_below R.out.1 hW).set j l[j].1
        rw [pnm_set (·.1) l j hjl] at q
        exact ⟨q, bset (FRow.bel R.out.2 hW (Nat.le_refl _)) (Nat.le_refl _) _⟩
      clear rb
      have hfz := R.out.1.frozen j
      obtain ⟨y, hy⟩ : ∃ y, (pnm (·.1) l j)[j]? = some y := ⟨_, List.getElem?_eq_getElem (by rw [pnm_len _ _ _ (by omega)]; exact hjl)⟩
      have hcl := R.out.1.cell hy
      have hlt2 : w.heap.size < wr.heap.size := by
        obtain ⟨_, cur, h2, _⟩ := R.out.1
        exact lt_of h2
      clear hy
      have HP0 := HAH.out (by omega)
      generalize l[j - 1]'(by omega) = z at *
      generalize l[j] = x at *
      obtain ⟨x1, x2⟩ := x
      obtain ⟨z1, z2⟩ := z
      simp only [Cmp.eV] at a0 a1 HN HX HC RB HO HP HP0
      obtain ⟨p0, p1⟩ := HP0
      have w1 : IntKind.i64.wrap ((j : Int) + 1) = (j : Int) + 1 := IntWalk.i64_in _ (by omega)
      have d1 : (j : Int) < (L : Int) := by omega
      generalize mk x1 = X1 at *
      generalize mk z1 = Z1 at *
      generalize mk y = Y at *
      generalize ahd (z1, z2) (x1, x2) = ab at *
      generalize scOk x2 = b at *
      clear HAH
      obtain ⟨V, hV⟩ : ∃ V, V = wr.alloc (.cells #[.string X1, .int .i64 x2] 151) := ⟨_, rfl⟩
      have bV : Below wr.heap.size wr V := by rw [hV]; exact FRow.bnew wr _
      have v0 : V.heap[wr.heap.size]? = some (.cells #[.string X1, .int .i64 x2] 151 (0, 0)) := by rw [hV]; exact heap_alloc_new wr _
      have HV := hid_of hV
      have HBV := hid_of bV
      have HV0 := hid_of v0
      have HQ : Hid (∀ m, Calls Tryz.prog 272 #[.int .i64 x2] (V.drewN m) fun e w' => e = .returned (.bool b) ∧ ∃ q, w' = V.drewN q) := hid_of fun m => (HC.out (V.drewN m)).mono fun e w' ⟨h1, h2⟩ => ⟨h1, m, h2⟩
      obtain ⟨⟨t0, t1⟩, tz⟩ := box2 v0
      have hcl2 := FRow.cell_on bV hcl
      have hfz2 := (rw_below R.out.1 bV).frozen j
      have q0 := FRow.cell_on bV p0
      have q1 := FRow.cell_on bV p1
      clear v0 bV hV
      cases b
      · have HZ := hid_of (HX.out (by rw [HO.out]; rfl))
        clear HX HN HO HP HC
        go_wp2_with fail
        rw [← HV.out]
        go_quiet (first | exact (HQ.out _).mono fun _ _ h => h)
        go_wp2_with fail
        go_ret
        exact ⟨ret_b HZ.out.symm, FRow.bdrew (FRow.bel R.out.2 HBV.out (Nat.le_refl _)) nq⟩
      · by_cases h0 : j = 0
        · have h00 : decide ((0 : Int) < (j : Int)) = false := decide_eq_false (by omega)
          have h01 : decide (0 < j) = false := decide_eq_false (by omega)
          have HZ := hid_of (HN.out (by rw [HO.out, h0]; rfl))
          clear HX HN HO HP HC p0 p1 q0 q1 h0
          go_wp2_with fail
          rw [← HV.out]
          go_quiet (first | exact (HQ.out _).mono fun _ _ h => h)
          go_wp2_with fail
          go_roundg g'
          case measure => omega
          case rel => exact ⟨j + 1, by omega, by omega, by simp, HZ, hid_of (RB.out _ (FRow.bdrew HBV.out nq))⟩
        · have h00 : decide ((0 : Int) < (j : Int)) = true := decide_eq_true (by omega)
          have h01 : decide (0 < j) = true := decide_eq_true (by omega)
          have hj0 : (j == 0) = false := by simpa using h0
          have wz : IntKind.i64.wrap ((j : Int) - 1) = ((j - 1 : Nat) : Int) := by rw [show ((j - 1 : Nat) : Int) = (j : Int) - 1 by omega]; exact IntWalk.i64_in _ (by omega)
          have ix : j - 1 < L := by omega
          have HO2 := hid_of (HO.out.trans (by rw [hj0]; rfl : _ = ab))
          clear HO hj0 p0 p1
          go_wp2_with fail
          rw [← HV.out]
          go_region_held3 (fun W => W.cell? ⟨wr.heap.size, 0, none⟩ = some (.string X1) ∧ W.cell? ⟨wr.heap.size, 1, none⟩ = some (.int .i64 x2) ∧ W.cell? ⟨ga, oa + (j - 1) * 2, none⟩ = some (.string Z1) ∧ W.cell? ⟨ga, oa + (j - 1) * 2 + 1, none⟩ = some (.int .i64 z2)) (first | exact ⟨t0, t1, q0, q1⟩ | exact ⟨FRow.cell_on hw3 t0, FRow.cell_on hw3 t1, FRow.cell_on hw3 q0, FRow.cell_on hw3 q1⟩) (first
            | (go_at_call 272; refine (HC.out _).mono ?_; rintro e w2 ⟨rfl, hw2⟩; rw [hw2]; clear hw2 w2)
            | (go_at_call 273; refine (HP.out _).mono ?_; rintro e w3 ⟨rfl, hw3⟩))
          have HB3 := hid_of (show Below V.heap.size V w3 from ⟨hw3.os, hw3.tape, hw3.output, hw3.size, hw3.block⟩)
          clear hw3
          have hB := FRow.bel HBV.out HB3.out (Nat.le_refl _)
          have y0 := FRow.cell_on HB3.out t0
          have y1 := FRow.cell_on HB3.out t1
          have hcl3 := FRow.cell_on HB3.out hcl2
          have hfz3 := (rw_below R.out.1 hB).frozen j
          have HB4 := hid_of hB
          clear hB t0 t1 q0 q1 hcl2 hfz2 a0 a1 HP HC HQ
          cases ab
          · have HZ := hid_of (HX.out HO2.out)
            clear HX HN HO2
            go_wp2_with fail
            go_ret
            exact ⟨ret_b HZ.out.symm, FRow.bel R.out.2 HB4.out (Nat.le_refl _)⟩
          · have HZ := hid_of (HN.out HO2.out)
            clear HX HN HO2
            go_wp2_with fail
            go_roundg g'
            case measure => omega
            case rel => exact ⟨j + 1, by omega, by omega, by simp, HZ, hid_of (RB.out _ HB4.out)⟩
    · obtain rfl : j = L := by omega
      have d1 : ¬ (j : Int) < (j : Int) := by omega
      have rl : RW w.heap.size wr w.heap.size j (enames l) := by
        have := R.out.1
        rw [HL.out, pnm_all, ← HL.out] at this
        exact this
      have hfl : (enames l).length = j := by rw [HL.out]; exact List.length_map _
      have nl := rl.nr
      rw [hfl] at nl
      have hsm : Sml (enames l) := fun x hx => by obtain ⟨p, hp, rfl⟩ := List.mem_map.1 hx; exact HS.out p hp
      have HC := hid_of (list_call nl.sl (by rw [hfl]; omega) hsm)
      have HOf := hid_of (Of.of_call nl.sl (by rw [hfl]; omega))
      have HT : Hid (rankOk l = (lOk (enames l) && (((S (enames l)).length : Int) == (j : Int)))) := hid_of (by
        unfold rankOk
        rw [ord_yes fun i hi => HA.out i (by have := HL.out; omega), Bool.true_and, ← HL.out]
        congr 1
        rw [Bool.eq_iff_iff]
        simp
        omega)
      clear rl nl hfl HA hsm
      generalize lOk (enames l) = b at *
      go_wp2_with fail
      refine HC.out.mono ?_
      rintro e w2 ⟨rfl, hw2⟩
      rw [hw2]
      clear hw2 w2 HC
      cases b
      · go_wp2_with fail
        go_ret
        exact ⟨ret_b (by rw [HT.out]; rfl), R.out.2⟩
      · go_wp2_with fail
        refine HOf.out.mono ?_
        rintro e w2 ⟨r2, rfl, n2, b2⟩
        obtain ⟨ra, rc, rfl, _⟩ := n2.shape
        have B2 := hid_of (FRow.bel R.out.2 b2 (Nat.le_refl _))
        clear b2 n2
        generalize (S (enames l)).length = M at *
        cases he : ((M : Int) == (j : Int))
        · have HT2 := hid_of HT.out
          rw [he] at HT2
          clear HT
          go_wp2_with fail
          go_ret
          exact ⟨ret_b HT2.out.symm, B2.out⟩
        · have HT2 := hid_of HT.out
          rw [he] at HT2
          clear HT
          go_wp2_with fail
          go_ret
          exact ⟨ret_b HT2.out.symm, B2.out⟩
end Go.Proofs.YtpibeabokedpdaaGreatDoor.MayR
end
section
namespace Go.Proofs.YtpibeabokedpdaaGreatDoor.Check0
open Go.RowKit Go.Maps
open Go.Proofs.YtpibeabokedpdaaGreatDoor.SetMath
open Go.Proofs.YtpibeabokedpdaaGreatDoor.ValueMath
open Go.Proofs.YtpibeabokedpdaaGreatDoor.Base
open Go.Proofs.YtpibeabokedpdaaGreatDoor.Vals
open Go.Proofs.YtpibeabokedpdaaGreatDoor.May
open Go.Proofs.YtpibeabokedpdaaGreatDoor.MayR
set_option linter.unusedVariables false
set_option linter.unusedSimpArgs false

structure Wel (x : Vl) : Prop extends Fit x where
  t : x.text.length ≤ 140737488355328
  ls : Sml x.list
  fs : Fok x.fields
  rs : Rok x.ranked
  r24 : x.ranked.length * 24 ≤ 140737488355328
def cv (k : Int) (X a b c : Value) : Value := if k = 1 then .iface 230 X else if k = 2 then .iface 231 a else if k = 3 then .iface 232 b else if k = 4 then .iface 233 a else if k = 5 then .iface 234 c else .nilIface
set_option maxHeartbeats 2000000 in
set_option maxRecDepth 100000 in
theorem content_call (k : Int) (X : ByteArray) (aa ba ca : Option Addr) (an bn cn ac bc cc : Nat) (w : World) :
    Calls Tryz.prog 139 #[.agg #[.int .i64 k, .string X, .slice aa an ac, .slice ba bn bc, .slice ca cn cc]] w fun e w' => e = .returned (cv k (.string X) (.slice aa an ac) (.slice ba bn bc) (.slice ca cn cc)) ∧ Below w.heap.size w w' := by
  unfold cv
  by_cases h1 : k = 1
  · rw [if_pos h1]
    subst h1
    go_enter Tryz.func139, Tryz.ntmps139
    go_wp2
    go_ret
    exact ⟨rfl, FRow.bnew w _⟩
  · rw [if_neg h1]
    have e1 : (k == 1) = false := by simpa using h1
    by_cases h2 : k = 2
    · rw [if_pos h2]
      subst h2
      go_enter Tryz.func139, Tryz.ntmps139
      go_wp2
      go_ret
      exact ⟨rfl, FRow.bnew w _⟩
    · rw [if_neg h2]
      have e2 : (k == 2) = false := by simpa using h2
      by_cases h3 : k = 3
      · rw [if_pos h3]
        subst h3
        go_enter Tryz.func139, Tryz.ntmps139
        go_wp2
        go_ret
        exact ⟨rfl, FRow.bnew w _⟩
      · rw [if_neg h3]
        have e3 : (k == 3) = false := by simpa using h3
        by_cases h4 : k = 4
        · rw [if_pos h4]
          subst h4
          go_enter Tryz.func139, Tryz.ntmps139
          go_wp2
          go_ret
          exact ⟨rfl, FRow.bnew w _⟩
        · rw [if_neg h4]
          have e4 : (k == 4) = false := by simpa using h4
          by_cases h5 : k = 5
          · rw [if_pos h5]
            subst h5
            go_enter Tryz.func139, Tryz.ntmps139
            go_wp2
            go_ret
            exact ⟨rfl, FRow.bnew w _⟩
          · rw [if_neg h5]
            have e5 : (k == 5) = false := by simpa using h5
            go_enter Tryz.func139, Tryz.ntmps139
            go_wp2
            go_ret
            exact ⟨rfl, FRow.bnew w _⟩
def strB (k : Int) (bt bl bf br : Bool) : Bool := (bt && k != 1) || (bl && k != 2 && k != 4) || (bf && k != 3) || (br && k != 5)
theorem stray_eq (x : Vl) : stray x = strB x.kind (x.text != []) (x.list != []) (x.fields != []) (x.ranked != []) := rfl
theorem nil_len {α : Type} [BEq α] [LawfulBEq α] (l : List α) : (l != []) = decide (0 < l.length) := by cases l <;> simp
end Go.Proofs.YtpibeabokedpdaaGreatDoor.Check0
end
