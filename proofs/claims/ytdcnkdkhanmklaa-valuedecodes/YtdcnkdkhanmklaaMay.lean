/- Whether a text, a list, a set, a hash may be. -/
import Derived.Test.YtdcnkdkhanmklaaVals
import Derived.Test.YtdcnkdkhanmklaaROf
namespace Go.Proofs.Ytdcnkdkhanmklaa.May
open Go.RowKit Go.Maps
open Go.Proofs.Ytdcnkdkhanmklaa.SetMath
open Go.Proofs.Ytdcnkdkhanmklaa.ValueMath
open Go.Proofs.Ytdcnkdkhanmklaa.Base
open Go.Proofs.Ytdcnkdkhanmklaa.Vals
open Go.Proofs.Ytdcnkdkhanmklaa.ROf (RW)
set_option linter.unusedVariables false

set_option maxRecDepth 100000 in
theorem text_call (t : Bs) (w : World) (hl : t.length ≤ 140737488355328) : Calls Try.prog 83 #[.string (mk t)] w fun e w' => e = .returned (.bool (tOk t)) ∧ w' = w := by
  have hs := mk_size t
  unfold tOk
  rw [← hs] at hl ⊢
  generalize mk t = X at *
  clear hs
  by_cases h : X.size ≤ 1048576
  · go_enter Try.func83, Try.ntmps83
    go_wp2
    go_ret
    exact ⟨ret_b (by simp; omega), rfl⟩
  · go_enter Try.func83, Try.ntmps83
    go_wp2
    go_ret
    exact ⟨ret_b (by simp; omega), rfl⟩
theorem all_take {α : Type} {p : α → Bool} {l : List α} {k : Nat} (hk : k < l.length) (h : (l.take k).all p = true) (hp : p l[k] = true) : (l.take (k + 1)).all p = true := by
  rw [List.take_succ_eq_append_getElem hk, List.all_append, h]
  simp [hp]
theorem all_no {α : Type} {p : α → Bool} {l : List α} {k : Nat} (hk : k < l.length) (hp : p l[k] = false) : l.all p = false := by
  cases e : l.all p
  · rfl
  · rw [List.all_eq_true.1 e _ (List.getElem_mem hk)] at hp
    cases hp
def Sml (l : List Bs) : Prop := ∀ x ∈ l, x.length ≤ 140737488355328
set_option maxHeartbeats 1000000 in
set_option maxRecDepth 100000 in
theorem list_call {G : Nat → Prop} {w : World} {v : Value} {l : List El} (h : SL G w v l) (hb : l.length ≤ 140737488355328) (hs : Sml l) :
    Calls Try.prog 89 #[v] w fun e w' => e = .returned (.bool (lOk l)) ∧ w' = w := by
  obtain ⟨a, c, rfl, hc, hr⟩ := h
  have H1 := hid_of hr
  have HS := hid_of hs
  obtain ⟨L, HL⟩ : ∃ L, Hid (L = l.length) := ⟨_, hid_of rfl⟩
  rw [← HL.out] at hb ⊢
  clear hr hc hs
  go_enter Try.func89, Try.ntmps89
  go_wp2_with fail
  go_loopg [7] L (fun g s3 wx => ∃ j : Nat, j ≤ L ∧ L ≤ j + g ∧ s3 = .int .i64 (j : Int) ∧ Hid ((l.take j).all tOk = true) ∧ wx = w)
  case atStart => exact ⟨0, by omega, by omega, rfl, hid_of rfl, rfl⟩
  case round =>
    obtain ⟨j, hj, hg, rfl, HA, hwx⟩ := hrel
    subst hwx
    by_cases hlt : j < L
    · obtain ⟨g', rfl⟩ : ∃ g', gk = g' + 1 := ⟨gk - 1, by omega⟩
      have hjl : j < l.length := by rw [← HL.out]; exact hlt
      obtain ⟨g1, o1, rfl, _, q1⟩ := Rd.get H1.out (by omega)
      have c1 : wr.cell? ⟨g1, o1 + j, none⟩ = some (.string (mk l[j])) := q1 j _ (List.getElem?_eq_getElem hjl)
      have HN := hid_of (fun q => all_take (p := tOk) hjl HA.out q)
      have HF := hid_of (fun q => all_no (p := tOk) hjl q)
      have HC := hid_of (text_call l[j] wr (HS.out _ (List.getElem_mem hjl)))
      generalize l[j] = x at *
      have w1 : IntKind.i64.wrap ((j : Int) + 1) = (j : Int) + 1 := IntWalk.i64_in _ (by omega)
      have d1 : (j : Int) < (L : Int) := by omega
      clear q1
      generalize mk x = X at *
      generalize tOk x = b at *
      go_wp2_with fail
      refine HC.out.mono ?_
      rintro e w2 ⟨rfl, hw2⟩
      rw [hw2]
      clear hw2 HC
      cases b
      · have HZ := hid_of (HF.out rfl)
        clear HF HN
        go_wp2_with fail
        go_ret
        exact ⟨ret_b (by unfold lOk; rw [HZ.out]; rfl), rfl⟩
      · have HZ := hid_of (HN.out rfl)
        clear HF HN
        go_wp2_with fail
        go_roundg g'
        case measure => omega
        case rel => exact ⟨j + 1, by omega, by omega, by simp, HZ, rfl⟩
    · have d1 : ¬ (j : Int) < (L : Int) := by omega
      have HT : Hid (lOk l = decide (0 < L)) := hid_of (by
        have := HA.out
        rw [List.take_of_length_le (by have := HL.out; omega)] at this
        unfold lOk
        rw [this, HL.out, Bool.true_and])
      go_wp2_with fail
      go_ret
      exact ⟨ret_b (by rw [HT.out]), rfl⟩
set_option maxRecDepth 100000 in
theorem set_call {G : Nat → Prop} {w : World} {v : Value} {l : List El} (h : SL G w v l) (hb : l.length ≤ 140737488355328) (hs : Sml l) :
    Calls Try.prog 95 #[v] w fun e w' => e = .returned (.bool (setOk l)) ∧ Below w.heap.size w w' := by
  have HC := hid_of (list_call h hb hs)
  have HV := hid_of (Small.valid_call h hb)
  unfold setOk
  obtain ⟨a, c, rfl, _, _⟩ := h
  generalize lOk l = b at *
  generalize decide (Ris l) = d at *
  go_enter Try.func95, Try.ntmps95
  go_wp2_with fail
  refine HC.out.mono ?_
  rintro e w1 ⟨rfl, hw1⟩
  rw [hw1]
  clear hw1
  cases b
  · go_wp2_with fail
    go_ret
    exact ⟨rfl, Below.refl _ _⟩
  · go_wp2_with fail
    refine HV.out.mono ?_
    rintro e w2 ⟨rfl, m, hm⟩
    rw [hm]
    clear hm
    go_wp2_with fail
    go_ret
    exact ⟨rfl, bel_drewN _ _⟩
/- the names of the first k, then nothing -/
def pnm {α : Type} (f : α → Bs) (l : List α) (k : Nat) : List Bs := (l.take k).map f ++ List.replicate (l.length - k) []
theorem pnm_len {α : Type} (f : α → Bs) (l : List α) (k : Nat) (h : k ≤ l.length) : (pnm f l k).length = l.length := by simp [pnm]; omega
theorem pnm_set {α : Type} (f : α → Bs) (l : List α) (k : Nat) (h : k < l.length) : (pnm f l k).set k (f l[k]) = pnm f l (k + 1) := by
  unfold pnm
  rw [List.set_append_right _ _ (by simp; omega)]
  have e : k - ((l.take k).map f).length = 0 := by simp; omega
  rw [e, show l.length - k = (l.length - (k + 1)) + 1 by omega, List.replicate_succ, List.set_cons_zero, List.take_succ_eq_append_getElem h, List.map_append, List.append_assoc]
  rfl
theorem pnm_zero {α : Type} (f : α → Bs) (l : List α) : pnm f l 0 = List.replicate l.length [] := by simp [pnm]
theorem pnm_all {α : Type} (f : α → Bs) (l : List α) : pnm f l l.length = l.map f := by simp [pnm]
theorem made_rw {w w0 : World} {n : Nat} (h : w0.ownsRow w.heap.size 9 1 (.slice (some ⟨w.heap.size, 0, none⟩) n n) n (madeCells #[.string ⟨#[]⟩] n).toList) : RW w.heap.size w0 w.heap.size n (List.replicate n []) := by
  rw [toList_madeCells_one] at h
  rcases h.2 with ⟨e, _⟩ | ⟨g, c, cur, e, hb, hr, h1, h2, h3, h4⟩
  · cases e
  · injection e with e1 e2 e3
    injection e1 with e1
    injection e1 with e1
    subst e1
    subst e3
    refine ⟨Nat.le_refl _, cur, hr, by simpa using h3, by simp, ?_⟩
    rw [List.length_replicate]
    rw [Nat.mul_one] at h4
    rw [h4]
    simp [V, mk]
theorem info9' : (Try.prog.info? 9).map (fun i => (i.zero, i.size, i.bytes)) = some (some (.string ⟨#[]⟩), 1, 16) := by kernel_rfl
theorem rw_below {B : Nat} {w w' : World} {g c : Nat} {l : List El} (h : RW B w g c l) (hb : Below w.heap.size w w') : RW B w' g c l := by
  obtain ⟨h1, cur, h2, h3⟩ := h
  exact ⟨h1, cur, (hb.block g (lt_of h2)).trans h2, h3⟩
structure Fok (l : FL) : Prop where
  n : ∀ p ∈ l, p.1.length ≤ 140737488355328
  v : ∀ p ∈ l, p.2.length ≤ 140737488355328
set_option maxHeartbeats 4000000 in
set_option maxRecDepth 100000 in
theorem hash_call {w : World} {v : Value} {l : FL} (h : FRow.FS w v l) (hb : l.length ≤ FRow.big) (hs : Fok l) :
    Calls Try.prog 92 #[v] w fun e w' => e = .returned (.bool (hashOk l)) ∧ Below w.heap.size w w' := by
  obtain ⟨i0, hi, hz0, hz1, hz2⟩ := info_parts info9'
  have HF := hid_of h
  have HS := hid_of hs
  obtain ⟨a, c, rfl, hc, hr⟩ := h
  obtain ⟨L, HL⟩ : ∃ L, Hid (L = List.length l) := ⟨_, hid_of rfl⟩
  unfold FRow.big at hb
  rw [← HL.out] at hb hc HF ⊢
  clear hr hs hc
  go_enter Try.func92, Try.ntmps92
  go_wp2_with (at_make; refine wpList_make_full _ rfl _ _ 22 rfl w.heap.size 9 i0 (.string ⟨#[]⟩) 1 Try.underlying22 hi hz0 hz1 _ _ _ _ L rfl rfl rfl rfl ?b2 ?b3 (Nat.le_refl _) ?_)
  case b2 => rw [hz2]; omega
  case b3 => unfold maxLen; omega
  intro w0 hown0 hgrow0
  have R0 : Hid (RW w.heap.size w0 w.heap.size L (pnm (·.1) l 0) ∧ Below w.heap.size w w0) := hid_of ⟨by rw [pnm_zero, ← HL.out]; exact made_rw hown0, (Below.refl _ _).grown hgrow0 (Nat.le_refl _) (fun k h => by cases h)⟩
  clear hown0 hgrow0
  go_wp2_with fail
  go_loopg [11] L (fun g s3 wx => ∃ j : Nat, j ≤ L ∧ L ≤ j + g ∧ s3 = .int .i64 (j : Int) ∧ Hid ((l.take j).all (fun p => tOk p.2) = true) ∧ Hid (RW w.heap.size wx w.heap.size L (pnm (·.1) l j) ∧ Below w.heap.size w wx))
  case atStart => exact ⟨0, by omega, by omega, rfl, hid_of rfl, R0⟩
  case round =>
    obtain ⟨j, hj, hg, rfl, HA, R⟩ := hrel
    by_cases hlt : j < L
    · obtain ⟨g', rfl⟩ : ∃ g', gk = g' + 1 := ⟨gk - 1, by omega⟩
      have hjl : j < List.length l := by rw [← HL.out]; exact hlt
      obtain ⟨ga, oa, rfl, ha⟩ := FRow.FS.at (HF.out.below R.out.2) hjl
      obtain ⟨a0, a1⟩ := ha j hjl
      clear ha
      have HN := hid_of (fun q => all_take (p := fun p : Bs × Bs => tOk p.2) hjl HA.out q)
      have HX := hid_of (fun q => all_no (p := fun p : Bs × Bs => tOk p.2) hjl q)
      have HC := hid_of (fun W => text_call l[j].2 W (HS.out.v _ (List.getElem_mem hjl)))
      have rb := R.out.1.set j l[j].1
      rw [pnm_set (·.1) l j hjl] at rb
      have rs := rw_below rb (FRow.bnew _ (.cells #[.string (mk l[j].1), .string (mk l[j].2)] 48))
      have hw2 : Below w.heap.size w ((wr.setCell ⟨w.heap.size, j, none⟩ (.string (mk l[j].1))).alloc (.cells #[.string (mk l[j].1), .string (mk l[j].2)] 48)) := (bset R.out.2 (Nat.le_refl _) _).alloc (by rw [size_set]; exact R.out.2.size) _
      have hfz := R.out.1.frozen j
      obtain ⟨y, hy⟩ : ∃ y, (pnm (·.1) l j)[j]? = some y := ⟨_, List.getElem?_eq_getElem (by rw [pnm_len _ _ _ (by omega)]; exact hjl)⟩
      have hcl := R.out.1.cell hy
      have RS := hid_of (And.intro rs hw2)
      have hlt2 : w.heap.size < wr.heap.size := by
        obtain ⟨_, cur, h2, _⟩ := R.out.1
        exact lt_of h2
      clear rb rs hw2 hy
      generalize l[j] = x at *
      obtain ⟨x1, x2⟩ := x
      simp only at a0 a1 HN HX HC RS
      have w1 : IntKind.i64.wrap ((j : Int) + 1) = (j : Int) + 1 := IntWalk.i64_in _ (by omega)
      have d1 : (j : Int) < (L : Int) := by omega
      generalize mk x1 = X1 at *
      generalize mk x2 = X2 at *
      generalize mk y = Y at *
      generalize tOk x2 = b at *
      go_wp2_with fail
      refine (HC.out _).mono ?_
      rintro e w2 ⟨rfl, hw2⟩
      rw [hw2]
      clear hw2 HC
      cases b
      · have HZ := hid_of (HX.out rfl)
        clear HX HN
        go_wp2_with fail
        go_ret
        exact ⟨ret_b (by unfold hashOk; rw [HZ.out]; rfl), R.out.2.alloc R.out.2.size _⟩
      · have HZ := hid_of (HN.out rfl)
        clear HX HN
        go_wp2_with fail
        go_roundg g'
        case measure => omega
        case rel => exact ⟨j + 1, by omega, by omega, by simp, HZ, RS⟩
    · obtain rfl : j = L := by omega
      have d1 : ¬ (j : Int) < (j : Int) := by omega
      have rl : RW w.heap.size wr w.heap.size j (fnames l) := by
        have := R.out.1
        rw [HL.out, pnm_all, ← HL.out] at this
        exact this
      have hfl : (fnames l).length = j := by rw [HL.out]; exact List.length_map _
      have nl := rl.nr
      rw [hfl] at nl
      have HC := hid_of (set_call nl.sl (by rw [hfl]; omega) (fun x hx => by obtain ⟨p, hp, rfl⟩ := List.mem_map.1 hx; exact HS.out.n p hp))
      have HT : Hid (hashOk l = setOk (fnames l)) := hid_of (by
        have := HA.out
        rw [List.take_of_length_le (by have := HL.out; omega)] at this
        unfold hashOk
        rw [this]; rfl)
      clear rl nl hfl HA
      generalize setOk (fnames l) = b at *
      go_wp2_with fail
      refine HC.out.mono ?_
      rintro e w2 ⟨rfl, b2⟩
      have B2 := hid_of (FRow.bel R.out.2 b2 (Nat.le_refl _))
      clear b2
      go_wp2_with fail
      go_ret
      exact ⟨ret_b HT.out.symm, B2.out⟩
end Go.Proofs.Ytdcnkdkhanmklaa.May
