/- The law DictWalk: After, again and again from the name that was told last, tells all names behind a name, each once. -/
import Derived.Test.YtolihcgpnoacaaaDoorBack
namespace Go.Proofs.YtolihcgpnoacaaaDoor.Walk
open Go.RowKit Go.Maps Go.Sort
open Go.Proofs.YtolihcgpnoacaaaDoor.DictMath
open Go.Proofs.YtolihcgpnoacaaaDoor.Base
open Go.Proofs.YtolihcgpnoacaaaDoor.Small
open Go.Proofs.YtolihcgpnoacaaaDoor.Rising
open Go.Proofs.YtolihcgpnoacaaaDoor.Of
open Go.Proofs.YtolihcgpnoacaaaDoor.Fields
open Go.Proofs.YtolihcgpnoacaaaDoor.Same
open Go.Proofs.YtolihcgpnoacaaaDoor.Nobody
open Go.Proofs.YtolihcgpnoacaaaDoor.Sure
open Go.Proofs.YtolihcgpnoacaaaDoor.Back
open Go.Proofs.YtolihcgpnoacaaaDoor.Parse
set_option linter.unusedVariables false

theorem beh_beh (l : FL) (a b : Bs) (h : a < b) : beh (beh l a) b = beh l b := by
  unfold beh
  rw [List.filter_filter]
  refine List.filter_congr fun p hp => ?_
  by_cases q : b < p.1
  · simp [q, List.lt_trans h q]
  · simp [q]
theorem beh_ris {l : FL} (h : Ris l) (k : Bs) : Ris (beh l k) := List.Pairwise.sublist List.filter_sublist h
theorem beh_self : ∀ {r : FL}, Ris r → ∀ j (hj : j < r.length), beh r (r[j]'hj).1 = r.drop (j + 1)
  | a :: r, h, 0, hj => by
    have e1 : beh (a :: r) a.1 = beh r a.1 := by unfold beh; rw [List.filter_cons, if_neg (by simp)]
    show beh (a :: r) a.1 = r
    rw [e1]
    exact List.filter_eq_self.2 fun p hp => by simpa using h.head p hp
  | a :: r, h, j + 1, hj => by
    have hj' : j < r.length := by simpa using hj
    have hlt := h.head (r[j]'hj') (List.getElem_mem hj')
    have e1 : beh (a :: r) (r[j]'hj').1 = beh r (r[j]'hj').1 := by unfold beh; rw [List.filter_cons, if_neg (by simpa using lt_not hlt)]
    show beh (a :: r) (r[j]'hj').1 = r.drop (j + 1)
    rw [e1, beh_self h.tail j hj']
theorem beh_gt {l : FL} {k : Bs} {p : Bs × Bs} (h : p ∈ beh l k) : k < p.1 := by simpa [beh] using (List.mem_filter.1 h).2
theorem beh_len (l : FL) (k : Bs) : (beh l k).length ≤ l.length := List.length_filter_le _ _
theorem beh_snoc {l : FL} {i : Nat} (h : i < l.length) (k : Bs) : beh (l.take (i + 1)) k = beh (l.take i) k ++ (if k < (l[i]'h).1 then [l[i]'h] else []) := by
  unfold beh
  rw [take_snoc h, List.filter_append]
  congr 1
  by_cases q : k < (l[i]'h).1 <;> simp [q]
/- a row of one's own beside all that was there at w1 -/
structure Bd (w1 : World) (v : Value) (xs : FL) (w : World) : Prop where
  row : w.ownsRow w1.heap.size 52 2 v xs.length (xs.flatMap fCells)
  bel : Below w1.heap.size w1 w
theorem bd_start (w : World) : Bd w (.slice none 0 0) [] w := ⟨World.ownsRow_nil _ _ _ _, Below.refl _ _⟩
theorem bd_snoc {w1 W W' : World} {xs ys : FL} {v v' : Value} (h : Bd w1 v xs W) (h1 : W'.ownsRow w1.heap.size 52 2 v' (xs.length + ys.length) (xs.flatMap fCells ++ ys.flatMap fCells)) (h2 : W.grownBy W' v.ownBlock) : Bd w1 v' (xs ++ ys) W' := by
  refine ⟨?_, h.bel.grown h2 h.bel.size (fun k hk => (h.row.lt k hk).1)⟩
  rw [List.length_append, List.flatMap_append]
  exact h1
theorem Bd.below {w1 W W' : World} {xs : FL} {v : Value} (h : Bd w1 v xs W) (hb : Below W.heap.size W W') : Bd w1 v xs W' := ⟨row_below h.row hb, Base.bel h.bel hb (Nat.le_refl _)⟩
theorem two_new (w : World) (x y : Value) (t : TypeId) : ∀ j u, [x, y][j]? = some u → (w.alloc (.cells #[x, y] t)).cell? ((⟨w.heap.size, 0, none⟩ : Addr).add j) = some u := by
  intro j u hj
  match j, hj with
  | 0, hj =>
    simp at hj
    subst hj
    simp [Addr.add]
  | 1, hj =>
    simp at hj
    subst hj
    simp [Addr.add]
theorem one_all (xs : FL) : ∀ u ∈ xs.flatMap fCells, u.oneCell' = true := by
  intro u hu
  obtain ⟨p, hp, h⟩ := List.mem_flatMap.1 hu
  simp only [fCells, List.mem_cons, List.not_mem_nil, or_false] at h
  rcases h with rfl | rfl <;> rfl
theorem row_news {w : World} {B g cap : Nat} {xs : FL} (h : w.ownsRow B 52 2 (.slice (some ⟨g, 0, none⟩) xs.length cap) xs.length (xs.flatMap fCells)) : ∀ j u, (xs.flatMap fCells)[j]? = some u → w.cell? ((⟨g, 0, none⟩ : Addr).add j) = some u := fun j u hj => by
  have hlt : j < (xs.flatMap fCells).length := (List.getElem?_eq_some_iff.1 hj).1
  rw [fflat_len] at hlt
  have := h.cellAt j (by omega)
  rw [Addr.add_lit, Nat.zero_add, this]
  exact hj
set_option maxHeartbeats 4000000 in
set_option maxRecDepth 100000 in
theorem walk_no (v : Value) (l : FL) (s t : Value) (w : World) (h : Gv w v l) (hr : ¬ Ris l) (hh : Has w) : Calls Tryd.prog 6 #[v, s, t] w fun e w' => e = .returned (.bool true) ∧ Below w.heap.size w w' := by
  have HH := hid_of hh
  have H1 := hid_of (of_no v l w h.fs (by have := h.len; omega) hr)
  have H2 : Hid (∀ w1, Below w.heap.size w w1 → Calls Tryd.prog 9 #[v] w1 fun e w' => e = .returned (.bool false) ∧ Below w1.heap.size w1 w') := hid_of fun w1 b1 => by
    have := rises_call v l w1 (h.fs.below b1) (by have := h.len; omega)
    rw [decide_eq_false hr] at this
    exact this
  have H8 := hid_of sure_call
  clear h hr hh
  go_enter Tryd.func6, Tryd.ntmps6
  go_wp2_with fail
  refine H1.out.mono ?_
  rintro e w1 hw1
  obtain ⟨rfl, bb⟩ := hw1
  have B1 := hid_of bb
  have H2' := hid_of (H2.out w1 bb)
  clear bb H2
  go_wp2_with fail
  refine H2'.out.mono ?_
  rintro e w2 hw2
  obtain ⟨rfl, bb⟩ := hw2
  have B2 := hid_of (Base.bel B1.out bb (Nat.le_refl _))
  clear bb B1
  go_wp2_with fail
  refine (H8.out _ (HH.out.later B2.out)).mono ?_
  rintro e w4 hw4
  obtain ⟨rfl, bb⟩ := hw4
  go_wp2_with fail
  go_ret
  exact ⟨rfl, Base.bel B2.out bb (Nat.le_refl _)⟩
set_option maxHeartbeats 8000000 in
set_option maxRecDepth 100000 in
theorem walk_yes (v : Value) (l : FL) (f : Bs) (n : Int) (w : World) (h : Gv w v l) (hr : Ris l) (hf : f.length ≤ 140737488351232) (hn : -9223372036854775808 ≤ n ∧ n ≤ 9223372036854775807) (hh : Has w) : Calls Tryd.prog 6 #[v, .string (mk f), .int .i64 n] w fun e w' => e = .returned (.bool true) ∧ Below w.heap.size w w' := by
  obtain ⟨i0, hi0, hz0, hz1, hz2⟩ := parts_of info52
  have HH := hid_of hh
  have H1 := hid_of (of_yes v l w h.fs (by have := h.len; omega) hr h.big)
  have HG := hid_of h
  have HR := hid_of hr
  have H8 := hid_of sure_call
  obtain ⟨a, c, rfl, hfs⟩ := id h.fs
  have HFS := hid_of hfs
  have hlen := h.len
  obtain ⟨M, hM⟩ : ∃ M : Int, M = max 1 n := ⟨_, rfl⟩
  have hmx : max 1 n = M := hM.symm
  have hM1 : 0 < M := by omega
  have hM2 : M ≤ 9223372036854775807 := by omega
  clear h hr hh hfs hM
  go_enter Tryd.func6, Tryd.ntmps6
  go_wp2_with fail
  refine H1.out.mono ?_
  rintro e w1 ⟨b, m, rfl, d1, lb, lm, bb⟩
  have S1 : Hid (St w.heap.size w b m l w1) := hid_of ⟨d1, lb, lm, bb⟩
  have q24 := eq24 b
  clear d1 lb lm bb H1
  unfold ptr
  go_wp2_with fail
  clear q24 hmx
  go_loopg [9, 11] l.length (fun g sw si wx => ∃ i : Nat, i ≤ l.length ∧ l.length ≤ i + g ∧ si = .int .i64 (i : Int) ∧ Hid (Bd w1 sw (beh (l.take i) f) wx))
  case atStart => exact ⟨0, by omega, by omega, rfl, hid_of (bd_start w1)⟩
  case round =>
    obtain ⟨i, hi, hg, rfl, HB⟩ := hrel
    by_cases hlt : i < l.length
    · obtain ⟨g', rfl⟩ : ∃ g', gk = g' + 1 := ⟨gk - 1, by omega⟩
      obtain ⟨ga, oa, rfl, ha⟩ : ∃ g o, a = some ⟨g, o, none⟩ ∧ ∀ k (h : k < l.length), w.cell? ⟨g, o + k * 2, none⟩ = some (.string (mk (l[k]'h).1)) ∧ w.cell? ⟨g, o + k * 2 + 1, none⟩ = some (.string (mk (l[k]'h).2)) := by
        rcases HFS.out with h | ⟨g, o, e, h⟩
        · subst h; simp at hlt
        · exact ⟨g, o, e, h⟩
      obtain ⟨a0, a1⟩ := ha i hlt
      have hsn := beh_snoc hlt f
      have hbl : (beh (l.take i) f).length ≤ i := Nat.le_trans (beh_len _ _) (by rw [List.length_take]; omega)
      obtain ⟨p, hp⟩ : ∃ p, p = l[i]'hlt := ⟨_, rfl⟩
      rw [← hp] at a0 a1 hsn
      have bW : Below w.heap.size w wr := Base.bel S1.out.bel HB.out.bel (Nat.le_refl _)
      have c0 := cell_on bW a0
      have c1 := cell_on bW a1
      have g2 : (i : Int) < (l.length : Int) := by omega
      have e2 : IntKind.i64.wrap ((i : Int) + 1) = (i : Int) + 1 := IntWalk.i64_in _ (by omega)
      have hcmp := str_eq p.1 f
      have hless := less_mk p.1 f
      clear ha a0 a1 hp bW
      by_cases hpf : f < p.1
      · have hq : (p.1 == f) = false := by simpa using (lt_ne hpf).symm
        rw [hq] at hcmp
        rw [decide_eq_false (lt_not hpf)] at hless
        rw [if_pos hpf] at hsn
        have HSN := hid_of hsn
        have HX : Hid (fCells p = [.string (mk p.1), .string (mk p.2)]) := rfl
        clear hpf hq hsn
        generalize mk p.1 = X at *
        generalize mk p.2 = Y at *
        generalize mk f = Fb at *
        go_wp2_with (first
          | (at_builtin; refine wpList_append_own _ rfl _ _ 22 rfl w1.heap.size 52 i0 (.agg #[.string ⟨#[]⟩, .string ⟨#[]⟩]) 2 32 Tryd.underlying22 hi0 hz0 hz1 hz2 rfl (by decide) _ _ _ rfl (HB.out.row.alloc _) _ 1 1 [.string X, .string Y] rfl rfl (two_new _ _ _ _) (by simp [Value.oneCell']) (by unfold maxLen; omega) (by omega) (by have := HB.out.bel.size; simp; omega) ?_; intro v' w2 hown hg1 hnil; go_frame)
          | go_in)
        rw [← HX.out] at hown
        have HN := hid_of (bd_snoc (ys := [p]) (HB.out.below ((Below.refl _ wr).alloc (Nat.le_refl _) _)) (by rw [show [p].flatMap fCells = fCells p from by simp]; exact hown) hg1)
        rw [← HSN.out] at HN
        clear hown hg1 hnil
        go_wp2_with fail
        go_roundg g'
        case measure => omega
        case rel => exact ⟨i + 1, by omega, by omega, by rw [show ((i + 1 : Nat) : Int) = (i : Int) + 1 from by omega], HN⟩
      · rw [if_neg hpf, List.append_nil] at hsn
        have HSN : Hid (Bd w1 u9 (beh (l.take (i + 1)) f) wr) := hid_of (by rw [hsn]; exact HB.out)
        rcases lt_tot p.1 f with q | q | q
        · rw [decide_eq_true q] at hless
          clear q hpf hsn hcmp
          generalize mk p.1 = X at *
          generalize mk p.2 = Y at *
          generalize mk f = Fb at *
          go_wp2_with fail
          go_roundg g'
          case measure => omega
          case rel => exact ⟨i + 1, by omega, by omega, by rw [show ((i + 1 : Nat) : Int) = (i : Int) + 1 from by omega], HSN⟩
        · have hq : (p.1 == f) = true := by simpa using q
          rw [hq] at hcmp
          rw [decide_eq_false (by rw [q]; exact List.lt_irrefl f)] at hless
          clear q hpf hsn hq
          generalize mk p.1 = X at *
          generalize mk p.2 = Y at *
          generalize mk f = Fb at *
          go_wp2_with fail
          go_roundg g'
          case measure => omega
          case rel => exact ⟨i + 1, by omega, by omega, by rw [show ((i + 1 : Nat) : Int) = (i : Int) + 1 from by omega], HSN⟩
        · exact absurd q hpf
    · have gi : ¬ (i : Int) < (l.length : Int) := by omega
      have HW : Hid (Bd w1 u9 (beh l f) wr) := hid_of (by have := HB.out; rw [List.take_of_length_le (by omega)] at this; exact this)
      have SW := hid_of (S1.out.below (Nat.le_refl _) HW.out.bel)
      obtain ⟨W1, hW1⟩ : ∃ W1, W1 = wr := ⟨_, rfl⟩
      subst hW1
      clear hi hg hlt HB
      go_wp2_with fail
      go_loopg [10, 12] l.length (fun g sgot sat wx => ∃ (G : FL) (k : Bs), l.length ≤ G.length + g ∧ sat = .string (mk k) ∧ k.length ≤ 140737488351232 ∧ Hid (G ++ beh l k = beh l f) ∧ Hid (Bd W1 sgot G wx))
      case atStart => exact ⟨[], f, by simp, rfl, hf, hid_of rfl, hid_of (bd_start W1)⟩
      case round =>
        obtain ⟨G, k, hg, rfl, hk, HE, HB⟩ := hrel
        have hGl : G.length + (beh l k).length ≤ l.length := by rw [← List.length_append, HE.out]; exact beh_len l f
        have SR := hid_of (SW.out.below (Nat.le_refl _) HB.out.bel)
        have H3 := hid_of (after_call b m l (mk k) M wr SR.out.dk (by omega) hM1 hM2)
        rw [bs_mk] at H3
        unfold ptr at H3
        by_cases he : beh l k = []
        · have e0 : (beh l k).take M.toNat = [] := by rw [he, List.take_nil]
          rw [e0] at H3
          have HG2 : Hid (G = beh l f) := hid_of (by have := HE.out; rw [he, List.append_nil] at this; exact this)
          clear he e0
          go_wp2_with fail
          refine H3.out.mono ?_
          rintro e w3 ⟨v3, rfl, o3, bb⟩
          obtain ⟨a3, c3, rfl⟩ := fld_shape o3
          have S3 := hid_of (SR.out.below (Nat.le_refl _) bb)
          have FW := hid_of ((fs_row HW.out.row).below (Base.bel HB.out.bel bb (Nat.le_refl _)))
          have FG := hid_of (fs_row (HB.out.below bb).row)
          have H4 := hid_of (same_call u10 u9 G (beh l f) w3 FG.out FW.out (by omega) (by have := beh_len l f; omega))
          rw [decide_eq_true HG2.out] at H4
          clear o3 bb H3 FW FG
          go_wp2_with fail
          refine H4.out.mono ?_
          rintro e w4 hw4
          obtain ⟨rfl, bb⟩ := hw4
          have S4 := hid_of (S3.out.below (Nat.le_refl _) bb)
          clear bb H4
          go_wp2_with fail
          refine (H8.out _ (HH.out.later S4.out.bel)).mono ?_
          rintro e w5 hw5
          obtain ⟨rfl, bb⟩ := hw5
          have S5 := hid_of (S4.out.below (Nat.le_refl _) bb)
          clear bb
          go_wp2_with fail
          go_ret
          exact ⟨rfl, S5.out.bel⟩
        · obtain ⟨R, hR⟩ : ∃ R, R = (beh l k).take M.toNat := ⟨_, rfl⟩
          have hbp : 0 < (beh l k).length := List.length_pos_iff.2 he
          have hRl : R.length = min M.toNat (beh l k).length := by rw [hR, List.length_take]
          have hRp : 0 < R.length := by omega
          obtain ⟨N, hN⟩ : ∃ N, R.length = N + 1 := ⟨R.length - 1, by omega⟩
          have hNR : N < R.length := by omega
          have hRM : ((N : Int) + 1) ≤ M := by omega
          have hsub : ∀ p ∈ R, p ∈ beh l k := by rw [hR]; exact fun p hp => List.mem_of_mem_take hp
          have hmem : R[N]'hNR ∈ beh l k := hsub _ (List.getElem_mem hNR)
          have hgt := beh_gt hmem
          have hpl := HG.out.szs _ (List.mem_filter.1 hmem).1
          have hnext : (G ++ R) ++ beh l (R[N]'hNR).1 = beh l f := by
            have e1 : R[N]'hNR = (beh l k)[N]'(by omega) := by simp [hR]
            rw [← beh_beh l k _ hgt, e1, beh_self (beh_ris HR.out k) N (by omega), List.append_assoc]
            have e2 : R ++ (beh l k).drop (N + 1) = beh l k := by
              rw [hR, ← hN, hRl]
              conv => rhs; rw [← List.take_append_drop M.toNat (beh l k)]
              congr 1
              rw [List.drop_eq_drop_iff]
              omega
            rw [e2]
            exact HE.out
          rw [← hR] at H3
          have HRL := hid_of hRl
          have HNX := hid_of hnext
          have hcmp := str_eq (R[N]'hNR).1 k
          have hless := less_mk (R[N]'hNR).1 k
          rw [show ((R[N]'hNR).1 == k) = false from by simpa using (lt_ne hgt).symm] at hcmp
          rw [decide_eq_false (lt_not hgt)] at hless
          obtain ⟨g', rfl⟩ : ∃ g', gk = g' + 1 := ⟨gk - 1, by omega⟩
          clear he hR hbp hRl hRp hmem hgt hnext
          go_wp2_with fail
          refine H3.out.mono ?_
          rintro e w3 ⟨v3, rfl, o3, bb⟩
          have S3 := hid_of (SR.out.below (Nat.le_refl _) bb)
          have HB3 := hid_of (HB.out.below bb)
          rcases o3.2 with ⟨_, h0⟩ | ⟨g3, cap3, cur3, rfl, hb3, hh3, q1, q2, q3, q4⟩
          · omega
          have hc3 := (fs_row o3)
          obtain ⟨a4, c4, e4, hq4⟩ := hc3
          injection e4 with e41 e42 e43
          subst e41
          have hcl : w3.cell? ⟨g3, N * 2, none⟩ = some (.string (mk (R[N]'hNR).1)) := by
            rcases hq4 with h | ⟨g, o, e, h⟩
            · rw [h] at hN; simp at hN
            · injection e with e
              injection e with e5 e6
              subst e5 e6
              have := (h N hNR).1
              rw [Nat.zero_add] at this
              exact this
          have HNW := hid_of (row_news o3)
          have HFL : Hid ((R.flatMap fCells).length = (N + 1) * 2) := hid_of (by rw [fflat_len, hN])
          obtain ⟨ags, cgs, hgs, _⟩ := fs_row HB.out.row
          have HGL := hid_of hgs
          have HCL : Hid (∀ w4, w3.grownBy w4 u10.ownBlock → w4.cell? ⟨g3, N * 2, none⟩ = some (.string (mk (R[N]'hNR).1))) := hid_of fun w4 hg4 => by
            obtain ⟨cs5, t5, fz5, hb5⟩ := cell_blk hcl
            have hne : some g3 ≠ u10.ownBlock := fun e => by
              rcases HB.out.row.2 with ⟨e0, _⟩ | ⟨gq, cq, uq, eq, _, hhq, _⟩
              · rw [e0] at e; simp [Value.ownBlock] at e
              · rw [eq] at e
                have : g3 = gq := by simpa [Value.ownBlock] using e
                have := lt_of hhq
                omega
            have hb6 : w4.heap[g3]? = w3.heap[g3]? := hg4.block g3 (lt_of hb5) hne
            unfold World.cell? at hcl ⊢
            rw [hb6]
            exact hcl
          subst hgs
          rw [hN]
          have z1 : (((N : Int) + 1) == 0) = false := by rw [beq_eq_false_iff_ne]; omega
          have z2 : ¬ M < (N : Int) + 1 := by omega
          have z3 : IntKind.i64.wrap ((N : Int) + 1 - 1) = (N : Int) := by rw [show (N : Int) + 1 - 1 = (N : Int) from by omega]; exact IntWalk.i64_in _ (by omega)
          have z4 : ¬ (l.length : Int) < (G.length : Int) := by omega
          have hGN : G.length + (N + 1) ≤ l.length := by have := HRL.out; omega
          clear o3 bb hq4 H3 q4 hh3 hb3
          generalize hX : mk (R[N]'hNR).1 = X at *
          have HXX := hid_of hX
          clear hX
          go_wp2_with (first
            | (at_builtin; refine wpList_append_own _ rfl _ _ 22 rfl W1.heap.size 52 i0 (.agg #[.string ⟨#[]⟩, .string ⟨#[]⟩]) 2 32 Tryd.underlying22 hi0 hz0 hz1 hz2 rfl (by decide) _ _ _ rfl HB3.out.row _ (N + 1) _ (R.flatMap fCells) rfl HFL.out HNW.out (one_all R) (by unfold maxLen; omega) (by omega) (by have := HB3.out.bel.size; omega) ?_; intro v' w4 hown hg4 hnil; have hcl4 := HCL.out w4 hg4; go_frame)
            | go_in)
          have HN4 := hid_of (bd_snoc (ys := R) HB3.out (by rw [hN]; exact hown) hg4)
          clear hown hg4 hnil
          go_wp2_with fail
          go_roundg g'
          case measure => omega
          case rel => exact ⟨G ++ R, (R[N]'hNR).1, by rw [List.length_append, hN]; omega, by rw [HXX.out], hpl.1, HNX, HN4⟩
theorem walk_call (v : Value) (l : FL) (s : ByteArray) (n : Int) (w : World) (h : Gv w v l) (hs : s.size ≤ 140737488351232) (hn : -9223372036854775808 ≤ n ∧ n ≤ 9223372036854775807) (hh : Has w) : Calls Tryd.prog 6 #[v, .string s, .int .i64 n] w fun e w' => e = .returned (.bool true) ∧ Below w.heap.size w w' := by
  by_cases hr : Ris l
  · have := walk_yes v l (bs s) n w h hr (by rw [len_bs]; exact hs) hn hh
    rw [mk_bs] at this
    exact this
  · exact walk_no v l _ _ w h hr hh
end Go.Proofs.YtolihcgpnoacaaaDoor.Walk
