/- Entries: what a space holds, in new memory. Same: the program's. Effects: whether one may be; the program's answer. mayBe and allMayBe. -/
import Derived.Test.YtpnigkjmofhmbabGreatHao
import Derived.Test.YtpnigkjmofhmbabGreatChunkM
import Derived.Test.YtpnigkjmofhmbabGreatOfM
section
namespace Go.Proofs.YtpnigkjmofhmbabGreat.SEnts
open Go.RowKit Go.Maps
open Go.Proofs.YtpnigkjmofhmbabGreat.SpaceMath (wout withL lkp keys Ris toD lkp_at lkp_mem)
open Go.Proofs.YtpnigkjmofhmbabGreat.ValueMath (Vl chk small)
open Go.Proofs.YtpnigkjmofhmbabGreat.Base (mk mk_list mk_size Gr hid_of SL)
open Go.Proofs.YtpnigkjmofhmbabGreat.Turn
open Go.Proofs.YtpnigkjmofhmbabGreat.Vals
open Go.Proofs.YtpnigkjmofhmbabGreat.SBase
open Go.Proofs.YtpnigkjmofhmbabGreat.SFind
open Go.Proofs.YtpnigkjmofhmbabGreat.SMath
open Go.Proofs.YtpnigkjmofhmbabGreat.SSet
open Go.Proofs.YtpnigkjmofhmbabGreat.SPut
open Go.Proofs.YtpnigkjmofhmbabGreat.SDrop
open Go.Proofs.YtpnigkjmofhmbabGreat.SRise
open Go.Proofs.YtpnigkjmofhmbabGreat.Chunk
open Go.Proofs.YtpnigkjmofhmbabGreat.SSort
set_option linter.unusedVariables false
set_option linter.unusedSimpArgs false
theorem fl_set5 : ∀ {C : Cs}, E8 C → ∀ k (hk : k < C.length) (y0 y1 y2 y3 y4 y5 y6 y7 : Value), C[k]'hk = [y0, y1, y2, y3, y4, y5, y6, y7] → ∀ x1 x2 x3 x4 x5 : Value, (((((C.flatten.set (k * 8 + 1) x1).set (k * 8 + 2) x2).set (k * 8 + 3) x3).set (k * 8 + 4) x4).set (k * 8 + 5) x5) = (C.set k [y0, x1, x2, x3, x4, x5, y6, y7]).flatten
  | c :: C, h, 0, hk, y0, y1, y2, y3, y4, y5, y6, y7, hc, x1, x2, x3, x4, x5 => by
    have hc : c = [y0, y1, y2, y3, y4, y5, y6, y7] := hc
    subst hc
    rfl
  | c :: C, h, k + 1, hk, y0, y1, y2, y3, y4, y5, y6, y7, hc, x1, x2, x3, x4, x5 => by
    have ih := fl_set5 h.tail k (by simpa using hk) y0 y1 y2 y3 y4 y5 y6 y7 hc x1 x2 x3 x4 x5
    have e : ∀ (R : List Value) (j : Nat) (y : Value), (c ++ R).set ((k + 1) * 8 + j) y = c ++ R.set (k * 8 + j) y := fun R j y => by
      rw [List.set_append_right _ _ (by rw [h.head]; omega), h.head, show (k + 1) * 8 + j - 8 = k * 8 + j by omega]
    rw [List.flatten_cons, e, e, e, e, e, ih]
    rfl
theorem put5 {t : TypeId} {g : Nat} {C : Cs} {w : World} (h : RowC t g C w) {k : Nat} (hk : k < C.length) {y0 y1 y2 y3 y4 y5 y6 y7 : Value} (hc : C[k]'hk = [y0, y1, y2, y3, y4, y5, y6, y7]) (x1 x2 x3 x4 x5 : Value) :
    RowC t g (C.set k [y0, x1, x2, x3, x4, x5, y6, y7]) (((((w.setCell ⟨g, k * 8 + 1, none⟩ x1).setCell ⟨g, k * 8 + 2, none⟩ x2).setCell ⟨g, k * 8 + 3, none⟩ x3).setCell ⟨g, k * 8 + 4, none⟩ x4).setCell ⟨g, k * 8 + 5, none⟩ x5) := by
  obtain ⟨cur, h1, h2⟩ := h.blk
  refine ⟨⟨_, set_at (set_at (set_at (set_at (set_at h1 _) _) _) _) _, ?_⟩, h.e8.set rfl⟩
  simp only [Array.toList_setIfInBounds, h2]
  exact fl_set5 h.e8 k hk y0 y1 y2 y3 y4 y5 y6 y7 hc x1 x2 x3 x4 x5
/-- an entry in new memory -/
def NewEn (B : Nat) (w : World) (k : Bs) (cs : List Value) (e : En) : Prop := ∃ a b c, cs = [.string (mk k), .int .i64 e.val.kind, .string (mk e.val.text), a, b, c, .int .i64 e.due, .int .u64 (e.ver : Int)] ∧ VN B w (vV e.val a b c) e.val
def EntE (l : KL En) (w : World) (r : Ending) (w' : World) : Prop := ∃ g C, r = .returned (.slice (some ⟨g, 0, none⟩) C.length C.length) ∧ RowC 81 g C w' ∧ w.heap.size ≤ g ∧ C.length = l.length ∧ (∀ i (h : i < C.length) (h' : i < l.length), NewEn (g + 1) w' (l[i]'h').1 (C[i]'h) (l[i]'h').2) ∧ Below w.heap.size w w'
theorem vn5 {B g k : Nat} {w : World} {v : Value} {x : Vl} (h : VN B w v x) (hg : g < B) (x1 x2 x3 x4 x5 : Value) : VN B (((((w.setCell ⟨g, k * 8 + 1, none⟩ x1).setCell ⟨g, k * 8 + 2, none⟩ x2).setCell ⟨g, k * 8 + 3, none⟩ x3).setCell ⟨g, k * 8 + 4, none⟩ x4).setCell ⟨g, k * 8 + 5, none⟩ x5) v x :=
  Dec.vn_set (Dec.vn_set (Dec.vn_set (Dec.vn_set (Dec.vn_set h hg _) hg _) hg _) hg _) hg _
theorem bel5 {B g k : Nat} {w0 w : World} (h : Below B w0 w) (hg : B ≤ g) (x1 x2 x3 x4 x5 : Value) : Below B w0 (((((w.setCell ⟨g, k * 8 + 1, none⟩ x1).setCell ⟨g, k * 8 + 2, none⟩ x2).setCell ⟨g, k * 8 + 3, none⟩ x3).setCell ⟨g, k * 8 + 4, none⟩ x4).setCell ⟨g, k * 8 + 5, none⟩ x5) :=
  ((((h.setCell hg _).setCell hg _).setCell hg _).setCell hg _).setCell hg _
theorem filter_all {l : KL En} : l.filter (fun q => (fun _ => true) q.2) = l := List.filter_eq_self.2 fun _ _ => rfl
theorem agg_cells {cs : List Value} {x0 x1 x2 x3 x4 x5 x6 x7 : Value} (h : Value.agg cs.toArray = .agg #[x0, x1, x2, x3, x4, x5, x6, x7]) : cs = [x0, x1, x2, x3, x4, x5, x6, x7] := by
  injection h with h
  have := congrArg Array.toList h
  simpa using this
set_option maxRecDepth 100000 in
set_option maxHeartbeats 4000000 in
theorem entries_call {F X : Nat → Prop} {b : Nat} {w : World} {S : Sp} (h : SP F X b w S) (hmax : S.l.length < 1099511627776) : Calls Tryz.prog 19 #[ptr b] w (EntE S.l w) := by
  have H1 := hid_of (sorted_there h hmax)
  rw [filter_all] at H1
  obtain ⟨l, hl⟩ : ∃ l, l = S.l := ⟨_, rfl⟩
  rw [← hl] at H1 hmax
  rw [← hl]
  clear h hl
  go_enter Tryz.func19, Tryz.ntmps19
  go_wp2_with fail
  refine H1.out.mono ?_
  rintro r w1 ⟨G, C0, rfl, hr, hgl, ⟨hcl, hen⟩, hb1⟩
  have HR0 := hid_of hr
  have HG := hid_of hgl
  have HB1 := hid_of hb1
  have HEn := hid_of hen
  have H0 := hid_of (show ∀ i (h : i < C0.length) (h' : i < l.length), i < 0 → NewEn (G + 1) w1 (l[i]'h').1 (C0[i]'h) (l[i]'h').2 from fun i _ _ q => by omega)
  have HE0 := hid_of (show ∀ i (h : i < C0.length) (h' : i < l.length), 0 ≤ i → EnAt X w (l[i]'h').1 (.agg (C0[i]'h).toArray) (l[i]'h').2 from fun i h h' _ => hen i h h')
  have HCL0 := hid_of hcl
  rw [hcl]
  clear hr hgl hb1 hen hcl H1 HEn
  go_wp2_with fail
  go_loopg [9] l.length (fun g si wx => ∃ (k : Nat) (C : Cs), k ≤ l.length ∧ l.length ≤ k + g ∧ si = .int .i64 (k : Int) ∧ Hid (C.length = l.length) ∧ Hid (RowC 81 G C wx) ∧ Hid (Below w.heap.size w wx) ∧ Hid (∀ i (h : i < C.length) (h' : i < l.length), i < k → NewEn (G + 1) wx (l[i]'h').1 (C[i]'h) (l[i]'h').2) ∧ Hid (∀ i (h : i < C.length) (h' : i < l.length), k ≤ i → EnAt X w (l[i]'h').1 (.agg (C[i]'h).toArray) (l[i]'h').2))
  case atStart => exact ⟨0, C0, by omega, by omega, rfl, HCL0, HR0, HB1, H0, HE0⟩
  case round =>
    obtain ⟨k, C, hk, hg, rfl, HCL, HR, HN, HNew, HOld⟩ := hrel
    by_cases hlt : k < l.length
    · obtain ⟨g', rfl⟩ : ∃ g', gk = g' + 1 := ⟨gk - 1, by omega⟩
      have hkc : k < C.length := by rw [HCL.out]; exact hlt
      have en := HOld.out k hkc hlt (Nat.le_refl _)
      obtain ⟨a1, c1, a2, c2, a3, c3, heq, hvs⟩ := en.shape
      have HG1 := hid_of en.gd
      unfold eV at heq
      have hcs := agg_cells heq
      have hva := hvs wr (Ev.of_below HN.out)
      have H2 := hid_of (Copy.copy_call hva en.gd.wel.toFit)
      have HCS := hid_of hcs
      have hc : ∀ j (hj : j < 8), wr.cell? ⟨G, k * 8 + j, none⟩ = (C[k]'hkc)[j]? := fun j hj => HR.out.cell hkc hj
      rw [hcs] at hc
      have r1 := hc 1 (by omega)
      have r2 := hc 2 (by omega)
      have r3 := hc 3 (by omega)
      have r4 := hc 4 (by omega)
      have r5 := hc 5 (by omega)
      simp only [List.getElem?_cons_succ, List.getElem?_cons_zero] at r1 r2 r3 r4 r5
      have e2 : IntKind.i64.wrap ((k : Int) + 1) = (k : Int) + 1 := IntWalk.i64_in _ (by omega)
      have g2 : (k : Int) < (l.length : Int) := by omega
      have hGl : G < wr.heap.size := HR.out.lt
      unfold vV at H2
      obtain ⟨x, HX⟩ : ∃ x, Hid ((l[k]'hlt).2.val = x) := ⟨_, hid_of rfl⟩
      rw [HX.out] at H2 r1 r2 r3 r4 r5
      clear hcs hc hva hvs heq en
      go_wp2_with fail
      refine H2.out.mono ?_
      rintro r w2 ⟨u, rfl, hu, hb2⟩
      obtain ⟨e1, f1, e2', f2, e3, f3, hsh⟩ := va_shape hu.va
      have HU := hid_of hu
      rw [hsh] at HU
      subst hsh
      have HR2 := hid_of (HR.out.keep (hb2.block _ hGl))
      have HB2 := hid_of hb2
      have hkc2 := hkc
      have z := HR2.out.frozen
      have z1 := z (k * 8 + 1)
      have z2 := z (k * 8 + 2)
      have z3 := z (k * 8 + 3)
      have z4 := z (k * 8 + 4)
      have z5 := z (k * 8 + 5)
      have s1 := (FRow.cell_on hb2 r1)
      have s2 := (FRow.cell_on hb2 r2)
      have s3 := (FRow.cell_on hb2 r3)
      have s4 := (FRow.cell_on hb2 r4)
      have s5 := (FRow.cell_on hb2 r5)
      have HST := hid_of (put5 HR2.out hkc HCS.out (.int .i64 x.kind) (.string (mk x.text)) (.slice e1 x.list.length f1) (.slice e2' x.fields.length f2) (.slice e3 x.ranked.length f3))
      have HN2 := hid_of (bel5 (k := k) (HN.out.trans (hb2.mono HN.out.size)) HG.out (.int .i64 x.kind) (.string (mk x.text)) (.slice e1 x.list.length f1) (.slice e2' x.fields.length f2) (.slice e3 x.ranked.length f3))
      have hle : G + 1 ≤ wr.heap.size := hGl
      have HE2 : Hid (∀ i (h : i < (C.set k [.string (mk (l[k]'hlt).1), .int .i64 x.kind, .string (mk x.text), .slice e1 x.list.length f1, .slice e2' x.fields.length f2, .slice e3 x.ranked.length f3, .int .i64 (l[k]'hlt).2.due, .int .u64 ((l[k]'hlt).2.ver : Int)]).length) (h' : i < l.length), i < k + 1 → NewEn (G + 1) (((((w2.setCell ⟨G, k * 8 + 1, none⟩ (.int .i64 x.kind)).setCell ⟨G, k * 8 + 2, none⟩ (.string (mk x.text))).setCell ⟨G, k * 8 + 3, none⟩ (.slice e1 x.list.length f1)).setCell ⟨G, k * 8 + 4, none⟩ (.slice e2' x.fields.length f2)).setCell ⟨G, k * 8 + 5, none⟩ (.slice e3 x.ranked.length f3)) (l[i]'h').1 ((C.set k [.string (mk (l[k]'hlt).1), .int .i64 x.kind, .string (mk x.text), .slice e1 x.list.length f1, .slice e2' x.fields.length f2, .slice e3 x.ranked.length f3, .int .i64 (l[k]'hlt).2.due, .int .u64 ((l[k]'hlt).2.ver : Int)])[i]'h) (l[i]'h').2) := hid_of fun i h h' q => by
        rw [List.getElem_set]
        by_cases e : k = i
        · subst e
          rw [if_pos rfl]
          refine ⟨.slice e1 x.list.length f1, .slice e2' x.fields.length f2, .slice e3 x.ranked.length f3, by rw [HX.out], ?_⟩
          rw [HX.out]
          exact vn5 (HU.out.mono hle) (by omega) _ _ _ _ _
        · rw [if_neg e]
          obtain ⟨a, b, c, h1, h2⟩ := HNew.out i (by rw [List.length_set] at h; exact h) h' (by omega)
          exact ⟨a, b, c, h1, vn5 (h2.below HB2.out) (by omega) _ _ _ _ _⟩
      have HO2 : Hid (∀ i (h : i < (C.set k [.string (mk (l[k]'hlt).1), .int .i64 x.kind, .string (mk x.text), .slice e1 x.list.length f1, .slice e2' x.fields.length f2, .slice e3 x.ranked.length f3, .int .i64 (l[k]'hlt).2.due, .int .u64 ((l[k]'hlt).2.ver : Int)]).length) (h' : i < l.length), k + 1 ≤ i → EnAt X w (l[i]'h').1 (.agg ((C.set k [.string (mk (l[k]'hlt).1), .int .i64 x.kind, .string (mk x.text), .slice e1 x.list.length f1, .slice e2' x.fields.length f2, .slice e3 x.ranked.length f3, .int .i64 (l[k]'hlt).2.due, .int .u64 ((l[k]'hlt).2.ver : Int)])[i]'h).toArray) (l[i]'h').2) := hid_of fun i h h' q => by
        rw [List.getElem_set, if_neg (by omega)]
        exact HOld.out i (by rw [List.length_set] at h; exact h) h' (by omega)
      have hcl : Hid ((C.set k [.string (mk (l[k]'hlt).1), .int .i64 x.kind, .string (mk x.text), .slice e1 x.list.length f1, .slice e2' x.fields.length f2, .slice e3 x.ranked.length f3, .int .i64 (l[k]'hlt).2.due, .int .u64 ((l[k]'hlt).2.ver : Int)]).length = l.length) := hid_of (by rw [List.length_set]; exact HCL.out)
      unfold vV
      generalize mk x.text = TT' at *
      generalize x.kind = KD at *
      generalize x.list.length = N1 at *
      generalize x.fields.length = N2 at *
      generalize x.ranked.length = N3 at *
      clear hu hb2 z r1 r2 r3 r4 r5 H2
      go_wp2_with fail
      go_roundg g'
      case measure => omega
      case rel => exact ⟨k + 1, _, by omega, by omega, by rw [show ((k + 1 : Nat) : Int) = (k : Int) + 1 from by omega], hcl, HST, HN2, HE2, HO2⟩
    · obtain rfl : k = l.length := by omega
      have gi : ¬ (l.length : Int) < (l.length : Int) := by omega
      go_wp2_with fail
      go_ret
      exact ⟨G, C, by rw [show C.length = l.length from HCL.out]; rfl, HR.out, HG.out, HCL.out, fun i h h' => HNew.out i h h' h', HN.out⟩
end Go.Proofs.YtpnigkjmofhmbabGreat.SEnts
end
section
namespace Go.Proofs.YtpnigkjmofhmbabGreat.Same
open Go.RowKit Go.Maps
open Go.Proofs.YtpnigkjmofhmbabGreat.SetMath
open Go.Proofs.YtpnigkjmofhmbabGreat.ValueMath
open Go.Proofs.YtpnigkjmofhmbabGreat.Base
open Go.Proofs.YtpnigkjmofhmbabGreat.Vals
set_option linter.unusedVariables false

theorem Fit.len {x : Vl} (h : Fit x) : x.list.length ≤ 140737488355328 ∧ x.fields.length ≤ 140737488355328 ∧ x.ranked.length ≤ 140737488355328 := by
  obtain ⟨h1, h2, h3⟩ := h
  unfold FRow.big at h2
  unfold ERow.big at h3
  exact ⟨by omega, by omega, by omega⟩
set_option maxHeartbeats 4000000 in
set_option maxRecDepth 100000 in
theorem same_call {w : World} {u v : Value} {x y : Vl} (h : VA w u x) (h' : VA w v y) (fx : Fit x) (fy : Fit y) :
    Calls Tryz.prog 84 #[u, v] w fun e w' => e = .returned (.bool (sm x y)) ∧ Below w.heap.size w w' := by
  obtain ⟨f1, f2, f3⟩ := Fit.len fx
  obtain ⟨g1, g2, g3⟩ := Fit.len fy
  clear fx fy
  obtain ⟨a, b, c, rfl, h1, h2, h3⟩ := h
  obtain ⟨a', b', c', rfl, k1, k2, k3⟩ := h'
  obtain ⟨xk, xt, xl, xf, xr⟩ := x
  obtain ⟨yk, yt, yl, yf, yr⟩ := y
  simp only [sm] at *
  have HS := hid_of fun (W : World) (hW : Below w.heap.size w W) => Equal.eqS_call (h1.below hW) (k1.below hW) f1 g1
  have HF := hid_of fun (W : World) (hW : Below w.heap.size w W) => Equal.eqF_call b b' xf yf W (h2.below hW) (k2.below hW) f2 g2
  have HE := hid_of fun (W : World) (hW : Below w.heap.size w W) => Equal.eqE_call c c' xr yr W (h3.below hW) (k3.below hW) f3 g3
  obtain ⟨la, lc, rfl, _, _⟩ := id h1
  obtain ⟨fa, fc, rfl, _, _⟩ := id h2
  obtain ⟨ea, ec, rfl, _, _⟩ := id h3
  obtain ⟨la', lc', rfl, _, _⟩ := id k1
  obtain ⟨fa', fc', rfl, _, _⟩ := id k2
  obtain ⟨ea', ec', rfl, _, _⟩ := id k3
  have te := str_eq xt yt
  generalize mk xt = X at *
  generalize mk yt = Y at *
  generalize xl.length = n1 at *
  generalize List.length xf = n2 at *
  generalize List.length xr = n3 at *
  generalize yl.length = m1 at *
  generalize List.length yf = m2 at *
  generalize List.length yr = m3 at *
  generalize decide (xt = yt) = dt at *
  generalize decide (xl = yl) = dl at *
  generalize decide (xf = yf) = df at *
  generalize decide (xr = yr) = dr at *
  clear h1 h2 h3 k1 k2 k3 f1 f2 f3 g1 g2 g3
  obtain ⟨V, hV⟩ : ∃ V, V = (w.alloc (.cells #[.int .i64 xk, .string X, .slice la n1 lc, .slice fa n2 fc, .slice ea n3 ec] 38)).alloc (.cells #[.int .i64 yk, .string Y, .slice la' m1 lc', .slice fa' m2 fc', .slice ea' m3 ec'] 38) := ⟨_, rfl⟩
  have bV : Below w.heap.size w V := by rw [hV]; exact FRow.bel (FRow.bnew w _) (FRow.bnew _ _) (Nat.le_refl _)
  have v0 : V.heap[w.heap.size]? = some (.cells #[.int .i64 xk, .string X, .slice la n1 lc, .slice fa n2 fc, .slice ea n3 ec] 38 (0, 0)) := by rw [hV, hao _ _ _ (by simp)]; exact heap_alloc_new w _
  have v1 : V.heap[w.heap.size + 1]? = some (.cells #[.int .i64 yk, .string Y, .slice la' m1 lc', .slice fa' m2 fc', .slice ea' m3 ec'] 38 (0, 0)) := by
    rw [hV]
    have := heap_alloc_new (w.alloc (.cells #[.int .i64 xk, .string X, .slice la n1 lc, .slice fa n2 fc, .slice ea n3 ec] 38)) (.cells #[.int .i64 yk, .string Y, .slice la' m1 lc', .slice fa' m2 fc', .slice ea' m3 ec'] 38)
    simpa using this
  have HV := hid_of hV
  have HB := hid_of bV
  have HX : Hid (∀ W, Below V.heap.size V W → W.heap[w.heap.size]? = some (.cells #[.int .i64 xk, .string X, .slice la n1 lc, .slice fa n2 fc, .slice ea n3 ec] 38 (0, 0)) ∧ W.heap[w.heap.size + 1]? = some (.cells #[.int .i64 yk, .string Y, .slice la' m1 lc', .slice fa' m2 fc', .slice ea' m3 ec'] 38 (0, 0))) :=
    hid_of fun W hW => ⟨(hW.block _ (lt_of v0)).trans v0, (hW.block _ (lt_of v1)).trans v1⟩
  clear v0 v1 bV hV
  cases hk : (xk == yk)
  · go_enter Tryz.func84, Tryz.ntmps84
    go_wp2_with fail
    go_ret
    exact ⟨ret_b (by simp), by rw [← HV.out]; exact HB.out⟩
  · cases dt
    · go_enter Tryz.func84, Tryz.ntmps84
      go_wp2_with fail
      go_ret
      exact ⟨ret_b (by simp), by rw [← HV.out]; exact HB.out⟩
    · go_enter Tryz.func84, Tryz.ntmps84
      go_wp2_with fail
      rw [← HV.out]
      refine (HS.out V HB.out).mono ?_
      rintro e w1 ⟨rfl, b1⟩
      obtain ⟨x0, x1⟩ := HX.out w1 b1
      obtain ⟨⟨_, _, _, c3, c4⟩, _⟩ := box5 x0
      obtain ⟨⟨_, _, _, d3, d4⟩, _⟩ := box5 x1
      have B1 := hid_of b1
      have BB := hid_of (FRow.bel HB.out b1 (Nat.le_refl _))
      clear x0 x1 b1
      cases dl
      · go_wp2_with fail
        go_ret
        exact ⟨ret_b (by simp), BB.out⟩
      · go_wp2_with fail
        refine (HF.out w1 BB.out).mono ?_
        rintro e w2 ⟨rfl, b2⟩
        clear c3 c4 d3 d4
        obtain ⟨x0, x1⟩ := HX.out w2 (FRow.bel B1.out b2 (Nat.le_refl _))
        obtain ⟨⟨_, _, _, _, c4⟩, _⟩ := box5 x0
        obtain ⟨⟨_, _, _, _, d4⟩, _⟩ := box5 x1
        have B2 := hid_of (FRow.bel BB.out b2 (Nat.le_refl _))
        clear x0 x1 b2
        cases df
        · go_wp2_with fail
          go_ret
          exact ⟨ret_b (by simp), B2.out⟩
        · go_wp2_with fail
          refine (HE.out w2 B2.out).mono ?_
          rintro e w3 ⟨rfl, b3⟩
          have B3 := hid_of (FRow.bel B2.out b3 (Nat.le_refl _))
          clear b3
          go_wp2_with fail
          go_ret
          exact ⟨ret_b (by simp), B3.out⟩
end Go.Proofs.YtpnigkjmofhmbabGreat.Same
end
section
namespace Go.Proofs.YtpnigkjmofhmbabGreat.EMay
open Go.RowKit Go.Maps
open Go.Proofs.YtpnigkjmofhmbabGreat.ValueMath (Vl chk small sm)
open Go.Proofs.YtpnigkjmofhmbabGreat.Base (mk mk_list mk_size Gr hid_of SL)
open Go.Proofs.YtpnigkjmofhmbabGreat.Turn
open Go.Proofs.YtpnigkjmofhmbabGreat.Vals
open Go.Proofs.YtpnigkjmofhmbabGreat.Check0 (Wel)
open Go.Proofs.YtpnigkjmofhmbabGreat.Dec (zV)
open Go.Proofs.YtpnigkjmofhmbabGreat.SBase
open Go.Proofs.YtpnigkjmofhmbabGreat.SFind (alb)
open Go.Proofs.YtpnigkjmofhmbabGreat.SPut (vO va_shape)
set_option linter.unusedVariables false
set_option linter.unusedSimpArgs false
def okK (k : Int) : Bool := decide (k = 1) || decide (k = 2) || decide (k = 3) || decide (k = 4)
def pkK (k : Int) : Bool := decide (k = 1) || decide (k = 2) || decide (k = 3)
def pdK (k : Int) : Bool := decide (k = 1) || decide (k = 3)
def pvK (k : Int) : Bool := decide (k = 1)
def dueOk (d : Int) : Bool := decide (0 ≤ d) && decide (d ≤ 9007199254740992)
def keyB (u : Bool) (k : Bs) : Bool := u || decide (k = [])
def dueB (u : Bool) (d : Int) : Bool := if u then dueOk d else decide (d = 0)
def valB (u : Bool) (x : Vl) : Bool := if u then decide (chk x = 0) else sm x zV
def mayE (f : Ef) : Bool := okK f.kind && (keyB (pkK f.kind) f.key && (dueB (pdK f.kind) f.due && valB (pvK f.kind) f.val))
set_option maxRecDepth 100000 in
theorem parts_call (k : Int) (w : World) : Calls Tryz.prog 49 #[.int .i64 k] w fun e w' => e = .returned (.tuple #[.agg #[.bool (pkK k), .bool (pdK k), .bool (pvK k)], .bool (okK k)]) ∧ Below w.heap.size w w' := by
  by_cases h1 : k = 1
  · subst h1
    go_enter Tryz.func49, Tryz.ntmps49
    go_wp2_with fail
    exact bodyPost_ret (v := .tuple #[.agg #[.bool true, .bool true, .bool true], .bool true]) (by simp [results, Tryz.results49, go_sem]) rfl ⟨rfl, alb _ _⟩
  · by_cases h2 : k = 2
    · subst h2
      go_enter Tryz.func49, Tryz.ntmps49
      go_wp2_with fail
      exact bodyPost_ret (v := .tuple #[.agg #[.bool true, .bool false, .bool false], .bool true]) (by simp [results, Tryz.results49, go_sem]) rfl ⟨rfl, alb _ _⟩
    · by_cases h3 : k = 3
      · subst h3
        go_enter Tryz.func49, Tryz.ntmps49
        go_wp2_with fail
        exact bodyPost_ret (v := .tuple #[.agg #[.bool true, .bool true, .bool false], .bool true]) (by simp [results, Tryz.results49, go_sem]) rfl ⟨rfl, alb _ _⟩
      · by_cases h4 : k = 4
        · subst h4
          go_enter Tryz.func49, Tryz.ntmps49
          go_wp2_with fail
          exact bodyPost_ret (v := .tuple #[.agg #[.bool false, .bool false, .bool false], .bool true]) (by simp [results, Tryz.results49, go_sem]) rfl ⟨rfl, alb _ _⟩
        · have e1 : (k == 1) = false := by simp [h1]
          have e2 : (k == 2) = false := by simp [h2]
          have e3 : (k == 3) = false := by simp [h3]
          have e4 : (k == 4) = false := by simp [h4]
          have p1 : pkK k = false := by simp [pkK, h1, h2, h3]
          have p2 : pdK k = false := by simp [pdK, h1, h3]
          have p3 : pvK k = false := by simp [pvK, h1]
          have p4 : okK k = false := by simp [okK, h1, h2, h3, h4]
          rw [p1, p2, p3, p4]
          go_enter Tryz.func49, Tryz.ntmps49
          go_wp2_with fail
          exact bodyPost_ret (v := .tuple #[.agg #[.bool false, .bool false, .bool false], .bool false]) (by simp [results, Tryz.results49, go_sem]) rfl ⟨rfl, alb _ _⟩
theorem empty_list (k : Bs) : (mk k).toList.isEmpty = decide (k = []) := by
  rw [mk_list]
  cases k <;> simp
theorem beq_list (k : Bs) : ((mk k).toList == []) = decide (k = []) := by
  rw [mk_list]
  cases k <;> simp
set_option maxRecDepth 100000 in
theorem key_call (k : Bs) (u : Bool) (w : World) : Calls Tryz.prog 52 #[.string (mk k), .bool u] w fun e w' => e = .returned (.bool (keyB u k)) ∧ w' = w := by
  unfold keyB
  have e0 := empty_list k
  have e1 := beq_list k
  generalize decide (k = []) = q at *
  generalize mk k = K at *
  cases u
  · go_enter Tryz.func52, Tryz.ntmps52
    go_wp2_with fail
    go_ret
    exact ⟨by first | rfl | simp [e0, e1], rfl⟩
  · go_enter Tryz.func52, Tryz.ntmps52
    go_wp2_with fail
    go_ret
    exact ⟨by simp, rfl⟩
set_option maxRecDepth 100000 in
theorem due_call (d : Int) (u : Bool) (w : World) : Calls Tryz.prog 53 #[.int .i64 d, .bool u] w fun e w' => e = .returned (.bool (dueB u d)) ∧ w' = w := by
  unfold dueB dueOk
  cases u
  · go_enter Tryz.func53, Tryz.ntmps53
    go_wp2_with fail
    go_ret
    exact ⟨by first | rfl | (by_cases h : d = 0 <;> simp [h]), rfl⟩
  · by_cases h0 : 0 ≤ d
    · rw [decide_eq_true h0]
      go_enter Tryz.func53, Tryz.ntmps53
      go_wp2_with fail
      go_ret
      exact ⟨by simp, rfl⟩
    · rw [decide_eq_false h0]
      go_enter Tryz.func53, Tryz.ntmps53
      go_wp2_with fail
      go_ret
      exact ⟨by simp, rfl⟩
theorem va_zero (w : World) : VA w (.agg #[.int .i64 0, .string ⟨#[]⟩, .slice none 0 0, .slice none 0 0, .slice none 0 0]) zV := (Dec.vz 0 w).va
theorem fit_zero : Fit zV := ⟨by simp [zV], by simp [zV], by simp [zV]⟩
set_option maxRecDepth 100000 in
theorem val_call {w : World} {a1 a2 a3 : Option Addr} {n1 c1 n2 c2 n3 c3 : Nat} {T : ByteArray} {kd : Int} {x : Vl} (h : VA w (.agg #[.int .i64 kd, .string T, .slice a1 n1 c1, .slice a2 n2 c2, .slice a3 n3 c3]) x) (hw : Wel x) (u : Bool) :
    Calls Tryz.prog 54 #[.agg #[.int .i64 kd, .string T, .slice a1 n1 c1, .slice a2 n2 c2, .slice a3 n3 c3], .bool u] w fun e w' => e = .returned (.bool (valB u x)) ∧ Below w.heap.size w w' := by
  obtain ⟨W, hW⟩ : ∃ W, W = w.alloc (vO kd T (.slice a1 n1 c1) (.slice a2 n2 c2) (.slice a3 n3 c3)) := ⟨_, rfl⟩
  have HB := hid_of (show Below w.heap.size w W by rw [hW]; exact alb _ _)
  have HC := hid_of (Check.check_call (h.below HB.out) hw)
  have HS := hid_of (Same.same_call (h.below HB.out) (va_zero W) hw.toFit fit_zero)
  have HW := hid_of hW
  clear hW h
  unfold valB
  generalize sm x zV = r at *
  cases u
  · go_enter Tryz.func54, Tryz.ntmps54
    go_wp2_with fail
    rw [← HW.out]
    refine HS.out.mono ?_
    rintro e w1 ⟨rfl, hb⟩
    have HB1 := hid_of hb
    clear hb
    go_wp2_with fail
    go_ret
    exact ⟨rfl, HB.out.trans (HB1.out.mono HB.out.size)⟩
  · generalize chk x = q at *
    go_enter Tryz.func54, Tryz.ntmps54
    go_wp2_with fail
    rw [← HW.out]
    refine HC.out.mono ?_
    rintro e w1 ⟨rfl, hb⟩
    have HB1 := hid_of hb
    clear hb
    go_wp2_with fail
    go_ret
    exact ⟨by first | rfl | (by_cases h : q = 0 <;> simp [h]), HB.out.trans (HB1.out.mono HB.out.size)⟩
end Go.Proofs.YtpnigkjmofhmbabGreat.EMay
end
section
namespace Go.Proofs.YtpnigkjmofhmbabGreat.EAll
open Go.RowKit Go.Maps
open Go.Proofs.YtpnigkjmofhmbabGreat.ValueMath (Vl chk small sm)
open Go.Proofs.YtpnigkjmofhmbabGreat.Base (mk mk_list mk_size Gr hid_of SL)
open Go.Proofs.YtpnigkjmofhmbabGreat.Turn
open Go.Proofs.YtpnigkjmofhmbabGreat.Vals
open Go.Proofs.YtpnigkjmofhmbabGreat.Check0 (Wel)
open Go.Proofs.YtpnigkjmofhmbabGreat.SBase
open Go.Proofs.YtpnigkjmofhmbabGreat.SFind (alb)
open Go.Proofs.YtpnigkjmofhmbabGreat.SSet (box8)
open Go.Proofs.YtpnigkjmofhmbabGreat.SPut (vO va_shape)
open Go.Proofs.YtpnigkjmofhmbabGreat.EMay
set_option linter.unusedVariables false
set_option linter.unusedSimpArgs false
abbrev fO (kd k2 d : Int) (K T : ByteArray) (A B C : Value) : Obj := .cells #[.int .i64 kd, .string K, .int .i64 k2, .string T, A, B, C, .int .i64 d] 40
abbrev pO (a b c : Bool) : Obj := .cells #[.bool a, .bool b, .bool c] 105
theorem may_fold (f : Ef) : mayE f = (okK f.kind && (keyB (pkK f.kind) f.key && (dueB (pdK f.kind) f.due && valB (pvK f.kind) f.val))) := rfl
set_option maxHeartbeats 1000000 in
set_option maxRecDepth 100000 in
theorem may_call {w : World} {a1 a2 a3 : Option Addr} {n1 c1 n2 c2 n3 c3 : Nat} {T : ByteArray} {k2 : Int} {f : Ef} (h : VA w (.agg #[.int .i64 k2, .string T, .slice a1 n1 c1, .slice a2 n2 c2, .slice a3 n3 c3]) f.val) (hw : Wel f.val) :
    Calls Tryz.prog 25 #[.agg #[.int .i64 f.kind, .string (mk f.key), .int .i64 k2, .string T, .slice a1 n1 c1, .slice a2 n2 c2, .slice a3 n3 c3, .int .i64 f.due]] w fun e w' => e = .returned (.bool (mayE f)) ∧ Below w.heap.size w w' := by
  obtain ⟨W, hW⟩ : ∃ W, W = w.alloc (fO f.kind k2 f.due (mk f.key) T (.slice a1 n1 c1) (.slice a2 n2 c2) (.slice a3 n3 c3)) := ⟨_, rfl⟩
  have x0 : W.heap[w.heap.size]? = some (fO f.kind k2 f.due (mk f.key) T (.slice a1 n1 c1) (.slice a2 n2 c2) (.slice a3 n3 c3)) := by rw [hW]; exact heap_alloc_new w _
  have HB := hid_of (show Below w.heap.size w W by rw [hW]; exact alb _ _)
  have HP := hid_of (parts_call f.kind W)
  have HK := hid_of (key_call f.key (pkK f.kind))
  have HD := hid_of (due_call f.due (pdK f.kind))
  have HV := hid_of (fun (V : World) (hV : Below w.heap.size w V) => val_call (h.below hV) hw (pvK f.kind))
  have HX := hid_of x0
  have HW := hid_of hW
  clear hW h x0 hw
  rw [may_fold]
  generalize okK f.kind = po at *
  generalize pkK f.kind = pk at *
  generalize pdK f.kind = pd at *
  generalize pvK f.kind = pv at *
  generalize keyB pk f.key = r1 at *
  generalize dueB pd f.due = r2 at *
  generalize valB pv f.val = r3 at *
  generalize f.kind = kd at *
  generalize mk f.key = K at *
  generalize f.due = d at *
  go_enter Tryz.func25, Tryz.ntmps25
  go_wp2_with fail
  rw [← HW.out]
  refine HP.out.mono ?_
  rintro e w1 ⟨rfl, hb1⟩
  obtain ⟨V, hV⟩ : ∃ V, V = w1.alloc (pO pk pd pv) := ⟨_, rfl⟩
  have HB1 := hid_of (show Below W.heap.size W V by rw [hV]; exact hb1.trans ((alb w1 _).mono hb1.size))
  have xV : V.heap[w.heap.size]? = _ := (HB1.out.block _ (lt_of HX.out)).trans HX.out
  have pV : V.heap[w1.heap.size]? = some (pO pk pd pv) := by rw [hV]; exact heap_alloc_new w1 _
  have HBV := hid_of (HB.out.trans (HB1.out.mono HB.out.size))
  have HVV := hid_of hV
  have x1 := (hb1.block _ (lt_of HX.out)).trans HX.out
  obtain ⟨⟨y0, y1, y2, y3, y4, y5, y6, y7⟩, -⟩ := box8 x1
  have hlt1 : w.heap.size < w1.heap.size := lt_of x1
  have HXV := hid_of (And.intro xV pV)
  clear hb1 HP xV pV hV x1
  cases po
  · go_wp2_with fail
    rw [← HVV.out]
    go_ret
    exact ⟨by simp, HBV.out⟩
  · go_wp2_with fail
    rw [← HVV.out]
    refine (HK.out V).mono ?_
    rintro e w2 ⟨rfl, rfl⟩
    clear y0 y1 y2 y3 y4 y5 y6 y7 hlt1
    obtain ⟨⟨y0, y1, y2, y3, y4, y5, y6, y7⟩, -⟩ := box8 HXV.out.1
    obtain ⟨⟨p0, p1, p2⟩, -⟩ := box3 HXV.out.2
    cases r1
    · go_wp2_with fail
      go_ret
      exact ⟨by simp, HBV.out⟩
    · go_wp2_with fail
      refine (HD.out w2).mono ?_
      rintro e w3 ⟨rfl, rfl⟩
      cases r2
      · go_wp2_with fail
        go_ret
        exact ⟨by simp, HBV.out⟩
      · go_wp2_with fail
        refine (HV.out w3 HBV.out).mono ?_
        rintro e w4 ⟨rfl, hb4⟩
        have HB4 := hid_of (HBV.out.trans (hb4.mono HBV.out.size))
        clear hb4
        go_wp2_with fail
        go_ret
        exact ⟨by simp, HB4.out⟩
/- effects that are read -/
def FAt (w : World) (g o : Nat) (f : Ef) : Prop := ∃ a1 n1 c1 a2 n2 c2 a3 n3 c3 k2 T, w.cell? ⟨g, o, none⟩ = some (.int .i64 f.kind) ∧ w.cell? ⟨g, o + 1, none⟩ = some (.string (mk f.key)) ∧ w.cell? ⟨g, o + 2, none⟩ = some (.int .i64 k2) ∧ w.cell? ⟨g, o + 3, none⟩ = some (.string T) ∧ w.cell? ⟨g, o + 4, none⟩ = some (.slice a1 n1 c1) ∧ w.cell? ⟨g, o + 5, none⟩ = some (.slice a2 n2 c2) ∧ w.cell? ⟨g, o + 6, none⟩ = some (.slice a3 n3 c3) ∧ w.cell? ⟨g, o + 7, none⟩ = some (.int .i64 f.due) ∧ VA w (.agg #[.int .i64 k2, .string T, .slice a1 n1 c1, .slice a2 n2 c2, .slice a3 n3 c3]) f.val
def FSl (w : World) (v : Value) (l : List Ef) : Prop := ∃ a c, v = .slice a l.length c ∧ l.length ≤ c ∧ (l = [] ∨ ∃ g o, a = some ⟨g, o, none⟩ ∧ ∀ k (h : k < l.length), FAt w g (o + k * 8) (l[k]'h))
theorem FAt.below {w w' : World} {g o : Nat} {f : Ef} (h : FAt w g o f) (hb : Below w.heap.size w w') : FAt w' g o f := by
  obtain ⟨a1, n1, c1, a2, n2, c2, a3, n3, c3, k2, T, h0, h1, h2, h3, h4, h5, h6, h7, hv⟩ := h
  exact ⟨a1, n1, c1, a2, n2, c2, a3, n3, c3, k2, T, FRow.cell_on hb h0, FRow.cell_on hb h1, FRow.cell_on hb h2, FRow.cell_on hb h3, FRow.cell_on hb h4, FRow.cell_on hb h5, FRow.cell_on hb h6, FRow.cell_on hb h7, hv.below hb⟩
theorem FSl.below {w w' : World} {v : Value} {l : List Ef} (h : FSl w v l) (hb : Below w.heap.size w w') : FSl w' v l := by
  obtain ⟨a, c, rfl, hc, h⟩ := h
  refine ⟨a, c, rfl, hc, h.imp id ?_⟩
  rintro ⟨g, o, e, hq⟩
  exact ⟨g, o, e, fun k hk => (hq k hk).below hb⟩
def allE (l : List Ef) : Bool := l.all mayE
set_option maxHeartbeats 1000000 in
set_option maxRecDepth 100000 in
theorem all_call {w : World} {v : Value} {l : List Ef} (h : FSl w v l) (hw : ∀ f ∈ l, Wel f.val) (hl : l.length < 1099511627776) :
    Calls Tryz.prog 30 #[v] w fun e w' => e = .returned (.bool (allE l)) ∧ Below w.heap.size w w' := by
  obtain ⟨a, c, rfl, hc, h⟩ := h
  have HR := hid_of h
  have HWl := hid_of hw
  clear h hw
  go_enter Tryz.func30, Tryz.ntmps30
  go_wp2_with fail
  go_loopg [7] l.length (fun g si wx => ∃ k : Nat, k ≤ l.length ∧ l.length ≤ k + g ∧ si = .int .i64 (k : Int) ∧ Hid (Below w.heap.size w wx) ∧ Hid (allE (l.take k) = true))
  case atStart => exact ⟨0, by omega, by omega, rfl, hid_of (Below.refl _ _), hid_of (by simp [allE])⟩
  case round =>
    obtain ⟨k, hk, hg, rfl, HN, HA⟩ := hrel
    by_cases hlt : k < l.length
    · obtain ⟨g', rfl⟩ : ∃ g', gk = g' + 1 := ⟨gk - 1, by omega⟩
      obtain ⟨gb, o, rfl, hcs⟩ : ∃ g o, a = some ⟨g, o, none⟩ ∧ ∀ k (h : k < l.length), FAt w g (o + k * 8) (l[k]'h) := by
        rcases HR.out with h | h
        · rw [h] at hlt; simp at hlt
        · exact h
      obtain ⟨a1, n1, c1, a2, n2, c2, a3, n3, c3, k2, T, h0, h1, h2, h3, h4, h5, h6, h7, hv⟩ := (hcs k hlt).below HN.out
      have e2 : IntKind.i64.wrap ((k : Int) + 1) = (k : Int) + 1 := IntWalk.i64_in _ (by omega)
      have g2 : (k : Int) < (l.length : Int) := by omega
      obtain ⟨W, hW⟩ : ∃ W, W = wr.alloc (fO (l[k]'hlt).kind k2 (l[k]'hlt).due (mk (l[k]'hlt).key) T (.slice a1 n1 c1) (.slice a2 n2 c2) (.slice a3 n3 c3)) := ⟨_, rfl⟩
      have HBW := hid_of (show Below wr.heap.size wr W by rw [hW]; exact alb _ _)
      have HM := hid_of (may_call (hv.below HBW.out) (HWl.out _ (List.getElem_mem hlt)))
      have HT := hid_of (show allE (l.take (k + 1)) = mayE (l[k]'hlt) by
        have := HA.out
        unfold allE at *
        rw [List.take_succ_eq_append_getElem hlt, List.all_append, this]
        simp)
      have HF : Hid (mayE (l[k]'hlt) = false → allE l = false) := hid_of fun q => by
        unfold allE
        rw [List.all_eq_false]
        exact ⟨_, List.getElem_mem hlt, by rw [q]; simp⟩
      have HW := hid_of hW
      generalize mayE (l[k]'hlt) = r at *
      generalize (l[k]'hlt).kind = kd at *
      generalize (l[k]'hlt).due = d at *
      generalize mk (l[k]'hlt).key = K at *
      clear hcs hv hW
      go_wp2_with fail
      rw [← HW.out]
      refine HM.out.mono ?_
      rintro e w2 ⟨rfl, hb2⟩
      have HN2 := hid_of (show Below w.heap.size w w2 from (HN.out.trans (HBW.out.mono HN.out.size)).trans (hb2.mono (Nat.le_trans HN.out.size HBW.out.size)))
      clear hb2 h0 h1 h2 h3 h4 h5 h6 h7 HM
      cases r
      · go_wp2_with fail
        go_ret
        exact ⟨by rw [HF.out (by first | rfl | trivial)]; rfl, HN2.out⟩
      · go_wp2_with fail
        go_roundg g'
        case measure => omega
        case rel => exact ⟨k + 1, by omega, by omega, by rw [show ((k + 1 : Nat) : Int) = (k : Int) + 1 from by omega], HN2, HT⟩
    · obtain rfl : k = l.length := by omega
      have gi : ¬ (l.length : Int) < (l.length : Int) := by omega
      have HT := hid_of (show allE l = true by have := HA.out; rw [List.take_length] at this; exact this)
      go_wp2_with fail
      go_ret
      exact ⟨by rw [HT.out]; rfl, HN.out⟩
end Go.Proofs.YtpnigkjmofhmbabGreat.EAll
end
