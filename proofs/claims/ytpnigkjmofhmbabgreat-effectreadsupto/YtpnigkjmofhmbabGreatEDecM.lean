/- Decode of effects. Decode of effects, walked. The document's copy of a value. The law's twin: effects with memory of their own. -/
import Derived.Test.YtpnigkjmofhmbabGreatEEff
import Derived.Test.YtpnigkjmofhmbabGreatSTouchM
section
namespace Go.Proofs.YtpnigkjmofhmbabGreat.EDec
open Go.RowKit Go.Maps
open Go.Proofs.YtpnigkjmofhmbabGreat.BytesMath
open Go.Proofs.YtpnigkjmofhmbabGreat.ValueMath (Vl chk small sm enc decS)
open Go.Proofs.YtpnigkjmofhmbabGreat.ReadMath
open Go.Proofs.YtpnigkjmofhmbabGreat.Base
open Go.Proofs.YtpnigkjmofhmbabGreat.Vals
open Go.Proofs.YtpnigkjmofhmbabGreat.Check0 (Wel)
open Go.Proofs.YtpnigkjmofhmbabGreat.Dec (zV decV vn_set vn_shape vz)
open Go.Proofs.YtpnigkjmofhmbabGreat.Rdr (At fr_go fr_b)
open Go.Proofs.YtpnigkjmofhmbabGreat.SBase (Ef vV Bs)
open Go.Proofs.YtpnigkjmofhmbabGreat.SFind (alb)
open Go.Proofs.YtpnigkjmofhmbabGreat.SSet (box8)
open Go.Proofs.YtpnigkjmofhmbabGreat.Chunk
open Go.Proofs.YtpnigkjmofhmbabGreat.EMay
open Go.Proofs.YtpnigkjmofhmbabGreat.EAll
open Go.Proofs.YtpnigkjmofhmbabGreat.ERd
open Go.Proofs.YtpnigkjmofhmbabGreat.EEff
set_option linter.unusedVariables false
set_option linter.unusedSimpArgs false
theorem ef_lt {s : Bs} (h : s ≠ []) (hf : (efS (s, false)).2.2 = false) : (efS (s, false)).2.1.length < s.length := by
  have h0 : (nbS 1 (s, false)).2 = (s.drop 1, false) := by
    unfold nbS
    rw [tk_ok (by cases s with | nil => exact absurd rfl h | cons a r => simp)]
  have h1 : (r1 (s, false)).2.1.length ≤ (s.drop 1).length := by
    unfold r1
    split
    · rw [h0]; exact (ky_le (s.drop 1, false)).1
    · rw [h0]; exact Nat.le_refl _
  have h2 : (r2 (s, false)).2.1.length ≤ (s.drop 1).length := by
    unfold r2
    split
    · exact Nat.le_trans (nb_le 8 _) h1
    · exact h1
  have h3 : (r3 (s, false)).2.1.length ≤ (s.drop 1).length := by
    unfold r3
    split
    · exact Nat.le_trans (vl_le _) h2
    · exact h2
  have h4 : (s.drop 1).length < s.length := by
    cases s with
    | nil => exact absurd rfl h
    | cons a r => simp
  exact Nat.lt_of_le_of_lt h3 h4
def dcL (s : Bs) : Option (List Ef) :=
  if h : s = [] then some [] else if h2 : ((efS (s, false)).2.2 || !mayE (efS (s, false)).1) = true then none else (dcL (efS (s, false)).2.1).map ((efS (s, false)).1 :: ·)
termination_by s.length
decreasing_by exact ef_lt h (by
  simp only [Bool.or_eq_true, not_or] at h2
  simpa using h2.1)
def dcR (s : Bs) : List Ef := (dcL s).getD []
def dcN (s : Bs) : Int := if (dcL s).isSome then 0 else 160
theorem dc_nil : dcL [] = some [] := by rw [dcL]; simp
theorem dc_no {s : Bs} (h : s ≠ []) (h2 : ((efS (s, false)).2.2 || !mayE (efS (s, false)).1) = true) : dcL s = none := by rw [dcL, dif_neg h, dif_pos h2]
theorem dc_yes {s : Bs} (h : s ≠ []) (h2 : ((efS (s, false)).2.2 || !mayE (efS (s, false)).1) = false) : dcL s = (dcL (efS (s, false)).2.1).map ((efS (s, false)).1 :: ·) := by
  rw [dcL, dif_neg h, dif_neg (by rw [h2]; simp)]
/- effects in new memory -/
def NF (B : Nat) (w : World) (cs : List Value) (f : Ef) : Prop := ∃ k2 T a1 n1 c1 a2 n2 c2 a3 n3 c3, cs = [.int .i64 f.kind, .string (mk f.key), .int .i64 k2, .string T, .slice a1 n1 c1, .slice a2 n2 c2, .slice a3 n3 c3, .int .i64 f.due] ∧ VN B w (.agg #[.int .i64 k2, .string T, .slice a1 n1 c1, .slice a2 n2 c2, .slice a3 n3 c3]) f.val
structure DLa (B : Nat) (C : Cs) (w : World) (v : Value) (l : List Ef) : Prop where
  e8 : E8 C
  len : C.length = l.length
  row : w.ownsRow B 40 8 v l.length C.flatten
  all : ∀ i (h : i < C.length) (h' : i < l.length), NF B w (C[i]'h) (l[i]'h')
def DL (B : Nat) (w : World) (v : Value) (l : List Ef) : Prop := ∃ C, DLa B C w v l
theorem vn_keep {B : Nat} {w w' : World} {v : Value} {x : Vl} (h : VN B w v x) (hk : ∀ k cs t fz, w.heap[k]? = some (.cells cs t fz) → B ≤ k → t ≠ 40 → w'.heap[k]? = w.heap[k]?) : VN B w' v x := by
  obtain ⟨a, b, c, rfl, h1, h2, h3⟩ := h
  refine ⟨a, b, c, rfl, ?_, FRow.row_later h2 fun g cs t fz hg hh ht => hk g cs t fz hh (Push.row_kd h2 hg).2.2 (by rw [ht]; decide), FRow.row_later h3 fun g cs t fz hg hh ht => hk g cs t fz hh (Push.row_kd h3 hg).2.2 (by rw [ht]; decide)⟩
  rcases h1 with h1 | ⟨g, c, cur, rfl, hB, hr, r⟩
  · exact .inl h1
  · exact .inr ⟨g, c, cur, rfl, hB, (hk g _ _ _ hr hB (by decide)).trans hr, r⟩
theorem NF.keep {B : Nat} {w w' : World} {cs : List Value} {f : Ef} (h : NF B w cs f) (hk : ∀ k cs t fz, w.heap[k]? = some (.cells cs t fz) → B ≤ k → t ≠ 40 → w'.heap[k]? = w.heap[k]?) : NF B w' cs f := by
  obtain ⟨k2, T, a1, n1, c1, a2, n2, c2, a3, n3, c3, e, hv⟩ := h
  exact ⟨k2, T, a1, n1, c1, a2, n2, c2, a3, n3, c3, e, vn_keep hv hk⟩
theorem DLa.keep {B : Nat} {C : Cs} {w w' : World} {v : Value} {l : List Ef} (h : DLa B C w v l) (hk : ∀ k, k < w.heap.size → B ≤ k → w'.heap[k]? = w.heap[k]?) : DLa B C w' v l :=
  ⟨h.e8, h.len, FRow.row_later h.row fun g cs t fz hg hh _ => hk g (lt_of hh) (Push.row_kd h.row hg).2.2, fun i h1 h2 => (h.all i h1 h2).keep fun k cs t fz hh hB _ => hk k (lt_of hh) hB⟩
theorem DLa.fr {B R : Nat} {C : Cs} {w w' : World} {v : Value} {l : List Ef} (h : DLa B C w v l) (f : Fr (At R) w w') (hR : R < B) : DLa B C w' v l := h.keep fun k hk hB => f.block k hk (fun e => by have e : k = R := e; omega)
theorem DLa.below {B : Nat} {C : Cs} {w w' : World} {v : Value} {l : List Ef} (h : DLa B C w v l) (b : Below w.heap.size w w') : DLa B C w' v l := h.keep fun k hk _ => b.block k hk
theorem dl_nil (B : Nat) (w : World) : DLa B [] w (.slice none 0 0) [] := ⟨(fun c hc => by cases hc), rfl, World.ownsRow_nil _ _ _ _, fun i h => by simp at h⟩
theorem NF.mono {B B' : Nat} {w : World} {cs : List Value} {f : Ef} (h : NF B w cs f) (hB : B' ≤ B) : NF B' w cs f := by
  obtain ⟨k2, T, a1, n1, c1, a2, n2, c2, a3, n3, c3, e, hv⟩ := h
  exact ⟨k2, T, a1, n1, c1, a2, n2, c2, a3, n3, c3, e, hv.mono hB⟩
theorem DLa.mono {B B' : Nat} {C : Cs} {w : World} {v : Value} {l : List Ef} (h : DLa B C w v l) (hB : B' ≤ B) : DLa B' C w v l := ⟨h.e8, h.len, FRow.row_mono h.row hB, fun i h1 h2 => (h.all i h1 h2).mono hB⟩
theorem infoF : (Tryz.prog.info? 40).map (fun i => (i.zero, i.size, i.bytes)) = some (some (.agg #[.int .i64 0, .string ⟨#[]⟩, .int .i64 0, .string ⟨#[]⟩, .slice none 0 0, .slice none 0 0, .slice none 0 0, .int .i64 0]), 8, 128) := by kernel_rfl
theorem news8 (w : World) (x0 x1 x2 x3 x4 x5 x6 x7 : Value) (t : TypeId) : ∀ (j : Nat) u, [x0, x1, x2, x3, x4, x5, x6, x7][j]? = some u → (w.alloc (.cells #[x0, x1, x2, x3, x4, x5, x6, x7] t)).cell? ((⟨w.heap.size, 0, none⟩ : Addr).add j) = some u := fun j u hj => by
  have e : (⟨w.heap.size, 0, none⟩ : Addr).add j = ⟨w.heap.size, j, none⟩ := by unfold Addr.add; by_cases h0 : j = 0 <;> simp [h0]
  rw [e, Lib.cell_of_heap (heap_alloc_new w _), ← hj]
  simp
/-- one effect more -/
theorem dl_app {B : Nat} {C : Cs} {w w' : World} {v v' : Value} {l : List Ef} {f : Ef} {cs : List Value} (h : DLa B C w v l) (hn : NF B w cs f) (hrow : w'.ownsRow B 40 8 v' (l.length + 1) (C.flatten ++ cs)) (hg : w.grownBy w' v.ownBlock) (h8 : cs.length = 8) : DLa B (C ++ [cs]) w' v' (l ++ [f]) := by
  have hk : ∀ k c t fz, w.heap[k]? = some (.cells c t fz) → B ≤ k → t ≠ 40 → w'.heap[k]? = w.heap[k]? := fun k c t fz hh _ ht => hg.block k (lt_of hh) (fun q => by
    obtain ⟨c', fz', e⟩ := Builder.owns_kind h.row k q.symm
    rw [e] at hh
    cases hh
    exact ht rfl)
  refine ⟨fun c hc => ?_, by simp [h.len], ?_, fun i h1 h2 => ?_⟩
  · rcases List.mem_append.1 hc with q | q
    · exact h.e8 c q
    · rw [List.mem_singleton.1 q]; exact h8
  · rw [List.length_append, List.flatten_append]
    simpa using hrow
  · by_cases q : i < C.length
    · have q' : i < l.length := by rw [← h.len]; exact q
      rw [List.getElem_append_left q, List.getElem_append_left q']
      exact (h.all i q q').keep hk
    · have q' : ¬ i < l.length := by rw [← h.len]; exact q
      rw [List.getElem_append_right (by omega), List.getElem_append_right (by omega)]
      simp only [List.getElem_singleton]
      exact hn.keep hk
theorem welz : Wel zV := Dec.wel_of ⟨by simp [zV], by simp [zV], by simp [zV]⟩ ⟨by simp [zV], by simp [zV], by simp [zV], by simp [zV]⟩
/-- each effect that is read is well -/
theorem ef_wel (s : RS) : Wel (efS s).1.val := by
  show Wel (r3 s).1
  unfold r3
  split
  · show Wel (vlS (r2 s).2).1
    unfold vlS decV
    cases h : decS (r2 s).2.1 with
    | none => exact welz
    | some q =>
      obtain ⟨x, m⟩ := q
      show Wel x
      unfold decS at h
      cases h2 : ValueMath.valS (r2 s).2.1 with
      | none => rw [h2] at h; cases h
      | some p =>
        rw [h2] at h
        simp only [Option.bind_some] at h
        split at h
        · cases h
          exact Dec.val_wel (r := p.2) h2
        · cases h
  · exact welz
end Go.Proofs.YtpnigkjmofhmbabGreat.EDec
end
section
namespace Go.Proofs.YtpnigkjmofhmbabGreat.EDecC
open Go.RowKit Go.Maps
open Go.Proofs.YtpnigkjmofhmbabGreat.ValueMath (Vl chk small sm enc decS)
open Go.Proofs.YtpnigkjmofhmbabGreat.ReadMath
open Go.Proofs.YtpnigkjmofhmbabGreat.Base
open Go.Proofs.YtpnigkjmofhmbabGreat.Vals
open Go.Proofs.YtpnigkjmofhmbabGreat.Check0 (Wel)
open Go.Proofs.YtpnigkjmofhmbabGreat.Rdr (At fr_go fr_b)
open Go.Proofs.YtpnigkjmofhmbabGreat.SBase (Ef vV Bs)
open Go.Proofs.YtpnigkjmofhmbabGreat.SFind (alb)
open Go.Proofs.YtpnigkjmofhmbabGreat.SSet (box8)
open Go.Proofs.YtpnigkjmofhmbabGreat.Chunk
open Go.Proofs.YtpnigkjmofhmbabGreat.EMay
open Go.Proofs.YtpnigkjmofhmbabGreat.EAll
open Go.Proofs.YtpnigkjmofhmbabGreat.ERd
open Go.Proofs.YtpnigkjmofhmbabGreat.EEff
open Go.Proofs.YtpnigkjmofhmbabGreat.EDec
set_option linter.unusedVariables false
set_option linter.unusedSimpArgs false
def DcE (s : Bs) (w : World) (e : Ending) (w' : World) : Prop := ∃ v, e = .returned (.tuple #[v, .int .i64 (dcN s)]) ∧ DL w.heap.size w' v (dcR s) ∧ Below w.heap.size w w'
theorem dcN_none {s : Bs} (h : dcL s = none) : dcN s = 160 ∧ dcR s = [] := by unfold dcN dcR; rw [h]; exact ⟨rfl, rfl⟩
theorem dcN_some {s : Bs} {l : List Ef} (h : dcL s = some l) : dcN s = 0 ∧ dcR s = l := by unfold dcN dcR; rw [h]; exact ⟨rfl, rfl⟩
theorem dl_shape {B : Nat} {C : Cs} {w : World} {v : Value} {l : List Ef} (h : DLa B C w v l) : ∃ a c, v = .slice a l.length c := by
  rcases h.row.2 with ⟨rfl, h0⟩ | ⟨g, cap, cur, rfl, _⟩
  · exact ⟨none, 0, by rw [h0]⟩
  · exact ⟨_, _, rfl⟩
theorem fr_bel {R : Nat} {w w' : World} (f : Fr (At R) w w') {B : Nat} (hB : B ≤ R) (hw : B ≤ w.heap.size) : Below B w w' := f.below hw fun k e => by have e : k = R := e; omega
set_option maxHeartbeats 4000000 in
set_option maxRecDepth 100000 in
theorem decode_call (s : Bs) (w : World) (hl : s.length < 549755813888) : Calls Tryz.prog 7 #[.string (mk s)] w (DcE s w) := by
  obtain ⟨i0, hi, hz0, hz1, hz2⟩ := FRow.parts_of infoF
  obtain ⟨W0, hW0⟩ : ∃ W0, W0 = w.alloc (.cells #[.string (mk s), .bool false] 58) := ⟨_, rfl⟩
  have HR0 := hid_of (show RDe w.heap.size (s, false) W0 by rw [hW0]; exact heap_alloc_new w _)
  have HB0 := hid_of (show Below w.heap.size w W0 by rw [hW0]; exact alb _ _)
  have HW0 := hid_of hW0
  clear hW0
  go_enter Tryz.func7, Tryz.ntmps7
  go_wp2_with fail
  rw [← HW0.out]
  obtain ⟨R, hR⟩ : ∃ R, R = w.heap.size := ⟨_, rfl⟩
  have HRR := hid_of hR
  rw [← hR] at HR0 HB0
  rw [← hR]
  clear hR
  go_loopg [4] (s.length + 1) (fun g v wx => ∃ (r : Bs) (l : List Ef) (C : Cs), r.length < g ∧ r.length + l.length ≤ s.length ∧ Hid (RDe R (r, false) wx) ∧ Hid (Below R w wx) ∧ Hid (DLa (R + 1) C wx v l) ∧ Hid (dcL s = (dcL r).map (l ++ ·)))
  case atStart => exact ⟨s, [], [], by omega, by simp, HR0, HB0, hid_of (dl_nil _ _), hid_of (by cases dcL s <;> simp)⟩
  case round =>
    obtain ⟨r, l, C, hrg, hrl, HRD, HN, HDL, HDC⟩ := hrel
    obtain ⟨a, c, rfl⟩ := dl_shape HDL.out
    obtain ⟨g', rfl⟩ : ∃ g', gk = g' + 1 := ⟨gk - 1, by omega⟩
    have hRw : w.heap.size = R := HRR.out.symm
    have hRl := lt_of HRD.out
    have c0 : wr.cell? ⟨R, 0, none⟩ = some (.string (mk r)) := Lib.cell_of_heap HRD.out 0
    have hsz := mk_size r
    by_cases hne : r = []
    · have h0 : (mk r).size = 0 := by rw [hsz, hne]; rfl
      have HF : Hid (dcL s = some l) := hid_of (by have q := HDC.out; rw [hne, dc_nil] at q; simpa using q)
      have hn : ¬ (0 : Int) < ((mk r).size : Int) := by rw [h0]; omega
      clear h0 hsz
      generalize mk r = X at *
      go_wp2_with fail
      go_ret2
      refine ⟨_, by rw [(dcN_some HF.out).1]; rfl, ?_, by rw [hRw]; exact HN.out⟩
      rw [(dcN_some HF.out).2, hRw]
      exact ⟨C, HDL.out.mono (by omega)⟩
    · have hp : 0 < r.length := List.length_pos_iff.2 hne
      have hn : (0 : Int) < ((mk r).size : Int) := by rw [hsz]; omega
      have HE := hid_of (effect_call R (r, false) wr HRD.out (show r.length ≤ 140737488355328 by omega))
      have HLT : Hid ((efS (r, false)).2.2 = false → (efS (r, false)).2.1.length < r.length) := hid_of (ef_lt hne)
      have HNO : Hid (((efS (r, false)).2.2 || !mayE (efS (r, false)).1) = true → dcL s = none) := hid_of fun q => by
        have := HDC.out
        rw [dc_no hne q] at this
        simpa using this
      have HYE : Hid (((efS (r, false)).2.2 || !mayE (efS (r, false)).1) = false → dcL s = (dcL (efS (r, false)).2.1).map ((l ++ [(efS (r, false)).1]) ++ ·)) := hid_of fun q => by
        have := HDC.out
        rw [dc_yes hne q] at this
        rw [this, Option.map_map]
        congr 1
        funext x
        simp
      have HWl := hid_of (ef_wel (r, false))
      unfold EfE at HE
      clear hsz
      generalize mk r = X at *
      generalize efS (r, false) = q at *
      obtain ⟨f, r', bad⟩ := q
      simp only at HE HLT HNO HYE HWl
      go_wp2_with fail
      refine HE.out.mono ?_
      rintro e w1 ⟨k2, T, a1, n1, c1, a2, n2, c2, a3, n3, c3, rfl, hv, hd, hf⟩
      have HD1 := hid_of hd
      have HF1 := hid_of hf
      have sz1 : R < w1.heap.size := Nat.lt_of_lt_of_le hRl hf.size
      have HL1 := hid_of (HDL.out.fr hf (Nat.lt_succ_self R))
      have HN1 := hid_of (HN.out.trans (fr_bel hf (Nat.le_refl R) (Nat.le_of_lt hRl)))
      obtain ⟨V, hV⟩ : ∃ V, V = w1.alloc (fO f.kind k2 f.due (mk f.key) T (.slice a1 n1 c1) (.slice a2 n2 c2) (.slice a3 n3 c3)) := ⟨_, rfl⟩
      have bV : Below w1.heap.size w1 V := by rw [hV]; exact alb _ _
      have HXV := hid_of (show V.heap[w1.heap.size]? = some (fO f.kind k2 f.due (mk f.key) T (.slice a1 n1 c1) (.slice a2 n2 c2) (.slice a3 n3 c3)) by rw [hV]; exact heap_alloc_new w1 _)
      have HVV := hid_of hV
      have HBV := hid_of bV
      have HVN := hid_of (hv.mono (show R + 1 ≤ wr.heap.size from hRl))
      have cb : w1.cell? ⟨R, 1, none⟩ = some (.bool bad) := Lib.cell_of_heap hd 1
      have HM := hid_of (may_call (f := f) ((HVN.out.below bV).va) HWl.out)
      clear hv hd hf HE hV bV c0
      cases bad
      · generalize hmy : mayE f = my at *
        generalize hK : mk f.key = K at *
        generalize hkd : f.kind = kd at *
        generalize hdu : f.due = d at *
        have HEQ := hid_of (show mk f.key = K ∧ f.kind = kd ∧ f.due = d from ⟨hK, hkd, hdu⟩)
        clear hmy hK hkd hdu
        go_wp2_with fail
        rw [← HVV.out]
        refine HM.out.mono ?_
        rintro e w2 ⟨rfl, hb2⟩
        have HB2 := hid_of (show Below w1.heap.size w1 w2 from HBV.out.trans (hb2.mono HBV.out.size))
        have x2 := (hb2.block _ (lt_of HXV.out)).trans HXV.out
        obtain ⟨⟨y0, y1, y2, y3, y4, y5, y6, y7⟩, -⟩ := box8 x2
        clear hb2 HM cb x2
        cases my
        · have HNN := hid_of (HNO.out (by simp))
          go_wp2_with fail
          go_ret2
          refine ⟨_, by rw [(dcN_none HNN.out).1]; rfl, ?_, ?_⟩
          · rw [(dcN_none HNN.out).2]
            exact ⟨[], dl_nil _ _⟩
          · rw [hRw]
            exact HN1.out.trans (HB2.out.mono (Nat.le_of_lt sz1))
        · have HYY := hid_of (HYE.out (by simp))
          have hlt := HLT.out (by first | rfl | trivial)
          have HR2 := hid_of (HD1.out.fr HB2.out)
          have HL2 := hid_of (HL1.out.below HB2.out)
          have HV2 := hid_of (HVN.out.below HB2.out)
          have HN2 := hid_of (HN1.out.trans (HB2.out.mono (Nat.le_of_lt sz1)))
          have sz2 : R < w2.heap.size := Nat.lt_of_lt_of_le sz1 HB2.out.size
          have hrow := HL2.out.row.alloc (.cells #[.int .i64 kd, .string K, .int .i64 k2, .string T, .slice a1 n1 c1, .slice a2 n2 c2, .slice a3 n3 c3, .int .i64 d] 40)
          have hb96 : (l.length + 1) * 128 ≤ 140737488355328 := by omega
          go_wp2_with (first
            | (at_builtin; refine wpList_append_own _ rfl _ _ 22 rfl (R + 1) 40 i0 (.agg #[.int .i64 0, .string ⟨#[]⟩, .int .i64 0, .string ⟨#[]⟩, .slice none 0 0, .slice none 0 0, .slice none 0 0, .int .i64 0]) 8 128 Tryz.underlying22 hi hz0 hz1 hz2 rfl (by decide) _ _ _ rfl hrow ⟨w2.heap.size, 0, none⟩ 1 1 [.int .i64 kd, .string K, .int .i64 k2, .string T, .slice a1 n1 c1, .slice a2 n2 c2, .slice a3 n3 c3, .int .i64 d] rfl rfl (news8 _ _ _ _ _ _ _ _ _ _) (by simp [Value.oneCell']) (by unfold maxLen; omega) (by omega) (by simp; omega) ?_; intro v' w4 hown' hg4 hnil4; go_frame)
            | go_in)
          have nf : NF (R + 1) (w2.alloc (.cells #[.int .i64 kd, .string K, .int .i64 k2, .string T, .slice a1 n1 c1, .slice a2 n2 c2, .slice a3 n3 c3, .int .i64 d] 40)) [.int .i64 kd, .string K, .int .i64 k2, .string T, .slice a1 n1 c1, .slice a2 n2 c2, .slice a3 n3 c3, .int .i64 d] f := ⟨k2, T, a1, n1, c1, a2, n2, c2, a3, n3, c3, by rw [HEQ.out.1, HEQ.out.2.1, HEQ.out.2.2], HV2.out.below (alb _ _)⟩
          have HL4 := hid_of (dl_app (HL2.out.below (alb _ _)) nf hown' hg4 rfl)
          have HR4 := hid_of (show RDe R (r', false) w4 from (hg4.block R (by simp; omega) (fun q => by
            have := (Push.row_kd hrow q.symm).2.2
            omega)).trans (HR2.out.fr (alb _ _)))
          have HN4 := hid_of (show Below R w w4 from (HN2.out.trans ((alb w2 _).mono (Nat.le_of_lt sz2))).grown hg4 (by simp; omega) (fun j hj => by
            have := (Push.row_kd hrow hj).2.2
            omega))
          clear nf hown' hg4 hnil4 hrow
          go_roundg g'
          case measure => omega
          case rel => exact ⟨r', l ++ [f], C ++ [[.int .i64 kd, .string K, .int .i64 k2, .string T, .slice a1 n1 c1, .slice a2 n2 c2, .slice a3 n3 c3, .int .i64 d]], by omega, by simp; omega, HR4, HN4, HL4, HYY⟩
      · have HNN := hid_of (HNO.out (by simp))
        go_wp2_with fail
        rw [← HVV.out]
        go_ret2
        refine ⟨_, by rw [(dcN_none HNN.out).1]; rfl, ?_, ?_⟩
        · rw [(dcN_none HNN.out).2]
          exact ⟨[], dl_nil _ _⟩
        · rw [hRw]
          exact HN1.out.trans (HBV.out.mono (Nat.le_of_lt sz1))
end Go.Proofs.YtpnigkjmofhmbabGreat.EDecC
end
section
namespace Go.Proofs.YtpnigkjmofhmbabGreat.RCopy
open Go.RowKit Go.Maps
open Go.Proofs.YtpnigkjmofhmbabGreat.SetMath
open Go.Proofs.YtpnigkjmofhmbabGreat.ValueMath
open Go.Proofs.YtpnigkjmofhmbabGreat.Base
open Go.Proofs.YtpnigkjmofhmbabGreat.Vals
open Go.Proofs.YtpnigkjmofhmbabGreat.Copy (nr_set row_set set5)
set_option linter.unusedVariables false
set_option linter.unusedSimpArgs false

abbrev zB : Obj := .cells #[.int .i64 0, .string ⟨#[]⟩, .slice none 0 0, .slice none 0 0, .slice none 0 0] 38
theorem fin_nr {w : World} {B b : Nat} {v : Value} {l : List El} (h : NR B w v l) (hb : b + 3 ≤ B) {y y0 y1 y2 y3 y4 : Value} :
    NR b ((((((w.setCell ⟨b + 1 + 1, 4, none⟩ y).setCell ⟨b + 1, 0, none⟩ y0).setCell ⟨b + 1, 1, none⟩ y1).setCell ⟨b + 1, 2, none⟩ y2).setCell ⟨b + 1, 3, none⟩ y3).setCell ⟨b + 1, 4, none⟩ y4) v l :=
  (nr_set (nr_set (nr_set (nr_set (nr_set (nr_set h (by omega) y) (by omega) y0) (by omega) y1) (by omega) y2) (by omega) y3) (by omega) y4).mono (by omega)
theorem fin_row {w : World} {B b e sz n : Nat} {v : Value} {xs : List Value} (h : w.ownsRow B e sz v n xs) (hb : b + 3 ≤ B) {y y0 y1 y2 y3 y4 : Value} :
    ((((((w.setCell ⟨b + 1 + 1, 4, none⟩ y).setCell ⟨b + 1, 0, none⟩ y0).setCell ⟨b + 1, 1, none⟩ y1).setCell ⟨b + 1, 2, none⟩ y2).setCell ⟨b + 1, 3, none⟩ y3).setCell ⟨b + 1, 4, none⟩ y4).ownsRow b e sz v n xs :=
  FRow.row_mono (row_set (row_set (row_set (row_set (row_set (row_set h (by omega) y) (by omega) y0) (by omega) y1) (by omega) y2) (by omega) y3) (by omega) y4) (by omega)
theorem fin_b {w w' : World} {b : Nat} (h : Below b w w') {y y0 y1 y2 y3 y4 : Value} :
    Below b w ((((((w'.setCell ⟨b + 1 + 1, 4, none⟩ y).setCell ⟨b + 1, 0, none⟩ y0).setCell ⟨b + 1, 1, none⟩ y1).setCell ⟨b + 1, 2, none⟩ y2).setCell ⟨b + 1, 3, none⟩ y3).setCell ⟨b + 1, 4, none⟩ y4) :=
  bset (bset (bset (bset (bset (bset h (by omega) y) (Nat.le_succ _) y0) (Nat.le_succ _) y1) (Nat.le_succ _) y2) (Nat.le_succ _) y3) (Nat.le_succ _) y4
theorem keep_at {W w : World} {b i k : Nat} {v : Value} {o : Option Obj} (hW : W = w.setCell ⟨b, i, none⟩ v) (h : w.heap[k]? = o) (hk : k ≠ b) : W.heap[k]? = o := by rw [hW]; exact (set_ne hk _).trans h
end Go.Proofs.YtpnigkjmofhmbabGreat.RCopy
end
section
namespace Go.Proofs.YtpnigkjmofhmbabGreat.FTwin
open Go.RowKit Go.Maps
open Go.Proofs.YtpnigkjmofhmbabGreat.ValueMath (Vl chk small sm enc)
open Go.Proofs.YtpnigkjmofhmbabGreat.Base (mk mk_list mk_size hid_of)
open Go.Proofs.YtpnigkjmofhmbabGreat.Turn
open Go.Proofs.YtpnigkjmofhmbabGreat.Vals
open Go.Proofs.YtpnigkjmofhmbabGreat.Check0 (Wel)
open Go.Proofs.YtpnigkjmofhmbabGreat.Dec (vn_set vn_shape)
open Go.Proofs.YtpnigkjmofhmbabGreat.SBase
open Go.Proofs.YtpnigkjmofhmbabGreat.SFind (alb)
open Go.Proofs.YtpnigkjmofhmbabGreat.SSet (box8)
open Go.Proofs.YtpnigkjmofhmbabGreat.Chunk
open Go.Proofs.YtpnigkjmofhmbabGreat.EMay
open Go.Proofs.YtpnigkjmofhmbabGreat.EAll
open Go.Proofs.YtpnigkjmofhmbabGreat.EDec
open Go.Proofs.YtpnigkjmofhmbabGreat.EDecC
set_option linter.unusedVariables false
set_option linter.unusedSimpArgs false
theorem nf_at {t : TypeId} {B g : Nat} {w : World} {C : Cs} {k : Nat} {f : Ef} (hr : RowC t g C w) (hk : k < C.length) (h : NF B w (C[k]'hk) f) : FAt w g (0 + k * 8) f := by
  obtain ⟨k2, T, a1, n1, c1, a2, n2, c2, a3, n3, c3, e, hv⟩ := h
  have c : ∀ j (hj : j < 8), w.cell? ⟨g, k * 8 + j, none⟩ = (C[k]'hk)[j]? := fun j hj => hr.cell hk hj
  rw [e] at c
  rw [Nat.zero_add]
  exact ⟨a1, n1, c1, a2, n2, c2, a3, n3, c3, k2, T, c 0 (by omega), c 1 (by omega), c 2 (by omega), c 3 (by omega), c 4 (by omega), c 5 (by omega), c 6 (by omega), c 7 (by omega), hv.va⟩
theorem dl_cell {B g n cap : Nat} {C : Cs} {w : World} {l : List Ef} (h : DLa B C w (.slice (some ⟨g, 0, none⟩) n cap) l) {k j : Nat} (hk : k < C.length) (hj : j < 8) : w.cell? ⟨g, k * 8 + j, none⟩ = (C[k]'hk)[j]? := by
  rw [← fl_get h.e8 k j hk hj]
  have hl : k * 8 + j < C.flatten.length := by rw [fl_len h.e8]; omega
  have := h.row.cells (g := g) rfl (k * 8 + j) (C.flatten[k * 8 + j]'hl) (List.getElem?_eq_getElem hl)
  rw [List.getElem?_eq_getElem hl]
  have e : (⟨g, 0, none⟩ : Addr).add (k * 8 + j) = ⟨g, k * 8 + j, none⟩ := by rw [Base.add_off, Nat.zero_add]
  rw [← e]
  exact this
theorem dl_fsl {B : Nat} {C : Cs} {w : World} {v : Value} {l : List Ef} (h : DLa B C w v l) : FSl w v l := by
  have h' := h
  rcases h.row.2 with ⟨rfl, h0⟩ | ⟨g, cap, cur, rfl, hb, hg, q1, q2, q3, q4⟩
  · have : l = [] := List.length_eq_zero_iff.1 h0
    subst this
    exact ⟨none, 0, rfl, Nat.le_refl _, .inl rfl⟩
  · refine ⟨_, cap, rfl, q1, .inr ⟨g, 0, rfl, fun k hk => ?_⟩⟩
    have hkc : k < C.length := by rw [h.len]; exact hk
    obtain ⟨k2, T, a1, n1, c1, a2, n2, c2, a3, n3, c3, e, hv⟩ := h.all k hkc hk
    have c : ∀ j (hj : j < 8), w.cell? ⟨g, k * 8 + j, none⟩ = (C[k]'hkc)[j]? := fun j hj => dl_cell h' hkc hj
    rw [e] at c
    rw [Nat.zero_add]
    exact ⟨a1, n1, c1, a2, n2, c2, a3, n3, c3, k2, T, c 0 (by omega), c 1 (by omega), c 2 (by omega), c 3 (by omega), c 4 (by omega), c 5 (by omega), c 6 (by omega), c 7 (by omega), hv.va⟩
end Go.Proofs.YtpnigkjmofhmbabGreat.FTwin
end
