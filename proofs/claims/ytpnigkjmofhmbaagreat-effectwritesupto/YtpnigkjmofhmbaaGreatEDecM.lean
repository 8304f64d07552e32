/- Decode of effects. Decode of effects, walked. The document's copy of a value. -/
import Derived.Test.YtpnigkjmofhmbaaGreatHao
import Derived.Test.YtpnigkjmofhmbaaGreatEEff
import Derived.Test.YtpnigkjmofhmbaaGreatCopyM
section
namespace Go.Proofs.YtpnigkjmofhmbaaGreat.EDec
open Go.RowKit Go.Maps
open Go.Proofs.YtpnigkjmofhmbaaGreat.BytesMath
open Go.Proofs.YtpnigkjmofhmbaaGreat.ValueMath (Vl chk small sm enc decS)
open Go.Proofs.YtpnigkjmofhmbaaGreat.ReadMath
open Go.Proofs.YtpnigkjmofhmbaaGreat.Base
open Go.Proofs.YtpnigkjmofhmbaaGreat.Vals
open Go.Proofs.YtpnigkjmofhmbaaGreat.Check0 (Wel)
open Go.Proofs.YtpnigkjmofhmbaaGreat.Dec (zV decV vn_set vn_shape vz)
open Go.Proofs.YtpnigkjmofhmbaaGreat.Rdr (At fr_go fr_b)
open Go.Proofs.YtpnigkjmofhmbaaGreat.SBase (Ef vV Bs)
open Go.Proofs.YtpnigkjmofhmbaaGreat.SFind (alb)
open Go.Proofs.YtpnigkjmofhmbaaGreat.SSet (box8)
open Go.Proofs.YtpnigkjmofhmbaaGreat.Chunk
open Go.Proofs.YtpnigkjmofhmbaaGreat.EMay
open Go.Proofs.YtpnigkjmofhmbaaGreat.EAll
open Go.Proofs.YtpnigkjmofhmbaaGreat.ERd
open Go.Proofs.YtpnigkjmofhmbaaGreat.EEff
set_option linter.unusedVariables false
set_option linter.unusedSimpArgs false
theorem ef_lt {s : Bs} (h : s ≠ []) (hf : (efS (s, false)).2.2 = false) : (efS (s, false)).2.1.length < s.length := by
  have h0 : (nbS 1 (s, false)).2 = (s.drop 1, false) := by
    unfold nbS
    rw [tk_ok (by cases s with | nil => exact absurd rfl h | cons a r => simp)]
  have h1 : (r1 (s, false)).2.1.length ≤ (s.drop 1).length := by
    unfold r1
    split
    · rw [h0]; exact (ky_le (s.drop 1, false)).1
    · rw [h0]; exact Nat.le_refl _
  have h2 : (r2 (s, false)).2.1.length ≤ (s.drop 1).length := by
    unfold r2
    split
    · exact Nat.le_trans (nb_le 8 _) h1
    · exact h1
  have h3 : (r3 (s, false)).2.1.length ≤ (s.drop 1).length := by
    unfold r3
    split
    · exact Nat.le_trans (vl_le _) h2
    · exact h2
  have h4 : (s.drop 1).length < s.length := by
    cases s with
    | nil => exact absurd rfl h
    | cons a r => simp
  exact Nat.lt_of_le_of_lt h3 h4
def dcL (s : Bs) : Option (List Ef) :=
  if h : s = [] then some [] else if h2 : ((efS (s, false)).2.2 || !mayE (efS (s, false)).1) = true then none else (dcL (efS (s, false)).2.1).map ((efS (s, false)).1 :: ·)
termination_by s.length
decreasing_by exact ef_lt h (by
  simp only [Bool.or_eq_true, not_or] at h2
  simpa using h2.1)
def dcR (s : Bs) : List Ef := (dcL s).getD []
def dcN (s : Bs) : Int := if (dcL s).isSome then 0 else 160
theorem dc_nil : dcL [] = some [] := by rw [dcL]; simp
theorem dc_no {s : Bs} (h : s ≠ []) (h2 : ((efS (s, false)).2.2 || !mayE (efS (s, false)).1) = true) : dcL s = none := by rw [dcL, dif_neg h, dif_pos h2]
theorem dc_yes {s : Bs} (h : s ≠ []) (h2 : ((efS (s, false)).2.2 || !mayE (efS (s, false)).1) = false) : dcL s = (dcL (efS (s, false)).2.1).map ((efS (s, false)).1 :: ·) := by
  rw [dcL, dif_neg h, dif_neg (by rw [h2]; simp)]
/- effects in new memory -/
def NF (B : Nat) (w : World) (cs : List Value) (f : Ef) : Prop := ∃ k2 T a1 n1 c1 a2 n2 c2 a3 n3 c3, cs = [.int .i64 f.kind, .string (mk f.key), .int .i64 k2, .string T, .slice a1 n1 c1, .slice a2 n2 c2, .slice a3 n3 c3, .int .i64 f.due] ∧ VN B w (.agg #[.int .i64 k2, .string T, .slice a1 n1 c1, .slice a2 n2 c2, .slice a3 n3 c3]) f.val
structure DLa (B : Nat) (C : Cs) (w : World) (v : Value) (l : List Ef) : Prop where
  e8 : E8 C
  len : C.length = l.length
  row : w.ownsRow B 78 8 v l.length C.flatten
  all : ∀ i (h : i < C.length) (h' : i < l.length), NF B w (C[i]'h) (l[i]'h')
def DL (B : Nat) (w : World) (v : Value) (l : List Ef) : Prop := ∃ C, DLa B C w v l
theorem vn_keep {B : Nat} {w w' : World} {v : Value} {x : Vl} (h : VN B w v x) (hk : ∀ k cs t fz, w.heap[k]? = some (.cells cs t fz) → B ≤ k → t ≠ 78 → w'.heap[k]? = w.heap[k]?) : VN B w' v x := by
  obtain ⟨a, b, c, rfl, h1, h2, h3⟩ := h
  refine ⟨a, b, c, rfl, ?_, FRow.row_later h2 fun g cs t fz hg hh ht => hk g cs t fz hh (Push.row_kd h2 hg).2.2 (by rw [ht]; decide), FRow.row_later h3 fun g cs t fz hg hh ht => hk g cs t fz hh (Push.row_kd h3 hg).2.2 (by rw [ht]; decide)⟩
  rcases h1 with h1 | ⟨g, c, cur, rfl, hB, hr, r⟩
  · exact .inl h1
  · exact .inr ⟨g, c, cur, rfl, hB, (hk g _ _ _ hr hB (by decide)).trans hr, r⟩
theorem NF.keep {B : Nat} {w w' : World} {cs : List Value} {f : Ef} (h : NF B w cs f) (hk : ∀ k cs t fz, w.heap[k]? = some (.cells cs t fz) → B ≤ k → t ≠ 78 → w'.heap[k]? = w.heap[k]?) : NF B w' cs f := by
  obtain ⟨k2, T, a1, n1, c1, a2, n2, c2, a3, n3, c3, e, hv⟩ := h
  exact ⟨k2, T, a1, n1, c1, a2, n2, c2, a3, n3, c3, e, vn_keep hv hk⟩
theorem DLa.keep {B : Nat} {C : Cs} {w w' : World} {v : Value} {l : List Ef} (h : DLa B C w v l) (hk : ∀ k, k < w.heap.size → B ≤ k → w'.heap[k]? = w.heap[k]?) : DLa B C w' v l :=
  ⟨h.e8, h.len, FRow.row_later h.row fun g cs t fz hg hh _ => hk g (lt_of hh) (Push.row_kd h.row hg).2.2, fun i h1 h2 => (h.all i h1 h2).keep fun k cs t fz hh hB _ => hk k (lt_of hh) hB⟩
theorem DLa.fr {B R : Nat} {C : Cs} {w w' : World} {v : Value} {l : List Ef} (h : DLa B C w v l) (f : Fr (At R) w w') (hR : R < B) : DLa B C w' v l := h.keep fun k hk hB => f.block k hk (fun e => by have e : k = R := e; omega)
theorem DLa.below {B : Nat} {C : Cs} {w w' : World} {v : Value} {l : List Ef} (h : DLa B C w v l) (b : Below w.heap.size w w') : DLa B C w' v l := h.keep fun k hk _ => b.block k hk
theorem dl_nil (B : Nat) (w : World) : DLa B [] w (.slice none 0 0) [] := ⟨(fun c hc => by cases hc), rfl, World.ownsRow_nil _ _ _ _, fun i h => by simp at h⟩
theorem NF.mono {B B' : Nat} {w : World} {cs : List Value} {f : Ef} (h : NF B w cs f) (hB : B' ≤ B) : NF B' w cs f := by
  obtain ⟨k2, T, a1, n1, c1, a2, n2, c2, a3, n3, c3, e, hv⟩ := h
  exact ⟨k2, T, a1, n1, c1, a2, n2, c2, a3, n3, c3, e, hv.mono hB⟩
theorem DLa.mono {B B' : Nat} {C : Cs} {w : World} {v : Value} {l : List Ef} (h : DLa B C w v l) (hB : B' ≤ B) : DLa B' C w v l := ⟨h.e8, h.len, FRow.row_mono h.row hB, fun i h1 h2 => (h.all i h1 h2).mono hB⟩
theorem infoF : (Tryz.prog.info? 78).map (fun i => (i.zero, i.size, i.bytes)) = some (some (.agg #[.int .i64 0, .string ⟨#[]⟩, .int .i64 0, .string ⟨#[]⟩, .slice none 0 0, .slice none 0 0, .slice none 0 0, .int .i64 0]), 8, 128) := by kernel_rfl
theorem news8 (w : World) (x0 x1 x2 x3 x4 x5 x6 x7 : Value) (t : TypeId) : ∀ (j : Nat) u, [x0, x1, x2, x3, x4, x5, x6, x7][j]? = some u → (w.alloc (.cells #[x0, x1, x2, x3, x4, x5, x6, x7] t)).cell? ((⟨w.heap.size, 0, none⟩ : Addr).add j) = some u := fun j u hj => by
  have e : (⟨w.heap.size, 0, none⟩ : Addr).add j = ⟨w.heap.size, j, none⟩ := by unfold Addr.add; by_cases h0 : j = 0 <;> simp [h0]
  rw [e, Lib.cell_of_heap (heap_alloc_new w _), ← hj]
  simp
/-- one effect more -/
theorem dl_app {B : Nat} {C : Cs} {w w' : World} {v v' : Value} {l : List Ef} {f : Ef} {cs : List Value} (h : DLa B C w v l) (hn : NF B w cs f) (hrow : w'.ownsRow B 78 8 v' (l.length + 1) (C.flatten ++ cs)) (hg : w.grownBy w' v.ownBlock) (h8 : cs.length = 8) : DLa B (C ++ [cs]) w' v' (l ++ [f]) := by
  have hk : ∀ k c t fz, w.heap[k]? = some (.cells c t fz) → B ≤ k → t ≠ 78 → w'.heap[k]? = w.heap[k]? := fun k c t fz hh _ ht => hg.block k (lt_of hh) (fun q => by
    obtain ⟨c', fz', e⟩ := Builder.owns_kind h.row k q.symm
    rw [e] at hh
    cases hh
    exact ht rfl)
  refine ⟨fun c hc => ?_, by simp [h.len], ?_, fun i h1 h2 => ?_⟩
  · rcases List.mem_append.1 hc with q | q
    · exact h.e8 c q
    · rw [List.mem_singleton.1 q]; exact h8
  · rw [List.length_append, List.flatten_append]
    simpa using hrow
  · by_cases q : i < C.length
    · have q' : i < l.length := by rw [← h.len]; exact q
      rw [List.getElem_append_left q, List.getElem_append_left q']
      exact (h.all i q q').keep hk
    · have q' : ¬ i < l.length := by rw [← h.len]; exact q
      rw [List.getElem_append_right (by omega), List.getElem_append_right (by omega)]
      simp only [List.getElem_singleton]
      exact hn.keep hk
theorem welz : Wel zV := Dec.wel_of ⟨by simp [zV], by simp [zV], by simp [zV]⟩ ⟨by simp [zV], by simp [zV], by simp [zV], by simp [zV]⟩
/-- each effect that is read is well -/
theorem ef_wel (s : RS) : Wel (efS s).1.val := by
  show Wel (r3 s).1
  unfold r3
  split
  · show Wel (vlS (r2 s).2).1
    unfold vlS decV
    cases h : decS (r2 s).2.1 with
    | none => exact welz
    | some q =>
      obtain ⟨x, m⟩ := q
      show Wel x
      unfold decS at h
      cases h2 : ValueMath.valS (r2 s).2.1 with
      | none => rw [h2] at h; cases h
      | some p =>
        rw [h2] at h
        simp only [Option.bind_some] at h
        split at h
        · cases h
          exact Dec.val_wel (r := p.2) h2
        · cases h
  · exact welz
end Go.Proofs.YtpnigkjmofhmbaaGreat.EDec
end
section
namespace Go.Proofs.YtpnigkjmofhmbaaGreat.EDecC
open Go.RowKit Go.Maps
open Go.Proofs.YtpnigkjmofhmbaaGreat.ValueMath (Vl chk small sm enc decS)
open Go.Proofs.YtpnigkjmofhmbaaGreat.ReadMath
open Go.Proofs.YtpnigkjmofhmbaaGreat.Base
open Go.Proofs.YtpnigkjmofhmbaaGreat.Vals
open Go.Proofs.YtpnigkjmofhmbaaGreat.Check0 (Wel)
open Go.Proofs.YtpnigkjmofhmbaaGreat.Rdr (At fr_go fr_b)
open Go.Proofs.YtpnigkjmofhmbaaGreat.SBase (Ef vV Bs)
open Go.Proofs.YtpnigkjmofhmbaaGreat.SFind (alb)
open Go.Proofs.YtpnigkjmofhmbaaGreat.SSet (box8)
open Go.Proofs.YtpnigkjmofhmbaaGreat.Chunk
open Go.Proofs.YtpnigkjmofhmbaaGreat.EMay
open Go.Proofs.YtpnigkjmofhmbaaGreat.EAll
open Go.Proofs.YtpnigkjmofhmbaaGreat.ERd
open Go.Proofs.YtpnigkjmofhmbaaGreat.EEff
open Go.Proofs.YtpnigkjmofhmbaaGreat.EDec
set_option linter.unusedVariables false
set_option linter.unusedSimpArgs false
def DcE (s : Bs) (w : World) (e : Ending) (w' : World) : Prop := ∃ v, e = .returned (.tuple #[v, .int .i64 (dcN s)]) ∧ DL w.heap.size w' v (dcR s) ∧ Below w.heap.size w w'
theorem dcN_none {s : Bs} (h : dcL s = none) : dcN s = 160 ∧ dcR s = [] := by unfold dcN dcR; rw [h]; exact ⟨rfl, rfl⟩
theorem dcN_some {s : Bs} {l : List Ef} (h : dcL s = some l) : dcN s = 0 ∧ dcR s = l := by unfold dcN dcR; rw [h]; exact ⟨rfl, rfl⟩
theorem dl_shape {B : Nat} {C : Cs} {w : World} {v : Value} {l : List Ef} (h : DLa B C w v l) : ∃ a c, v = .slice a l.length c := by
  rcases h.row.2 with ⟨rfl, h0⟩ | ⟨g, cap, cur, rfl, _⟩
  · exact ⟨none, 0, by rw [h0]⟩
  · exact ⟨_, _, rfl⟩
theorem fr_bel {R : Nat} {w w' : World} (f : Fr (At R) w w') {B : Nat} (hB : B ≤ R) (hw : B ≤ w.heap.size) : Below B w w' := f.below hw fun k e => by have e : k = R := e; omega
set_option maxHeartbeats 4000000 in
set_option maxRecDepth 100000 in
theorem decode_call (s : Bs) (w : World) (hl : s.length < 549755813888) : Calls Tryz.prog 89 #[.string (mk s)] w (DcE s w) := by
  obtain ⟨i0, hi, hz0, hz1, hz2⟩ := FRow.parts_of infoF
  obtain ⟨W0, hW0⟩ : ∃ W0, W0 = w.alloc (.cells #[.string (mk s), .bool false] 172) := ⟨_, rfl⟩
  have HR0 := hid_of (show RDe w.heap.size (s, false) W0 by rw [hW0]; exact heap_alloc_new w _)
  have HB0 := hid_of (show Below w.heap.size w W0 by rw [hW0]; exact alb _ _)
  have HW0 := hid_of hW0
  clear hW0
  go_enter Tryz.func89, Tryz.ntmps89
  go_wp2_with fail
  rw [← HW0.out]
  obtain ⟨R, hR⟩ : ∃ R, R = w.heap.size := ⟨_, rfl⟩
  have HRR := hid_of hR
  rw [← hR] at HR0 HB0
  rw [← hR]
  clear hR
  go_loopg [4] (s.length + 1) (fun g v wx => ∃ (r : Bs) (l : List Ef) (C : Cs), r.length < g ∧ r.length + l.length ≤ s.length ∧ Hid (RDe R (r, false) wx) ∧ Hid (Below R w wx) ∧ Hid (DLa (R + 1) C wx v l) ∧ Hid (dcL s = (dcL r).map (l ++ ·)))
  case atStart => exact ⟨s, [], [], by omega, by simp, HR0, HB0, hid_of (dl_nil _ _), hid_of (by cases dcL s <;> simp)⟩
  case round =>
    obtain ⟨r, l, C, hrg, hrl, HRD, HN, HDL, HDC⟩ := hrel
    obtain ⟨a, c, rfl⟩ := dl_shape HDL.out
    obtain ⟨g', rfl⟩ : ∃ g', gk = g' + 1 := ⟨gk - 1, by omega⟩
    have hRw : w.heap.size = R := HRR.out.symm
    have hRl := lt_of HRD.out
    have c0 : wr.cell? ⟨R, 0, none⟩ = some (.string (mk r)) := Lib.cell_of_heap HRD.out 0
    have hsz := mk_size r
    by_cases hne : r = []
    · have h0 : (mk r).size = 0 := by rw [hsz, hne]; rfl
      have HF : Hid (dcL s = some l) := hid_of (by have q := HDC.out; rw [hne, dc_nil] at q; simpa using q)
      have hn : ¬ (0 : Int) < ((mk r).size : Int) := by rw [h0]; omega
      clear h0 hsz
      generalize mk r = X at *
      go_wp2_with fail
      go_ret2
      refine ⟨_, by rw [(dcN_some HF.out).1]; rfl, ?_, by rw [hRw]; exact HN.out⟩
      rw [(dcN_some HF.out).2, hRw]
      exact ⟨C, HDL.out.mono (by omega)⟩
    · have hp : 0 < r.length := List.length_pos_iff.2 hne
      have hn : (0 : Int) < ((mk r).size : Int) := by rw [hsz]; omega
      have HE := hid_of (effect_call R (r, false) wr HRD.out (show r.length ≤ 140737488355328 by omega))
      have HLT : Hid ((efS (r, false)).2.2 = false → (efS (r, false)).2.1.length < r.length) := hid_of (ef_lt hne)
      have HNO : Hid (((efS (r, false)).2.2 || !mayE (efS (r, false)).1) = true → dcL s = none) := hid_of fun q => by
        have := HDC.out
        rw [dc_no hne q] at this
        simpa using this
      have HYE : Hid (((efS (r, false)).2.2 || !mayE (efS (r, false)).1) = false → dcL s = (dcL (efS (r, false)).2.1).map ((l ++ [(efS (r, false)).1]) ++ ·)) := hid_of fun q => by
        have := HDC.out
        rw [dc_yes hne q] at this
        rw [this, Option.map_map]
        congr 1
        funext x
        simp
      have HWl := hid_of (ef_wel (r, false))
      unfold EfE at HE
      clear hsz
      generalize mk r = X at *
      generalize efS (r, false) = q at *
      obtain ⟨f, r', bad⟩ := q
      simp only at HE HLT HNO HYE HWl
      go_wp2_with fail
      refine HE.out.mono ?_
      rintro e w1 ⟨k2, T, a1, n1, c1, a2, n2, c2, a3, n3, c3, rfl, hv, hd, hf⟩
      have HD1 := hid_of hd
      have HF1 := hid_of hf
      have sz1 : R < w1.heap.size := Nat.lt_of_lt_of_le hRl hf.size
      have HL1 := hid_of (HDL.out.fr hf (Nat.lt_succ_self R))
      have HN1 := hid_of (HN.out.trans (fr_bel hf (Nat.le_refl R) (Nat.le_of_lt hRl)))
      obtain ⟨V, hV⟩ : ∃ V, V = w1.alloc (fO f.kind k2 f.due (mk f.key) T (.slice a1 n1 c1) (.slice a2 n2 c2) (.slice a3 n3 c3)) := ⟨_, rfl⟩
      have bV : Below w1.heap.size w1 V := by rw [hV]; exact alb _ _
      have HXV := hid_of (show V.heap[w1.heap.size]? = some (fO f.kind k2 f.due (mk f.key) T (.slice a1 n1 c1) (.slice a2 n2 c2) (.slice a3 n3 c3)) by rw [hV]; exact heap_alloc_new w1 _)
      have HVV := hid_of hV
      have HBV := hid_of bV
      have HVN := hid_of (hv.mono (show R + 1 ≤ wr.heap.size from hRl))
      have cb : w1.cell? ⟨R, 1, none⟩ = some (.bool bad) := Lib.cell_of_heap hd 1
      have HM := hid_of (may_call (f := f) ((HVN.out.below bV).va) HWl.out)
      clear hv hd hf HE hV bV c0
      cases bad
      · generalize hmy : mayE f = my at *
        generalize hK : mk f.key = K at *
        generalize hkd : f.kind = kd at *
        generalize hdu : f.due = d at *
        have HEQ := hid_of (show mk f.key = K ∧ f.kind = kd ∧ f.due = d from ⟨hK, hkd, hdu⟩)
        clear hmy hK hkd hdu
        go_wp2_with fail
        rw [← HVV.out]
        refine HM.out.mono ?_
        rintro e w2 ⟨rfl, hb2⟩
        have HB2 := hid_of (show Below w1.heap.size w1 w2 from HBV.out.trans (hb2.mono HBV.out.size))
        have x2 := (hb2.block _ (lt_of HXV.out)).trans HXV.out
        obtain ⟨⟨y0, y1, y2, y3, y4, y5, y6, y7⟩, -⟩ := box8 x2
        clear hb2 HM cb x2
        cases my
        · have HNN := hid_of (HNO.out (by simp))
          go_wp2_with fail
          go_ret2
          refine ⟨_, by rw [(dcN_none HNN.out).1]; rfl, ?_, ?_⟩
          · rw [(dcN_none HNN.out).2]
            exact ⟨[], dl_nil _ _⟩
          · rw [hRw]
            exact HN1.out.trans (HB2.out.mono (Nat.le_of_lt sz1))
        · have HYY := hid_of (HYE.out (by simp))
          have hlt := HLT.out (by first | rfl | trivial)
          have HR2 := hid_of (HD1.out.fr HB2.out)
          have HL2 := hid_of (HL1.out.below HB2.out)
          have HV2 := hid_of (HVN.out.below HB2.out)
          have HN2 := hid_of (HN1.out.trans (HB2.out.mono (Nat.le_of_lt sz1)))
          have sz2 : R < w2.heap.size := Nat.lt_of_lt_of_le sz1 HB2.out.size
          have hrow := HL2.out.row.alloc (.cells #[.int .i64 kd, .string K, .int .i64 k2, .string T, .slice a1 n1 c1, .slice a2 n2 c2, .slice a3 n3 c3, .int .i64 d] 78)
          have hb96 : (l.length + 1) * 128 ≤ 140737488355328 := by omega
          go_wp2_with (first
            | (at_builtin; refine wpList_append_own _ rfl _ _ 48 rfl (R + 1) 78 i0 (.agg #[.int .i64 0, .string ⟨#[]⟩, .int .i64 0, .string ⟨#[]⟩, .slice none 0 0, .slice none 0 0, .slice none 0 0, .int .i64 0]) 8 128 Tryz.underlying48 hi hz0 hz1 hz2 rfl (by decide) _ _ _ rfl hrow ⟨w2.heap.size, 0, none⟩ 1 1 [.int .i64 kd, .string K, .int .i64 k2, .string T, .slice a1 n1 c1, .slice a2 n2 c2, .slice a3 n3 c3, .int .i64 d] rfl rfl (news8 _ _ _ _ _ _ _ _ _ _) (by simp [Value.oneCell']) (by unfold maxLen; omega) (by omega) (by simp; omega) ?_; intro v' w4 hown' hg4 hnil4; go_frame)
            | go_in)
          have nf : NF (R + 1) (w2.alloc (.cells #[.int .i64 kd, .string K, .int .i64 k2, .string T, .slice a1 n1 c1, .slice a2 n2 c2, .slice a3 n3 c3, .int .i64 d] 78)) [.int .i64 kd, .string K, .int .i64 k2, .string T, .slice a1 n1 c1, .slice a2 n2 c2, .slice a3 n3 c3, .int .i64 d] f := ⟨k2, T, a1, n1, c1, a2, n2, c2, a3, n3, c3, by rw [HEQ.out.1, HEQ.out.2.1, HEQ.out.2.2], HV2.out.below (alb _ _)⟩
          have HL4 := hid_of (dl_app (HL2.out.below (alb _ _)) nf hown' hg4 rfl)
          have HR4 := hid_of (show RDe R (r', false) w4 from (hg4.block R (by simp; omega) (fun q => by
            have := (Push.row_kd hrow q.symm).2.2
            omega)).trans (HR2.out.fr (alb _ _)))
          have HN4 := hid_of (show Below R w w4 from (HN2.out.trans ((alb w2 _).mono (Nat.le_of_lt sz2))).grown hg4 (by simp; omega) (fun j hj => by
            have := (Push.row_kd hrow hj).2.2
            omega))
          clear nf hown' hg4 hnil4 hrow
          go_roundg g'
          case measure => omega
          case rel => exact ⟨r', l ++ [f], C ++ [[.int .i64 kd, .string K, .int .i64 k2, .string T, .slice a1 n1 c1, .slice a2 n2 c2, .slice a3 n3 c3, .int .i64 d]], by omega, by simp; omega, HR4, HN4, HL4, HYY⟩
      · have HNN := hid_of (HNO.out (by simp))
        go_wp2_with fail
        rw [← HVV.out]
        go_ret2
        refine ⟨_, by rw [(dcN_none HNN.out).1]; rfl, ?_, ?_⟩
        · rw [(dcN_none HNN.out).2]
          exact ⟨[], dl_nil _ _⟩
        · rw [hRw]
          exact HN1.out.trans (HBV.out.mono (Nat.le_of_lt sz1))
end Go.Proofs.YtpnigkjmofhmbaaGreat.EDecC
end
section
namespace Go.Proofs.YtpnigkjmofhmbaaGreat.RCopy
open Go.RowKit Go.Maps
open Go.Proofs.YtpnigkjmofhmbaaGreat.SetMath
open Go.Proofs.YtpnigkjmofhmbaaGreat.ValueMath
open Go.Proofs.YtpnigkjmofhmbaaGreat.Base
open Go.Proofs.YtpnigkjmofhmbaaGreat.Vals
open Go.Proofs.YtpnigkjmofhmbaaGreat.Copy (nr_set row_set set5)
set_option linter.unusedVariables false
set_option linter.unusedSimpArgs false

abbrev zB : Obj := .cells #[.int .i64 0, .string ⟨#[]⟩, .slice none 0 0, .slice none 0 0, .slice none 0 0] 27
theorem fin_nr {w : World} {B b : Nat} {v : Value} {l : List El} (h : NR B w v l) (hb : b + 3 ≤ B) {y y0 y1 y2 y3 y4 : Value} :
    NR b ((((((w.setCell ⟨b + 1 + 1, 4, none⟩ y).setCell ⟨b + 1, 0, none⟩ y0).setCell ⟨b + 1, 1, none⟩ y1).setCell ⟨b + 1, 2, none⟩ y2).setCell ⟨b + 1, 3, none⟩ y3).setCell ⟨b + 1, 4, none⟩ y4) v l :=
  (nr_set (nr_set (nr_set (nr_set (nr_set (nr_set h (by omega) y) (by omega) y0) (by omega) y1) (by omega) y2) (by omega) y3) (by omega) y4).mono (by omega)
theorem fin_row {w : World} {B b e sz n : Nat} {v : Value} {xs : List Value} (h : w.ownsRow B e sz v n xs) (hb : b + 3 ≤ B) {y y0 y1 y2 y3 y4 : Value} :
    ((((((w.setCell ⟨b + 1 + 1, 4, none⟩ y).setCell ⟨b + 1, 0, none⟩ y0).setCell ⟨b + 1, 1, none⟩ y1).setCell ⟨b + 1, 2, none⟩ y2).setCell ⟨b + 1, 3, none⟩ y3).setCell ⟨b + 1, 4, none⟩ y4).ownsRow b e sz v n xs :=
  FRow.row_mono (row_set (row_set (row_set (row_set (row_set (row_set h (by omega) y) (by omega) y0) (by omega) y1) (by omega) y2) (by omega) y3) (by omega) y4) (by omega)
theorem fin_b {w w' : World} {b : Nat} (h : Below b w w') {y y0 y1 y2 y3 y4 : Value} :
    Below b w ((((((w'.setCell ⟨b + 1 + 1, 4, none⟩ y).setCell ⟨b + 1, 0, none⟩ y0).setCell ⟨b + 1, 1, none⟩ y1).setCell ⟨b + 1, 2, none⟩ y2).setCell ⟨b + 1, 3, none⟩ y3).setCell ⟨b + 1, 4, none⟩ y4) :=
  bset (bset (bset (bset (bset (bset h (by omega) y) (Nat.le_succ _) y0) (Nat.le_succ _) y1) (Nat.le_succ _) y2) (Nat.le_succ _) y3) (Nat.le_succ _) y4
theorem keep_at {W w : World} {b i k : Nat} {v : Value} {o : Option Obj} (hW : W = w.setCell ⟨b, i, none⟩ v) (h : w.heap[k]? = o) (hk : k ≠ b) : W.heap[k]? = o := by rw [hW]; exact (set_ne hk _).trans h
set_option maxHeartbeats 4000000 in
set_option maxRecDepth 100000 in
theorem rcopy_call {w : World} {v : Value} {x : Vl} (h : VA w v x) (hf : Fit x) :
    Calls Tryz.prog 38 #[v] w fun e w' => ∃ u, e = .returned u ∧ VN w.heap.size w' u x ∧ Below w.heap.size w w' := by
  obtain ⟨a, b, c, rfl, h1, h2, h3⟩ := h
  obtain ⟨f1, f2, f3⟩ := hf
  obtain ⟨xk, xt, xl, xf, xr⟩ := x
  simp only at h1 h2 h3 f1 f2 f3 ⊢
  obtain ⟨la, lc, rfl, _, hr1⟩ := id h1
  obtain ⟨fa, fc, rfl, _, _⟩ := id h2
  obtain ⟨ea, ec, rfl, _, _⟩ := id h3
  obtain ⟨V, hV⟩ : ∃ V, V = ((w.alloc (.cells #[.int .i64 xk, .string (mk xt), .slice la xl.length lc, .slice fa xf.length fc, .slice ea xr.length ec] 27)).alloc zB).alloc (.cells #[.int .i64 xk, .string (mk xt), .slice la xl.length lc, .slice fa xf.length fc, .slice ea xr.length ec] 27) := ⟨_, rfl⟩
  have bV : Below w.heap.size w V := by rw [hV]; exact FRow.bel (FRow.bel (FRow.bnew w _) (FRow.bnew _ _) (Nat.le_refl _)) (FRow.bnew _ _) (Nat.le_refl _)
  have sV : V.heap.size = w.heap.size + 3 := by rw [hV]; simp
  have v0 : V.heap[w.heap.size]? = some (.cells #[.int .i64 xk, .string (mk xt), .slice la xl.length lc, .slice fa xf.length fc, .slice ea xr.length ec] 27 (0, 0)) := by rw [hV, hao _ _ _ (by simp; omega), hao _ _ _ (by simp)]; exact heap_alloc_new w _
  have v1 : V.heap[w.heap.size + 1]? = some (.cells #[.int .i64 0, .string ⟨#[]⟩, .slice none 0 0, .slice none 0 0, .slice none 0 0] 27 (0, 0)) := by
    rw [hV, hao _ _ _ (by simp)]
    have := heap_alloc_new (w.alloc (.cells #[.int .i64 xk, .string (mk xt), .slice la xl.length lc, .slice fa xf.length fc, .slice ea xr.length ec] 27)) zB
    simpa using this
  have v2 : V.heap[w.heap.size + 2]? = some (.cells #[.int .i64 xk, .string (mk xt), .slice la xl.length lc, .slice fa xf.length fc, .slice ea xr.length ec] 27 (0, 0)) := by
    rw [hV]
    have := heap_alloc_new ((w.alloc (.cells #[.int .i64 xk, .string (mk xt), .slice la xl.length lc, .slice fa xf.length fc, .slice ea xr.length ec] 27)).alloc zB) (.cells #[.int .i64 xk, .string (mk xt), .slice la xl.length lc, .slice fa xf.length fc, .slice ea xr.length ec] 27)
    simpa using this
  obtain ⟨r1, w1, hr1, n1, b1⟩ := app_any (B := V.heap.size) (v := .slice none 0 0) (l := []) (c := lc) (w := V) (.inl ⟨rfl, rfl⟩) (hr1.keep fun k hk _ => bV.block k hk) (.inl (by simpa using f1)) (Nat.le_refl _) 23
  rw [List.nil_append] at n1
  obtain ⟨w1', hw1'⟩ : ∃ W, W = w1.setCell ⟨w.heap.size + 2, 2, none⟩ r1 := ⟨_, rfl⟩
  have sz1 := b1.size
  have B1 : Below w.heap.size w w1' := by rw [hw1']; exact bset (FRow.bel bV b1 (Nat.le_refl _)) (by omega) r1
  have x0 := (b1.block w.heap.size (by omega)).trans v0
  have x1 := (b1.block (w.heap.size + 1) (by omega)).trans v1
  have x2 := (b1.block (w.heap.size + 2) (by omega)).trans v2
  have y0 := keep_at hw1' x0 (by omega)
  have y1 := keep_at hw1' x1 (by omega)
  have y2 : w1'.heap[w.heap.size + 2]? = some (.cells #[.int .i64 xk, .string (mk xt), r1, .slice fa xf.length fc, .slice ea xr.length ec] 27 (0, 0)) := by rw [hw1']; exact set_at x2 _
  have m1 : NR V.heap.size w1' r1 xl := by rw [hw1']; exact nr_set n1 (by omega) _
  have szw : w1'.heap.size = w1.heap.size := by rw [hw1', size_set]
  obtain ⟨r2, w2, hr2, d2⟩ := FRow.bd_app (FRow.bd_start w1') (.slice fa xf.length fc) xf (h2.below B1) (by simpa using f2)
  rw [List.nil_append] at d2
  obtain ⟨w2', hw2'⟩ : ∃ W, W = w2.setCell ⟨w.heap.size + 2, 3, none⟩ r2 := ⟨_, rfl⟩
  have sz2 := d2.bel.size
  have B2 : Below w.heap.size w w2' := by rw [hw2']; exact bset (FRow.bel B1 d2.bel (Nat.le_refl _)) (by omega) r2
  have p0 := (d2.bel.block w.heap.size (by omega)).trans y0
  have p1 := (d2.bel.block (w.heap.size + 1) (by omega)).trans y1
  have p2 := (d2.bel.block (w.heap.size + 2) (by omega)).trans y2
  have q0 := keep_at hw2' p0 (by omega)
  have q1 := keep_at hw2' p1 (by omega)
  have q2 : w2'.heap[w.heap.size + 2]? = some (.cells #[.int .i64 xk, .string (mk xt), r1, r2, .slice ea xr.length ec] 27 (0, 0)) := by rw [hw2']; exact set_at p2 _
  have m2 : NR V.heap.size w2' r1 xl := by rw [hw2']; exact nr_set (m1.below d2.bel) (by omega) _
  have m3 : FRow.OR w1'.heap.size w2' r2 xf := by rw [hw2']; exact row_set d2.row (by omega) _
  have szx : w2'.heap.size = w2.heap.size := by rw [hw2', size_set]
  obtain ⟨r3, w3, hr3, d3⟩ := ERow.bd_app (ERow.bd_start w2') (.slice ea xr.length ec) xr (h3.below B2) (by simpa using f3)
  rw [List.nil_append] at d3
  have sz3 := d3.bel.size
  have B3 := FRow.bel B2 d3.bel (Nat.le_refl _)
  have k0 := (d3.bel.block w.heap.size (by omega)).trans q0
  have k1 := (d3.bel.block (w.heap.size + 1) (by omega)).trans q1
  have k2 := (d3.bel.block (w.heap.size + 2) (by omega)).trans q2
  have o1 := m2.below d3.bel
  have o2 := FRow.row_below m3 d3.bel
  have o3 := d3.row
  obtain ⟨ra1, rc1, hs1, _⟩ := n1.shape
  obtain ⟨ra2, rc2, hs2⟩ := shapeFRow d2.row
  obtain ⟨ra3, rc3, hs3⟩ := shapeERow d3.row
  subst hs1 hs2 hs3
  have HF := hid_of (And.intro B3 (And.intro k1 (And.intro (And.intro o1 sV) (And.intro (And.intro o2 (show w.heap.size + 3 ≤ w1'.heap.size by omega)) (And.intro o3 (show w.heap.size + 3 ≤ w2'.heap.size by omega))))))
  obtain ⟨⟨a0, a1, a2, a3, a4⟩, _⟩ := box5 v0
  obtain ⟨⟨_, _, _, i3, _⟩, _⟩ := box5 x0
  obtain ⟨_, jz⟩ := box5 x2
  have jz2 := jz 2
  obtain ⟨⟨_, _, _, i3', _⟩, _⟩ := box5 y0
  obtain ⟨_, ez⟩ := box5 p2
  have ez3 := ez 3
  obtain ⟨⟨_, _, _, _, i4⟩, _⟩ := box5 p0
  obtain ⟨⟨l0, l1, l2, l3, l4⟩, lz⟩ := box5 k2
  have lz4 := lz 4
  obtain ⟨⟨u0, u1, u2, u3, u4⟩, uz⟩ := box5 k1
  have uz0 := uz 0
  have uz1 := uz 1
  have uz2 := uz 2
  have uz3 := uz 3
  have uz4 := uz 4
  have HV := hid_of hV
  have HX1 := hid_of hw1'
  have HX2 := hid_of hw2'
  clear h1 h2 h3 v0 v1 v2 x0 x1 x2 y0 y1 y2 p0 p1 p2 q0 q1 q2 k0 k1 k2 bV sV hV hw1' hw2' n1 b1 d2 d3 m1 m2 m3 B1 B2 B3 jz ez lz uz o1 o2 o3 szw szx sz1 sz2 sz3 f1 f2 f3
  go_enter Tryz.func38, Tryz.ntmps38
  go_wp2_with (first
    | (rw [← HV.out]; at_builtin; refine wpl_eq rfl _ _ 23 23 rfl (.slice none 0 0) (.slice la xl.length lc) (.slice ra1 xl.length rc1) V w1 rfl rfl hr1 ?_)
    | (rw [← HX1.out]; at_builtin; refine wpl_eq rfl _ _ 24 24 rfl (.slice none 0 0) (.slice fa xf.length fc) (.slice ra2 xf.length rc2) w1' w2 rfl rfl hr2 ?_)
    | (rw [← HX2.out]; at_builtin; refine wpl_eq rfl _ _ 25 25 rfl (.slice none 0 0) (.slice ea xr.length ec) (.slice ra3 xr.length rc3) w2' w3 rfl rfl hr3 ?_))
  obtain ⟨B3, k1, ⟨o1, e1⟩, ⟨o2, e2⟩, o3, e3⟩ := HF.out
  have t1 := keep_at (W := w3.setCell ⟨w.heap.size + 1 + 1, 4, none⟩ (.slice ra3 xr.length rc3)) rfl k1 (by omega)
  obtain ⟨⟨g0, g1, g2, g3, g4⟩, _⟩ := box5 (set5 t1 (.int .i64 xk) (.string (mk xt)) (.slice ra1 xl.length rc1) (.slice ra2 xf.length rc2) (.slice ra3 xr.length rc3))
  refine ⟨rfl, .agg #[.int .i64 xk, .string (mk xt), .slice ra1 xl.length rc1, .slice ra2 xf.length rc2, .slice ra3 xr.length rc3], ?_, _, rfl, ⟨_, _, _, rfl, fin_nr o1 (by omega), fin_row o2 (by omega), fin_row o3 (by omega)⟩, fin_b B3⟩
  simp [results, Tryz.results38, go_sem, g0, g1, g2, g3, g4]
end Go.Proofs.YtpnigkjmofhmbaaGreat.RCopy
end
