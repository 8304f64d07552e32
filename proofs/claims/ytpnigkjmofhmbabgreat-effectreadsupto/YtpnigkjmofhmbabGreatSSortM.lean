/- sorted: the entries that are wanted, by rising keys; Entries. Entries: what a space holds, in new memory. Same: the program's. -/
import Derived.Test.YtpnigkjmofhmbabGreatSRiseM
import Derived.Test.YtpnigkjmofhmbabGreatSTouchM
import Derived.Test.YtpnigkjmofhmbabGreatEqualM
section
namespace Go.Proofs.YtpnigkjmofhmbabGreat.SSort
open Go.RowKit Go.Maps Go.Sort
open Go.Proofs.YtpnigkjmofhmbabGreat.SpaceMath (wout withL lkp keys Ris toD lkp_at lkp_mem)
open Go.Proofs.YtpnigkjmofhmbabGreat.ValueMath (Vl chk small)
open Go.Proofs.YtpnigkjmofhmbabGreat.Base (mk mk_list mk_size Gr hid_of SL)
open Go.Proofs.YtpnigkjmofhmbabGreat.Turn
open Go.Proofs.YtpnigkjmofhmbabGreat.RowB (Es)
open Go.Proofs.YtpnigkjmofhmbabGreat.Swap (law9)
open Go.Proofs.YtpnigkjmofhmbabGreat.Vals
open Go.Proofs.YtpnigkjmofhmbabGreat.SBase
open Go.Proofs.YtpnigkjmofhmbabGreat.SFind
open Go.Proofs.YtpnigkjmofhmbabGreat.SMath
open Go.Proofs.YtpnigkjmofhmbabGreat.SSet
open Go.Proofs.YtpnigkjmofhmbabGreat.SPut
open Go.Proofs.YtpnigkjmofhmbabGreat.SDrop
open Go.Proofs.YtpnigkjmofhmbabGreat.SRise
open Go.Proofs.YtpnigkjmofhmbabGreat.Chunk
set_option linter.unusedVariables false
set_option linter.unusedSimpArgs false
theorem chunks : ∀ (n : Nat) (xs : List Value), xs.length = n * 8 → ∃ C : Cs, E8 C ∧ C.flatten = xs ∧ C.length = n
  | 0, xs, h => ⟨[], (fun c hc => by cases hc), by rw [List.length_eq_zero_iff.1 (show xs.length = 0 by omega)]; rfl, rfl⟩
  | n + 1, xs, h => by
    obtain ⟨C, h1, h2, h3⟩ := chunks n (xs.drop 8) (by rw [List.length_drop]; omega)
    refine ⟨xs.take 8 :: C, fun c hc => ?_, ?_, by rw [List.length_cons, h3]⟩
    · rcases List.mem_cons.1 hc with rfl | q
      · rw [List.length_take]; omega
      · exact h1 c q
    · rw [List.flatten_cons, h2, List.take_append_drop]
/-- the cells of entries -/
def EntsC (X : Nat → Prop) (w : World) (C : Cs) (l : KL En) : Prop := C.length = l.length ∧ ∀ i (h : i < C.length) (h' : i < l.length), EnAt X w (l[i]'h').1 (.agg (C[i]'h).toArray) (l[i]'h').2
def SorE (X : Nat → Prop) (l : KL En) (w : World) (r : Ending) (w' : World) : Prop := ∃ g C, r = .returned (.slice (some ⟨g, 0, none⟩) C.length C.length) ∧ RowC 81 g C w' ∧ w.heap.size ≤ g ∧ EntsC X w C l ∧ Below w.heap.size w w'
theorem keys_want (l : KL En) (hr : Ris l) (p : En → Bool) : (keys l).filter (wantB l p) = keys (l.filter fun q => p q.2) := by
  unfold keys
  rw [List.filter_map]
  congr 1
  refine List.filter_congr fun q hq => ?_
  show wantB l p q.1 = p q.2
  unfold wantB
  rw [lkp_at hr q hq]
  rfl
theorem info63 : (Tryz.prog.info? 81).map (fun i => (i.zero, i.size, i.bytes)) = some (some zE, 8, 128) := by kernel_rfl
theorem nm_row {B : Nat} {w : World} {v : Value} {ks : List Bs} (h : w.ownsRow B 9 1 v ks.length (ks.map encStr)) : SL Vals.TT w v ks := nr_sl (Base.NR.of_owns h)
theorem fl_set8 : ∀ {C : Cs}, E8 C → ∀ k, k < C.length → ∀ x0 x1 x2 x3 x4 x5 x6 x7 : Value, (((((((((C.flatten.set (k * 8) x0).set (k * 8 + 1) x1).set (k * 8 + 2) x2).set (k * 8 + 3) x3).set (k * 8 + 4) x4).set (k * 8 + 5) x5).set (k * 8 + 6) x6).set (k * 8 + 7) x7) = (C.set k [x0, x1, x2, x3, x4, x5, x6, x7]).flatten)
  | c :: C, h, 0, hk, x0, x1, x2, x3, x4, x5, x6, x7 => by
    have h8 := h.head
    match c, h8 with
    | [y0, y1, y2, y3, y4, y5, y6, y7], _ => rfl
  | c :: C, h, k + 1, hk, x0, x1, x2, x3, x4, x5, x6, x7 => by
    have ih := fl_set8 h.tail k (by simpa using hk) x0 x1 x2 x3 x4 x5 x6 x7
    have e : ∀ (R : List Value) (j : Nat) (y : Value), (c ++ R).set ((k + 1) * 8 + j) y = c ++ R.set (k * 8 + j) y := fun R j y => by
      rw [List.set_append_right _ _ (by rw [h.head]; omega), h.head, show (k + 1) * 8 + j - 8 = k * 8 + j by omega]
    have e0 := e C.flatten 0 x0
    simp only [Nat.add_zero] at e0
    rw [List.flatten_cons, e0, e, e, e, e, e, e, e, ih]
    rfl
theorem put8 {t : TypeId} {g : Nat} {C : Cs} {w : World} (h : RowC t g C w) {k : Nat} (hk : k < C.length) (x0 x1 x2 x3 x4 x5 x6 x7 : Value) :
    RowC t g (C.set k [x0, x1, x2, x3, x4, x5, x6, x7]) ((((((((w.setCell ⟨g, k * 8, none⟩ x0).setCell ⟨g, k * 8 + 1, none⟩ x1).setCell ⟨g, k * 8 + 2, none⟩ x2).setCell ⟨g, k * 8 + 3, none⟩ x3).setCell ⟨g, k * 8 + 4, none⟩ x4).setCell ⟨g, k * 8 + 5, none⟩ x5).setCell ⟨g, k * 8 + 6, none⟩ x6).setCell ⟨g, k * 8 + 7, none⟩ x7) := by
  obtain ⟨cur, h1, h2⟩ := h.blk
  refine ⟨⟨_, set_at (set_at (set_at (set_at (set_at (set_at (set_at (set_at h1 _) _) _) _) _) _) _) _, ?_⟩, h.e8.set rfl⟩
  simp only [Array.toList_setIfInBounds, h2]
  exact fl_set8 h.e8 k hk x0 x1 x2 x3 x4 x5 x6 x7
theorem bel8 {B g q0 : Nat} {w0 w : World} (h : Below B w0 w) (hg : B ≤ g) (x0 x1 x2 x3 x4 x5 x6 x7 : Value) :
    Below B w0 ((((((((w.setCell ⟨g, q0 * 8, none⟩ x0).setCell ⟨g, q0 * 8 + 1, none⟩ x1).setCell ⟨g, q0 * 8 + 2, none⟩ x2).setCell ⟨g, q0 * 8 + 3, none⟩ x3).setCell ⟨g, q0 * 8 + 4, none⟩ x4).setCell ⟨g, q0 * 8 + 5, none⟩ x5).setCell ⟨g, q0 * 8 + 6, none⟩ x6).setCell ⟨g, q0 * 8 + 7, none⟩ x7) :=
  (((((((h.setCell hg _).setCell hg _).setCell hg _).setCell hg _).setCell hg _).setCell hg _).setCell hg _).setCell hg _
set_option maxRecDepth 100000 in
set_option maxHeartbeats 4000000 in
theorem sorted_there {F X : Nat → Prop} {b : Nat} {w : World} {S : Sp} (h : SP F X b w S) (hmax : S.l.length < 1099511627776) :
    Calls Tryz.prog 43 #[ptr b, .func (.func 44) #[] #[]] w (SorE X (S.l.filter fun q => (fun _ => true) q.2) w) := by
  obtain ⟨i0, hi, hz0, hz1, hz2⟩ := FRow.parts_of info63
  have ris2 : Ris S.l := by obtain ⟨FI, bm, bi, mv, L, s, h⟩ := h; exact h.ris2
  have H1 := hid_of (rising_there h (by omega))
  rw [keys_want S.l ris2] at H1
  obtain ⟨l, hl⟩ : ∃ l, l = S.l.filter fun q => (fun _ => true) q.2 := ⟨_, rfl⟩
  rw [← hl] at H1
  rw [← hl]
  have HL := hid_of (show ∀ q ∈ l, lkp S.l q.1 = some q.2 from fun q hq => lkp_at ris2 q (by rw [hl] at hq; exact (List.mem_filter.1 hq).1))
  have hln : l.length < 1099511627776 := by rw [hl]; exact Nat.lt_of_le_of_lt (List.length_filter_le _ _) hmax
  have HH := hid_of h
  clear h hl ris2
  go_enter Tryz.func43, Tryz.ntmps43
  go_wp2_with fail
  refine H1.out.mono ?_
  rintro r w1 ⟨v, rfl, hrow, hb1⟩
  obtain ⟨a, c, rfl, hc, hrd⟩ := nm_row hrow
  have HRD := hid_of hrd
  have HB1 := hid_of hb1
  have hkl : (keys l).length = l.length := by unfold keys; simp
  rw [hkl] at hc ⊢
  clear hrow hrd hb1 H1
  go_wp2_with (at_make; refine wpList_make_full _ rfl _ _ 42 rfl w1.heap.size 81 i0 zE 8 Tryz.underlying42 hi hz0 hz1 _ _ _ _ l.length rfl rfl rfl rfl ?b2 ?b3 (Nat.le_refl _) ?_)
  case b2 => rw [hz2]; omega
  case b3 => unfold maxLen; omega
  intro w0 hown0 hgrow0
  have HB0 : Hid (Below w1.heap.size w1 w0) := hid_of ((Below.refl _ _).grown hgrow0 (Nat.le_refl _) (fun k h => by cases h))
  obtain ⟨C0, e0, f0, g0⟩ := chunks l.length _ hown0.1
  have HR0 : Hid (RowC 81 w1.heap.size C0 w0) := hid_of (of_own (v := .bool true) (a := none) hown0 C0 e0 f0 g0)
  clear hown0 hgrow0 e0 f0
  go_wp2_with fail
  obtain ⟨G, hG⟩ : ∃ G, G = w1.heap.size := ⟨_, rfl⟩
  rw [← hG] at HB0 HR0
  rw [← hG]
  have HG := hid_of hG
  clear hG
  go_loopg [17] l.length (fun g si wx => ∃ (k : Nat) (C : Cs), k ≤ l.length ∧ l.length ≤ k + g ∧ si = .int .i64 (k : Int) ∧ Hid (C.length = l.length) ∧ Hid (RowC 81 G C wx) ∧ Hid (Below G w1 wx) ∧ Hid (∀ i (h : i < C.length) (h' : i < l.length), i < k → EnAt X w (l[i]'h').1 (.agg (C[i]'h).toArray) (l[i]'h').2))
  case atStart => exact ⟨0, C0, by omega, by omega, rfl, hid_of g0, HR0, HB0, hid_of fun i h h' q => by omega⟩
  case round =>
    obtain ⟨k, C, hk, hg, rfl, HCL, HR, HN, HEn⟩ := hrel
    by_cases hlt : k < l.length
    · obtain ⟨g', rfl⟩ : ∃ g', gk = g' + 1 := ⟨gk - 1, by omega⟩
      have bW1 : Below w1.heap.size w1 wr := by rw [← HG.out]; exact HN.out
      have bW : Below w.heap.size w wr := HB1.out.trans (bW1.mono HB1.out.size)
      obtain ⟨gb, o, rfl, _, hcs⟩ := HRD.out.get (by rw [hkl]; omega)
      have ck : (keys l)[k]? = some (l[k]'hlt).1 := by unfold keys; rw [List.getElem?_map, List.getElem?_eq_getElem hlt]; rfl
      have c0 : wr.cell? ⟨gb, o + k, none⟩ = some (.string (mk (l[k]'hlt).1)) := FRow.cell_on bW1 (hcs k _ ck)
      obtain ⟨FI, bm, bi, mv, L, s, sp⟩ := HH.out.below bW
      have cB : wr.cell? ⟨b, 0, none⟩ = some (.map (some bm)) := Lib.cell_of_heap sp.blk 0
      have hat := HL.out (l[k]'hlt) (List.getElem_mem hlt)
      have hkk : (l[k]'hlt).1.length ≤ 281474976710656 := by
        have := two_keys sp.ris sp.ris2 sp.ent
        have hm : (l[k]'hlt).1 ∈ keys S.l := List.mem_map.2 ⟨_, lkp_mem hat, rfl⟩
        rw [← this] at hm
        obtain ⟨p, hp, e⟩ := List.mem_map.1 hm
        rw [← e]
        exact sp.kl p hp
      have HO := HH.out
      obtain ⟨FI', bm', bi', mv', L', s', sp'⟩ := HO
      obtain ⟨y, hlook, hy⟩ : ∃ y, (Instr.lookup 74 (.map (some bm)) (.string (mk (l[k]'hlt).1)) false).run Tryz.prog wr = .ok y wr ∧ EnAt X w (l[k]'hlt).1 y (l[k]'hlt).2 := by
        have sb := sp'.below bW
        have eb : bm = bm' := by
          have h1 := sp.blk
          rw [sb.blk] at h1
          injection h1 with h1
          injection h1 with h1
          injection h1 with h1
          injection h1 with h1 h2
          injection h1 with h1
          injection h1 with h1
          exact h1.symm
        rw [eb]
        obtain ⟨y, h1, h2⟩ := SFind.look sb.map sp'.ent (l[k]'hlt).1 hkk
        rw [hat] at h2
        exact ⟨y, h1, h2⟩
      have HY := hid_of hy
      obtain ⟨T, kd, a1, n1, c1, a2, n2, c2, a3, n3, c3, rfl, -⟩ := en_cells hy
      have e2 : IntKind.i64.wrap ((k : Int) + 1) = (k : Int) + 1 := IntWalk.i64_in _ (by omega)
      have g2 : (k : Int) < (l.length : Int) := by omega
      have hkc : k < C.length := by rw [HCL.out]; exact hlt
      have z := HR.out.frozen
      have z0 := z (k * 8)
      have z1 := z (k * 8 + 1)
      have z2 := z (k * 8 + 2)
      have z3 := z (k * 8 + 3)
      have z4 := z (k * 8 + 4)
      have z5 := z (k * 8 + 5)
      have z6 := z (k * 8 + 6)
      have z7 := z (k * 8 + 7)
      have h8 : (C[k]'hkc).length = 8 := HR.out.e8 _ (List.getElem_mem hkc)
      have gc : ∀ j, j < 8 → ∃ u, wr.cell? ⟨G, k * 8 + j, none⟩ = some u := fun j hj => ⟨(C[k]'hkc)[j]'(by omega), by rw [HR.out.cell hkc hj]; exact List.getElem?_eq_getElem (by omega)⟩
      obtain ⟨q0, r0⟩ := gc 0 (by omega)
      obtain ⟨q1, r1⟩ := gc 1 (by omega)
      obtain ⟨q2, r2⟩ := gc 2 (by omega)
      obtain ⟨q3, r3⟩ := gc 3 (by omega)
      obtain ⟨q4, r4⟩ := gc 4 (by omega)
      obtain ⟨q5, r5⟩ := gc 5 (by omega)
      obtain ⟨q6, r6⟩ := gc 6 (by omega)
      obtain ⟨q7, r7⟩ := gc 7 (by omega)
      rw [Nat.add_zero] at r0
      have HST := hid_of (put8 HR.out hkc (.string (mk (l[k]'hlt).1)) (.int .i64 kd) (.string T) (.slice a1 n1 c1) (.slice a2 n2 c2) (.slice a3 n3 c3) (.int .i64 (l[k]'hlt).2.due) (.int .u64 ((l[k]'hlt).2.ver : Int)))
      have HE2 : Hid (∀ i (h : i < (C.set k [.string (mk (l[k]'hlt).1), .int .i64 kd, .string T, .slice a1 n1 c1, .slice a2 n2 c2, .slice a3 n3 c3, .int .i64 (l[k]'hlt).2.due, .int .u64 ((l[k]'hlt).2.ver : Int)]).length) (h' : i < l.length), i < k + 1 → EnAt X w (l[i]'h').1 (.agg ((C.set k [.string (mk (l[k]'hlt).1), .int .i64 kd, .string T, .slice a1 n1 c1, .slice a2 n2 c2, .slice a3 n3 c3, .int .i64 (l[k]'hlt).2.due, .int .u64 ((l[k]'hlt).2.ver : Int)])[i]'h).toArray) (l[i]'h').2) := hid_of fun i h h' q => by
        rw [List.getElem_set]
        by_cases e : k = i
        · subst e
          rw [if_pos rfl]
          exact HY.out
        · rw [if_neg e]
          exact HEn.out i (by rw [List.length_set] at h; exact h) h' (by omega)
      have HN2 := hid_of (bel8 HN.out (q0 := k) (Nat.le_refl G) (.string (mk (l[k]'hlt).1)) (.int .i64 kd) (.string T) (.slice a1 n1 c1) (.slice a2 n2 c2) (.slice a3 n3 c3) (.int .i64 (l[k]'hlt).2.due) (.int .u64 ((l[k]'hlt).2.ver : Int)))
      have hcl : Hid ((C.set k [.string (mk (l[k]'hlt).1), .int .i64 kd, .string T, .slice a1 n1 c1, .slice a2 n2 c2, .slice a3 n3 c3, .int .i64 (l[k]'hlt).2.due, .int .u64 ((l[k]'hlt).2.ver : Int)]).length = l.length) := hid_of (by rw [List.length_set]; exact HCL.out)
      generalize hTK : mk (l[k]'hlt).1 = TK at *
      generalize hDU : (l[k]'hlt).2.due = DU at *
      generalize hVE : ((l[k]'hlt).2.ver : Int) = VE at *
      clear hTK hDU hVE sp sp' HY hat hkk hcs ck bW bW1 z gc h8 hy
      go_wp2_with fail
      go_roundg g'
      case measure => omega
      case rel => exact ⟨k + 1, _, by omega, by omega, by rw [show ((k + 1 : Nat) : Int) = (k : Int) + 1 from by omega], hcl, HST, HN2, HE2⟩
    · obtain rfl : k = l.length := by omega
      have gi : ¬ (l.length : Int) < (l.length : Int) := by omega
      go_wp2_with fail
      go_ret
      refine ⟨G, C, by rw [show C.length = l.length from HCL.out]; rfl, HR.out, by rw [HG.out]; exact HB1.out.size, ⟨HCL.out, fun i h h' => HEn.out i h h' h'⟩, ?_⟩
      have q := HN.out
      rw [HG.out] at q
      exact HB1.out.trans (q.mono HB1.out.size)
end Go.Proofs.YtpnigkjmofhmbabGreat.SSort
end
section
namespace Go.Proofs.YtpnigkjmofhmbabGreat.SEnts
open Go.RowKit Go.Maps
open Go.Proofs.YtpnigkjmofhmbabGreat.SpaceMath (wout withL lkp keys Ris toD lkp_at lkp_mem)
open Go.Proofs.YtpnigkjmofhmbabGreat.ValueMath (Vl chk small)
open Go.Proofs.YtpnigkjmofhmbabGreat.Base (mk mk_list mk_size Gr hid_of SL)
open Go.Proofs.YtpnigkjmofhmbabGreat.Turn
open Go.Proofs.YtpnigkjmofhmbabGreat.Vals
open Go.Proofs.YtpnigkjmofhmbabGreat.SBase
open Go.Proofs.YtpnigkjmofhmbabGreat.SFind
open Go.Proofs.YtpnigkjmofhmbabGreat.SMath
open Go.Proofs.YtpnigkjmofhmbabGreat.SSet
open Go.Proofs.YtpnigkjmofhmbabGreat.SPut
open Go.Proofs.YtpnigkjmofhmbabGreat.SDrop
open Go.Proofs.YtpnigkjmofhmbabGreat.SRise
open Go.Proofs.YtpnigkjmofhmbabGreat.Chunk
open Go.Proofs.YtpnigkjmofhmbabGreat.SSort
set_option linter.unusedVariables false
set_option linter.unusedSimpArgs false
theorem fl_set5 : ∀ {C : Cs}, E8 C → ∀ k (hk : k < C.length) (y0 y1 y2 y3 y4 y5 y6 y7 : Value), C[k]'hk = [y0, y1, y2, y3, y4, y5, y6, y7] → ∀ x1 x2 x3 x4 x5 : Value, (((((C.flatten.set (k * 8 + 1) x1).set (k * 8 + 2) x2).set (k * 8 + 3) x3).set (k * 8 + 4) x4).set (k * 8 + 5) x5) = (C.set k [y0, x1, x2, x3, x4, x5, y6, y7]).flatten
  | c :: C, h, 0, hk, y0, y1, y2, y3, y4, y5, y6, y7, hc, x1, x2, x3, x4, x5 => by
    have hc : c = [y0, y1, y2, y3, y4, y5, y6, y7] := hc
    subst hc
    rfl
  | c :: C, h, k + 1, hk, y0, y1, y2, y3, y4, y5, y6, y7, hc, x1, x2, x3, x4, x5 => by
    have ih := fl_set5 h.tail k (by simpa using hk) y0 y1 y2 y3 y4 y5 y6 y7 hc x1 x2 x3 x4 x5
    have e : ∀ (R : List Value) (j : Nat) (y : Value), (c ++ R).set ((k + 1) * 8 + j) y = c ++ R.set (k * 8 + j) y := fun R j y => by
      rw [List.set_append_right _ _ (by rw [h.head]; omega), h.head, show (k + 1) * 8 + j - 8 = k * 8 + j by omega]
    rw [List.flatten_cons, e, e, e, e, e, ih]
    rfl
theorem put5 {t : TypeId} {g : Nat} {C : Cs} {w : World} (h : RowC t g C w) {k : Nat} (hk : k < C.length) {y0 y1 y2 y3 y4 y5 y6 y7 : Value} (hc : C[k]'hk = [y0, y1, y2, y3, y4, y5, y6, y7]) (x1 x2 x3 x4 x5 : Value) :
    RowC t g (C.set k [y0, x1, x2, x3, x4, x5, y6, y7]) (((((w.setCell ⟨g, k * 8 + 1, none⟩ x1).setCell ⟨g, k * 8 + 2, none⟩ x2).setCell ⟨g, k * 8 + 3, none⟩ x3).setCell ⟨g, k * 8 + 4, none⟩ x4).setCell ⟨g, k * 8 + 5, none⟩ x5) := by
  obtain ⟨cur, h1, h2⟩ := h.blk
  refine ⟨⟨_, set_at (set_at (set_at (set_at (set_at h1 _) _) _) _) _, ?_⟩, h.e8.set rfl⟩
  simp only [Array.toList_setIfInBounds, h2]
  exact fl_set5 h.e8 k hk y0 y1 y2 y3 y4 y5 y6 y7 hc x1 x2 x3 x4 x5
/-- an entry in new memory -/
def NewEn (B : Nat) (w : World) (k : Bs) (cs : List Value) (e : En) : Prop := ∃ a b c, cs = [.string (mk k), .int .i64 e.val.kind, .string (mk e.val.text), a, b, c, .int .i64 e.due, .int .u64 (e.ver : Int)] ∧ VN B w (vV e.val a b c) e.val
def EntE (l : KL En) (w : World) (r : Ending) (w' : World) : Prop := ∃ g C, r = .returned (.slice (some ⟨g, 0, none⟩) C.length C.length) ∧ RowC 81 g C w' ∧ w.heap.size ≤ g ∧ C.length = l.length ∧ (∀ i (h : i < C.length) (h' : i < l.length), NewEn (g + 1) w' (l[i]'h').1 (C[i]'h) (l[i]'h').2) ∧ Below w.heap.size w w'
theorem vn5 {B g k : Nat} {w : World} {v : Value} {x : Vl} (h : VN B w v x) (hg : g < B) (x1 x2 x3 x4 x5 : Value) : VN B (((((w.setCell ⟨g, k * 8 + 1, none⟩ x1).setCell ⟨g, k * 8 + 2, none⟩ x2).setCell ⟨g, k * 8 + 3, none⟩ x3).setCell ⟨g, k * 8 + 4, none⟩ x4).setCell ⟨g, k * 8 + 5, none⟩ x5) v x :=
  Dec.vn_set (Dec.vn_set (Dec.vn_set (Dec.vn_set (Dec.vn_set h hg _) hg _) hg _) hg _) hg _
theorem bel5 {B g k : Nat} {w0 w : World} (h : Below B w0 w) (hg : B ≤ g) (x1 x2 x3 x4 x5 : Value) : Below B w0 (((((w.setCell ⟨g, k * 8 + 1, none⟩ x1).setCell ⟨g, k * 8 + 2, none⟩ x2).setCell ⟨g, k * 8 + 3, none⟩ x3).setCell ⟨g, k * 8 + 4, none⟩ x4).setCell ⟨g, k * 8 + 5, none⟩ x5) :=
  ((((h.setCell hg _).setCell hg _).setCell hg _).setCell hg _).setCell hg _
theorem filter_all {l : KL En} : l.filter (fun q => (fun _ => true) q.2) = l := List.filter_eq_self.2 fun _ _ => rfl
theorem agg_cells {cs : List Value} {x0 x1 x2 x3 x4 x5 x6 x7 : Value} (h : Value.agg cs.toArray = .agg #[x0, x1, x2, x3, x4, x5, x6, x7]) : cs = [x0, x1, x2, x3, x4, x5, x6, x7] := by
  injection h with h
  have := congrArg Array.toList h
  simpa using this
set_option maxRecDepth 100000 in
set_option maxHeartbeats 4000000 in
theorem entries_call {F X : Nat → Prop} {b : Nat} {w : World} {S : Sp} (h : SP F X b w S) (hmax : S.l.length < 1099511627776) : Calls Tryz.prog 19 #[ptr b] w (EntE S.l w) := by
  have H1 := hid_of (sorted_there h hmax)
  rw [filter_all] at H1
  obtain ⟨l, hl⟩ : ∃ l, l = S.l := ⟨_, rfl⟩
  rw [← hl] at H1 hmax
  rw [← hl]
  clear h hl
  go_enter Tryz.func19, Tryz.ntmps19
  go_wp2_with fail
  refine H1.out.mono ?_
  rintro r w1 ⟨G, C0, rfl, hr, hgl, ⟨hcl, hen⟩, hb1⟩
  have HR0 := hid_of hr
  have HG := hid_of hgl
  have HB1 := hid_of hb1
  have HEn := hid_of hen
  have H0 := hid_of (show ∀ i (h : i < C0.length) (h' : i < l.length), i < 0 → NewEn (G + 1) w1 (l[i]'h').1 (C0[i]'h) (l[i]'h').2 from fun i _ _ q => by omega)
  have HE0 := hid_of (show ∀ i (h : i < C0.length) (h' : i < l.length), 0 ≤ i → EnAt X w (l[i]'h').1 (.agg (C0[i]'h).toArray) (l[i]'h').2 from fun i h h' _ => hen i h h')
  have HCL0 := hid_of hcl
  rw [hcl]
  clear hr hgl hb1 hen hcl H1 HEn
  go_wp2_with fail
  go_loopg [9] l.length (fun g si wx => ∃ (k : Nat) (C : Cs), k ≤ l.length ∧ l.length ≤ k + g ∧ si = .int .i64 (k : Int) ∧ Hid (C.length = l.length) ∧ Hid (RowC 81 G C wx) ∧ Hid (Below w.heap.size w wx) ∧ Hid (∀ i (h : i < C.length) (h' : i < l.length), i < k → NewEn (G + 1) wx (l[i]'h').1 (C[i]'h) (l[i]'h').2) ∧ Hid (∀ i (h : i < C.length) (h' : i < l.length), k ≤ i → EnAt X w (l[i]'h').1 (.agg (C[i]'h).toArray) (l[i]'h').2))
  case atStart => exact ⟨0, C0, by omega, by omega, rfl, HCL0, HR0, HB1, H0, HE0⟩
  case round =>
    obtain ⟨k, C, hk, hg, rfl, HCL, HR, HN, HNew, HOld⟩ := hrel
    by_cases hlt : k < l.length
    · obtain ⟨g', rfl⟩ : ∃ g', gk = g' + 1 := ⟨gk - 1, by omega⟩
      have hkc : k < C.length := by rw [HCL.out]; exact hlt
      have en := HOld.out k hkc hlt (Nat.le_refl _)
      obtain ⟨a1, c1, a2, c2, a3, c3, heq, hvs⟩ := en.shape
      have HG1 := hid_of en.gd
      unfold eV at heq
      have hcs := agg_cells heq
      have hva := hvs wr (Ev.of_below HN.out)
      have H2 := hid_of (Copy.copy_call hva en.gd.wel.toFit)
      have HCS := hid_of hcs
      have hc : ∀ j (hj : j < 8), wr.cell? ⟨G, k * 8 + j, none⟩ = (C[k]'hkc)[j]? := fun j hj => HR.out.cell hkc hj
      rw [hcs] at hc
      have r1 := hc 1 (by omega)
      have r2 := hc 2 (by omega)
      have r3 := hc 3 (by omega)
      have r4 := hc 4 (by omega)
      have r5 := hc 5 (by omega)
      simp only [List.getElem?_cons_succ, List.getElem?_cons_zero] at r1 r2 r3 r4 r5
      have e2 : IntKind.i64.wrap ((k : Int) + 1) = (k : Int) + 1 := IntWalk.i64_in _ (by omega)
      have g2 : (k : Int) < (l.length : Int) := by omega
      have hGl : G < wr.heap.size := HR.out.lt
      unfold vV at H2
      obtain ⟨x, HX⟩ : ∃ x, Hid ((l[k]'hlt).2.val = x) := ⟨_, hid_of rfl⟩
      rw [HX.out] at H2 r1 r2 r3 r4 r5
      clear hcs hc hva hvs heq en
      go_wp2_with fail
      refine H2.out.mono ?_
      rintro r w2 ⟨u, rfl, hu, hb2⟩
      obtain ⟨e1, f1, e2', f2, e3, f3, hsh⟩ := va_shape hu.va
      have HU := hid_of hu
      rw [hsh] at HU
      subst hsh
      have HR2 := hid_of (HR.out.keep (hb2.block _ hGl))
      have HB2 := hid_of hb2
      have hkc2 := hkc
      have z := HR2.out.frozen
      have z1 := z (k * 8 + 1)
      have z2 := z (k * 8 + 2)
      have z3 := z (k * 8 + 3)
      have z4 := z (k * 8 + 4)
      have z5 := z (k * 8 + 5)
      have s1 := (FRow.cell_on hb2 r1)
      have s2 := (FRow.cell_on hb2 r2)
      have s3 := (FRow.cell_on hb2 r3)
      have s4 := (FRow.cell_on hb2 r4)
      have s5 := (FRow.cell_on hb2 r5)
      have HST := hid_of (put5 HR2.out hkc HCS.out (.int .i64 x.kind) (.string (mk x.text)) (.slice e1 x.list.length f1) (.slice e2' x.fields.length f2) (.slice e3 x.ranked.length f3))
      have HN2 := hid_of (bel5 (k := k) (HN.out.trans (hb2.mono HN.out.size)) HG.out (.int .i64 x.kind) (.string (mk x.text)) (.slice e1 x.list.length f1) (.slice e2' x.fields.length f2) (.slice e3 x.ranked.length f3))
      have hle : G + 1 ≤ wr.heap.size := hGl
      have HE2 : Hid (∀ i (h : i < (C.set k [.string (mk (l[k]'hlt).1), .int .i64 x.kind, .string (mk x.text), .slice e1 x.list.length f1, .slice e2' x.fields.length f2, .slice e3 x.ranked.length f3, .int .i64 (l[k]'hlt).2.due, .int .u64 ((l[k]'hlt).2.ver : Int)]).length) (h' : i < l.length), i < k + 1 → NewEn (G + 1) (((((w2.setCell ⟨G, k * 8 + 1, none⟩ (.int .i64 x.kind)).setCell ⟨G, k * 8 + 2, none⟩ (.string (mk x.text))).setCell ⟨G, k * 8 + 3, none⟩ (.slice e1 x.list.length f1)).setCell ⟨G, k * 8 + 4, none⟩ (.slice e2' x.fields.length f2)).setCell ⟨G, k * 8 + 5, none⟩ (.slice e3 x.ranked.length f3)) (l[i]'h').1 ((C.set k [.string (mk (l[k]'hlt).1), .int .i64 x.kind, .string (mk x.text), .slice e1 x.list.length f1, .slice e2' x.fields.length f2, .slice e3 x.ranked.length f3, .int .i64 (l[k]'hlt).2.due, .int .u64 ((l[k]'hlt).2.ver : Int)])[i]'h) (l[i]'h').2) := hid_of fun i h h' q => by
        rw [List.getElem_set]
        by_cases e : k = i
        · subst e
          rw [if_pos rfl]
          refine ⟨.slice e1 x.list.length f1, .slice e2' x.fields.length f2, .slice e3 x.ranked.length f3, by rw [HX.out], ?_⟩
          rw [HX.out]
          exact vn5 (HU.out.mono hle) (by omega) _ _ _ _ _
        · rw [if_neg e]
          obtain ⟨a, b, c, h1, h2⟩ := HNew.out i (by rw [List.length_set] at h; exact h) h' (by omega)
          exact ⟨a, b, c, h1, vn5 (h2.below HB2.out) (by omega) _ _ _ _ _⟩
      have HO2 : Hid (∀ i (h : i < (C.set k [.string (mk (l[k]'hlt).1), .int .i64 x.kind, .string (mk x.text), .slice e1 x.list.length f1, .slice e2' x.fields.length f2, .slice e3 x.ranked.length f3, .int .i64 (l[k]'hlt).2.due, .int .u64 ((l[k]'hlt).2.ver : Int)]).length) (h' : i < l.length), k + 1 ≤ i → EnAt X w (l[i]'h').1 (.agg ((C.set k [.string (mk (l[k]'hlt).1), .int .i64 x.kind, .string (mk x.text), .slice e1 x.list.length f1, .slice e2' x.fields.length f2, .slice e3 x.ranked.length f3, .int .i64 (l[k]'hlt).2.due, .int .u64 ((l[k]'hlt).2.ver : Int)])[i]'h).toArray) (l[i]'h').2) := hid_of fun i h h' q => by
        rw [List.getElem_set, if_neg (by omega)]
        exact HOld.out i (by rw [List.length_set] at h; exact h) h' (by omega)
      have hcl : Hid ((C.set k [.string (mk (l[k]'hlt).1), .int .i64 x.kind, .string (mk x.text), .slice e1 x.list.length f1, .slice e2' x.fields.length f2, .slice e3 x.ranked.length f3, .int .i64 (l[k]'hlt).2.due, .int .u64 ((l[k]'hlt).2.ver : Int)]).length = l.length) := hid_of (by rw [List.length_set]; exact HCL.out)
      unfold vV
      generalize mk x.text = TT' at *
      generalize x.kind = KD at *
      generalize x.list.length = N1 at *
      generalize x.fields.length = N2 at *
      generalize x.ranked.length = N3 at *
      clear hu hb2 z r1 r2 r3 r4 r5 H2
      go_wp2_with fail
      go_roundg g'
      case measure => omega
      case rel => exact ⟨k + 1, _, by omega, by omega, by rw [show ((k + 1 : Nat) : Int) = (k : Int) + 1 from by omega], hcl, HST, HN2, HE2, HO2⟩
    · obtain rfl : k = l.length := by omega
      have gi : ¬ (l.length : Int) < (l.length : Int) := by omega
      go_wp2_with fail
      go_ret
      exact ⟨G, C, by rw [show C.length = l.length from HCL.out]; rfl, HR.out, HG.out, HCL.out, fun i h h' => HNew.out i h h' h', HN.out⟩
end Go.Proofs.YtpnigkjmofhmbabGreat.SEnts
end
section
namespace Go.Proofs.YtpnigkjmofhmbabGreat.Same
open Go.RowKit Go.Maps
open Go.Proofs.YtpnigkjmofhmbabGreat.SetMath
open Go.Proofs.YtpnigkjmofhmbabGreat.ValueMath
open Go.Proofs.YtpnigkjmofhmbabGreat.Base
open Go.Proofs.YtpnigkjmofhmbabGreat.Vals
set_option linter.unusedVariables false

theorem Fit.len {x : Vl} (h : Fit x) : x.list.length ≤ 140737488355328 ∧ x.fields.length ≤ 140737488355328 ∧ x.ranked.length ≤ 140737488355328 := by
  obtain ⟨h1, h2, h3⟩ := h
  unfold FRow.big at h2
  unfold ERow.big at h3
  exact ⟨by omega, by omega, by omega⟩
set_option maxHeartbeats 4000000 in
set_option maxRecDepth 100000 in
theorem same_call {w : World} {u v : Value} {x y : Vl} (h : VA w u x) (h' : VA w v y) (fx : Fit x) (fy : Fit y) :
    Calls Tryz.prog 84 #[u, v] w fun e w' => e = .returned (.bool (sm x y)) ∧ Below w.heap.size w w' := by
  obtain ⟨f1, f2, f3⟩ := Fit.len fx
  obtain ⟨g1, g2, g3⟩ := Fit.len fy
  clear fx fy
  obtain ⟨a, b, c, rfl, h1, h2, h3⟩ := h
  obtain ⟨a', b', c', rfl, k1, k2, k3⟩ := h'
  obtain ⟨xk, xt, xl, xf, xr⟩ := x
  obtain ⟨yk, yt, yl, yf, yr⟩ := y
  simp only [sm] at *
  have HS := hid_of fun (W : World) (hW : Below w.heap.size w W) => Equal.eqS_call (h1.below hW) (k1.below hW) f1 g1
  have HF := hid_of fun (W : World) (hW : Below w.heap.size w W) => Equal.eqF_call b b' xf yf W (h2.below hW) (k2.below hW) f2 g2
  have HE := hid_of fun (W : World) (hW : Below w.heap.size w W) => Equal.eqE_call c c' xr yr W (h3.below hW) (k3.below hW) f3 g3
  obtain ⟨la, lc, rfl, _, _⟩ := id h1
  obtain ⟨fa, fc, rfl, _, _⟩ := id h2
  obtain ⟨ea, ec, rfl, _, _⟩ := id h3
  obtain ⟨la', lc', rfl, _, _⟩ := id k1
  obtain ⟨fa', fc', rfl, _, _⟩ := id k2
  obtain ⟨ea', ec', rfl, _, _⟩ := id k3
  have te := str_eq xt yt
  generalize mk xt = X at *
  generalize mk yt = Y at *
  generalize xl.length = n1 at *
  generalize List.length xf = n2 at *
  generalize List.length xr = n3 at *
  generalize yl.length = m1 at *
  generalize List.length yf = m2 at *
  generalize List.length yr = m3 at *
  generalize decide (xt = yt) = dt at *
  generalize decide (xl = yl) = dl at *
  generalize decide (xf = yf) = df at *
  generalize decide (xr = yr) = dr at *
  clear h1 h2 h3 k1 k2 k3 f1 f2 f3 g1 g2 g3
  obtain ⟨V, hV⟩ : ∃ V, V = (w.alloc (.cells #[.int .i64 xk, .string X, .slice la n1 lc, .slice fa n2 fc, .slice ea n3 ec] 38)).alloc (.cells #[.int .i64 yk, .string Y, .slice la' m1 lc', .slice fa' m2 fc', .slice ea' m3 ec'] 38) := ⟨_, rfl⟩
  have bV : Below w.heap.size w V := by rw [hV]; exact FRow.bel (FRow.bnew w _) (FRow.bnew _ _) (Nat.le_refl _)
  have v0 : V.heap[w.heap.size]? = some (.cells #[.int .i64 xk, .string X, .slice la n1 lc, .slice fa n2 fc, .slice ea n3 ec] 38 (0, 0)) := by rw [hV, hao _ _ _ (by simp)]; exact heap_alloc_new w _
  have v1 : V.heap[w.heap.size + 1]? = some (.cells #[.int .i64 yk, .string Y, .slice la' m1 lc', .slice fa' m2 fc', .slice ea' m3 ec'] 38 (0, 0)) := by
    rw [hV]
    have := heap_alloc_new (w.alloc (.cells #[.int .i64 xk, .string X, .slice la n1 lc, .slice fa n2 fc, .slice ea n3 ec] 38)) (.cells #[.int .i64 yk, .string Y, .slice la' m1 lc', .slice fa' m2 fc', .slice ea' m3 ec'] 38)
    simpa using this
  have HV := hid_of hV
  have HB := hid_of bV
  have HX : Hid (∀ W, Below V.heap.size V W → W.heap[w.heap.size]? = some (.cells #[.int .i64 xk, .string X, .slice la n1 lc, .slice fa n2 fc, .slice ea n3 ec] 38 (0, 0)) ∧ W.heap[w.heap.size + 1]? = some (.cells #[.int .i64 yk, .string Y, .slice la' m1 lc', .slice fa' m2 fc', .slice ea' m3 ec'] 38 (0, 0))) :=
    hid_of fun W hW => ⟨(hW.block _ (lt_of v0)).trans v0, (hW.block _ (lt_of v1)).trans v1⟩
  clear v0 v1 bV hV
  cases hk : (xk == yk)
  · go_enter Tryz.func84, Tryz.ntmps84
    go_wp2_with fail
    go_ret
    exact ⟨ret_b (by simp), by rw [← HV.out]; exact HB.out⟩
  · cases dt
    · go_enter Tryz.func84, Tryz.ntmps84
      go_wp2_with fail
      go_ret
      exact ⟨ret_b (by simp), by rw [← HV.out]; exact HB.out⟩
    · go_enter Tryz.func84, Tryz.ntmps84
      go_wp2_with fail
      rw [← HV.out]
      refine (HS.out V HB.out).mono ?_
      rintro e w1 ⟨rfl, b1⟩
      obtain ⟨x0, x1⟩ := HX.out w1 b1
      obtain ⟨⟨_, _, _, c3, c4⟩, _⟩ := box5 x0
      obtain ⟨⟨_, _, _, d3, d4⟩, _⟩ := box5 x1
      have B1 := hid_of b1
      have BB := hid_of (FRow.bel HB.out b1 (Nat.le_refl _))
      clear x0 x1 b1
      cases dl
      · go_wp2_with fail
        go_ret
        exact ⟨ret_b (by simp), BB.out⟩
      · go_wp2_with fail
        refine (HF.out w1 BB.out).mono ?_
        rintro e w2 ⟨rfl, b2⟩
        clear c3 c4 d3 d4
        obtain ⟨x0, x1⟩ := HX.out w2 (FRow.bel B1.out b2 (Nat.le_refl _))
        obtain ⟨⟨_, _, _, _, c4⟩, _⟩ := box5 x0
        obtain ⟨⟨_, _, _, _, d4⟩, _⟩ := box5 x1
        have B2 := hid_of (FRow.bel BB.out b2 (Nat.le_refl _))
        clear x0 x1 b2
        cases df
        · go_wp2_with fail
          go_ret
          exact ⟨ret_b (by simp), B2.out⟩
        · go_wp2_with fail
          refine (HE.out w2 B2.out).mono ?_
          rintro e w3 ⟨rfl, b3⟩
          have B3 := hid_of (FRow.bel B2.out b3 (Nat.le_refl _))
          clear b3
          go_wp2_with fail
          go_ret
          exact ⟨ret_b (by simp), B3.out⟩
end Go.Proofs.YtpnigkjmofhmbabGreat.Same
end
