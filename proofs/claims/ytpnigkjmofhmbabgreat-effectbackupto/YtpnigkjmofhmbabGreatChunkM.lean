/- Rows whose elements have eight cells. sorted: the entries that are wanted, by rising keys; Entries. -/
import Derived.Test.YtpnigkjmofhmbabGreatSDropM
section
namespace Go.Proofs.YtpnigkjmofhmbabGreat.Chunk
open Go.RowKit Go.Maps
open Go.Proofs.YtpnigkjmofhmbabGreat.Base (hid_of)
open Go.Proofs.YtpnigkjmofhmbabGreat.Turn
set_option linter.unusedVariables false
set_option linter.unusedSimpArgs false
abbrev Cs := List (List Value)
def E8 (C : Cs) : Prop := ∀ c ∈ C, c.length = 8
theorem E8.tail {c : List Value} {C : Cs} (h : E8 (c :: C)) : E8 C := fun x hx => h x (List.mem_cons_of_mem _ hx)
theorem E8.head {c : List Value} {C : Cs} (h : E8 (c :: C)) : c.length = 8 := h c List.mem_cons_self
theorem fl_len : ∀ {C : Cs}, E8 C → C.flatten.length = C.length * 8
  | [], _ => rfl
  | c :: C, h => by
    rw [List.flatten_cons, List.length_append, h.head, fl_len h.tail, List.length_cons]
    omega
theorem fl_get : ∀ {C : Cs}, E8 C → ∀ (k j : Nat) (hk : k < C.length), j < 8 → C.flatten[k * 8 + j]? = (C[k]'hk)[j]?
  | c :: C, h, 0, j, hk, hj => by
    rw [List.flatten_cons, List.getElem?_append_left (by rw [h.head]; omega)]
    simp
  | c :: C, h, k + 1, j, hk, hj => by
    rw [List.flatten_cons, List.getElem?_append_right (by rw [h.head]; omega), h.head, show (k + 1) * 8 + j - 8 = k * 8 + j by omega, fl_get h.tail k j (by simpa using hk) hj]
    rfl
theorem fl_set : ∀ {C : Cs}, E8 C → ∀ (k j : Nat) (hk : k < C.length), j < 8 → ∀ y, C.flatten.set (k * 8 + j) y = (C.set k ((C[k]'hk).set j y)).flatten
  | c :: C, h, 0, j, hk, hj, y => by
    rw [List.flatten_cons, List.set_append_left _ _ (by rw [h.head]; omega)]
    simp
  | c :: C, h, k + 1, j, hk, hj, y => by
    rw [List.flatten_cons, List.set_append_right _ _ (by rw [h.head]; omega), h.head, show (k + 1) * 8 + j - 8 = k * 8 + j by omega, fl_set h.tail k j (by simpa using hk) hj y]
    rfl
theorem E8.set {C : Cs} (h : E8 C) {k : Nat} {c : List Value} (hc : c.length = 8) : E8 (C.set k c) := fun x hx => by
  rcases List.mem_or_eq_of_mem_set hx with q | rfl
  · exact h x q
  · exact hc
/-- block g holds the cells of C -/
structure RowC (t : TypeId) (g : Nat) (C : Cs) (w : World) : Prop where
  blk : ∃ cur : Array Value, w.heap[g]? = some (.cells cur t (0, 0)) ∧ cur.toList = C.flatten
  e8 : E8 C
theorem RowC.cell {t : TypeId} {g : Nat} {C : Cs} {w : World} (h : RowC t g C w) {k j : Nat} (hk : k < C.length) (hj : j < 8) : w.cell? ⟨g, k * 8 + j, none⟩ = (C[k]'hk)[j]? := by
  obtain ⟨cur, h1, h2⟩ := h.blk
  rw [Lib.cell_of_heap h1, ← fl_get h.e8 k j hk hj, ← h2]
  simp
theorem RowC.frozen {t : TypeId} {g : Nat} {C : Cs} {w : World} (h : RowC t g C w) (o : Nat) : w.frozen? ⟨g, o, none⟩ = false := by
  obtain ⟨cur, h1, h2⟩ := h.blk
  exact Lib.frozen_of_heap h1 o
theorem RowC.lt {t : TypeId} {g : Nat} {C : Cs} {w : World} (h : RowC t g C w) : g < w.heap.size := by
  obtain ⟨cur, h1, h2⟩ := h.blk
  exact lt_of h1
theorem RowC.keep {t : TypeId} {g : Nat} {C : Cs} {w w' : World} (h : RowC t g C w) (hk : w'.heap[g]? = w.heap[g]?) : RowC t g C w' := by
  obtain ⟨cur, h1, h2⟩ := h.blk
  exact ⟨⟨cur, hk.trans h1, h2⟩, h.e8⟩
theorem RowC.put {t : TypeId} {g : Nat} {C : Cs} {w : World} (h : RowC t g C w) {k j : Nat} (hk : k < C.length) (hj : j < 8) (y : Value) : RowC t g (C.set k ((C[k]'hk).set j y)) (w.setCell ⟨g, k * 8 + j, none⟩ y) := by
  obtain ⟨cur, h1, h2⟩ := h.blk
  refine ⟨⟨_, set_at h1 y, ?_⟩, h.e8.set (by rw [List.length_set]; exact h.e8 _ (List.getElem_mem hk))⟩
  rw [Array.toList_setIfInBounds, h2, fl_set h.e8 k j hk hj]
/-- the row is its own -/
theorem RowC.own {t : TypeId} {B g : Nat} {C : Cs} {w : World} (h : RowC t g C w) (hB : B ≤ g) (hn : C.length ≤ maxLen) : w.ownsRow B t 8 (.slice (some ⟨g, 0, none⟩) C.length C.length) C.length C.flatten := by
  obtain ⟨cur, h1, h2⟩ := h.blk
  refine ⟨fl_len h.e8, .inr ⟨g, C.length, cur, rfl, hB, h1, Nat.le_refl _, hn, ?_, ?_⟩⟩
  · rw [← Array.length_toList, h2, fl_len h.e8]
  · rw [h2, List.take_of_length_le (by rw [fl_len h.e8]; omega)]
theorem of_own {t : TypeId} {B : Nat} {v : Value} {n : Nat} {xs : List Value} {w : World} {a : Option Addr} (h : w.ownsRow B t 8 (.slice (some ⟨B, 0, none⟩) n n) n xs) (C : Cs) (he : E8 C) (hC : C.flatten = xs) (hl : C.length = n) : RowC t B C w := by
  rcases h.2 with ⟨e, _⟩ | ⟨g, cap, cur, e, hb, hg, q1, q2, q3, q4⟩
  · cases e
  · injection e with e1 e2 e3
    injection e1 with e1
    injection e1 with e1
    subst e1 e3
    refine ⟨⟨cur, hg, ?_⟩, he⟩
    rw [hC, ← q4, List.take_of_length_le (by rw [Array.length_toList, q3]; omega)]
theorem rep8 (n : Nat) (z : List Value) (hz : z.length = 8) : E8 (List.replicate n z) := fun c hc => by
  rw [(List.mem_replicate.1 hc).2]
  exact hz
end Go.Proofs.YtpnigkjmofhmbabGreat.Chunk
end
section
namespace Go.Proofs.YtpnigkjmofhmbabGreat.SSort
open Go.RowKit Go.Maps Go.Sort
open Go.Proofs.YtpnigkjmofhmbabGreat.SpaceMath (wout withL lkp keys Ris toD lkp_at lkp_mem)
open Go.Proofs.YtpnigkjmofhmbabGreat.ValueMath (Vl chk small)
open Go.Proofs.YtpnigkjmofhmbabGreat.Base (mk mk_list mk_size Gr hid_of SL)
open Go.Proofs.YtpnigkjmofhmbabGreat.Turn
open Go.Proofs.YtpnigkjmofhmbabGreat.RowB (Es)
open Go.Proofs.YtpnigkjmofhmbabGreat.Swap (law9)
open Go.Proofs.YtpnigkjmofhmbabGreat.Vals
open Go.Proofs.YtpnigkjmofhmbabGreat.SBase
open Go.Proofs.YtpnigkjmofhmbabGreat.SFind
open Go.Proofs.YtpnigkjmofhmbabGreat.SMath
open Go.Proofs.YtpnigkjmofhmbabGreat.SSet
open Go.Proofs.YtpnigkjmofhmbabGreat.SPut
open Go.Proofs.YtpnigkjmofhmbabGreat.SDrop
open Go.Proofs.YtpnigkjmofhmbabGreat.SRise
open Go.Proofs.YtpnigkjmofhmbabGreat.Chunk
set_option linter.unusedVariables false
set_option linter.unusedSimpArgs false
theorem chunks : ∀ (n : Nat) (xs : List Value), xs.length = n * 8 → ∃ C : Cs, E8 C ∧ C.flatten = xs ∧ C.length = n
  | 0, xs, h => ⟨[], (fun c hc => by cases hc), by rw [List.length_eq_zero_iff.1 (show xs.length = 0 by omega)]; rfl, rfl⟩
  | n + 1, xs, h => by
    obtain ⟨C, h1, h2, h3⟩ := chunks n (xs.drop 8) (by rw [List.length_drop]; omega)
    refine ⟨xs.take 8 :: C, fun c hc => ?_, ?_, by rw [List.length_cons, h3]⟩
    · rcases List.mem_cons.1 hc with rfl | q
      · rw [List.length_take]; omega
      · exact h1 c q
    · rw [List.flatten_cons, h2, List.take_append_drop]
/-- the cells of entries -/
def EntsC (X : Nat → Prop) (w : World) (C : Cs) (l : KL En) : Prop := C.length = l.length ∧ ∀ i (h : i < C.length) (h' : i < l.length), EnAt X w (l[i]'h').1 (.agg (C[i]'h).toArray) (l[i]'h').2
def SorE (X : Nat → Prop) (l : KL En) (w : World) (r : Ending) (w' : World) : Prop := ∃ g C, r = .returned (.slice (some ⟨g, 0, none⟩) C.length C.length) ∧ RowC 81 g C w' ∧ w.heap.size ≤ g ∧ EntsC X w C l ∧ Below w.heap.size w w'
theorem keys_want (l : KL En) (hr : Ris l) (p : En → Bool) : (keys l).filter (wantB l p) = keys (l.filter fun q => p q.2) := by
  unfold keys
  rw [List.filter_map]
  congr 1
  refine List.filter_congr fun q hq => ?_
  show wantB l p q.1 = p q.2
  unfold wantB
  rw [lkp_at hr q hq]
  rfl
theorem info63 : (Tryz.prog.info? 81).map (fun i => (i.zero, i.size, i.bytes)) = some (some zE, 8, 128) := by kernel_rfl
theorem nm_row {B : Nat} {w : World} {v : Value} {ks : List Bs} (h : w.ownsRow B 9 1 v ks.length (ks.map encStr)) : SL Vals.TT w v ks := nr_sl (Base.NR.of_owns h)
theorem fl_set8 : ∀ {C : Cs}, E8 C → ∀ k, k < C.length → ∀ x0 x1 x2 x3 x4 x5 x6 x7 : Value, (((((((((C.flatten.set (k * 8) x0).set (k * 8 + 1) x1).set (k * 8 + 2) x2).set (k * 8 + 3) x3).set (k * 8 + 4) x4).set (k * 8 + 5) x5).set (k * 8 + 6) x6).set (k * 8 + 7) x7) = (C.set k [x0, x1, x2, x3, x4, x5, x6, x7]).flatten)
  | c :: C, h, 0, hk, x0, x1, x2, x3, x4, x5, x6, x7 => by
    have h8 := h.head
    match c, h8 with
    | [y0, y1, y2, y3, y4, y5, y6, y7], _ => rfl
  | c :: C, h, k + 1, hk, x0, x1, x2, x3, x4, x5, x6, x7 => by
    have ih := fl_set8 h.tail k (by simpa using hk) x0 x1 x2 x3 x4 x5 x6 x7
    have e : ∀ (R : List Value) (j : Nat) (y : Value), (c ++ R).set ((k + 1) * 8 + j) y = c ++ R.set (k * 8 + j) y := fun R j y => by
      rw [List.set_append_right _ _ (by rw [h.head]; omega), h.head, show (k + 1) * 8 + j - 8 = k * 8 + j by omega]
    have e0 := e C.flatten 0 x0
    simp only [Nat.add_zero] at e0
    rw [List.flatten_cons, e0, e, e, e, e, e, e, e, ih]
    rfl
theorem put8 {t : TypeId} {g : Nat} {C : Cs} {w : World} (h : RowC t g C w) {k : Nat} (hk : k < C.length) (x0 x1 x2 x3 x4 x5 x6 x7 : Value) :
    RowC t g (C.set k [x0, x1, x2, x3, x4, x5, x6, x7]) ((((((((w.setCell ⟨g, k * 8, none⟩ x0).setCell ⟨g, k * 8 + 1, none⟩ x1).setCell ⟨g, k * 8 + 2, none⟩ x2).setCell ⟨g, k * 8 + 3, none⟩ x3).setCell ⟨g, k * 8 + 4, none⟩ x4).setCell ⟨g, k * 8 + 5, none⟩ x5).setCell ⟨g, k * 8 + 6, none⟩ x6).setCell ⟨g, k * 8 + 7, none⟩ x7) := by
  obtain ⟨cur, h1, h2⟩ := h.blk
  refine ⟨⟨_, set_at (set_at (set_at (set_at (set_at (set_at (set_at (set_at h1 _) _) _) _) _) _) _) _, ?_⟩, h.e8.set rfl⟩
  simp only [Array.toList_setIfInBounds, h2]
  exact fl_set8 h.e8 k hk x0 x1 x2 x3 x4 x5 x6 x7
theorem bel8 {B g q0 : Nat} {w0 w : World} (h : Below B w0 w) (hg : B ≤ g) (x0 x1 x2 x3 x4 x5 x6 x7 : Value) :
    Below B w0 ((((((((w.setCell ⟨g, q0 * 8, none⟩ x0).setCell ⟨g, q0 * 8 + 1, none⟩ x1).setCell ⟨g, q0 * 8 + 2, none⟩ x2).setCell ⟨g, q0 * 8 + 3, none⟩ x3).setCell ⟨g, q0 * 8 + 4, none⟩ x4).setCell ⟨g, q0 * 8 + 5, none⟩ x5).setCell ⟨g, q0 * 8 + 6, none⟩ x6).setCell ⟨g, q0 * 8 + 7, none⟩ x7) :=
  (((((((h.setCell hg _).setCell hg _).setCell hg _).setCell hg _).setCell hg _).setCell hg _).setCell hg _).setCell hg _
set_option maxRecDepth 100000 in
set_option maxHeartbeats 4000000 in
theorem sorted_there {F X : Nat → Prop} {b : Nat} {w : World} {S : Sp} (h : SP F X b w S) (hmax : S.l.length < 1099511627776) :
    Calls Tryz.prog 43 #[ptr b, .func (.func 44) #[] #[]] w (SorE X (S.l.filter fun q => (fun _ => true) q.2) w) := by
  obtain ⟨i0, hi, hz0, hz1, hz2⟩ := FRow.parts_of info63
  have ris2 : Ris S.l := by obtain ⟨FI, bm, bi, mv, L, s, h⟩ := h; exact h.ris2
  have H1 := hid_of (rising_there h (by omega))
  rw [keys_want S.l ris2] at H1
  obtain ⟨l, hl⟩ : ∃ l, l = S.l.filter fun q => (fun _ => true) q.2 := ⟨_, rfl⟩
  rw [← hl] at H1
  rw [← hl]
  have HL := hid_of (show ∀ q ∈ l, lkp S.l q.1 = some q.2 from fun q hq => lkp_at ris2 q (by rw [hl] at hq; exact (List.mem_filter.1 hq).1))
  have hln : l.length < 1099511627776 := by rw [hl]; exact Nat.lt_of_le_of_lt (List.length_filter_le _ _) hmax
  have HH := hid_of h
  clear h hl ris2
  go_enter Tryz.func43, Tryz.ntmps43
  go_wp2_with fail
  refine H1.out.mono ?_
  rintro r w1 ⟨v, rfl, hrow, hb1⟩
  obtain ⟨a, c, rfl, hc, hrd⟩ := nm_row hrow
  have HRD := hid_of hrd
  have HB1 := hid_of hb1
  have hkl : (keys l).length = l.length := by unfold keys; simp
  rw [hkl] at hc ⊢
  clear hrow hrd hb1 H1
  go_wp2_with (at_make; refine wpList_make_full _ rfl _ _ 42 rfl w1.heap.size 81 i0 zE 8 Tryz.underlying42 hi hz0 hz1 _ _ _ _ l.length rfl rfl rfl rfl ?b2 ?b3 (Nat.le_refl _) ?_)
  case b2 => rw [hz2]; omega
  case b3 => unfold maxLen; omega
  intro w0 hown0 hgrow0
  have HB0 : Hid (Below w1.heap.size w1 w0) := hid_of ((Below.refl _ _).grown hgrow0 (Nat.le_refl _) (fun k h => by cases h))
  obtain ⟨C0, e0, f0, g0⟩ := chunks l.length _ hown0.1
  have HR0 : Hid (RowC 81 w1.heap.size C0 w0) := hid_of (of_own (v := .bool true) (a := none) hown0 C0 e0 f0 g0)
  clear hown0 hgrow0 e0 f0
  go_wp2_with fail
  obtain ⟨G, hG⟩ : ∃ G, G = w1.heap.size := ⟨_, rfl⟩
  rw [← hG] at HB0 HR0
  rw [← hG]
  have HG := hid_of hG
  clear hG
  go_loopg [17] l.length (fun g si wx => ∃ (k : Nat) (C : Cs), k ≤ l.length ∧ l.length ≤ k + g ∧ si = .int .i64 (k : Int) ∧ Hid (C.length = l.length) ∧ Hid (RowC 81 G C wx) ∧ Hid (Below G w1 wx) ∧ Hid (∀ i (h : i < C.length) (h' : i < l.length), i < k → EnAt X w (l[i]'h').1 (.agg (C[i]'h).toArray) (l[i]'h').2))
  case atStart => exact ⟨0, C0, by omega, by omega, rfl, hid_of g0, HR0, HB0, hid_of fun i h h' q => by omega⟩
  case round =>
    obtain ⟨k, C, hk, hg, rfl, HCL, HR, HN, HEn⟩ := hrel
    by_cases hlt : k < l.length
    · obtain ⟨g', rfl⟩ : ∃ g', gk = g' + 1 := ⟨gk - 1, by omega⟩
      have bW1 : Below w1.heap.size w1 wr := by rw [← HG.out]; exact HN.out
      have bW : Below w.heap.size w wr := HB1.out.trans (bW1.mono HB1.out.size)
      obtain ⟨gb, o, rfl, _, hcs⟩ := HRD.out.get (by rw [hkl]; omega)
      have ck : (keys l)[k]? = some (l[k]'hlt).1 := by unfold keys; rw [List.getElem?_map, List.getElem?_eq_getElem hlt]; rfl
      have c0 : wr.cell? ⟨gb, o + k, none⟩ = some (.string (mk (l[k]'hlt).1)) := FRow.cell_on bW1 (hcs k _ ck)
      obtain ⟨FI, bm, bi, mv, L, s, sp⟩ := HH.out.below bW
      have cB : wr.cell? ⟨b, 0, none⟩ = some (.map (some bm)) := Lib.cell_of_heap sp.blk 0
      have hat := HL.out (l[k]'hlt) (List.getElem_mem hlt)
      have hkk : (l[k]'hlt).1.length ≤ 281474976710656 := by
        have := two_keys sp.ris sp.ris2 sp.ent
        have hm : (l[k]'hlt).1 ∈ keys S.l := List.mem_map.2 ⟨_, lkp_mem hat, rfl⟩
        rw [← this] at hm
        obtain ⟨p, hp, e⟩ := List.mem_map.1 hm
        rw [← e]
        exact sp.kl p hp
      have HO := HH.out
      obtain ⟨FI', bm', bi', mv', L', s', sp'⟩ := HO
      obtain ⟨y, hlook, hy⟩ : ∃ y, (Instr.lookup 74 (.map (some bm)) (.string (mk (l[k]'hlt).1)) false).run Tryz.prog wr = .ok y wr ∧ EnAt X w (l[k]'hlt).1 y (l[k]'hlt).2 := by
        have sb := sp'.below bW
        have eb : bm = bm' := by
          have h1 := sp.blk
          rw [sb.blk] at h1
          injection h1 with h1
          injection h1 with h1
          injection h1 with h1
          injection h1 with h1 h2
          injection h1 with h1
          injection h1 with h1
          exact h1.symm
        rw [eb]
        obtain ⟨y, h1, h2⟩ := SFind.look sb.map sp'.ent (l[k]'hlt).1 hkk
        rw [hat] at h2
        exact ⟨y, h1, h2⟩
      have HY := hid_of hy
      obtain ⟨T, kd, a1, n1, c1, a2, n2, c2, a3, n3, c3, rfl, -⟩ := en_cells hy
      have e2 : IntKind.i64.wrap ((k : Int) + 1) = (k : Int) + 1 := IntWalk.i64_in _ (by omega)
      have g2 : (k : Int) < (l.length : Int) := by omega
      have hkc : k < C.length := by rw [HCL.out]; exact hlt
      have z := HR.out.frozen
      have z0 := z (k * 8)
      have z1 := z (k * 8 + 1)
      have z2 := z (k * 8 + 2)
      have z3 := z (k * 8 + 3)
      have z4 := z (k * 8 + 4)
      have z5 := z (k * 8 + 5)
      have z6 := z (k * 8 + 6)
      have z7 := z (k * 8 + 7)
      have h8 : (C[k]'hkc).length = 8 := HR.out.e8 _ (List.getElem_mem hkc)
      have gc : ∀ j, j < 8 → ∃ u, wr.cell? ⟨G, k * 8 + j, none⟩ = some u := fun j hj => ⟨(C[k]'hkc)[j]'(by omega), by rw [HR.out.cell hkc hj]; exact List.getElem?_eq_getElem (by omega)⟩
      obtain ⟨q0, r0⟩ := gc 0 (by omega)
      obtain ⟨q1, r1⟩ := gc 1 (by omega)
      obtain ⟨q2, r2⟩ := gc 2 (by omega)
      obtain ⟨q3, r3⟩ := gc 3 (by omega)
      obtain ⟨q4, r4⟩ := gc 4 (by omega)
      obtain ⟨q5, r5⟩ := gc 5 (by omega)
      obtain ⟨q6, r6⟩ := gc 6 (by omega)
      obtain ⟨q7, r7⟩ := gc 7 (by omega)
      rw [Nat.add_zero] at r0
      have HST := hid_of (put8 HR.out hkc (.string (mk (l[k]'hlt).1)) (.int .i64 kd) (.string T) (.slice a1 n1 c1) (.slice a2 n2 c2) (.slice a3 n3 c3) (.int .i64 (l[k]'hlt).2.due) (.int .u64 ((l[k]'hlt).2.ver : Int)))
      have HE2 : Hid (∀ i (h : i < (C.set k [.string (mk (l[k]'hlt).1), .int .i64 kd, .string T, .slice a1 n1 c1, .slice a2 n2 c2, .slice a3 n3 c3, .int .i64 (l[k]'hlt).2.due, .int .u64 ((l[k]'hlt).2.ver : Int)]).length) (h' : i < l.length), i < k + 1 → EnAt X w (l[i]'h').1 (.agg ((C.set k [.string (mk (l[k]'hlt).1), .int .i64 kd, .string T, .slice a1 n1 c1, .slice a2 n2 c2, .slice a3 n3 c3, .int .i64 (l[k]'hlt).2.due, .int .u64 ((l[k]'hlt).2.ver : Int)])[i]'h).toArray) (l[i]'h').2) := hid_of fun i h h' q => by
        rw [List.getElem_set]
        by_cases e : k = i
        · subst e
          rw [if_pos rfl]
          exact HY.out
        · rw [if_neg e]
          exact HEn.out i (by rw [List.length_set] at h; exact h) h' (by omega)
      have HN2 := hid_of (bel8 HN.out (q0 := k) (Nat.le_refl G) (.string (mk (l[k]'hlt).1)) (.int .i64 kd) (.string T) (.slice a1 n1 c1) (.slice a2 n2 c2) (.slice a3 n3 c3) (.int .i64 (l[k]'hlt).2.due) (.int .u64 ((l[k]'hlt).2.ver : Int)))
      have hcl : Hid ((C.set k [.string (mk (l[k]'hlt).1), .int .i64 kd, .string T, .slice a1 n1 c1, .slice a2 n2 c2, .slice a3 n3 c3, .int .i64 (l[k]'hlt).2.due, .int .u64 ((l[k]'hlt).2.ver : Int)]).length = l.length) := hid_of (by rw [List.length_set]; exact HCL.out)
      generalize hTK : mk (l[k]'hlt).1 = TK at *
      generalize hDU : (l[k]'hlt).2.due = DU at *
      generalize hVE : ((l[k]'hlt).2.ver : Int) = VE at *
      clear hTK hDU hVE sp sp' HY hat hkk hcs ck bW bW1 z gc h8 hy
      go_wp2_with fail
      go_roundg g'
      case measure => omega
      case rel => exact ⟨k + 1, _, by omega, by omega, by rw [show ((k + 1 : Nat) : Int) = (k : Int) + 1 from by omega], hcl, HST, HN2, HE2⟩
    · obtain rfl : k = l.length := by omega
      have gi : ¬ (l.length : Int) < (l.length : Int) := by omega
      go_wp2_with fail
      go_ret
      refine ⟨G, C, by rw [show C.length = l.length from HCL.out]; rfl, HR.out, by rw [HG.out]; exact HB1.out.size, ⟨HCL.out, fun i h h' => HEn.out i h h' h'⟩, ?_⟩
      have q := HN.out
      rw [HG.out] at q
      exact HB1.out.trans (q.mono HB1.out.size)
end Go.Proofs.YtpnigkjmofhmbabGreat.SSort
end
