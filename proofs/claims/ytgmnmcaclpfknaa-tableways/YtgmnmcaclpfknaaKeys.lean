/- Keys of both sides. -/
import Derived.Test.YtgmnmcaclpfknaaRChk
import Derived.Test.YtgmnmcaclpfknaaSmall
namespace Go.Proofs.Ytgmnmcaclpfknaa.Keys
open Go.RowKit
open Go.Proofs.Ytgmnmcaclpfknaa.Tab
open Go.Proofs.Ytgmnmcaclpfknaa.Base
open Go.Proofs.Ytgmnmcaclpfknaa.Low
open Go.Proofs.Ytgmnmcaclpfknaa.FindP
open Go.Proofs.Ytgmnmcaclpfknaa.FindC
open Go.Proofs.Ytgmnmcaclpfknaa.RFind
open Go.Proofs.Ytgmnmcaclpfknaa.RowOf
open Go.Proofs.Ytgmnmcaclpfknaa.Chk
open Go.Proofs.Ytgmnmcaclpfknaa.RChk
open Go.Proofs.Ytgmnmcaclpfknaa.RowsL (valS cellsS)
attribute [local go_sem] Oper.semAt_some
set_option linter.unusedVariables false
set_option linter.unusedSimpArgs false
def okK (r : Sc) : Bool := decide (r.first = 0 ∨ (1 ≤ r.first ∧ 1 ≤ r.step ∧ (r.last < 0 → r.last = -1) ∧ (0 ≤ r.last → r.last < r.arity ∨ r.last < -r.arity)))
theorem all_okK : allRows.all (fun r => okK (spec r)) = true := by decide +kernel
def lastK (r : Sc) (n : Nat) : Int := if r.last < 0 then r.last + n else r.last
def cnt (F S : Nat) (la : Int) : Nat := if la < F then 0 else (la.toNat - F) / S + 1
theorem cnt_iff {F S : Nat} {la : Int} (hS : 1 ≤ S) (k : Nat) : k < cnt F S la ↔ ((F + k * S : Nat) : Int) ≤ la := by
  unfold cnt
  split
  · rename_i h
    constructor
    · intro q; omega
    · intro q
      have : (F : Int) ≤ ((F + k * S : Nat) : Int) := by omega
      omega
  · rename_i h
    rw [Nat.lt_succ_iff, Nat.le_div_iff_mul_le hS]
    omega
def picks (l : List Tab.Bs) (F S k : Nat) : List Tab.Bs := (List.range k).map fun j => l.getD (F + j * S) []
theorem picks_len (l : List Tab.Bs) (F S k : Nat) : (picks l F S k).length = k := by unfold picks; simp
theorem picks_succ (l : List Tab.Bs) (F S k : Nat) : picks l F S (k + 1) = picks l F S k ++ [l.getD (F + k * S) []] := by
  unfold picks
  rw [List.range_succ, List.map_append]
  rfl
def keysS (l : List Tab.Bs) : List Tab.Bs := if checkS l = [] ∧ (rowS l).1.first ≠ 0 then picks l (rowS l).1.first.toNat (rowS l).1.step.toNat (cnt (rowS l).1.first.toNat (rowS l).1.step.toNat (lastK (rowS l).1 l.length)) else []
/- a request that is not refused -/
structure Good (l : List Tab.Bs) (r : Sc) : Prop where
  row : rowS l = (r, [])
  ok : okB r = true
  okk : okK r = true
  fnd : fnd ((nameOf l).map low) = (r, true)
  fit : fitsB r.arity l.length = true
theorem good_or (l : List Tab.Bs) : (∃ r, Good l r) ∨ ((rowS l).1 = noSc ∧ checkS l ≠ []) := by
  obtain ⟨r, b, h⟩ : ∃ r b, fnd ((nameOf l).map low) = (r, b) := ⟨_, _, rfl⟩
  have hk : b = true → okK r = true := fun hb => by
    unfold FindP.fnd at h
    cases hf : findR ((nameOf l).map low) with
    | none => rw [hf] at h; simp at h; rw [h.2] at hb; cases hb
    | some x =>
      rw [hf] at h
      simp at h
      rw [← h.1]
      exact List.all_eq_true.1 all_okK x (find_mem hf).1
  have ho := fnd_ok ((nameOf l).map low)
  rw [h] at ho
  unfold checkS rowS
  cases b with
  | false => exact .inr (by rw [h]; exact ⟨rfl, by simp [unk]⟩)
  | true =>
    have hq := (ho.resolve_right (fun q => by cases q.1)).2
    cases hf : fitsB r.arity l.length with
    | true => exact .inl ⟨r, by unfold rowS; rw [h]; simp [hf], hq, hk rfl, h, hf⟩
    | false => exact .inr (by rw [h]; simp [hf, art])
theorem Good.check {l : List Tab.Bs} {r : Sc} (h : Good l r) : checkS l = [] := by unfold checkS; rw [h.row]
theorem Good.keys {l : List Tab.Bs} {r : Sc} (h : Good l r) : keysS l = if r.first ≠ 0 then picks l r.first.toNat r.step.toNat (cnt r.first.toNat r.step.toNat (lastK r l.length)) else [] := by
  unfold keysS
  rw [h.check, h.row]
  simp
theorem bad_keys {l : List Tab.Bs} (h : checkS l ≠ []) : keysS l = [] := by unfold keysS; rw [if_neg (fun q => h q.1)]
theorem Good.pos {l : List Tab.Bs} {r : Sc} (h : Good l r) : 0 < l.length := by
  have h1 := ok_of h.ok
  have h2 := h.fit
  unfold fitsB at h2
  split at h2
  · have := of_decide_eq_true h2; omega
  · have := of_decide_eq_true h2; omega
theorem Good.last {l : List Tab.Bs} {r : Sc} (h : Good l r) (hf : r.first ≠ 0) : 1 ≤ r.first ∧ 1 ≤ r.step ∧ lastK r l.length < l.length ∧ (r.last < 0 → r.last = -1) := by
  have h1 : r.first = 0 ∨ (1 ≤ r.first ∧ 1 ≤ r.step ∧ (r.last < 0 → r.last = -1) ∧ (0 ≤ r.last → r.last < r.arity ∨ r.last < -r.arity)) := of_decide_eq_true h.okk
  obtain ⟨q1, q2, q3, q4⟩ := h1.resolve_left hf
  refine ⟨q1, q2, ?_, q3⟩
  unfold lastK
  have h2 := h.fit
  unfold fitsB at h2
  split
  · rename_i hl; have := q3 hl; omega
  · rename_i hl
    have q5 := q4 (by omega)
    split at h2
    · have := of_decide_eq_true h2; omega
    · have := of_decide_eq_true h2; omega
theorem box_sc {w : World} (r : Sc) : (w.alloc (.cells #[.string (mk r.name), .int .i64 r.arity, .bool r.wr, .bool r.ct, .int .i64 r.first, .int .i64 r.last, .int .i64 r.step] 23)).heap[w.heap.size]? = some (.cells (cellsS r).toArray 23 (0, 0)) := heap_alloc_new w _
def KeysE (w : World) (l : List Tab.Bs) (e : Ending) (w' : World) : Prop := ∃ v, e = .returned v ∧ NR w.heap.size w' v (keysS l) ∧ Below w.heap.size w w'
set_option maxHeartbeats 8000000 in
set_option maxRecDepth 100000 in
theorem keys_call {G : Nat → Prop} {w : World} {v : Value} {l : List Tab.Bs} (h : SL G w v l) (hl : l.length * 16 ≤ 140737488355328) (hb : ∀ x ∈ l, x.length < 9223372036854775808) :
    Calls Try.prog 17 #[v] w (KeysE w l) := by
  have HR0 := hid_of (rowOf_call h (by omega) hb)
  obtain ⟨a, c, rfl, hc, hr⟩ := h
  obtain ⟨L, HL⟩ : ∃ L, Hid (L = l.length) := ⟨_, hid_of rfl⟩
  rcases good_or l with ⟨r, G0⟩ | ⟨h1, h2⟩
  · have hpos := G0.pos
    unfold rowV valS cellsS at HR0
    rw [G0.row] at HR0
    rw [← HL.out] at hl HR0 ⊢
    clear hc hb
    have HT : Hid (∀ w1, Below w.heap.size w w1 → Below w.heap.size w (w1.alloc (.cells #[.string (mk r.name), .int .i64 r.arity, .bool r.wr, .bool r.ct, .int .i64 r.first, .int .i64 r.last, .int .i64 r.step] 23))) := hid_of fun w1 b => b.alloc b.size _
    by_cases hf : r.first = 0
    · have HKe : Hid (keysS l = []) := hid_of (by rw [G0.keys, if_neg (by simpa using hf)])
      rw [hf] at HR0 HT
      clear hr G0
      go_enter Try.func17, Try.ntmps17
      go_wp2_with fail
      refine HR0.out.mono ?_
      rintro e w1 ⟨rfl, b1⟩
      have HB := hid_of (HT.out w1 b1)
      rw [show mk [] = ⟨#[]⟩ from rfl]
      clear b1
      go_wp2_with fail
      go_ret
      exact ⟨_, rfl, by rw [HKe.out]; exact .inl ⟨rfl, rfl⟩, HB.out⟩
    · obtain ⟨g, o, rfl, _, hce⟩ := Rd.get hr hpos
      have hfi := G0.last hf
      obtain ⟨F, hF⟩ : ∃ F : Nat, F = r.first.toNat := ⟨_, rfl⟩
      obtain ⟨S, hS⟩ : ∃ S : Nat, S = r.step.toNat := ⟨_, rfl⟩
      obtain ⟨la, hla⟩ : ∃ la : Int, la = lastK r l.length := ⟨_, rfl⟩
      have eF : r.first = (F : Int) := by omega
      have eS : r.step = (S : Int) := by omega
      have hF1 : 1 ≤ F := by omega
      have hS1 : 1 ≤ S := by omega
      have hq := ok_of G0.ok
      have hlan : la < (L : Int) := by rw [hla, HL.out]; exact hfi.2.2.1
      have hF5 : F ≤ 2 := by omega
      have hS5 : S ≤ 2 := by omega
      have hla5 : -1 ≤ la := by rw [hla]; unfold lastK; split <;> omega
      have HC := hid_of (fun k => cnt_iff (F := F) (S := S) (la := la) hS1 k)
      have HKe : Hid (keysS l = picks l F S (cnt F S la)) := hid_of (by rw [G0.keys, if_pos hf, hF, hS, hla])
      have HLa : Hid (la = if r.last < 0 then r.last + (L : Int) else r.last) := hid_of (by rw [hla, HL.out]; rfl)
      have hlr : -1 ≤ r.last ∧ r.last ≤ 2 := ⟨hq.2.2.2.2.2.1, hq.2.2.2.2.2.2.1⟩
      obtain ⟨C, hC⟩ : ∃ C, C = cnt F S la := ⟨_, rfl⟩
      rw [← hC] at HC HKe
      have hCL : C ≤ L := by
        rcases Nat.eq_zero_or_pos C with q | q
        · omega
        · have := (HC.out (C - 1)).1 (by omega)
          have h2 : C - 1 ≤ (C - 1) * S := Nat.le_mul_of_pos_right _ hS1
          omega
      have HCe : Hid (∀ V, Below w.heap.size w V → ∀ j, j < L → V.cell? ⟨g, o + j, none⟩ = some (.string (mk (l.getD j [])))) := hid_of fun V b j hj => by
        rw [HL.out] at hj
        have h1 := hce j l[j] (List.getElem?_eq_getElem hj)
        rw [List.getD_eq_getElem?_getD, List.getElem?_eq_getElem hj]
        exact (b.cell (p := ⟨g, o + j, none⟩) (cell_lt h1)).trans h1
      have HeS := hid_of eS
      obtain ⟨lw, hlw⟩ : ∃ lw, lw = r.last := ⟨_, rfl⟩
      have HBX : Hid ((cellsS r).toArray = #[.string (mk r.name), .int .i64 r.arity, .bool r.wr, .bool r.ct, .int .i64 (F : Int), .int .i64 lw, .int .i64 (S : Int)]) := hid_of (by unfold cellsS; rw [eF, eS, hlw])
      rw [eF, eS, ← hlw] at HR0 HT
      go_enter Try.func17, Try.ntmps17
      go_wp2_with fail
      refine HR0.out.mono ?_
      rintro e w1 ⟨rfl, b1⟩
      rw [show mk [] = ⟨#[]⟩ from rfl]
      obtain ⟨w2, hw2⟩ : ∃ w2, w2 = w1.alloc (.cells #[.string (mk r.name), .int .i64 r.arity, .bool r.wr, .bool r.ct, .int .i64 (F : Int), .int .i64 lw, .int .i64 (S : Int)] 23) := ⟨_, rfl⟩
      have HBW : Hid (Below w.heap.size w w2) := hid_of (by rw [hw2]; exact HT.out w1 b1)
      have HR2' : Hid (w2.heap[w1.heap.size]? = some (.cells (cellsS r).toArray 23 (0, 0))) := hid_of (by rw [HBX.out, hw2]; exact heap_alloc_new w1 _)
      have HW2 := hid_of hw2
      obtain ⟨R, hR⟩ : ∃ R, R = w1.heap.size := ⟨_, rfl⟩
      have HR := hid_of hR
      rw [← hR] at HR2'
      have HR2 := HR2'
      clear hw2 b1 hR HR2' HT HR0
      obtain ⟨B, HBs⟩ : ∃ B, Hid (B = w2.heap.size) := ⟨_, hid_of rfl⟩
      obtain ⟨⟨d0, d1, d2, d3, d4, d5, d6⟩, _⟩ := box7 HR2.out
      rw [eF] at d4
      rw [eS] at d6
      rw [← hlw] at d5 HLa hlr
      have n0 : ((F : Int) == 0) = false := by simp; omega
      clear hq hfi hla hF hS eF eS hce hf hlw hC d0 d1 d2 d3
      by_cases hneg : lw < 0
      · have hz : lw = -1 := by omega
        have wl : IntKind.i64.wrap (lw + (L : Int)) = la := by rw [HLa.out, if_pos hneg]; exact IntWalk.i64_in _ (by omega)
        clear hz
        go_wp2_with fail
        rw [← HW2.out, ← HR.out]
        go_loopg [6, 7] (C + 1) (fun gk v6 v7 wx => ∃ (k : Nat) (ra : Option Addr) (rc : Nat), k ≤ C ∧ C + 1 ≤ k + gk ∧ v6 = .slice ra k rc ∧ v7 = .int .i64 ((F + k * S : Nat) : Int) ∧ Hid (NR B wx (.slice ra k rc) (picks l F S k) ∧ Below B w2 wx))
        case atStart => exact ⟨0, none, 0, by omega, by omega, rfl, by simp, hid_of ⟨.inl ⟨rfl, rfl⟩, Below.refl _ _⟩⟩
        case round =>
          obtain ⟨k, ra, rc, hk, hgk, rfl, rfl, I⟩ := hrel
          obtain ⟨x, HX⟩ : ∃ x : Nat, Hid (x = F + k * S) := ⟨_, hid_of rfl⟩
          rw [← HX.out]
          have hBw : Below w.heap.size w wr := HBW.out.trans (I.out.2.mono (by rw [HBs.out]; exact HBW.out.size))
          have hbx := (I.out.2.block R (by rw [HBs.out]; exact lt_of HR2.out)).trans HR2.out
          obtain ⟨⟨y0, y1, y2, y3, y4, y5, y6⟩, _⟩ := box7 hbx
          rw [HeS.out] at y6
          have hx1 : 1 ≤ x := by rw [HX.out]; omega
          by_cases hlt : k < C
          · obtain ⟨g', rfl⟩ : ∃ g', gk = g' + 1 := ⟨gk - 1, by omega⟩
            have hle : (x : Int) ≤ la := by rw [HX.out]; exact (HC.out k).1 hlt
            have hxL : x < L := by omega
            have c1 := HCe.out wr hBw x hxL
            have hkL : k < L := by omega
            obtain ⟨v4, w4, hr4, row4, b4⟩ := app_one (l.getD x []) I.out.1 (by rw [picks_len]; omega) (Nat.le_trans (Nat.le_of_eq HBs.out) I.out.2.size) 32
            obtain ⟨ra4, rc4, rfl, _⟩ := row4.shape
            have hpk : picks l F S k ++ [l.getD x []] = picks l F S (k + 1) := by rw [picks_succ, HX.out]
            rw [hpk, picks_len] at hr4 row4
            have hbx4 := (b4.block R (by rw [HBs.out]; exact lt_of HR2.out)).trans hbx
            obtain ⟨⟨z0, z1, z2, z3, z4, z5, z6⟩, _⟩ := box7 hbx4
            rw [HeS.out] at z6
            have R4 := hid_of (And.intro row4 (I.out.2.trans b4))
            obtain ⟨x2, HX2⟩ : ∃ x2 : Nat, Hid (x2 = F + (k + 1) * S) := ⟨_, hid_of rfl⟩
            have e2 : (x : Int) + (S : Int) = (x2 : Int) := by have := HX.out; have := HX2.out; have q := Nat.add_mul k 1 S; omega
            have w2' : IntKind.i64.wrap ((x : Int) + (S : Int)) = (x2 : Int) := by rw [e2]; exact IntWalk.i64_in _ (by omega)
            have d1 : decide ((x : Int) ≤ la) = true := decide_eq_true hle
            have d2 : decide ((x : Int) < (L : Int)) = true := decide_eq_true (by omega)
            have d2n : decide (x < L) = true := decide_eq_true hxL
            have d3 : decide ((0 : Int) < (x : Int)) = true := decide_eq_true (by omega)
            have d3n : decide (0 < x) = true := decide_eq_true (by omega)
            simp only [V] at hr4
            generalize mk (l.getD x []) = X at *
            clear row4 b4 hbx hbx4 hBw hpk z0 z1 z2 z3 z4 z5 y0 y1 y2 y3 y4 y5 e2 hle
            go_wp2_with (first
              | (at_builtin; refine wpl_eq rfl _ _ 32 32 rfl (.slice ra k rc) (.slice (some ⟨wr.heap.size, 0, none⟩) 1 1) (.slice ra4 (k + 1) rc4) _ w4 rfl rfl hr4 ?_)
              | go_in)
            go_roundg g'
            case measure => omega
            case rel => exact ⟨k + 1, ra4, rc4, by omega, by omega, rfl, by rw [HX2.out], R4⟩
          · have hkC : k = C := by omega
            have hle : ¬ (x : Int) ≤ la := fun q => hlt ((HC.out k).2 (by rw [← HX.out]; exact q))
            have d1 : decide ((x : Int) ≤ la) = false := decide_eq_false hle
            have d3 : decide ((0 : Int) < (x : Int)) = true := decide_eq_true (by omega)
            have d3n : decide (0 < x) = true := decide_eq_true (by omega)
            have HF := hid_of (And.intro hkC hBw)
            clear hkC hle hbx hBw y0 y1 y2 y3 y4 y5
            go_wp2_with fail
            go_ret
            refine ⟨_, rfl, ?_, HF.out.2⟩
            rw [HKe.out, ← HF.out.1]
            exact I.out.1.mono (by rw [HBs.out]; exact HBW.out.size)
      · have hz : la = lw := by rw [HLa.out, if_neg hneg]
        clear HLa
        subst hz
        go_wp2_with fail
        rw [← HW2.out, ← HR.out]
        go_loopg [6, 7] (C + 1) (fun gk v6 v7 wx => ∃ (k : Nat) (ra : Option Addr) (rc : Nat), k ≤ C ∧ C + 1 ≤ k + gk ∧ v6 = .slice ra k rc ∧ v7 = .int .i64 ((F + k * S : Nat) : Int) ∧ Hid (NR B wx (.slice ra k rc) (picks l F S k) ∧ Below B w2 wx))
        case atStart => exact ⟨0, none, 0, by omega, by omega, rfl, by simp, hid_of ⟨.inl ⟨rfl, rfl⟩, Below.refl _ _⟩⟩
        case round =>
          obtain ⟨k, ra, rc, hk, hgk, rfl, rfl, I⟩ := hrel
          obtain ⟨x, HX⟩ : ∃ x : Nat, Hid (x = F + k * S) := ⟨_, hid_of rfl⟩
          rw [← HX.out]
          have hBw : Below w.heap.size w wr := HBW.out.trans (I.out.2.mono (by rw [HBs.out]; exact HBW.out.size))
          have hbx := (I.out.2.block R (by rw [HBs.out]; exact lt_of HR2.out)).trans HR2.out
          obtain ⟨⟨y0, y1, y2, y3, y4, y5, y6⟩, _⟩ := box7 hbx
          rw [HeS.out] at y6
          have hx1 : 1 ≤ x := by rw [HX.out]; omega
          by_cases hlt : k < C
          · obtain ⟨g', rfl⟩ : ∃ g', gk = g' + 1 := ⟨gk - 1, by omega⟩
            have hle : (x : Int) ≤ la := by rw [HX.out]; exact (HC.out k).1 hlt
            have hxL : x < L := by omega
            have c1 := HCe.out wr hBw x hxL
            have hkL : k < L := by omega
            obtain ⟨v4, w4, hr4, row4, b4⟩ := app_one (l.getD x []) I.out.1 (by rw [picks_len]; omega) (Nat.le_trans (Nat.le_of_eq HBs.out) I.out.2.size) 32
            obtain ⟨ra4, rc4, rfl, _⟩ := row4.shape
            have hpk : picks l F S k ++ [l.getD x []] = picks l F S (k + 1) := by rw [picks_succ, HX.out]
            rw [hpk, picks_len] at hr4 row4
            have hbx4 := (b4.block R (by rw [HBs.out]; exact lt_of HR2.out)).trans hbx
            obtain ⟨⟨z0, z1, z2, z3, z4, z5, z6⟩, _⟩ := box7 hbx4
            rw [HeS.out] at z6
            have R4 := hid_of (And.intro row4 (I.out.2.trans b4))
            obtain ⟨x2, HX2⟩ : ∃ x2 : Nat, Hid (x2 = F + (k + 1) * S) := ⟨_, hid_of rfl⟩
            have e2 : (x : Int) + (S : Int) = (x2 : Int) := by have := HX.out; have := HX2.out; have q := Nat.add_mul k 1 S; omega
            have w2' : IntKind.i64.wrap ((x : Int) + (S : Int)) = (x2 : Int) := by rw [e2]; exact IntWalk.i64_in _ (by omega)
            have d1 : decide ((x : Int) ≤ la) = true := decide_eq_true hle
            have d2 : decide ((x : Int) < (L : Int)) = true := decide_eq_true (by omega)
            have d2n : decide (x < L) = true := decide_eq_true hxL
            have d3 : decide ((0 : Int) < (x : Int)) = true := decide_eq_true (by omega)
            have d3n : decide (0 < x) = true := decide_eq_true (by omega)
            simp only [V] at hr4
            generalize mk (l.getD x []) = X at *
            clear row4 b4 hbx hbx4 hBw hpk z0 z1 z2 z3 z4 z5 y0 y1 y2 y3 y4 y5 e2 hle
            go_wp2_with (first
              | (at_builtin; refine wpl_eq rfl _ _ 32 32 rfl (.slice ra k rc) (.slice (some ⟨wr.heap.size, 0, none⟩) 1 1) (.slice ra4 (k + 1) rc4) _ w4 rfl rfl hr4 ?_)
              | go_in)
            go_roundg g'
            case measure => omega
            case rel => exact ⟨k + 1, ra4, rc4, by omega, by omega, rfl, by rw [HX2.out], R4⟩
          · have hkC : k = C := by omega
            have hle : ¬ (x : Int) ≤ la := fun q => hlt ((HC.out k).2 (by rw [← HX.out]; exact q))
            have d1 : decide ((x : Int) ≤ la) = false := decide_eq_false hle
            have d3 : decide ((0 : Int) < (x : Int)) = true := decide_eq_true (by omega)
            have d3n : decide (0 < x) = true := decide_eq_true (by omega)
            have HF := hid_of (And.intro hkC hBw)
            clear hkC hle hbx hBw y0 y1 y2 y3 y4 y5
            go_wp2_with fail
            go_ret
            refine ⟨_, rfl, ?_, HF.out.2⟩
            rw [HKe.out, ← HF.out.1]
            exact I.out.1.mono (by rw [HBs.out]; exact HBW.out.size)
  · have HKe := hid_of (bad_keys h2)
    unfold rowV valS cellsS at HR0
    rw [h1] at HR0
    obtain ⟨X, hX⟩ : ∃ X, X = mk (rowS l).2 := ⟨_, rfl⟩
    have hx : X.toList.isEmpty = false := by
      rw [hX, mk_list]
      unfold checkS at h2
      cases hq : (rowS l).2 with
      | nil => exact absurd hq h2
      | cons a b => rfl
    have hx2 : (X.toList == []) = false := by
      rw [hX, mk_list]
      unfold checkS at h2
      cases hq : (rowS l).2 with
      | nil => exact absurd hq h2
      | cons a b => rfl
    rw [← hX] at HR0
    rw [← HL.out] at HR0 ⊢
    clear hc hb hr h1 h2 hX
    generalize mk noSc.name = NM at *
    go_enter Try.func17, Try.ntmps17
    go_wp2_with fail
    refine HR0.out.mono ?_
    rintro e w1 ⟨rfl, b1⟩
    have HB := hid_of b1
    clear b1
    go_wp2_with fail
    go_ret
    exact ⟨_, rfl, by rw [HKe.out]; exact .inl ⟨rfl, rfl⟩, HB.out.alloc HB.out.size _⟩
set_option maxHeartbeats 8000000 in
set_option maxRecDepth 100000 in
theorem rkeys_call {G : Nat → Prop} {w : World} {v : Value} {l : List Tab.Bs} (h : SL G w v l) (hl : l.length * 16 ≤ 140737488355328) (hb : ∀ x ∈ l, x.length < 9223372036854775808) :
    Calls Try.prog 19 #[v] w (KeysE w l) := by
  have HR0 := hid_of (rcheck_call h (by omega) hb)
  obtain ⟨a, c, rfl, hc, hr⟩ := h
  obtain ⟨L, HL⟩ : ∃ L, Hid (L = l.length) := ⟨_, hid_of rfl⟩
  rcases good_or l with ⟨r, G0⟩ | ⟨h1, h2⟩
  · have hpos := G0.pos
    rw [G0.check] at HR0
    obtain ⟨n, hn⟩ : ∃ n, n = nameOf l := ⟨_, rfl⟩
    have hnl : n.length < 9223372036854775808 := by
      rw [hn]; unfold nameOf
      cases l with
      | nil => simp
      | cons x r => exact hb x (by simp)
    have HF : Hid (∀ w, Calls Try.prog 9 #[.string (mk n)] w fun e w' => e = .returned (.tuple #[.agg #[.string (mk r.name), .int .i64 r.arity, .bool r.wr, .bool r.ct, .int .i64 r.first, .int .i64 r.last, .int .i64 r.step], .bool true]) ∧ Below w.heap.size w w') := hid_of fun w => by
      have := rfind_call n w hnl
      unfold findV at this
      rw [hn, G0.fnd, ← hn] at this
      exact this
    have HN0 : Hid (∀ V, Below w.heap.size w V → ∃ g o, a = some ⟨g, o, none⟩ ∧ V.cell? ⟨g, o, none⟩ = some (.string (mk n))) := hid_of fun V bV => by
      obtain ⟨g, o, rfl, _, q⟩ := Rd.get hr hpos
      cases l with
      | nil => simp at hpos
      | cons x t =>
        have hx := q 0 x rfl
        refine ⟨g, o, rfl, ?_⟩
        rw [hn]
        exact (bV.cell (p := ⟨g, o, none⟩) (cell_lt hx)).trans hx
    have hposL : 0 < L := by rw [HL.out]; exact hpos
    rw [← HL.out] at hl HR0 ⊢
    generalize mk n = N at *
    clear hc hb hnl hn
    have HT : Hid (∀ w1, Below w.heap.size w w1 → Below w.heap.size w (w1.alloc (.cells #[.string (mk r.name), .int .i64 r.arity, .bool r.wr, .bool r.ct, .int .i64 r.first, .int .i64 r.last, .int .i64 r.step] 23))) := hid_of fun w1 b => b.alloc b.size _
    by_cases hf : r.first = 0
    · have HKe : Hid (keysS l = []) := hid_of (by rw [G0.keys, if_neg (by simpa using hf)])
      have hq := ok_of G0.ok
      have hlr : -1 ≤ r.last ∧ r.last ≤ 2 := ⟨hq.2.2.2.2.2.1, hq.2.2.2.2.2.2.1⟩
      have wl : IntKind.i64.wrap (r.last + (L : Int)) = r.last + (L : Int) := IntWalk.i64_in _ (by omega)
      rw [hf] at HF HT
      clear hr G0 hq
      go_enter Try.func19, Try.ntmps19
      go_wp2_with fail
      refine HR0.out.mono ?_
      rintro e w0 ⟨rfl, b0⟩
      rw [show mk [] = ⟨#[]⟩ from rfl]
      obtain ⟨g, o, rfl, c0⟩ := HN0.out w0 b0
      have HB0 := hid_of b0
      clear b0
      go_wp2_with fail
      refine (HF.out _).mono ?_
      rintro e w1 ⟨rfl, b1⟩
      have HB := hid_of (HT.out w1 (HB0.out.trans (b1.mono HB0.out.size)))
      clear b1
      by_cases hneg : r.last < 0
      · go_wp2_with fail
        go_loopg [3, 7] 1 (fun gk s3 s7 wx => s3 = .slice none 0 0 ∧ s7 = .int .i64 0 ∧ Hid (Below w.heap.size w wx))
        case atStart => exact ⟨rfl, rfl, HB⟩
        case round =>
          obtain ⟨rfl, rfl, I⟩ := hrel
          go_wp2_with fail
          go_ret
          exact ⟨_, rfl, by rw [HKe.out]; exact .inl ⟨rfl, rfl⟩, I.out⟩
      · go_wp2_with fail
        go_loopg [3, 7] 1 (fun gk s3 s7 wx => s3 = .slice none 0 0 ∧ s7 = .int .i64 0 ∧ Hid (Below w.heap.size w wx))
        case atStart => exact ⟨rfl, rfl, HB⟩
        case round =>
          obtain ⟨rfl, rfl, I⟩ := hrel
          go_wp2_with fail
          go_ret
          exact ⟨_, rfl, by rw [HKe.out]; exact .inl ⟨rfl, rfl⟩, I.out⟩
    · obtain ⟨g, o, rfl, _, hce⟩ := Rd.get hr hpos
      have hfi := G0.last hf
      obtain ⟨F, hF⟩ : ∃ F : Nat, F = r.first.toNat := ⟨_, rfl⟩
      obtain ⟨S, hS⟩ : ∃ S : Nat, S = r.step.toNat := ⟨_, rfl⟩
      obtain ⟨la, hla⟩ : ∃ la : Int, la = lastK r l.length := ⟨_, rfl⟩
      have eF : r.first = (F : Int) := by omega
      have eS : r.step = (S : Int) := by omega
      have hF1 : 1 ≤ F := by omega
      have hS1 : 1 ≤ S := by omega
      have hq := ok_of G0.ok
      have hlan : la < (L : Int) := by rw [hla, HL.out]; exact hfi.2.2.1
      have hF5 : F ≤ 2 := by omega
      have hS5 : S ≤ 2 := by omega
      have hla5 : -1 ≤ la := by rw [hla]; unfold lastK; split <;> omega
      have HC := hid_of (fun k => cnt_iff (F := F) (S := S) (la := la) hS1 k)
      have HKe : Hid (keysS l = picks l F S (cnt F S la)) := hid_of (by rw [G0.keys, if_pos hf, hF, hS, hla])
      have HLa : Hid (la = if r.last < 0 then r.last + (L : Int) else r.last) := hid_of (by rw [hla, HL.out]; rfl)
      have hlr : -1 ≤ r.last ∧ r.last ≤ 2 := ⟨hq.2.2.2.2.2.1, hq.2.2.2.2.2.2.1⟩
      obtain ⟨C, hC⟩ : ∃ C, C = cnt F S la := ⟨_, rfl⟩
      rw [← hC] at HC HKe
      have hCL : C ≤ L := by
        rcases Nat.eq_zero_or_pos C with q | q
        · omega
        · have := (HC.out (C - 1)).1 (by omega)
          have h2 : C - 1 ≤ (C - 1) * S := Nat.le_mul_of_pos_right _ hS1
          omega
      have HCe : Hid (∀ V, Below w.heap.size w V → ∀ j, j < L → V.cell? ⟨g, o + j, none⟩ = some (.string (mk (l.getD j [])))) := hid_of fun V b j hj => by
        rw [HL.out] at hj
        have h1 := hce j l[j] (List.getElem?_eq_getElem hj)
        rw [List.getD_eq_getElem?_getD, List.getElem?_eq_getElem hj]
        exact (b.cell (p := ⟨g, o + j, none⟩) (cell_lt h1)).trans h1
      have HeS := hid_of eS
      obtain ⟨lw, hlw⟩ : ∃ lw, lw = r.last := ⟨_, rfl⟩
      have HBX : Hid ((cellsS r).toArray = #[.string (mk r.name), .int .i64 r.arity, .bool r.wr, .bool r.ct, .int .i64 (F : Int), .int .i64 lw, .int .i64 (S : Int)]) := hid_of (by unfold cellsS; rw [eF, eS, hlw])
      rw [eF, eS, ← hlw] at HF HT
      obtain ⟨g2, o2, eg, c0'⟩ := HN0.out w (Below.refl _ _)
      injection eg with eg
      injection eg with eg1 eg2
      subst eg1
      subst eg2
      have HN1 : Hid (∀ V, Below w.heap.size w V → V.cell? ⟨g, o, none⟩ = some (.string N)) := hid_of fun V b => (b.cell (p := ⟨g, o, none⟩) (cell_lt c0')).trans c0'
      clear c0' HN0
      go_enter Try.func19, Try.ntmps19
      go_wp2_with fail
      refine HR0.out.mono ?_
      rintro e w0 ⟨rfl, b0⟩
      rw [show mk [] = ⟨#[]⟩ from rfl]
      have c0 := HN1.out w0 b0
      have HB0 := hid_of b0
      clear b0
      go_wp2_with fail
      refine (HF.out _).mono ?_
      rintro e w1 ⟨rfl, b1⟩
      obtain ⟨w2, hw2⟩ : ∃ w2, w2 = w1.alloc (.cells #[.string (mk r.name), .int .i64 r.arity, .bool r.wr, .bool r.ct, .int .i64 (F : Int), .int .i64 lw, .int .i64 (S : Int)] 23) := ⟨_, rfl⟩
      have HBW : Hid (Below w.heap.size w w2) := hid_of (by rw [hw2]; exact HT.out w1 (HB0.out.trans (b1.mono HB0.out.size)))
      have HR2' : Hid (w2.heap[w1.heap.size]? = some (.cells (cellsS r).toArray 23 (0, 0))) := hid_of (by rw [HBX.out, hw2]; exact heap_alloc_new w1 _)
      have HW2 := hid_of hw2
      obtain ⟨R, hR⟩ : ∃ R, R = w1.heap.size := ⟨_, rfl⟩
      have HR := hid_of hR
      rw [← hR] at HR2'
      have HR2 := HR2'
      clear hw2 b1 hR HR2' HT HR0 c0
      obtain ⟨B, HBs⟩ : ∃ B, Hid (B = w2.heap.size) := ⟨_, hid_of rfl⟩
      obtain ⟨⟨d0, d1, d2, d3, d4, d5, d6⟩, _⟩ := box7 HR2.out
      rw [eF] at d4
      rw [eS] at d6
      rw [← hlw] at d5 HLa hlr
      have n0 : ((F : Int) == 0) = false := by simp; omega
      clear hq hfi hla hF hS eF eS hce hf hlw hC d0 d1 d2 d3
      by_cases hneg : lw < 0
      · have hz : lw = -1 := by omega
        have wl : IntKind.i64.wrap (lw + (L : Int)) = la := by rw [HLa.out, if_pos hneg]; exact IntWalk.i64_in _ (by omega)
        clear hz
        go_wp2_with fail
        rw [← HW2.out, ← HR.out]
        go_loopg [3, 7] (C + 1) (fun gk v6 v7 wx => ∃ (k : Nat) (ra : Option Addr) (rc : Nat), k ≤ C ∧ C + 1 ≤ k + gk ∧ v6 = .slice ra k rc ∧ v7 = .int .i64 ((F + k * S : Nat) : Int) ∧ Hid (NR B wx (.slice ra k rc) (picks l F S k) ∧ Below B w2 wx))
        case atStart => exact ⟨0, none, 0, by omega, by omega, rfl, by simp, hid_of ⟨.inl ⟨rfl, rfl⟩, Below.refl _ _⟩⟩
        case round =>
          obtain ⟨k, ra, rc, hk, hgk, rfl, rfl, I⟩ := hrel
          obtain ⟨x, HX⟩ : ∃ x : Nat, Hid (x = F + k * S) := ⟨_, hid_of rfl⟩
          rw [← HX.out]
          have hBw : Below w.heap.size w wr := HBW.out.trans (I.out.2.mono (by rw [HBs.out]; exact HBW.out.size))
          have hbx := (I.out.2.block R (by rw [HBs.out]; exact lt_of HR2.out)).trans HR2.out
          obtain ⟨⟨y0, y1, y2, y3, y4, y5, y6⟩, _⟩ := box7 hbx
          rw [HeS.out] at y6
          have hx1 : 1 ≤ x := by rw [HX.out]; omega
          by_cases hlt : k < C
          · obtain ⟨g', rfl⟩ : ∃ g', gk = g' + 1 := ⟨gk - 1, by omega⟩
            have hle : (x : Int) ≤ la := by rw [HX.out]; exact (HC.out k).1 hlt
            have hxL : x < L := by omega
            have c1 := HCe.out wr hBw x hxL
            have hkL : k < L := by omega
            obtain ⟨v4, w4, hr4, row4, b4⟩ := app_one (l.getD x []) I.out.1 (by rw [picks_len]; omega) (Nat.le_trans (Nat.le_of_eq HBs.out) I.out.2.size) 32
            obtain ⟨ra4, rc4, rfl, _⟩ := row4.shape
            have hpk : picks l F S k ++ [l.getD x []] = picks l F S (k + 1) := by rw [picks_succ, HX.out]
            rw [hpk, picks_len] at hr4 row4
            have hbx4 := (b4.block R (by rw [HBs.out]; exact lt_of HR2.out)).trans hbx
            obtain ⟨⟨z0, z1, z2, z3, z4, z5, z6⟩, _⟩ := box7 hbx4
            rw [HeS.out] at z6
            have R4 := hid_of (And.intro row4 (I.out.2.trans b4))
            obtain ⟨x2, HX2⟩ : ∃ x2 : Nat, Hid (x2 = F + (k + 1) * S) := ⟨_, hid_of rfl⟩
            have e2 : (x : Int) + (S : Int) = (x2 : Int) := by have := HX.out; have := HX2.out; have q := Nat.add_mul k 1 S; omega
            have w2' : IntKind.i64.wrap ((x : Int) + (S : Int)) = (x2 : Int) := by rw [e2]; exact IntWalk.i64_in _ (by omega)
            have d1 : decide ((x : Int) ≤ la) = true := decide_eq_true hle
            have d2 : decide ((x : Int) < (L : Int)) = true := decide_eq_true (by omega)
            have d2n : decide (x < L) = true := decide_eq_true hxL
            have d3 : decide ((0 : Int) < (x : Int)) = true := decide_eq_true (by omega)
            have d3n : decide (0 < x) = true := decide_eq_true (by omega)
            simp only [V] at hr4
            generalize mk (l.getD x []) = X at *
            clear row4 b4 hbx hbx4 hBw hpk z0 z1 z2 z3 z4 z5 y0 y1 y2 y3 y4 y5 e2 hle
            go_wp2_with (first
              | (at_builtin; refine wpl_eq rfl _ _ 32 32 rfl (.slice ra k rc) (.slice (some ⟨wr.heap.size, 0, none⟩) 1 1) (.slice ra4 (k + 1) rc4) _ w4 rfl rfl hr4 ?_)
              | go_in)
            go_roundg g'
            case measure => omega
            case rel => exact ⟨k + 1, ra4, rc4, by omega, by omega, rfl, by rw [HX2.out], R4⟩
          · have hkC : k = C := by omega
            have hle : ¬ (x : Int) ≤ la := fun q => hlt ((HC.out k).2 (by rw [← HX.out]; exact q))
            have d1 : decide ((x : Int) ≤ la) = false := decide_eq_false hle
            have d3 : decide ((0 : Int) < (x : Int)) = true := decide_eq_true (by omega)
            have d3n : decide (0 < x) = true := decide_eq_true (by omega)
            have HF := hid_of (And.intro hkC hBw)
            clear hkC hle hbx hBw y0 y1 y2 y3 y4 y5
            go_wp2_with fail
            go_ret
            refine ⟨_, rfl, ?_, HF.out.2⟩
            rw [HKe.out, ← HF.out.1]
            exact I.out.1.mono (by rw [HBs.out]; exact HBW.out.size)
      · have hz : la = lw := by rw [HLa.out, if_neg hneg]
        clear HLa
        subst hz
        go_wp2_with fail
        rw [← HW2.out, ← HR.out]
        go_loopg [3, 7] (C + 1) (fun gk v6 v7 wx => ∃ (k : Nat) (ra : Option Addr) (rc : Nat), k ≤ C ∧ C + 1 ≤ k + gk ∧ v6 = .slice ra k rc ∧ v7 = .int .i64 ((F + k * S : Nat) : Int) ∧ Hid (NR B wx (.slice ra k rc) (picks l F S k) ∧ Below B w2 wx))
        case atStart => exact ⟨0, none, 0, by omega, by omega, rfl, by simp, hid_of ⟨.inl ⟨rfl, rfl⟩, Below.refl _ _⟩⟩
        case round =>
          obtain ⟨k, ra, rc, hk, hgk, rfl, rfl, I⟩ := hrel
          obtain ⟨x, HX⟩ : ∃ x : Nat, Hid (x = F + k * S) := ⟨_, hid_of rfl⟩
          rw [← HX.out]
          have hBw : Below w.heap.size w wr := HBW.out.trans (I.out.2.mono (by rw [HBs.out]; exact HBW.out.size))
          have hbx := (I.out.2.block R (by rw [HBs.out]; exact lt_of HR2.out)).trans HR2.out
          obtain ⟨⟨y0, y1, y2, y3, y4, y5, y6⟩, _⟩ := box7 hbx
          rw [HeS.out] at y6
          have hx1 : 1 ≤ x := by rw [HX.out]; omega
          by_cases hlt : k < C
          · obtain ⟨g', rfl⟩ : ∃ g', gk = g' + 1 := ⟨gk - 1, by omega⟩
            have hle : (x : Int) ≤ la := by rw [HX.out]; exact (HC.out k).1 hlt
            have hxL : x < L := by omega
            have c1 := HCe.out wr hBw x hxL
            have hkL : k < L := by omega
            obtain ⟨v4, w4, hr4, row4, b4⟩ := app_one (l.getD x []) I.out.1 (by rw [picks_len]; omega) (Nat.le_trans (Nat.le_of_eq HBs.out) I.out.2.size) 32
            obtain ⟨ra4, rc4, rfl, _⟩ := row4.shape
            have hpk : picks l F S k ++ [l.getD x []] = picks l F S (k + 1) := by rw [picks_succ, HX.out]
            rw [hpk, picks_len] at hr4 row4
            have hbx4 := (b4.block R (by rw [HBs.out]; exact lt_of HR2.out)).trans hbx
            obtain ⟨⟨z0, z1, z2, z3, z4, z5, z6⟩, _⟩ := box7 hbx4
            rw [HeS.out] at z6
            have R4 := hid_of (And.intro row4 (I.out.2.trans b4))
            obtain ⟨x2, HX2⟩ : ∃ x2 : Nat, Hid (x2 = F + (k + 1) * S) := ⟨_, hid_of rfl⟩
            have e2 : (x : Int) + (S : Int) = (x2 : Int) := by have := HX.out; have := HX2.out; have q := Nat.add_mul k 1 S; omega
            have w2' : IntKind.i64.wrap ((x : Int) + (S : Int)) = (x2 : Int) := by rw [e2]; exact IntWalk.i64_in _ (by omega)
            have d1 : decide ((x : Int) ≤ la) = true := decide_eq_true hle
            have d2 : decide ((x : Int) < (L : Int)) = true := decide_eq_true (by omega)
            have d2n : decide (x < L) = true := decide_eq_true hxL
            have d3 : decide ((0 : Int) < (x : Int)) = true := decide_eq_true (by omega)
            have d3n : decide (0 < x) = true := decide_eq_true (by omega)
            simp only [V] at hr4
            generalize mk (l.getD x []) = X at *
            clear row4 b4 hbx hbx4 hBw hpk z0 z1 z2 z3 z4 z5 y0 y1 y2 y3 y4 y5 e2 hle
            go_wp2_with (first
              | (at_builtin; refine wpl_eq rfl _ _ 32 32 rfl (.slice ra k rc) (.slice (some ⟨wr.heap.size, 0, none⟩) 1 1) (.slice ra4 (k + 1) rc4) _ w4 rfl rfl hr4 ?_)
              | go_in)
            go_roundg g'
            case measure => omega
            case rel => exact ⟨k + 1, ra4, rc4, by omega, by omega, rfl, by rw [HX2.out], R4⟩
          · have hkC : k = C := by omega
            have hle : ¬ (x : Int) ≤ la := fun q => hlt ((HC.out k).2 (by rw [← HX.out]; exact q))
            have d1 : decide ((x : Int) ≤ la) = false := decide_eq_false hle
            have d3 : decide ((0 : Int) < (x : Int)) = true := decide_eq_true (by omega)
            have d3n : decide (0 < x) = true := decide_eq_true (by omega)
            have HF := hid_of (And.intro hkC hBw)
            clear hkC hle hbx hBw y0 y1 y2 y3 y4 y5
            go_wp2_with fail
            go_ret
            refine ⟨_, rfl, ?_, HF.out.2⟩
            rw [HKe.out, ← HF.out.1]
            exact I.out.1.mono (by rw [HBs.out]; exact HBW.out.size)
  · have HKe := hid_of (bad_keys h2)
    obtain ⟨X, hX⟩ : ∃ X, X = mk (checkS l) := ⟨_, rfl⟩
    have hx : X.toList.isEmpty = false := by
      rw [hX, mk_list]
      cases hq : checkS l with
      | nil => exact absurd hq h2
      | cons a b => rfl
    have hx2 : (X.toList == []) = false := by
      rw [hX, mk_list]
      cases hq : checkS l with
      | nil => exact absurd hq h2
      | cons a b => rfl
    rw [← hX] at HR0
    rw [← HL.out] at HR0 ⊢
    clear hc hb hr h1 h2 hX
    go_enter Try.func19, Try.ntmps19
    go_wp2_with fail
    refine HR0.out.mono ?_
    rintro e w1 ⟨rfl, b1⟩
    have HB := hid_of b1
    clear b1
    go_wp2_with fail
    go_ret
    exact ⟨_, rfl, by rw [HKe.out]; exact .inl ⟨rfl, rfl⟩, HB.out⟩
end Go.Proofs.Ytgmnmcaclpfknaa.Keys
