/- Check of the document. Mine of the document: is a request one of so many commands? -/
import Derived.Test.YtpibeabokedpdaaGreatDoorRowOfM
import Derived.Laws.BytesArg
import Derived.Test.YtpibeabokedpdaaGreatDoorFRowM
section
namespace Go.Proofs.YtpibeabokedpdaaGreatDoor.TRChk
open Go.RowKit
open Go.Proofs.YtpibeabokedpdaaGreatDoor.Tab
open Go.Proofs.YtpibeabokedpdaaGreatDoor.Base
open Go.Proofs.YtpibeabokedpdaaGreatDoor.Low
open Go.Proofs.YtpibeabokedpdaaGreatDoor.FindP
open Go.Proofs.YtpibeabokedpdaaGreatDoor.FindC
open Go.Proofs.YtpibeabokedpdaaGreatDoor.RFind
open Go.Proofs.YtpibeabokedpdaaGreatDoor.RowOf
open Go.Proofs.YtpibeabokedpdaaGreatDoor.RowsL (valS cellsS)
attribute [local go_sem] Oper.semAt_some
set_option linter.unusedVariables false
set_option linter.unusedSimpArgs false
theorem info5 : (Tryz.prog.info? 5).map (fun i => (i.zero, i.size, i.bytes)) = some (some (.int .u8 0), 1, 1) := by kernel_rfl
theorem parts5 : ∃ i, Tryz.prog.info? 5 = some i ∧ i.zero = some (.int .u8 0) ∧ i.size = 1 ∧ i.bytes = 1 := by
  have h := info5
  cases e : Tryz.prog.info? 5 with
  | none => rw [e] at h; cases h
  | some i =>
    rw [e] at h
    simp at h
    exact ⟨i, rfl, h.1, h.2.1, h.2.2⟩
abbrev bv (c : UInt8) : Value := .int .u8 (c.toNat : Int)
theorem conv_own {w : World} {B n : Nat} {v : Value} {l : List UInt8} (h : w.ownsRow B 5 1 v n (l.map bv)) (hn : n = l.length) : (convert 84 9 v).run Tryz.prog w = .ok (.string (mk l)) w := by
  subst hn
  rcases h.2 with ⟨rfl, h0⟩ | ⟨g, c, cur, rfl, hb, hr, h1, h2, h3, h4⟩
  · have : l = [] := List.length_eq_zero_iff.1 h0
    subst this
    exact run_convert_bytes_nil w 84 5 Tryz.underlying84 Tryz.underlying5 _ _ 9 Tryz.underlying9
  · refine run_convert_bytes_back w 84 9 5 ⟨g, 0, none⟩ c l Tryz.underlying84 Tryz.underlying5 Tryz.underlying9 (fun j hj => ?_)
    rw [add_off, Nat.zero_add, Lib.cell_of_heap hr]
    have h5 : (cur.toList.take l.length)[j]? = (l.map bv)[j]? := by simpa using congrArg (·[j]?) h4
    rw [List.getElem?_take_of_lt hj, List.getElem?_map, List.getElem?_eq_getElem hj, Array.getElem?_toList] at h5
    exact h5
theorem index_at (l : List UInt8) (i : Nat) (h : i < l.length) (w : World) : (Instr.index 9 (.string (mk l)) (.int .i64 (i : Int))).run Tryz.prog w = .ok (.int .u8 (l[i].toNat : Int)) w := by
  have hi : i < (mk l).size := by rw [mk_size]; exact h
  rw [run_index_string w 9 (mk l) .i64 (i : Int) Tryz.underlying9, dif_pos ⟨by omega, by omega⟩]
  rfl
theorem one_new (w : World) (v : Value) : ∀ (j : Nat) (u : Value), [v][j]? = some u → (w.alloc (.cells #[v] 5)).cell? ((⟨w.heap.size, 0, none⟩ : Addr).add j) = some u := fun j u hj => by
  match j, hj with
  | 0, hj =>
    have : (⟨w.heap.size, 0, none⟩ : Addr).add 0 = ⟨w.heap.size, 0, none⟩ := by simp [Addr.add]
    rw [this, Lib.cell_of_heap (heap_alloc_new w _)]
    exact hj
theorem own_shape {w : World} {B e sz n : Nat} {v : Value} {xs : List Value} (h : w.ownsRow B e sz v n xs) : ∃ a c, v = .slice a n c := by
  rcases h.2 with ⟨rfl, e⟩ | ⟨g, cap, cur, e, _⟩
  · exact ⟨none, 0, by rw [e]⟩
  · exact ⟨_, cap, e⟩
theorem take_show (n : Tab.Bs) (i : Nat) (h : i < n.length) (h2 : i < 32) : (showN n).take (i + 1) = (showN n).take i ++ [vis n[i]] := by
  have hl : i < (showN n).length := by unfold showN; rw [List.length_map, List.length_take]; omega
  rw [List.take_succ_eq_append_getElem hl]
  congr 1
  simp [showN]
theorem own_step {w V w1 : World} {n : Tab.Bs} {i : Nat} {v v' : Value} {o : Obj} {c : UInt8} {B : Nat} (hB : B ≤ w.heap.size) (HB : Below w.heap.size w V) (ho : V.ownsRow w.heap.size 5 1 v i (((showN n).take i).map bv)) (hg : (V.alloc o).grownBy w1 v.ownBlock)
    (ho' : w1.ownsRow w.heap.size 5 1 v' (i + 1) (((showN n).take i).map bv ++ [.int .u8 (c.toNat : Int)])) (hc : (showN n).take (i + 1) = (showN n).take i ++ [c]) :
    w1.ownsRow w.heap.size 5 1 v' (i + 1) (((showN n).take (i + 1)).map bv) ∧ Below w.heap.size w w1 := by
  refine ⟨by rw [hc, List.map_append]; exact ho', ?_⟩
  have e1 : Below w.heap.size w (V.alloc o) := HB.alloc HB.size o
  exact e1.grown hg e1.size (fun j hj => (ho.lt j hj).1)
set_option maxHeartbeats 8000000 in
set_option maxRecDepth 100000 in
theorem rcheck_call {G : Nat → Prop} {w : World} {v : Value} {l : List Tab.Bs} (h : SL G w v l) (hl : l.length < 9223372036854775808) (hb : ∀ x ∈ l, x.length < 9223372036854775808) :
    Calls Tryz.prog 22 #[v] w fun e w' => e = .returned (.string (mk (checkS l))) ∧ Below w.heap.size w w' := by
  obtain ⟨i0, hi0, hz0, hz1, hz2⟩ := parts5
  obtain ⟨a, c, rfl, hc, hr⟩ := h
  obtain ⟨n, hn⟩ : ∃ n, n = nameOf l := ⟨_, rfl⟩
  have hnl : n.length < 9223372036854775808 := by
    rw [hn]; unfold nameOf
    cases l with
    | nil => simp
    | cons x r => exact hb x (by simp)
  obtain ⟨r, b, hrb⟩ : ∃ r b, fnd (n.map low) = (r, b) := ⟨_, _, rfl⟩
  have HF : Hid (∀ w, Calls Tryz.prog 49 #[.string (mk n)] w fun e w' => e = .returned (.tuple #[.agg #[.string (mk r.name), .int .i64 r.arity, .bool r.wr, .bool r.ct, .int .i64 r.first, .int .i64 r.last, .int .i64 r.step], .bool b]) ∧ Below w.heap.size w w') := hid_of fun w => by
    have := rfind_call n w hnl
    unfold findV at this
    rw [hrb] at this
    exact this
  have hok := fnd_ok (n.map low)
  rw [hrb] at hok
  have HV : Hid (checkS l = (if b then (if fitsB r.arity l.length then (r, []) else (noSc, art ++ r.name)) else (noSc, unk ++ showN n)).2) := hid_of (by
    unfold checkS rowS
    rw [← hn, hrb])
  obtain ⟨N, HN⟩ : ∃ N, Hid (N = mk n) := ⟨_, hid_of rfl⟩
  rw [← HN.out] at HF
  have hcell : 0 < l.length → ∃ g o, a = some ⟨g, o, none⟩ ∧ w.cell? ⟨g, o, none⟩ = some (.string N) := fun hp => by
    obtain ⟨g, o, rfl, _, q⟩ := Rd.get hr hp
    cases l with
    | nil => simp at hp
    | cons x t =>
      have hx := q 0 x rfl
      refine ⟨g, o, rfl, ?_⟩
      rw [HN.out, hn]
      exact hx
  have hempty : l.length = 0 → N = ⟨#[]⟩ := fun h0 => by
    rw [HN.out, hn, List.length_eq_zero_iff.1 h0]; rfl
  have HNS : Hid (N.size = n.length) := hid_of (by rw [HN.out]; exact mk_size n)
  have HNE := hid_of HN.out
  obtain ⟨L, HL⟩ : ∃ L, Hid (L = l.length) := ⟨_, hid_of rfl⟩
  rw [← HL.out] at hl hcell hempty HV
  rw [← HL.out]
  clear hr hc hb hnl hrb hn
  rcases Nat.lt_or_ge 0 L with hp | hp0
  case inr =>
    have hp : ¬ 0 < L := by omega
    have hN0 := hempty (by omega)
    subst hN0
    clear hcell hempty hp0
    go_enter Tryz.func22, Tryz.ntmps22
    go_wp2_with fail
    refine (HF.out _).mono ?_
    rintro e w1 ⟨rfl, b1⟩
    obtain ⟨w2, hw2⟩ : ∃ w2, w2 = w1.alloc (.cells #[.string (mk r.name), .int .i64 r.arity, .bool r.wr, .bool r.ct, .int .i64 r.first, .int .i64 r.last, .int .i64 r.step] 81) := ⟨_, rfl⟩
    have b2 : Below w1.heap.size w1 w2 := by rw [hw2]; exact (Below.refl _ w1).alloc (Nat.le_refl _) _
    have hr2 : w2.heap[w1.heap.size]? = some (.cells (cellsS r).toArray 81 (0, 0)) := by rw [hw2]; exact heap_alloc_new w1 _
    have hbw2 : Below w.heap.size w w2 := b1.trans (b2.mono b1.size)
    have HR2 := hid_of hr2
    have HBW := hid_of hbw2
    have HW2 := hid_of hw2
    obtain ⟨R, hR⟩ : ∃ R, R = w1.heap.size := ⟨_, rfl⟩
    have HR := hid_of hR
    rw [← hR] at HR2
    clear hw2 b1 b2 hr2 hbw2 hR
    cases b with
    | false =>
      have hn0 : n = [] := List.length_eq_zero_iff.1 HNS.out.symm
      have HV2 : Hid (mk (checkS l) = ⟨#[69, 82, 82, 32, 117, 110, 107, 110, 111, 119, 110, 32, 99, 111, 109, 109, 97, 110, 100, 32]⟩) := hid_of (by rw [HV.out, hn0]; rfl)
      clear hok HV hn0
      go_wp2_with fail
      rw [← HW2.out, ← HR.out]
      go_loopg [6, 7, 8] 1 (fun gk s6 s7 s8 wx => s6 = .slice none 0 0 ∧ s7 = .int .i64 0 ∧ Hid (Below w.heap.size w wx))
      case atStart => exact ⟨rfl, rfl, HBW⟩
      case round =>
        obtain ⟨rfl, rfl, I⟩ := hrel
        have hcv : (convert 84 9 (.slice none 0 0)).run Tryz.prog wr = .ok (.string ⟨#[]⟩) wr := run_convert_bytes_nil wr 84 5 Tryz.underlying84 Tryz.underlying5 _ _ 9 Tryz.underlying9
        go_wp2_with fail
        go_ret
        exact ⟨ret_s (by rw [HV2.out]; kernel_rfl), I.out⟩
    | true =>
      have hq := ok_of (hok.resolve_right (fun q => by cases q.1)).2
      obtain ⟨⟨d0, d1, d2, d3, d4, d5, d6⟩, k0, k1, k2, k3, k4, k5, k6⟩ := box7 HR2.out
      obtain ⟨NM, hNM⟩ : ∃ NM, NM = mk r.name := ⟨_, rfl⟩
      have hsz : NM.size ≤ 32 := by rw [hNM, mk_size]; exact hq.2.2.2.2.2.2.2.2.2.1
      have HV2 : Hid (checkS l = if fitsB r.arity L then [] else art ++ r.name) := hid_of (by rw [HV.out]; simp only [if_true]; split <;> rfl)
      obtain ⟨A, hA⟩ : ∃ A, A = r.arity := ⟨_, rfl⟩
      have hA1 : -5 ≤ A ∧ A ≤ 5 := by rw [hA]; exact ⟨hq.1, hq.2.1⟩
      rw [← hNM] at d0 ⊢
      rw [← hNM] at HW2
      rw [← hA] at d1 HV2 HW2 ⊢
      have hx : mk (art ++ r.name) = ⟨#[69, 82, 82, 32, 119, 114, 111, 110, 103, 32, 110, 117, 109, 98, 101, 114, 32, 111, 102, 32, 97, 114, 103, 117, 109, 101, 110, 116, 115, 58, 32]⟩ ++ NM := by rw [← add_str, hNM]; rfl
      have HX := hid_of hx
      have wn : IntKind.i64.wrap (-A) = -A := IntWalk.i64_in _ (by omega)
      clear hq hok hNM hA hx HV
      by_cases h0 : 0 ≤ A
      · have t0 : decide ((0 : Int) ≤ A) = true := decide_eq_true h0
        have HF2 : Hid (fitsB A L = decide ((L : Int) = A)) := hid_of (by unfold fitsB; rw [if_neg (by omega)])
        by_cases h1 : (L : Int) = A
        · have t1 : ((L : Int) != A) = false := by simp [h1]
          have t2 : decide ((L : Int) < -A) = false := decide_eq_false (by omega)
          have HE : Hid (checkS l = []) := hid_of (by rw [HV2.out, HF2.out, decide_eq_true h1]; rfl)
          clear HF2 HV2 h0 h1
          go_wp2_with fail
          rw [← HW2.out, ← HR.out]
          go_wp2_with fail
          go_ret
          exact ⟨by rw [HE.out]; rfl, HBW.out⟩
        · have t1 : ((L : Int) != A) = true := by simp [h1]
          have HE : Hid (checkS l = art ++ r.name) := hid_of (by rw [HV2.out, HF2.out, decide_eq_false h1]; rfl)
          clear HF2 HV2 h0 h1
          go_wp2_with fail
          rw [← HW2.out, ← HR.out]
          go_wp2_with fail
          go_ret
          exact ⟨ret_s (by rw [HE.out, HX.out]), HBW.out⟩
      · have t0 : decide ((0 : Int) ≤ A) = false := decide_eq_false h0
        have HF2 : Hid (fitsB A L = decide (-A ≤ (L : Int))) := hid_of (by unfold fitsB; rw [if_pos (by omega)])
        by_cases h1 : (L : Int) < -A
        · have t2 : decide ((L : Int) < -A) = true := decide_eq_true h1
          have HE : Hid (checkS l = art ++ r.name) := hid_of (by rw [HV2.out, HF2.out, decide_eq_false (by omega)]; rfl)
          clear HF2 HV2 h0 h1
          go_wp2_with fail
          rw [← HW2.out, ← HR.out]
          go_wp2_with fail
          go_ret
          exact ⟨ret_s (by rw [HE.out, HX.out]), HBW.out⟩
        · have t2 : decide ((L : Int) < -A) = false := decide_eq_false h1
          have HE : Hid (checkS l = []) := hid_of (by rw [HV2.out, HF2.out, decide_eq_true (by omega)]; rfl)
          clear HF2 HV2 h0 h1
          go_wp2_with fail
          rw [← HW2.out, ← HR.out]
          go_wp2_with fail
          go_ret
          exact ⟨by rw [HE.out]; rfl, HBW.out⟩
  · obtain ⟨g, o, rfl, c0⟩ := hcell hp
    clear hempty
    go_enter Tryz.func22, Tryz.ntmps22
    go_wp2_with fail
    refine (HF.out _).mono ?_
    rintro e w1 ⟨rfl, b1⟩
    obtain ⟨w2, hw2⟩ : ∃ w2, w2 = w1.alloc (.cells #[.string (mk r.name), .int .i64 r.arity, .bool r.wr, .bool r.ct, .int .i64 r.first, .int .i64 r.last, .int .i64 r.step] 81) := ⟨_, rfl⟩
    have b2 : Below w1.heap.size w1 w2 := by rw [hw2]; exact (Below.refl _ w1).alloc (Nat.le_refl _) _
    have hr2 : w2.heap[w1.heap.size]? = some (.cells (cellsS r).toArray 81 (0, 0)) := by rw [hw2]; exact heap_alloc_new w1 _
    have hbw2 : Below w.heap.size w w2 := b1.trans (b2.mono b1.size)
    have HR2 := hid_of hr2
    have HBW := hid_of hbw2
    have HW2 := hid_of hw2
    obtain ⟨R, hR⟩ : ∃ R, R = w1.heap.size := ⟨_, rfl⟩
    have HR := hid_of hR
    rw [← hR] at HR2
    clear hw2 b1 b2 hr2 hbw2 hR
    cases b with
    | false =>
      obtain ⟨K, HK⟩ : ∃ K, Hid (K = n.length) := ⟨_, hid_of rfl⟩
      have hKs : N.size = K := by rw [HK.out]; exact HNS.out
      have HV2 : Hid (checkS l = unk ++ showN n) := hid_of (by rw [HV.out]; rfl)
      clear hok HV
      go_wp2_with fail
      rw [← HW2.out, ← HR.out]
      go_loopg [6, 7, 8] 33 (fun gk s6 s7 s8 wx => ∃ i : Nat, i ≤ 32 ∧ i ≤ K ∧ 33 ≤ i + gk ∧ s7 = .int .i64 (i : Int) ∧ Hid (wx.ownsRow w.heap.size 5 1 s6 i (((showN n).take i).map bv) ∧ Below w.heap.size w wx))
      case atStart => exact ⟨0, by omega, by omega, by omega, rfl, hid_of ⟨by simpa using World.ownsRow_nil _ _ _ _, HBW.out⟩⟩
      case round =>
        rename_i s6 s8
        obtain ⟨i, h32, hiK, hgk, rfl, I⟩ := hrel
        obtain ⟨a6, c6, rfl⟩ := own_shape I.out.1
        by_cases hlt : i < K ∧ i < 32
        · obtain ⟨g', rfl⟩ : ∃ g', gk = g' + 1 := ⟨gk - 1, by omega⟩
          have hin : i < n.length := by rw [← HK.out]; exact hlt.1
          have t1 : decide ((i : Int) < (K : Int)) = true := by simp; omega
          have t2 : decide ((i : Int) < 32) = true := by simp; omega
          have HX := hid_of (take_show n i hin hlt.2)
          have hix : ∀ V, (Instr.index 9 (.string N) (.int .i64 (i : Int))).run Tryz.prog V = .ok (.int .u8 (n[i].toNat : Int)) V := fun V => by rw [HNE.out]; exact index_at n i hin V
          obtain ⟨ch, hch⟩ : ∃ ch, ch = n[i] := ⟨_, rfl⟩
          rw [← hch] at HX hix
          have hix1 := hix wr
          have b8 : ch.toNat < 256 := ch.toNat_lt
          have w1 : IntKind.i64.wrap ((i : Int) + 1) = (i : Int) + 1 := IntWalk.i64_in _ (by omega)
          have hh := hlt
          clear hlt hch hin
          by_cases h1 : ch.toNat < 32
          · have q1 : decide ((ch.toNat : Int) < 32) = true := by simp; omega
            have hv : vis ch = 63 := vis_yes (.inl h1)
            rw [hv] at HX
            clear hv
            go_wp2_with (first
              | (at_builtin; refine wpList_append_own _ rfl _ _ 84 rfl w.heap.size 5 i0 (.int .u8 0) 1 1 Tryz.underlying84 hi0 hz0 hz1 hz2 rfl (by decide) _ _ _ rfl (I.out.1.alloc _) ⟨wr.heap.size, 0, none⟩ 1 1 [.int .u8 63] rfl rfl (one_new _ _) (by simp [Value.oneCell']) (by unfold maxLen; omega) (by omega) (by have := I.out.2.size; simp; omega) ?_; intro v' w5 hown hgr hnil; have H5 := hid_of (own_step (c := 63) (Nat.le_refl _) I.out.2 I.out.1 hgr hown HX.out); clear hown hgr hnil)
              | go_in)
            go_roundg g'
            case measure => omega
            case rel => exact ⟨i + 1, by omega, by omega, by omega, by simp, H5⟩
          · have q1 : decide ((ch.toNat : Int) < 32) = false := by simp; omega
            by_cases h2 : 126 < ch.toNat
            · have q2 : decide (126 < (ch.toNat : Int)) = true := by simp; omega
              have hv : vis ch = 63 := vis_yes (.inr h2)
              rw [hv] at HX
              clear hv
              go_wp2_with (first
                | (at_builtin; refine wpList_append_own _ rfl _ _ 84 rfl w.heap.size 5 i0 (.int .u8 0) 1 1 Tryz.underlying84 hi0 hz0 hz1 hz2 rfl (by decide) _ _ _ rfl (I.out.1.alloc _) ⟨wr.heap.size, 0, none⟩ 1 1 [.int .u8 63] rfl rfl (one_new _ _) (by simp [Value.oneCell']) (by unfold maxLen; omega) (by omega) (by have := I.out.2.size; simp; omega) ?_; intro v' w5 hown hgr hnil; have H5 := hid_of (own_step (c := 63) (Nat.le_refl _) I.out.2 I.out.1 hgr hown HX.out); clear hown hgr hnil)
                | go_in)
              go_roundg g'
              case measure => omega
              case rel => exact ⟨i + 1, by omega, by omega, by omega, by simp, H5⟩
            · have q2 : decide (126 < (ch.toNat : Int)) = false := by simp; omega
              have hv : vis ch = ch := vis_no (by omega)
              rw [hv] at HX
              clear hv
              go_wp2_with (first
                | (at_builtin; refine wpList_append_own _ rfl _ _ 84 rfl w.heap.size 5 i0 (.int .u8 0) 1 1 Tryz.underlying84 hi0 hz0 hz1 hz2 rfl (by decide) _ _ _ rfl (I.out.1.alloc _) ⟨wr.heap.size, 0, none⟩ 1 1 [.int .u8 (ch.toNat : Int)] rfl rfl (one_new _ _) (by simp [Value.oneCell']) (by unfold maxLen; omega) (by omega) (by have := I.out.2.size; simp; omega) ?_; intro v' w5 hown hgr hnil; have H5 := hid_of (own_step (c := ch) (Nat.le_refl _) I.out.2 I.out.1 hgr hown HX.out); clear hown hgr hnil)
                | go_in)
              go_roundg g'
              case measure => omega
              case rel => exact ⟨i + 1, by omega, by omega, by omega, by simp, H5⟩
        · have ht : ((showN n).take i) = showN n := List.take_of_length_le (by unfold showN; rw [List.length_map, List.length_take, ← HK.out]; omega)
          have hlen : i = (showN n).length := by unfold showN; rw [List.length_map, List.length_take, ← HK.out]; omega
          have hcv : (convert 84 9 (.slice a6 i c6)).run Tryz.prog wr = .ok (.string (mk (showN n))) wr := by
            refine conv_own (B := w.heap.size) (n := i) ?_ hlen
            have := I.out.1
            rwa [ht] at this
          obtain ⟨S, hS⟩ : ∃ S, S = mk (showN n) := ⟨_, rfl⟩
          have hsz : S.size ≤ 32 := by rw [hS, mk_size, ← hlen]; exact h32
          rw [← hS] at hcv
          have HSS := hid_of hS
          clear hS ht hlen
          have hx : mk (unk ++ showN n) = ⟨#[69, 82, 82, 32, 117, 110, 107, 110, 111, 119, 110, 32, 99, 111, 109, 109, 97, 110, 100, 32]⟩ ++ S := by rw [← add_str, HSS.out]; rfl
          have HX := hid_of hx
          clear hx
          rcases Nat.lt_or_ge i K with hl1 | hl1
          · have t1 : decide ((i : Int) < (K : Int)) = true := by simp; omega
            have t2 : decide ((i : Int) < 32) = false := by simp; omega
            clear hlt
            go_wp2_with fail
            go_ret
            exact ⟨ret_s (by rw [HV2.out, HX.out]), I.out.2⟩
          · have t1 : decide ((i : Int) < (K : Int)) = false := by simp; omega
            clear hlt
            go_wp2_with fail
            go_ret
            exact ⟨ret_s (by rw [HV2.out, HX.out]), I.out.2⟩
    | true =>
      have hq := ok_of (hok.resolve_right (fun q => by cases q.1)).2
      obtain ⟨⟨d0, d1, d2, d3, d4, d5, d6⟩, k0, k1, k2, k3, k4, k5, k6⟩ := box7 HR2.out
      obtain ⟨NM, hNM⟩ : ∃ NM, NM = mk r.name := ⟨_, rfl⟩
      have hsz : NM.size ≤ 32 := by rw [hNM, mk_size]; exact hq.2.2.2.2.2.2.2.2.2.1
      have HV2 : Hid (checkS l = if fitsB r.arity L then [] else art ++ r.name) := hid_of (by rw [HV.out]; simp only [if_true]; split <;> rfl)
      obtain ⟨A, hA⟩ : ∃ A, A = r.arity := ⟨_, rfl⟩
      have hA1 : -5 ≤ A ∧ A ≤ 5 := by rw [hA]; exact ⟨hq.1, hq.2.1⟩
      rw [← hNM] at d0 ⊢
      rw [← hNM] at HW2
      rw [← hA] at d1 HV2 HW2 ⊢
      have hx : mk (art ++ r.name) = ⟨#[69, 82, 82, 32, 119, 114, 111, 110, 103, 32, 110, 117, 109, 98, 101, 114, 32, 111, 102, 32, 97, 114, 103, 117, 109, 101, 110, 116, 115, 58, 32]⟩ ++ NM := by rw [← add_str, hNM]; rfl
      have HX := hid_of hx
      have wn : IntKind.i64.wrap (-A) = -A := IntWalk.i64_in _ (by omega)
      clear hq hok hNM hA hx HV
      by_cases h0 : 0 ≤ A
      · have t0 : decide ((0 : Int) ≤ A) = true := decide_eq_true h0
        have HF2 : Hid (fitsB A L = decide ((L : Int) = A)) := hid_of (by unfold fitsB; rw [if_neg (by omega)])
        by_cases h1 : (L : Int) = A
        · have t1 : ((L : Int) != A) = false := by simp [h1]
          have t2 : decide ((L : Int) < -A) = false := decide_eq_false (by omega)
          have HE : Hid (checkS l = []) := hid_of (by rw [HV2.out, HF2.out, decide_eq_true h1]; rfl)
          clear HF2 HV2 h0 h1
          go_wp2_with fail
          rw [← HW2.out, ← HR.out]
          go_wp2_with fail
          go_ret
          exact ⟨by rw [HE.out]; rfl, HBW.out⟩
        · have t1 : ((L : Int) != A) = true := by simp [h1]
          have HE : Hid (checkS l = art ++ r.name) := hid_of (by rw [HV2.out, HF2.out, decide_eq_false h1]; rfl)
          clear HF2 HV2 h0 h1
          go_wp2_with fail
          rw [← HW2.out, ← HR.out]
          go_wp2_with fail
          go_ret
          exact ⟨ret_s (by rw [HE.out, HX.out]), HBW.out⟩
      · have t0 : decide ((0 : Int) ≤ A) = false := decide_eq_false h0
        have HF2 : Hid (fitsB A L = decide (-A ≤ (L : Int))) := hid_of (by unfold fitsB; rw [if_pos (by omega)])
        by_cases h1 : (L : Int) < -A
        · have t2 : decide ((L : Int) < -A) = true := decide_eq_true h1
          have HE : Hid (checkS l = art ++ r.name) := hid_of (by rw [HV2.out, HF2.out, decide_eq_false (by omega)]; rfl)
          clear HF2 HV2 h0 h1
          go_wp2_with fail
          rw [← HW2.out, ← HR.out]
          go_wp2_with fail
          go_ret
          exact ⟨ret_s (by rw [HE.out, HX.out]), HBW.out⟩
        · have t2 : decide ((L : Int) < -A) = false := decide_eq_false h1
          have HE : Hid (checkS l = []) := hid_of (by rw [HV2.out, HF2.out, decide_eq_true (by omega)]; rfl)
          clear HF2 HV2 h0 h1
          go_wp2_with fail
          rw [← HW2.out, ← HR.out]
          go_wp2_with fail
          go_ret
          exact ⟨by rw [HE.out]; rfl, HBW.out⟩
end Go.Proofs.YtpibeabokedpdaaGreatDoor.TRChk
end
section
namespace Go.Proofs.YtpibeabokedpdaaGreatDoor.NmMine
open Go.RowKit Go.Maps
open Go.Proofs.YtpibeabokedpdaaGreatDoor.Base (mk mk_list mk_size hid_of SL Rd El V str_eq ret_b)
open Go.Proofs.YtpibeabokedpdaaGreatDoor.Low (low)
open Go.Proofs.YtpibeabokedpdaaGreatDoor.RowOf (checkS)
set_option linter.unusedVariables false
set_option linter.unusedSimpArgs false
def mineB (ns l : List El) : Bool := if checkS l = [] then ns.contains ((l.headD []).map low) else false
theorem check_nil : checkS [] ≠ [] := by decide +kernel
set_option maxHeartbeats 4000000 in
set_option maxRecDepth 100000 in
theorem mine_call {G G' : Nat → Prop} {w : World} {u v : Value} {ns l : List El} (hn : SL G w u ns) (h : SL G' w v l) (hnl : ns.length ≤ 140737488355328) (hl : l.length < 9223372036854775808) (hb : ∀ x ∈ l, x.length < 9223372036854775808) :
    Calls Tryz.prog 9 #[u, v] w fun e w' => (∃ s, e = .returned (.tuple #[.string s, .bool (mineB ns l)])) ∧ Below w.heap.size w w' := by
  have HC := hid_of (TRChk.rcheck_call h hl hb)
  have HN := hid_of hn
  have HL := hid_of h
  obtain ⟨an, cn, rfl, hcn, hrn⟩ := hn
  obtain ⟨al, cl, rfl, hcl, hrl⟩ := h
  by_cases hch : checkS l = []
  · have h0 : 0 < l.length := by
      rcases l with _ | ⟨x, r⟩
      · exact absurd hch check_nil
      · simp
    obtain ⟨gl, ol, rfl, _, ql⟩ := Rd.get hrl h0
    have c0 : w.cell? ⟨gl, ol, none⟩ = some (.string (mk l[0])) := ql 0 _ (List.getElem?_eq_getElem h0)
    have HLo := hid_of fun W => Low.rlower_call l[0] W (hb _ (List.getElem_mem h0))
    have hm : mineB ns l = ns.contains (l[0].map low) := by
      unfold mineB
      rw [if_pos hch]
      cases l with
      | nil => simp at h0
      | cons x r => rfl
    rw [hm]
    rw [hch, show mk ([] : List UInt8) = (⟨#[]⟩ : ByteArray) from rfl] at HC
    have HQ := hid_of (show gl < w.heap.size ∧ w.cell? ⟨gl, ol, none⟩ = some (.string (mk l[0])) from ⟨Base.cell_lt c0, c0⟩)
    clear hm hch hl hb ql hrl hcl HL
    generalize l[0].map low = nm at *
    generalize mk l[0] = L0 at *
    obtain ⟨N, hN⟩ : ∃ N, N = mk nm := ⟨_, rfl⟩
    rw [← hN] at HLo
    have HNm := hid_of hN
    have i0 : (0 : Int) < (l.length : Int) := by omega
    clear hN c0
    generalize l.length = NL at *
    go_enter Tryz.func9, Tryz.ntmps9
    go_wp2_with fail
    refine HC.out.mono ?_
    rintro e w1 ⟨rfl, b1⟩
    have c1 := (b1.cell (p := ⟨gl, ol, none⟩) HQ.out.1).trans HQ.out.2
    have B1 := hid_of b1
    clear b1 HC
    go_wp2_with fail
    refine (HLo.out w1).mono ?_
    rintro e w2 ⟨rfl, b2⟩
    have B2 := hid_of (FRow.bel B1.out b2 (Nat.le_refl _))
    clear b2 c1 HLo
    go_wp2_with fail
    obtain ⟨M, HM⟩ : ∃ M, Hid (M = ns.length) := ⟨_, hid_of rfl⟩
    rw [← HM.out]
    rw [← HM.out] at hnl
    have HR := hid_of hrn
    clear hrn hcn HN
    go_loopg [7] M (fun g s5 wx => ∃ i : Nat, i ≤ M ∧ M ≤ i + g ∧ s5 = .int .i64 (i : Int) ∧ Hid (nm ∉ ns.take i) ∧ Hid (Below w.heap.size w wx))
    case atStart => exact ⟨0, by omega, by omega, rfl, hid_of (by simp), B2⟩
    case round =>
      obtain ⟨i, hi, hg, rfl, HA, HB⟩ := hrel
      by_cases hlt : i < M
      · obtain ⟨g', rfl⟩ : ∃ g', gk = g' + 1 := ⟨gk - 1, by omega⟩
        have k1 : i < ns.length := by rw [← HM.out]; exact hlt
        obtain ⟨g1, o1, rfl, _, q1⟩ := Rd.get HR.out (by omega)
        have c1 : w.cell? ⟨g1, o1 + i, none⟩ = some (.string (mk ns[i])) := q1 i _ (List.getElem?_eq_getElem k1)
        have c2 : wr.cell? ⟨g1, o1 + i, none⟩ = some (.string (mk ns[i])) := (HB.out.cell (p := ⟨g1, o1 + i, none⟩) (Base.cell_lt c1)).trans c1
        have hlx := str_eq ns[i] nm
        rw [← HNm.out] at hlx
        have HIn := hid_of (List.getElem_mem k1)
        have HTk := hid_of (List.take_succ_eq_append_getElem k1)
        have w2 : IntKind.i64.wrap ((i : Int) + 1) = (i : Int) + 1 := IntWalk.i64_in _ (by omega)
        clear q1 c1
        generalize ns[i] = x at *
        by_cases hxy : x = nm
        · rw [decide_eq_true hxy] at hlx
          have HF := hid_of (show ns.contains nm = true by rw [List.contains_iff_mem, ← hxy]; exact HIn.out)
          generalize mk x = X at *
          clear hxy HIn HTk
          go_wp2_with fail
          go_ret2
          exact ⟨⟨N, by rw [HF.out]; rfl⟩, HB.out⟩
        · rw [decide_eq_false hxy] at hlx
          have HF := hid_of (show nm ∉ ns.take (i + 1) by rw [HTk.out]; simp only [List.mem_append, List.mem_singleton, not_or]; exact ⟨HA.out, fun e => hxy e.symm⟩)
          generalize mk x = X at *
          clear hxy HIn HTk
          go_wp2_with fail
          go_roundg g'
          case measure => omega
          case rel => exact ⟨i + 1, by omega, by omega, by simp, HF, HB⟩
      · have HF := hid_of (show ns.contains nm = false by
          have := HA.out
          rw [List.take_of_length_le (by have := HM.out; omega)] at this
          simpa using this)
        go_wp2_with fail
        go_ret2
        exact ⟨⟨⟨#[]⟩, by rw [HF.out]; rfl⟩, HB.out⟩
  · have hm : mineB ns l = false := by unfold mineB; rw [if_neg hch]
    rw [hm]
    have hne : ((mk (checkS l)).toList == (⟨#[]⟩ : ByteArray).toList) = false := by
      rw [mk_list]
      simpa using hch
    have hne2 : ((mk (checkS l)).toList != (⟨#[]⟩ : ByteArray).toList) = true := by
      rw [mk_list]
      simpa using hch
    have hne3 : (mk (checkS l)).toList.isEmpty = false := by
      rw [mk_list]
      simpa using hch
    clear hch hm
    generalize mk (checkS l) = C at *
    go_enter Tryz.func9, Tryz.ntmps9
    go_wp2_with fail
    refine HC.out.mono ?_
    rintro e w1 ⟨rfl, b1⟩
    have B1 := hid_of b1
    clear b1 HC
    go_wp2_with fail
    go_ret2
    exact ⟨⟨_, rfl⟩, B1.out⟩
end Go.Proofs.YtpibeabokedpdaaGreatDoor.NmMine
end
