/- Check of the document. -/
import Derived.Test.YtgmnmcaclpfknaaChk
import Derived.Laws.BytesArg
namespace Go.Proofs.Ytgmnmcaclpfknaa.RChk
open Go.RowKit
open Go.Proofs.Ytgmnmcaclpfknaa.Tab
open Go.Proofs.Ytgmnmcaclpfknaa.Base
open Go.Proofs.Ytgmnmcaclpfknaa.Low
open Go.Proofs.Ytgmnmcaclpfknaa.FindP
open Go.Proofs.Ytgmnmcaclpfknaa.FindC
open Go.Proofs.Ytgmnmcaclpfknaa.RFind
open Go.Proofs.Ytgmnmcaclpfknaa.RowOf
open Go.Proofs.Ytgmnmcaclpfknaa.RowsL (valS cellsS)
attribute [local go_sem] Oper.semAt_some
set_option linter.unusedVariables false
set_option linter.unusedSimpArgs false
theorem info5 : (Try.prog.info? 5).map (fun i => (i.zero, i.size, i.bytes)) = some (some (.int .u8 0), 1, 1) := by kernel_rfl
theorem parts5 : ∃ i, Try.prog.info? 5 = some i ∧ i.zero = some (.int .u8 0) ∧ i.size = 1 ∧ i.bytes = 1 := by
  have h := info5
  cases e : Try.prog.info? 5 with
  | none => rw [e] at h; cases h
  | some i =>
    rw [e] at h
    simp at h
    exact ⟨i, rfl, h.1, h.2.1, h.2.2⟩
abbrev bv (c : UInt8) : Value := .int .u8 (c.toNat : Int)
theorem conv_own {w : World} {B n : Nat} {v : Value} {l : List UInt8} (h : w.ownsRow B 5 1 v n (l.map bv)) (hn : n = l.length) : (convert 37 9 v).run Try.prog w = .ok (.string (mk l)) w := by
  subst hn
  rcases h.2 with ⟨rfl, h0⟩ | ⟨g, c, cur, rfl, hb, hr, h1, h2, h3, h4⟩
  · have : l = [] := List.length_eq_zero_iff.1 h0
    subst this
    exact run_convert_bytes_nil w 37 5 Try.underlying37 Try.underlying5 _ _ 9 Try.underlying9
  · refine run_convert_bytes_back w 37 9 5 ⟨g, 0, none⟩ c l Try.underlying37 Try.underlying5 Try.underlying9 (fun j hj => ?_)
    rw [add_off, Nat.zero_add, Lib.cell_of_heap hr]
    have h5 : (cur.toList.take l.length)[j]? = (l.map bv)[j]? := by simpa using congrArg (·[j]?) h4
    rw [List.getElem?_take_of_lt hj, List.getElem?_map, List.getElem?_eq_getElem hj, Array.getElem?_toList] at h5
    exact h5
theorem index_at (l : List UInt8) (i : Nat) (h : i < l.length) (w : World) : (Instr.index 9 (.string (mk l)) (.int .i64 (i : Int))).run Try.prog w = .ok (.int .u8 (l[i].toNat : Int)) w := by
  have hi : i < (mk l).size := by rw [mk_size]; exact h
  rw [run_index_string w 9 (mk l) .i64 (i : Int) Try.underlying9, dif_pos ⟨by omega, by omega⟩]
  rfl
theorem one_new (w : World) (v : Value) : ∀ (j : Nat) (u : Value), [v][j]? = some u → (w.alloc (.cells #[v] 5)).cell? ((⟨w.heap.size, 0, none⟩ : Addr).add j) = some u := fun j u hj => by
  match j, hj with
  | 0, hj =>
    have : (⟨w.heap.size, 0, none⟩ : Addr).add 0 = ⟨w.heap.size, 0, none⟩ := by simp [Addr.add]
    rw [this, Lib.cell_of_heap (heap_alloc_new w _)]
    exact hj
theorem own_shape {w : World} {B e sz n : Nat} {v : Value} {xs : List Value} (h : w.ownsRow B e sz v n xs) : ∃ a c, v = .slice a n c := by
  rcases h.2 with ⟨rfl, e⟩ | ⟨g, cap, cur, e, _⟩
  · exact ⟨none, 0, by rw [e]⟩
  · exact ⟨_, cap, e⟩
theorem take_show (n : Tab.Bs) (i : Nat) (h : i < n.length) (h2 : i < 32) : (showN n).take (i + 1) = (showN n).take i ++ [vis n[i]] := by
  have hl : i < (showN n).length := by unfold showN; rw [List.length_map, List.length_take]; omega
  rw [List.take_succ_eq_append_getElem hl]
  congr 1
  simp [showN]
theorem own_step {w V w1 : World} {n : Tab.Bs} {i : Nat} {v v' : Value} {o : Obj} {c : UInt8} {B : Nat} (hB : B ≤ w.heap.size) (HB : Below w.heap.size w V) (ho : V.ownsRow w.heap.size 5 1 v i (((showN n).take i).map bv)) (hg : (V.alloc o).grownBy w1 v.ownBlock)
    (ho' : w1.ownsRow w.heap.size 5 1 v' (i + 1) (((showN n).take i).map bv ++ [.int .u8 (c.toNat : Int)])) (hc : (showN n).take (i + 1) = (showN n).take i ++ [c]) :
    w1.ownsRow w.heap.size 5 1 v' (i + 1) (((showN n).take (i + 1)).map bv) ∧ Below w.heap.size w w1 := by
  refine ⟨by rw [hc, List.map_append]; exact ho', ?_⟩
  have e1 : Below w.heap.size w (V.alloc o) := HB.alloc HB.size o
  exact e1.grown hg e1.size (fun j hj => (ho.lt j hj).1)
set_option maxHeartbeats 8000000 in
set_option maxRecDepth 100000 in
theorem rcheck_call {G : Nat → Prop} {w : World} {v : Value} {l : List Tab.Bs} (h : SL G w v l) (hl : l.length < 9223372036854775808) (hb : ∀ x ∈ l, x.length < 9223372036854775808) :
    Calls Try.prog 16 #[v] w fun e w' => e = .returned (.string (mk (checkS l))) ∧ Below w.heap.size w w' := by
  obtain ⟨i0, hi0, hz0, hz1, hz2⟩ := parts5
  obtain ⟨a, c, rfl, hc, hr⟩ := h
  obtain ⟨n, hn⟩ : ∃ n, n = nameOf l := ⟨_, rfl⟩
  have hnl : n.length < 9223372036854775808 := by
    rw [hn]; unfold nameOf
    cases l with
    | nil => simp
    | cons x r => exact hb x (by simp)
  obtain ⟨r, b, hrb⟩ : ∃ r b, fnd (n.map low) = (r, b) := ⟨_, _, rfl⟩
  have HF : Hid (∀ w, Calls Try.prog 9 #[.string (mk n)] w fun e w' => e = .returned (.tuple #[.agg #[.string (mk r.name), .int .i64 r.arity, .bool r.wr, .bool r.ct, .int .i64 r.first, .int .i64 r.last, .int .i64 r.step], .bool b]) ∧ Below w.heap.size w w') := hid_of fun w => by
    have := rfind_call n w hnl
    unfold findV at this
    rw [hrb] at this
    exact this
  have hok := fnd_ok (n.map low)
  rw [hrb] at hok
  have HV : Hid (checkS l = (if b then (if fitsB r.arity l.length then (r, []) else (noSc, art ++ r.name)) else (noSc, unk ++ showN n)).2) := hid_of (by
    unfold checkS rowS
    rw [← hn, hrb])
  obtain ⟨N, HN⟩ : ∃ N, Hid (N = mk n) := ⟨_, hid_of rfl⟩
  rw [← HN.out] at HF
  have hcell : 0 < l.length → ∃ g o, a = some ⟨g, o, none⟩ ∧ w.cell? ⟨g, o, none⟩ = some (.string N) := fun hp => by
    obtain ⟨g, o, rfl, _, q⟩ := Rd.get hr hp
    cases l with
    | nil => simp at hp
    | cons x t =>
      have hx := q 0 x rfl
      refine ⟨g, o, rfl, ?_⟩
      rw [HN.out, hn]
      exact hx
  have hempty : l.length = 0 → N = ⟨#[]⟩ := fun h0 => by
    rw [HN.out, hn, List.length_eq_zero_iff.1 h0]; rfl
  have HNS : Hid (N.size = n.length) := hid_of (by rw [HN.out]; exact mk_size n)
  have HNE := hid_of HN.out
  obtain ⟨L, HL⟩ : ∃ L, Hid (L = l.length) := ⟨_, hid_of rfl⟩
  rw [← HL.out] at hl hcell hempty HV
  rw [← HL.out]
  clear hr hc hb hnl hrb hn
  rcases Nat.lt_or_ge 0 L with hp | hp0
  case inr =>
    have hp : ¬ 0 < L := by omega
    have hN0 := hempty (by omega)
    subst hN0
    clear hcell hempty hp0
    go_enter Try.func16, Try.ntmps16
    go_wp2_with fail
    refine (HF.out _).mono ?_
    rintro e w1 ⟨rfl, b1⟩
    obtain ⟨w2, hw2⟩ : ∃ w2, w2 = w1.alloc (.cells #[.string (mk r.name), .int .i64 r.arity, .bool r.wr, .bool r.ct, .int .i64 r.first, .int .i64 r.last, .int .i64 r.step] 23) := ⟨_, rfl⟩
    have b2 : Below w1.heap.size w1 w2 := by rw [hw2]; exact (Below.refl _ w1).alloc (Nat.le_refl _) _
    have hr2 : w2.heap[w1.heap.size]? = some (.cells (cellsS r).toArray 23 (0, 0)) := by rw [hw2]; exact heap_alloc_new w1 _
    have hbw2 : Below w.heap.size w w2 := b1.trans (b2.mono b1.size)
    have HR2 := hid_of hr2
    have HBW := hid_of hbw2
    have HW2 := hid_of hw2
    obtain ⟨R, hR⟩ : ∃ R, R = w1.heap.size := ⟨_, rfl⟩
    have HR := hid_of hR
    rw [← hR] at HR2
    clear hw2 b1 b2 hr2 hbw2 hR
    cases b with
    | false =>
      have hn0 : n = [] := List.length_eq_zero_iff.1 HNS.out.symm
      have HV2 : Hid (mk (checkS l) = ⟨#[69, 82, 82, 32, 117, 110, 107, 110, 111, 119, 110, 32, 99, 111, 109, 109, 97, 110, 100, 32]⟩) := hid_of (by rw [HV.out, hn0]; rfl)
      clear hok HV hn0
      go_wp2_with fail
      rw [← HW2.out, ← HR.out]
      go_loopg [6, 7, 8] 1 (fun gk s6 s7 s8 wx => s6 = .slice none 0 0 ∧ s7 = .int .i64 0 ∧ Hid (Below w.heap.size w wx))
      case atStart => exact ⟨rfl, rfl, HBW⟩
      case round =>
        obtain ⟨rfl, rfl, I⟩ := hrel
        have hcv : (convert 37 9 (.slice none 0 0)).run Try.prog wr = .ok (.string ⟨#[]⟩) wr := run_convert_bytes_nil wr 37 5 Try.underlying37 Try.underlying5 _ _ 9 Try.underlying9
        go_wp2_with fail
        go_ret
        exact ⟨ret_s (by rw [HV2.out]; kernel_rfl), I.out⟩
    | true =>
      have hq := ok_of (hok.resolve_right (fun q => by cases q.1)).2
      obtain ⟨⟨d0, d1, d2, d3, d4, d5, d6⟩, k0, k1, k2, k3, k4, k5, k6⟩ := box7 HR2.out
      obtain ⟨NM, hNM⟩ : ∃ NM, NM = mk r.name := ⟨_, rfl⟩
      have hsz : NM.size ≤ 32 := by rw [hNM, mk_size]; exact hq.2.2.2.2.2.2.2.2.2.1
      have HV2 : Hid (checkS l = if fitsB r.arity L then [] else art ++ r.name) := hid_of (by rw [HV.out]; simp only [if_true]; split <;> rfl)
      obtain ⟨A, hA⟩ : ∃ A, A = r.arity := ⟨_, rfl⟩
      have hA1 : -5 ≤ A ∧ A ≤ 5 := by rw [hA]; exact ⟨hq.1, hq.2.1⟩
      rw [← hNM] at d0 ⊢
      rw [← hNM] at HW2
      rw [← hA] at d1 HV2 HW2 ⊢
      have hx : mk (art ++ r.name) = ⟨#[69, 82, 82, 32, 119, 114, 111, 110, 103, 32, 110, 117, 109, 98, 101, 114, 32, 111, 102, 32, 97, 114, 103, 117, 109, 101, 110, 116, 115, 58, 32]⟩ ++ NM := by rw [← add_str, hNM]; rfl
      have HX := hid_of hx
      have wn : IntKind.i64.wrap (-A) = -A := IntWalk.i64_in _ (by omega)
      clear hq hok hNM hA hx HV
      by_cases h0 : 0 ≤ A
      · have t0 : decide ((0 : Int) ≤ A) = true := decide_eq_true h0
        have HF2 : Hid (fitsB A L = decide ((L : Int) = A)) := hid_of (by unfold fitsB; rw [if_neg (by omega)])
        by_cases h1 : (L : Int) = A
        · have t1 : ((L : Int) != A) = false := by simp [h1]
          have t2 : decide ((L : Int) < -A) = false := decide_eq_false (by omega)
          have HE : Hid (checkS l = []) := hid_of (by rw [HV2.out, HF2.out, decide_eq_true h1]; rfl)
          clear HF2 HV2 h0 h1
          go_wp2_with fail
          rw [← HW2.out, ← HR.out]
          go_wp2_with fail
          go_ret
          exact ⟨by rw [HE.out]; rfl, HBW.out⟩
        · have t1 : ((L : Int) != A) = true := by simp [h1]
          have HE : Hid (checkS l = art ++ r.name) := hid_of (by rw [HV2.out, HF2.out, decide_eq_false h1]; rfl)
          clear HF2 HV2 h0 h1
          go_wp2_with fail
          rw [← HW2.out, ← HR.out]
          go_wp2_with fail
          go_ret
          exact ⟨ret_s (by rw [HE.out, HX.out]), HBW.out⟩
      · have t0 : decide ((0 : Int) ≤ A) = false := decide_eq_false h0
        have HF2 : Hid (fitsB A L = decide (-A ≤ (L : Int))) := hid_of (by unfold fitsB; rw [if_pos (by omega)])
        by_cases h1 : (L : Int) < -A
        · have t2 : decide ((L : Int) < -A) = true := decide_eq_true h1
          have HE : Hid (checkS l = art ++ r.name) := hid_of (by rw [HV2.out, HF2.out, decide_eq_false (by omega)]; rfl)
          clear HF2 HV2 h0 h1
          go_wp2_with fail
          rw [← HW2.out, ← HR.out]
          go_wp2_with fail
          go_ret
          exact ⟨ret_s (by rw [HE.out, HX.out]), HBW.out⟩
        · have t2 : decide ((L : Int) < -A) = false := decide_eq_false h1
          have HE : Hid (checkS l = []) := hid_of (by rw [HV2.out, HF2.out, decide_eq_true (by omega)]; rfl)
          clear HF2 HV2 h0 h1
          go_wp2_with fail
          rw [← HW2.out, ← HR.out]
          go_wp2_with fail
          go_ret
          exact ⟨by rw [HE.out]; rfl, HBW.out⟩
  · obtain ⟨g, o, rfl, c0⟩ := hcell hp
    clear hempty
    go_enter Try.func16, Try.ntmps16
    go_wp2_with fail
    refine (HF.out _).mono ?_
    rintro e w1 ⟨rfl, b1⟩
    obtain ⟨w2, hw2⟩ : ∃ w2, w2 = w1.alloc (.cells #[.string (mk r.name), .int .i64 r.arity, .bool r.wr, .bool r.ct, .int .i64 r.first, .int .i64 r.last, .int .i64 r.step] 23) := ⟨_, rfl⟩
    have b2 : Below w1.heap.size w1 w2 := by rw [hw2]; exact (Below.refl _ w1).alloc (Nat.le_refl _) _
    have hr2 : w2.heap[w1.heap.size]? = some (.cells (cellsS r).toArray 23 (0, 0)) := by rw [hw2]; exact heap_alloc_new w1 _
    have hbw2 : Below w.heap.size w w2 := b1.trans (b2.mono b1.size)
    have HR2 := hid_of hr2
    have HBW := hid_of hbw2
    have HW2 := hid_of hw2
    obtain ⟨R, hR⟩ : ∃ R, R = w1.heap.size := ⟨_, rfl⟩
    have HR := hid_of hR
    rw [← hR] at HR2
    clear hw2 b1 b2 hr2 hbw2 hR
    cases b with
    | false =>
      obtain ⟨K, HK⟩ : ∃ K, Hid (K = n.length) := ⟨_, hid_of rfl⟩
      have hKs : N.size = K := by rw [HK.out]; exact HNS.out
      have HV2 : Hid (checkS l = unk ++ showN n) := hid_of (by rw [HV.out]; rfl)
      clear hok HV
      go_wp2_with fail
      rw [← HW2.out, ← HR.out]
      go_loopg [6, 7, 8] 33 (fun gk s6 s7 s8 wx => ∃ i : Nat, i ≤ 32 ∧ i ≤ K ∧ 33 ≤ i + gk ∧ s7 = .int .i64 (i : Int) ∧ Hid (wx.ownsRow w.heap.size 5 1 s6 i (((showN n).take i).map bv) ∧ Below w.heap.size w wx))
      case atStart => exact ⟨0, by omega, by omega, by omega, rfl, hid_of ⟨by simpa using World.ownsRow_nil _ _ _ _, HBW.out⟩⟩
      case round =>
        rename_i s6 s8
        obtain ⟨i, h32, hiK, hgk, rfl, I⟩ := hrel
        obtain ⟨a6, c6, rfl⟩ := own_shape I.out.1
        by_cases hlt : i < K ∧ i < 32
        · obtain ⟨g', rfl⟩ : ∃ g', gk = g' + 1 := ⟨gk - 1, by omega⟩
          have hin : i < n.length := by rw [← HK.out]; exact hlt.1
          have t1 : decide ((i : Int) < (K : Int)) = true := by simp; omega
          have t2 : decide ((i : Int) < 32) = true := by simp; omega
          have HX := hid_of (take_show n i hin hlt.2)
          have hix : ∀ V, (Instr.index 9 (.string N) (.int .i64 (i : Int))).run Try.prog V = .ok (.int .u8 (n[i].toNat : Int)) V := fun V => by rw [HNE.out]; exact index_at n i hin V
          obtain ⟨ch, hch⟩ : ∃ ch, ch = n[i] := ⟨_, rfl⟩
          rw [← hch] at HX hix
          have hix1 := hix wr
          have b8 : ch.toNat < 256 := ch.toNat_lt
          have w1 : IntKind.i64.wrap ((i : Int) + 1) = (i : Int) + 1 := IntWalk.i64_in _ (by omega)
          have hh := hlt
          clear hlt hch hin
          by_cases h1 : ch.toNat < 32
          · have q1 : decide ((ch.toNat : Int) < 32) = true := by simp; omega
            have hv : vis ch = 63 := vis_yes (.inl h1)
            rw [hv] at HX
            clear hv
            go_wp2_with (first
              | (at_builtin; refine wpList_append_own _ rfl _ _ 37 rfl w.heap.size 5 i0 (.int .u8 0) 1 1 Try.underlying37 hi0 hz0 hz1 hz2 rfl (by decide) _ _ _ rfl (I.out.1.alloc _) ⟨wr.heap.size, 0, none⟩ 1 1 [.int .u8 63] rfl rfl (one_new _ _) (by simp [Value.oneCell']) (by unfold maxLen; omega) (by omega) (by have := I.out.2.size; simp; omega) ?_; intro v' w5 hown hgr hnil; have H5 := hid_of (own_step (c := 63) (Nat.le_refl _) I.out.2 I.out.1 hgr hown HX.out); clear hown hgr hnil)
              | go_in)
            go_roundg g'
            case measure => omega
            case rel => exact ⟨i + 1, by omega, by omega, by omega, by simp, H5⟩
          · have q1 : decide ((ch.toNat : Int) < 32) = false := by simp; omega
            by_cases h2 : 126 < ch.toNat
            · have q2 : decide (126 < (ch.toNat : Int)) = true := by simp; omega
              have hv : vis ch = 63 := vis_yes (.inr h2)
              rw [hv] at HX
              clear hv
              go_wp2_with (first
                | (at_builtin; refine wpList_append_own _ rfl _ _ 37 rfl w.heap.size 5 i0 (.int .u8 0) 1 1 Try.underlying37 hi0 hz0 hz1 hz2 rfl (by decide) _ _ _ rfl (I.out.1.alloc _) ⟨wr.heap.size, 0, none⟩ 1 1 [.int .u8 63] rfl rfl (one_new _ _) (by simp [Value.oneCell']) (by unfold maxLen; omega) (by omega) (by have := I.out.2.size; simp; omega) ?_; intro v' w5 hown hgr hnil; have H5 := hid_of (own_step (c := 63) (Nat.le_refl _) I.out.2 I.out.1 hgr hown HX.out); clear hown hgr hnil)
                | go_in)
              go_roundg g'
              case measure => omega
              case rel => exact ⟨i + 1, by omega, by omega, by omega, by simp, H5⟩
            · have q2 : decide (126 < (ch.toNat : Int)) = false := by simp; omega
              have hv : vis ch = ch := vis_no (by omega)
              rw [hv] at HX
              clear hv
              go_wp2_with (first
                | (at_builtin; refine wpList_append_own _ rfl _ _ 37 rfl w.heap.size 5 i0 (.int .u8 0) 1 1 Try.underlying37 hi0 hz0 hz1 hz2 rfl (by decide) _ _ _ rfl (I.out.1.alloc _) ⟨wr.heap.size, 0, none⟩ 1 1 [.int .u8 (ch.toNat : Int)] rfl rfl (one_new _ _) (by simp [Value.oneCell']) (by unfold maxLen; omega) (by omega) (by have := I.out.2.size; simp; omega) ?_; intro v' w5 hown hgr hnil; have H5 := hid_of (own_step (c := ch) (Nat.le_refl _) I.out.2 I.out.1 hgr hown HX.out); clear hown hgr hnil)
                | go_in)
              go_roundg g'
              case measure => omega
              case rel => exact ⟨i + 1, by omega, by omega, by omega, by simp, H5⟩
        · have ht : ((showN n).take i) = showN n := List.take_of_length_le (by unfold showN; rw [List.length_map, List.length_take, ← HK.out]; omega)
          have hlen : i = (showN n).length := by unfold showN; rw [List.length_map, List.length_take, ← HK.out]; omega
          have hcv : (convert 37 9 (.slice a6 i c6)).run Try.prog wr = .ok (.string (mk (showN n))) wr := by
            refine conv_own (B := w.heap.size) (n := i) ?_ hlen
            have := I.out.1
            rwa [ht] at this
          obtain ⟨S, hS⟩ : ∃ S, S = mk (showN n) := ⟨_, rfl⟩
          have hsz : S.size ≤ 32 := by rw [hS, mk_size, ← hlen]; exact h32
          rw [← hS] at hcv
          have HSS := hid_of hS
          clear hS ht hlen
          have hx : mk (unk ++ showN n) = ⟨#[69, 82, 82, 32, 117, 110, 107, 110, 111, 119, 110, 32, 99, 111, 109, 109, 97, 110, 100, 32]⟩ ++ S := by rw [← add_str, HSS.out]; rfl
          have HX := hid_of hx
          clear hx
          rcases Nat.lt_or_ge i K with hl1 | hl1
          · have t1 : decide ((i : Int) < (K : Int)) = true := by simp; omega
            have t2 : decide ((i : Int) < 32) = false := by simp; omega
            clear hlt
            go_wp2_with fail
            go_ret
            exact ⟨ret_s (by rw [HV2.out, HX.out]), I.out.2⟩
          · have t1 : decide ((i : Int) < (K : Int)) = false := by simp; omega
            clear hlt
            go_wp2_with fail
            go_ret
            exact ⟨ret_s (by rw [HV2.out, HX.out]), I.out.2⟩
    | true =>
      have hq := ok_of (hok.resolve_right (fun q => by cases q.1)).2
      obtain ⟨⟨d0, d1, d2, d3, d4, d5, d6⟩, k0, k1, k2, k3, k4, k5, k6⟩ := box7 HR2.out
      obtain ⟨NM, hNM⟩ : ∃ NM, NM = mk r.name := ⟨_, rfl⟩
      have hsz : NM.size ≤ 32 := by rw [hNM, mk_size]; exact hq.2.2.2.2.2.2.2.2.2.1
      have HV2 : Hid (checkS l = if fitsB r.arity L then [] else art ++ r.name) := hid_of (by rw [HV.out]; simp only [if_true]; split <;> rfl)
      obtain ⟨A, hA⟩ : ∃ A, A = r.arity := ⟨_, rfl⟩
      have hA1 : -5 ≤ A ∧ A ≤ 5 := by rw [hA]; exact ⟨hq.1, hq.2.1⟩
      rw [← hNM] at d0 ⊢
      rw [← hNM] at HW2
      rw [← hA] at d1 HV2 HW2 ⊢
      have hx : mk (art ++ r.name) = ⟨#[69, 82, 82, 32, 119, 114, 111, 110, 103, 32, 110, 117, 109, 98, 101, 114, 32, 111, 102, 32, 97, 114, 103, 117, 109, 101, 110, 116, 115, 58, 32]⟩ ++ NM := by rw [← add_str, hNM]; rfl
      have HX := hid_of hx
      have wn : IntKind.i64.wrap (-A) = -A := IntWalk.i64_in _ (by omega)
      clear hq hok hNM hA hx HV
      by_cases h0 : 0 ≤ A
      · have t0 : decide ((0 : Int) ≤ A) = true := decide_eq_true h0
        have HF2 : Hid (fitsB A L = decide ((L : Int) = A)) := hid_of (by unfold fitsB; rw [if_neg (by omega)])
        by_cases h1 : (L : Int) = A
        · have t1 : ((L : Int) != A) = false := by simp [h1]
          have t2 : decide ((L : Int) < -A) = false := decide_eq_false (by omega)
          have HE : Hid (checkS l = []) := hid_of (by rw [HV2.out, HF2.out, decide_eq_true h1]; rfl)
          clear HF2 HV2 h0 h1
          go_wp2_with fail
          rw [← HW2.out, ← HR.out]
          go_wp2_with fail
          go_ret
          exact ⟨by rw [HE.out]; rfl, HBW.out⟩
        · have t1 : ((L : Int) != A) = true := by simp [h1]
          have HE : Hid (checkS l = art ++ r.name) := hid_of (by rw [HV2.out, HF2.out, decide_eq_false h1]; rfl)
          clear HF2 HV2 h0 h1
          go_wp2_with fail
          rw [← HW2.out, ← HR.out]
          go_wp2_with fail
          go_ret
          exact ⟨ret_s (by rw [HE.out, HX.out]), HBW.out⟩
      · have t0 : decide ((0 : Int) ≤ A) = false := decide_eq_false h0
        have HF2 : Hid (fitsB A L = decide (-A ≤ (L : Int))) := hid_of (by unfold fitsB; rw [if_pos (by omega)])
        by_cases h1 : (L : Int) < -A
        · have t2 : decide ((L : Int) < -A) = true := decide_eq_true h1
          have HE : Hid (checkS l = art ++ r.name) := hid_of (by rw [HV2.out, HF2.out, decide_eq_false (by omega)]; rfl)
          clear HF2 HV2 h0 h1
          go_wp2_with fail
          rw [← HW2.out, ← HR.out]
          go_wp2_with fail
          go_ret
          exact ⟨ret_s (by rw [HE.out, HX.out]), HBW.out⟩
        · have t2 : decide ((L : Int) < -A) = false := decide_eq_false h1
          have HE : Hid (checkS l = []) := hid_of (by rw [HV2.out, HF2.out, decide_eq_true (by omega)]; rfl)
          clear HF2 HV2 h0 h1
          go_wp2_with fail
          rw [← HW2.out, ← HR.out]
          go_wp2_with fail
          go_ret
          exact ⟨by rw [HE.out]; rfl, HBW.out⟩
end Go.Proofs.Ytgmnmcaclpfknaa.RChk
