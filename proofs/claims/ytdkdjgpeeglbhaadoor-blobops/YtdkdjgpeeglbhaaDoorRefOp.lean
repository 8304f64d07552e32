/- Op of the document. -/
import Derived.Test.YtdkdjgpeeglbhaaDoorOp2
namespace Go.Proofs.YtdkdjgpeeglbhaaDoor.RefOp
open Go.RowKit
open Go.Proofs.YtdkdjgpeeglbhaaDoor.BlobMath
open Go.Proofs.YtdkdjgpeeglbhaaDoor.Span
open Go.Proofs.YtdkdjgpeeglbhaaDoor.Bits
open Go.Proofs.YtdkdjgpeeglbhaaDoor.Reads
open Go.Proofs.YtdkdjgpeeglbhaaDoor.Mem
open Go.Proofs.YtdkdjgpeeglbhaaDoor.Opp
set_option linter.unusedVariables false
set_option linter.unusedSimpArgs false

theorem ret_s0 {a b : ByteArray} {c : Int} (h : a = b) : Ending.returned (.tuple #[.string a, .int .i64 c]) = .returned (.tuple #[.string b, .int .i64 c]) := by rw [h]
def rowF (M : Nat) (f : Nat → Nat) : List UInt8 := (List.range M).map fun j => UInt8.ofNat (f j)
theorem rowF_len (M : Nat) (f : Nat → Nat) : (rowF M f).length = M := by simp [rowF]
theorem rowF_at {M : Nat} {f : Nat → Nat} {j : Nat} (h : j < M) (hf : f j < 256) : at8 (rowF M f) j = f j := by
  rw [at8_in (by rw [rowF_len]; exact h)]
  simp only [rowF, List.getElem_map, List.getElem_range, UInt8.toNat_ofNat']
  omega
theorem rowF_set {M k x : Nat} {f f' : Nat → Nat} (hk : k < M) (hx : f' k = x) (ho : ∀ j, j ≠ k → f' j = f j) : (rowF M f).set k (UInt8.ofNat x) = rowF M f' := by
  apply List.ext_getElem (by simp [rowF])
  intro j h1 h2
  simp only [rowF, List.getElem_set, List.getElem_map, List.getElem_range]
  by_cases q : k = j
  · subst q; rw [if_pos rfl, hx]
  · rw [if_neg q, ho j (Ne.symm q)]
theorem rowF_congr {M : Nat} {f f' : Nat → Nat} (h : ∀ j, j < M → f j = f' j) : rowF M f = rowF M f' := by
  unfold rowF
  apply List.map_congr_left
  intro j hj
  rw [h j (List.mem_range.1 hj)]
def finB (op : Nat) (L : List ByteArray) (k : Nat) : Nat := if op = 4 then 255 - acc op k L L.length else acc op k L L.length
def fk (op : Nat) (L : List ByteArray) (k j : Nat) : Nat := if j < k then finB op L j else 0
def gi (op : Nat) (L : List ByteArray) (k i j : Nat) : Nat := if j < k then finB op L j else if j = k then acc op k L i else 0
theorem gi_zero (op : Nat) (L : List ByteArray) (M k : Nat) : rowF M (gi op L k 0) = rowF M (fk op L k) := by
  apply rowF_congr; intro j _; unfold gi fk; split
  · rfl
  · split <;> simp [acc]
theorem gi_end (op : Nat) (h4 : op ≠ 4) (L : List ByteArray) (M k : Nat) : rowF M (gi op L k L.length) = rowF M (fk op L (k + 1)) := by
  apply rowF_congr; intro j _; unfold gi fk
  by_cases h : j < k
  · rw [if_pos h, if_pos (by omega)]
  · rw [if_neg h]
    by_cases q : j = k
    · subst q; rw [if_pos rfl, if_pos (by omega)]; unfold finB; rw [if_neg h4]
    · rw [if_neg q, if_neg (by omega)]
theorem fk_zero (op : Nat) (L : List ByteArray) (M : Nat) : List.replicate M 0 = rowF M (fk op L 0) := by
  apply List.ext_getElem (by simp [rowF])
  intro j h1 h2
  simp [rowF, fk]
theorem fk_end (op : Nat) (L : List ByteArray) : rowF (mx L L.length) (fk op L (mx L L.length)) = opS op L := by
  unfold rowF opS
  apply List.map_congr_left
  intro j hj
  rw [List.mem_range] at hj
  unfold fk finB
  rw [if_pos hj]
theorem gi_at (op : Nat) (L : List ByteArray) {M k : Nat} (i : Nat) (hk : k < M) : at8 (rowF M (gi op L k i)) k = acc op k L i := by
  have e : gi op L k i k = acc op k L i := by unfold gi; rw [if_neg (by omega), if_pos rfl]
  rw [rowF_at hk (by rw [e]; exact acc_lt _ _ _ _), e]
theorem gi_set (op : Nat) (L : List ByteArray) {M k i x : Nat} (hk : k < M) (hx : acc op k L (i + 1) = x) : (rowF M (gi op L k i)).set k (UInt8.ofNat x) = rowF M (gi op L k (i + 1)) := by
  apply rowF_set hk
  · unfold gi; rw [if_neg (by omega), if_pos rfl, hx]
  · intro j hj; unfold gi; rw [if_neg hj, if_neg hj]
theorem fin_set (L : List ByteArray) {M k : Nat} (hk : k < M) : (rowF M (gi 4 L k L.length)).set k (UInt8.ofNat (255 - acc 4 k L L.length)) = rowF M (fk 4 L (k + 1)) := by
  apply rowF_set hk
  · unfold fk; rw [if_pos (by omega)]; rfl
  · intro j hj; unfold gi fk
    by_cases q : j < k
    · rw [if_pos q, if_pos (by omega)]
    · rw [if_neg q, if_neg hj, if_neg (by omega)]
theorem acc_one {op k i : Nat} {L : List ByteArray} (h : i = 0) : acc op k L (i + 1) = at8 (tx L i) k := by subst h; simp [acc]
theorem acc_more (op k : Nat) (L : List ByteArray) {i : Nat} (h : 0 < i) : acc op k L (i + 1) = opN op (acc op k L i) (at8 (tx L i) k) := by rw [acc, if_neg (by omega)]
theorem rop_bad (op : Int) (a : Option Addr) (n cap : Nat) (w : World) (hn : n ≤ 140737488351232) (h : op < 1 ∨ 4 < op ∨ n = 0 ∨ (op = 4 ∧ 1 < n)) :
    Calls Tryd.prog 23 #[.int .i64 op, .slice a n cap] w fun e w' => e = .returned (.tuple #[.string ByteArray.empty, .int .i64 82]) ∧ w' = w := by
  rcases h with h | h | h | ⟨rfl, h⟩
  · go_enter Tryd.func23, Tryd.ntmps23
    go_wp2
    go_ret2
    exact ⟨rfl, rfl⟩
  · go_enter Tryd.func23, Tryd.ntmps23
    go_wp2
    go_ret2
    exact ⟨rfl, rfl⟩
  · subst h
    rcases (show op < 1 ∨ 4 < op ∨ (1 ≤ op ∧ op ≤ 4) by omega) with h | h | ⟨h, h'⟩
    all_goals
      go_enter Tryd.func23, Tryd.ntmps23
      go_wp2
      go_ret2
      exact ⟨rfl, rfl⟩
  · have h0 : ((n : Int) == 0) = false := by rw [beq_eq_false_iff_ne]; omega
    have h1 : (1 : Int) < (n : Int) := by omega
    go_enter Tryd.func23, Tryd.ntmps23
    go_wp2
    go_ret2
    exact ⟨rfl, rfl⟩
set_option maxHeartbeats 4000000 in
set_option maxRecDepth 100000 in
theorem rop_1 (b o cap : Nat) (L : List ByteArray) (w : World) (h : SS w b o L) (hL : Small L) (hn : 0 < L.length) (hc : L.length ≤ cap) (hcb : L.length ≤ 140737488351232) :
    Calls Tryd.prog 23 #[.int .i64 1, .slice (some ⟨b, o, none⟩) L.length cap] w fun e w' => e = .returned (.tuple #[.string (mkB (opS 1 L)), .int .i64 0]) ∧ Below w.heap.size w w' := by
  obtain ⟨i0, hi0, hz0, hz1, hz2⟩ := info_parts info5
  obtain ⟨n, HN⟩ : ∃ n, Hid (n = L.length) := ⟨_, hid_of rfl⟩
  have HC := hid_of h
  have HL := hid_of hL
  obtain ⟨M, HM⟩ : ∃ M, Hid (M = mx L L.length) := ⟨_, hid_of rfl⟩
  have hM : M ≤ 140737488351232 := by rw [HM.out]; exact mx_bd hL _
  have hbw := h.lt
  have HF := hid_of (fk_end 1 L)
  rw [← HM.out] at HF
  rw [← HN.out] at hc hn hcb ⊢
  have e3 : ((n : Int) == 0) = false := by rw [beq_eq_false_iff_ne]; omega
  have hnb : n ≤ 140737488351232 := by omega
  clear h hL
  go_enter Tryd.func23, Tryd.ntmps23
  go_wp2_with fail
  go_loopg [6, 7] n (fun gh s6 s7 wx => ∃ i q : Nat, i ≤ n ∧ n ≤ i + gh ∧ s7 = .int .i64 (i : Int) ∧ s6 = .int .i64 (q : Int) ∧ Hid (q = mx L i) ∧ wx = w)
  case atStart => exact ⟨0, 0, Nat.zero_le _, by omega, rfl, rfl, hid_of rfl, rfl⟩
  case round =>
    obtain ⟨i, q, hi, hgh, rfl, rfl, HQ, rfl⟩ := hrel
    by_cases hlt : i < n
    · obtain ⟨gO, rfl⟩ : ∃ gO, gk = gO + 1 := ⟨gk - 1, by omega⟩
      have hil : i < L.length := by have := HN.out; omega
      have hct := HC.out.cell i hil
      obtain ⟨s, HS⟩ : ∃ s, Hid (s = L[i]) := ⟨_, hid_of rfl⟩
      rw [← HS.out] at hct
      obtain ⟨q', HQ'⟩ : ∃ q', Hid (q' = max q s.size) := ⟨_, hid_of rfl⟩
      have hq : max (q : Int) (s.size : Int) = (q' : Int) := by have := HQ'.out; omega
      have HQ2 := hid_of (show q' = mx L (i + 1) by rw [HQ'.out, HQ.out, mx, tx_len L i hil, HS.out])
      go_wp2_with fail
      go_roundg gO
      case measure => omega
      case rel => exact ⟨i + 1, q', hlt, by omega, by go_num, rfl, HQ2, rfl⟩
    · have HE := hid_of (show q = M by rw [HQ.out, HM.out, show i = L.length by have := HN.out; omega])
      rw [HE.out]
      clear HE HQ hgh
      go_wp2_with (at_make; refine wpList_make_full _ rfl _ _ 54 rfl wr.heap.size 5 i0 (.int .u8 0) 1 Tryd.underlying54 hi0 hz0 hz1 _ _ _ _ M rfl rfl rfl rfl ?b2 ?b3 (Nat.le_refl _) ?_)
      case b2 => rw [hz2]; omega
      case b3 => unfold maxLen; omega
      intro w0 hown0 hgrow0
      have HI0 := hid_of (And.intro (show BRow w0 wr.heap.size (rowF M (fk 1 L 0)) by rw [← fk_zero]; exact BRow.of_own (n := M) (cap := M) (base := wr.heap.size) (by simp) (by rw [made_row] at hown0; exact hown0)) (show Below wr.heap.size wr w0 from (Below.refl _ _).grown hgrow0 (Nat.le_refl _) (fun k h => by cases h)))
      clear hown0 hgrow0
      obtain ⟨G, HG⟩ : ∃ G, Hid (G = wr.heap.size) := ⟨_, hid_of rfl⟩
      obtain ⟨WA, HWA⟩ : ∃ WA, Hid (WA = wr) := ⟨_, hid_of rfl⟩
      rw [← HG.out] at HI0 hbw ⊢
      rw [← HWA.out] at HI0 HC
      go_wp2_with fail
      go_loopg [9] M (fun gh s9 wx => ∃ k : Nat, k ≤ M ∧ M ≤ k + gh ∧ s9 = .int .i64 (k : Int) ∧ Hid (BRow wx G (rowF M (fk 1 L k)) ∧ Below G WA wx))
      case atStart => exact ⟨0, Nat.zero_le _, by omega, rfl, HI0⟩
      case round =>
        obtain ⟨k, hk, hgh, rfl, HI⟩ := hrel
        by_cases hkl : k < M
        · obtain ⟨gO, rfl⟩ : ∃ gO, gk = gO + 1 := ⟨gk - 1, by omega⟩
          have HI1 := HI.out
          rw [← gi_zero] at HI1
          have HI2 := hid_of HI1
          clear HI HI1
          go_wp2_with fail
          go_loopg [10] n (fun gh s10 wx => ∃ i : Nat, i ≤ n ∧ n ≤ i + gh ∧ s10 = .int .i64 (i : Int) ∧ Hid (BRow wx G (rowF M (gi 1 L k i)) ∧ Below G WA wx))
          case atStart => exact ⟨0, Nat.zero_le _, by omega, rfl, HI2⟩
          case round =>
            obtain ⟨i, hin, hgh2, rfl, HI⟩ := hrel
            by_cases hlt2 : i < n
            · obtain ⟨gI, rfl⟩ : ∃ gI, gk = gI + 1 := ⟨gk - 1, by omega⟩
              have hil : i < L.length := by have := HN.out; omega
              have hct := (HC.out.keep HI.out.2 hbw).cell i hil
              obtain ⟨s, HS⟩ : ∃ s, Hid (s = L[i]) := ⟨_, hid_of rfl⟩
              rw [← HS.out] at hct
              have hss : s.size ≤ 140737488351232 := by rw [HS.out]; exact HL.out _ (List.getElem_mem hil)
              have HT := hid_of (show tx L i = txt s by rw [tx_in L i hil, HS.out])
              have hco := HI.out.1.cell k (by rw [rowF_len]; exact hkl)
              rw [gi_at _ _ _ hkl] at hco
              have hzo := HI.out.1.frozen k (by rw [rowF_len]; exact hkl)
              obtain ⟨x, HX⟩ : ∃ x, Hid (x = acc 1 k L i) := ⟨_, hid_of rfl⟩
              rw [← HX.out] at hco
              have hx8 : x < 256 := by rw [HX.out]; exact acc_lt _ _ _ _
              have HSET := hid_of (fun (y : Nat) (hy : y < 256) (he : acc 1 k L (i + 1) = y) => (show BRow (wr.setCell ⟨G, k, none⟩ (.int .u8 (y : Int))) G (rowF M (gi 1 L k (i + 1))) by have := HI.out.1.set k (by rw [rowF_len]; exact hkl) y hy; rw [gi_set _ _ hkl he] at this; exact this))
              have HBS := hid_of (fun (y : Nat) => HI.out.2.setCell (p := ⟨G, k, none⟩) (Nat.le_refl _) (.int .u8 (y : Int)))
              by_cases hks : k < s.size
              · have HCK := hid_of (show s[k].toNat = at8 (tx L i) k by rw [HT.out]; exact txt_at hks)
                have hsk := s[k].toNat_lt
                rcases (show i = 0 ∨ 0 < i by omega) with hiz | hi0'
                · have hne : ((i : Int) == 0) = true := by rw [hiz]; rfl
                  have HI3 := hid_of (And.intro (HSET.out s[k].toNat hsk (by rw [acc_one hiz, HCK.out])) (HBS.out s[k].toNat))
                  clear HSET HBS hiz
                  go_wp2_with fail
                  go_roundg gI
                  case measure => omega
                  case rel => exact ⟨i + 1, hlt2, by omega, by go_num, HI3⟩
                · have hne : ((i : Int) == 0) = false := by rw [beq_eq_false_iff_ne]; omega
                  have hb := and8 hx8 hsk
                  have HI3 := hid_of (And.intro (HSET.out (opN 1 x s[k].toNat) (opN_lt _ hx8 hsk) (by rw [acc_more _ _ _ hi0', HCK.out, HX.out])) (HBS.out (opN 1 x s[k].toNat)))
                  clear HSET HBS
                  go_wp2_with fail
                  go_roundg gI
                  case measure => omega
                  case rel => exact ⟨i + 1, hlt2, by omega, by go_num, HI3⟩
              · have HCK := hid_of (show 0 = at8 (tx L i) k by rw [HT.out, at8_out (by rw [txt_len]; omega)])
                rcases (show i = 0 ∨ 0 < i by omega) with hiz | hi0'
                · have hne : ((i : Int) == 0) = true := by rw [hiz]; rfl
                  have HI3 := hid_of (And.intro (HSET.out 0 (by omega) (by rw [acc_one hiz, ← HCK.out])) (HBS.out 0))
                  clear HSET HBS hiz
                  go_wp2_with fail
                  go_roundg gI
                  case measure => omega
                  case rel => exact ⟨i + 1, hlt2, by omega, by go_num, HI3⟩
                · have hne : ((i : Int) == 0) = false := by rw [beq_eq_false_iff_ne]; omega
                  have hb : bits .and .u8 (x : Int) 0 = ((opN 1 x 0 : Nat) : Int) := and8 hx8 (b := 0) (by omega)
                  have HI3 := hid_of (And.intro (HSET.out (opN 1 x 0) (opN_lt _ hx8 (by omega)) (by rw [acc_more _ _ _ hi0', ← HCK.out, HX.out])) (HBS.out (opN 1 x 0)))
                  clear HSET HBS
                  go_wp2_with fail
                  go_roundg gI
                  case measure => omega
                  case rel => exact ⟨i + 1, hlt2, by omega, by go_num, HI3⟩
            · have HE := hid_of (show i = L.length by have := HN.out; omega)
              have HI3 := HI.out
              rw [HE.out] at HI3
              rw [gi_end _ (by omega)] at HI3
              have HI4 := hid_of HI3
              clear HI3 HI
              go_wp2_with fail
              go_roundg gO
              case measure => omega
              case rel => exact ⟨k + 1, hkl, by omega, by go_num, HI4⟩
        · have HE := hid_of (show k = M by omega)
          have hconv := HI.out.1.conv M M (by rw [rowF_len])
          have HF2 := hid_of (show rowF M (fk 1 L k) = opS 1 L by rw [HE.out, HF.out])
          go_wp2
          go_ret2
          refine ⟨ret_s0 (by rw [HF2.out]), ?_⟩
          have := HI.out.2
          rw [HG.out, HWA.out] at this
          exact this

set_option maxHeartbeats 4000000 in
set_option maxRecDepth 100000 in
theorem rop_2 (b o cap : Nat) (L : List ByteArray) (w : World) (h : SS w b o L) (hL : Small L) (hn : 0 < L.length) (hc : L.length ≤ cap) (hcb : L.length ≤ 140737488351232) :
    Calls Tryd.prog 23 #[.int .i64 2, .slice (some ⟨b, o, none⟩) L.length cap] w fun e w' => e = .returned (.tuple #[.string (mkB (opS 2 L)), .int .i64 0]) ∧ Below w.heap.size w w' := by
  obtain ⟨i0, hi0, hz0, hz1, hz2⟩ := info_parts info5
  obtain ⟨n, HN⟩ : ∃ n, Hid (n = L.length) := ⟨_, hid_of rfl⟩
  have HC := hid_of h
  have HL := hid_of hL
  obtain ⟨M, HM⟩ : ∃ M, Hid (M = mx L L.length) := ⟨_, hid_of rfl⟩
  have hM : M ≤ 140737488351232 := by rw [HM.out]; exact mx_bd hL _
  have hbw := h.lt
  have HF := hid_of (fk_end 2 L)
  rw [← HM.out] at HF
  rw [← HN.out] at hc hn hcb ⊢
  have e3 : ((n : Int) == 0) = false := by rw [beq_eq_false_iff_ne]; omega
  have hnb : n ≤ 140737488351232 := by omega
  clear h hL
  go_enter Tryd.func23, Tryd.ntmps23
  go_wp2_with fail
  go_loopg [6, 7] n (fun gh s6 s7 wx => ∃ i q : Nat, i ≤ n ∧ n ≤ i + gh ∧ s7 = .int .i64 (i : Int) ∧ s6 = .int .i64 (q : Int) ∧ Hid (q = mx L i) ∧ wx = w)
  case atStart => exact ⟨0, 0, Nat.zero_le _, by omega, rfl, rfl, hid_of rfl, rfl⟩
  case round =>
    obtain ⟨i, q, hi, hgh, rfl, rfl, HQ, rfl⟩ := hrel
    by_cases hlt : i < n
    · obtain ⟨gO, rfl⟩ : ∃ gO, gk = gO + 1 := ⟨gk - 1, by omega⟩
      have hil : i < L.length := by have := HN.out; omega
      have hct := HC.out.cell i hil
      obtain ⟨s, HS⟩ : ∃ s, Hid (s = L[i]) := ⟨_, hid_of rfl⟩
      rw [← HS.out] at hct
      obtain ⟨q', HQ'⟩ : ∃ q', Hid (q' = max q s.size) := ⟨_, hid_of rfl⟩
      have hq : max (q : Int) (s.size : Int) = (q' : Int) := by have := HQ'.out; omega
      have HQ2 := hid_of (show q' = mx L (i + 1) by rw [HQ'.out, HQ.out, mx, tx_len L i hil, HS.out])
      go_wp2_with fail
      go_roundg gO
      case measure => omega
      case rel => exact ⟨i + 1, q', hlt, by omega, by go_num, rfl, HQ2, rfl⟩
    · have HE := hid_of (show q = M by rw [HQ.out, HM.out, show i = L.length by have := HN.out; omega])
      rw [HE.out]
      clear HE HQ hgh
      go_wp2_with (at_make; refine wpList_make_full _ rfl _ _ 54 rfl wr.heap.size 5 i0 (.int .u8 0) 1 Tryd.underlying54 hi0 hz0 hz1 _ _ _ _ M rfl rfl rfl rfl ?b2 ?b3 (Nat.le_refl _) ?_)
      case b2 => rw [hz2]; omega
      case b3 => unfold maxLen; omega
      intro w0 hown0 hgrow0
      have HI0 := hid_of (And.intro (show BRow w0 wr.heap.size (rowF M (fk 2 L 0)) by rw [← fk_zero]; exact BRow.of_own (n := M) (cap := M) (base := wr.heap.size) (by simp) (by rw [made_row] at hown0; exact hown0)) (show Below wr.heap.size wr w0 from (Below.refl _ _).grown hgrow0 (Nat.le_refl _) (fun k h => by cases h)))
      clear hown0 hgrow0
      obtain ⟨G, HG⟩ : ∃ G, Hid (G = wr.heap.size) := ⟨_, hid_of rfl⟩
      obtain ⟨WA, HWA⟩ : ∃ WA, Hid (WA = wr) := ⟨_, hid_of rfl⟩
      rw [← HG.out] at HI0 hbw ⊢
      rw [← HWA.out] at HI0 HC
      go_wp2_with fail
      go_loopg [9] M (fun gh s9 wx => ∃ k : Nat, k ≤ M ∧ M ≤ k + gh ∧ s9 = .int .i64 (k : Int) ∧ Hid (BRow wx G (rowF M (fk 2 L k)) ∧ Below G WA wx))
      case atStart => exact ⟨0, Nat.zero_le _, by omega, rfl, HI0⟩
      case round =>
        obtain ⟨k, hk, hgh, rfl, HI⟩ := hrel
        by_cases hkl : k < M
        · obtain ⟨gO, rfl⟩ : ∃ gO, gk = gO + 1 := ⟨gk - 1, by omega⟩
          have HI1 := HI.out
          rw [← gi_zero] at HI1
          have HI2 := hid_of HI1
          clear HI HI1
          go_wp2_with fail
          go_loopg [10] n (fun gh s10 wx => ∃ i : Nat, i ≤ n ∧ n ≤ i + gh ∧ s10 = .int .i64 (i : Int) ∧ Hid (BRow wx G (rowF M (gi 2 L k i)) ∧ Below G WA wx))
          case atStart => exact ⟨0, Nat.zero_le _, by omega, rfl, HI2⟩
          case round =>
            obtain ⟨i, hin, hgh2, rfl, HI⟩ := hrel
            by_cases hlt2 : i < n
            · obtain ⟨gI, rfl⟩ : ∃ gI, gk = gI + 1 := ⟨gk - 1, by omega⟩
              have hil : i < L.length := by have := HN.out; omega
              have hct := (HC.out.keep HI.out.2 hbw).cell i hil
              obtain ⟨s, HS⟩ : ∃ s, Hid (s = L[i]) := ⟨_, hid_of rfl⟩
              rw [← HS.out] at hct
              have hss : s.size ≤ 140737488351232 := by rw [HS.out]; exact HL.out _ (List.getElem_mem hil)
              have HT := hid_of (show tx L i = txt s by rw [tx_in L i hil, HS.out])
              have hco := HI.out.1.cell k (by rw [rowF_len]; exact hkl)
              rw [gi_at _ _ _ hkl] at hco
              have hzo := HI.out.1.frozen k (by rw [rowF_len]; exact hkl)
              obtain ⟨x, HX⟩ : ∃ x, Hid (x = acc 2 k L i) := ⟨_, hid_of rfl⟩
              rw [← HX.out] at hco
              have hx8 : x < 256 := by rw [HX.out]; exact acc_lt _ _ _ _
              have HSET := hid_of (fun (y : Nat) (hy : y < 256) (he : acc 2 k L (i + 1) = y) => (show BRow (wr.setCell ⟨G, k, none⟩ (.int .u8 (y : Int))) G (rowF M (gi 2 L k (i + 1))) by have := HI.out.1.set k (by rw [rowF_len]; exact hkl) y hy; rw [gi_set _ _ hkl he] at this; exact this))
              have HBS := hid_of (fun (y : Nat) => HI.out.2.setCell (p := ⟨G, k, none⟩) (Nat.le_refl _) (.int .u8 (y : Int)))
              by_cases hks : k < s.size
              · have HCK := hid_of (show s[k].toNat = at8 (tx L i) k by rw [HT.out]; exact txt_at hks)
                have hsk := s[k].toNat_lt
                rcases (show i = 0 ∨ 0 < i by omega) with hiz | hi0'
                · have hne : ((i : Int) == 0) = true := by rw [hiz]; rfl
                  have HI3 := hid_of (And.intro (HSET.out s[k].toNat hsk (by rw [acc_one hiz, HCK.out])) (HBS.out s[k].toNat))
                  clear HSET HBS hiz
                  go_wp2_with fail
                  go_roundg gI
                  case measure => omega
                  case rel => exact ⟨i + 1, hlt2, by omega, by go_num, HI3⟩
                · have hne : ((i : Int) == 0) = false := by rw [beq_eq_false_iff_ne]; omega
                  have hb := or8 hx8 hsk
                  have HI3 := hid_of (And.intro (HSET.out (opN 2 x s[k].toNat) (opN_lt _ hx8 hsk) (by rw [acc_more _ _ _ hi0', HCK.out, HX.out])) (HBS.out (opN 2 x s[k].toNat)))
                  clear HSET HBS
                  go_wp2_with fail
                  go_roundg gI
                  case measure => omega
                  case rel => exact ⟨i + 1, hlt2, by omega, by go_num, HI3⟩
              · have HCK := hid_of (show 0 = at8 (tx L i) k by rw [HT.out, at8_out (by rw [txt_len]; omega)])
                rcases (show i = 0 ∨ 0 < i by omega) with hiz | hi0'
                · have hne : ((i : Int) == 0) = true := by rw [hiz]; rfl
                  have HI3 := hid_of (And.intro (HSET.out 0 (by omega) (by rw [acc_one hiz, ← HCK.out])) (HBS.out 0))
                  clear HSET HBS hiz
                  go_wp2_with fail
                  go_roundg gI
                  case measure => omega
                  case rel => exact ⟨i + 1, hlt2, by omega, by go_num, HI3⟩
                · have hne : ((i : Int) == 0) = false := by rw [beq_eq_false_iff_ne]; omega
                  have hb : bits .or .u8 (x : Int) 0 = ((opN 2 x 0 : Nat) : Int) := or8 hx8 (b := 0) (by omega)
                  have HI3 := hid_of (And.intro (HSET.out (opN 2 x 0) (opN_lt _ hx8 (by omega)) (by rw [acc_more _ _ _ hi0', ← HCK.out, HX.out])) (HBS.out (opN 2 x 0)))
                  clear HSET HBS
                  go_wp2_with fail
                  go_roundg gI
                  case measure => omega
                  case rel => exact ⟨i + 1, hlt2, by omega, by go_num, HI3⟩
            · have HE := hid_of (show i = L.length by have := HN.out; omega)
              have HI3 := HI.out
              rw [HE.out] at HI3
              rw [gi_end _ (by omega)] at HI3
              have HI4 := hid_of HI3
              clear HI3 HI
              go_wp2_with fail
              go_roundg gO
              case measure => omega
              case rel => exact ⟨k + 1, hkl, by omega, by go_num, HI4⟩
        · have HE := hid_of (show k = M by omega)
          have hconv := HI.out.1.conv M M (by rw [rowF_len])
          have HF2 := hid_of (show rowF M (fk 2 L k) = opS 2 L by rw [HE.out, HF.out])
          go_wp2
          go_ret2
          refine ⟨ret_s0 (by rw [HF2.out]), ?_⟩
          have := HI.out.2
          rw [HG.out, HWA.out] at this
          exact this
set_option maxHeartbeats 4000000 in
set_option maxRecDepth 100000 in
theorem rop_3 (b o cap : Nat) (L : List ByteArray) (w : World) (h : SS w b o L) (hL : Small L) (hn : 0 < L.length) (hc : L.length ≤ cap) (hcb : L.length ≤ 140737488351232) :
    Calls Tryd.prog 23 #[.int .i64 3, .slice (some ⟨b, o, none⟩) L.length cap] w fun e w' => e = .returned (.tuple #[.string (mkB (opS 3 L)), .int .i64 0]) ∧ Below w.heap.size w w' := by
  obtain ⟨i0, hi0, hz0, hz1, hz2⟩ := info_parts info5
  obtain ⟨n, HN⟩ : ∃ n, Hid (n = L.length) := ⟨_, hid_of rfl⟩
  have HC := hid_of h
  have HL := hid_of hL
  obtain ⟨M, HM⟩ : ∃ M, Hid (M = mx L L.length) := ⟨_, hid_of rfl⟩
  have hM : M ≤ 140737488351232 := by rw [HM.out]; exact mx_bd hL _
  have hbw := h.lt
  have HF := hid_of (fk_end 3 L)
  rw [← HM.out] at HF
  rw [← HN.out] at hc hn hcb ⊢
  have e3 : ((n : Int) == 0) = false := by rw [beq_eq_false_iff_ne]; omega
  have hnb : n ≤ 140737488351232 := by omega
  clear h hL
  go_enter Tryd.func23, Tryd.ntmps23
  go_wp2_with fail
  go_loopg [6, 7] n (fun gh s6 s7 wx => ∃ i q : Nat, i ≤ n ∧ n ≤ i + gh ∧ s7 = .int .i64 (i : Int) ∧ s6 = .int .i64 (q : Int) ∧ Hid (q = mx L i) ∧ wx = w)
  case atStart => exact ⟨0, 0, Nat.zero_le _, by omega, rfl, rfl, hid_of rfl, rfl⟩
  case round =>
    obtain ⟨i, q, hi, hgh, rfl, rfl, HQ, rfl⟩ := hrel
    by_cases hlt : i < n
    · obtain ⟨gO, rfl⟩ : ∃ gO, gk = gO + 1 := ⟨gk - 1, by omega⟩
      have hil : i < L.length := by have := HN.out; omega
      have hct := HC.out.cell i hil
      obtain ⟨s, HS⟩ : ∃ s, Hid (s = L[i]) := ⟨_, hid_of rfl⟩
      rw [← HS.out] at hct
      obtain ⟨q', HQ'⟩ : ∃ q', Hid (q' = max q s.size) := ⟨_, hid_of rfl⟩
      have hq : max (q : Int) (s.size : Int) = (q' : Int) := by have := HQ'.out; omega
      have HQ2 := hid_of (show q' = mx L (i + 1) by rw [HQ'.out, HQ.out, mx, tx_len L i hil, HS.out])
      go_wp2_with fail
      go_roundg gO
      case measure => omega
      case rel => exact ⟨i + 1, q', hlt, by omega, by go_num, rfl, HQ2, rfl⟩
    · have HE := hid_of (show q = M by rw [HQ.out, HM.out, show i = L.length by have := HN.out; omega])
      rw [HE.out]
      clear HE HQ hgh
      go_wp2_with (at_make; refine wpList_make_full _ rfl _ _ 54 rfl wr.heap.size 5 i0 (.int .u8 0) 1 Tryd.underlying54 hi0 hz0 hz1 _ _ _ _ M rfl rfl rfl rfl ?b2 ?b3 (Nat.le_refl _) ?_)
      case b2 => rw [hz2]; omega
      case b3 => unfold maxLen; omega
      intro w0 hown0 hgrow0
      have HI0 := hid_of (And.intro (show BRow w0 wr.heap.size (rowF M (fk 3 L 0)) by rw [← fk_zero]; exact BRow.of_own (n := M) (cap := M) (base := wr.heap.size) (by simp) (by rw [made_row] at hown0; exact hown0)) (show Below wr.heap.size wr w0 from (Below.refl _ _).grown hgrow0 (Nat.le_refl _) (fun k h => by cases h)))
      clear hown0 hgrow0
      obtain ⟨G, HG⟩ : ∃ G, Hid (G = wr.heap.size) := ⟨_, hid_of rfl⟩
      obtain ⟨WA, HWA⟩ : ∃ WA, Hid (WA = wr) := ⟨_, hid_of rfl⟩
      rw [← HG.out] at HI0 hbw ⊢
      rw [← HWA.out] at HI0 HC
      go_wp2_with fail
      go_loopg [9] M (fun gh s9 wx => ∃ k : Nat, k ≤ M ∧ M ≤ k + gh ∧ s9 = .int .i64 (k : Int) ∧ Hid (BRow wx G (rowF M (fk 3 L k)) ∧ Below G WA wx))
      case atStart => exact ⟨0, Nat.zero_le _, by omega, rfl, HI0⟩
      case round =>
        obtain ⟨k, hk, hgh, rfl, HI⟩ := hrel
        by_cases hkl : k < M
        · obtain ⟨gO, rfl⟩ : ∃ gO, gk = gO + 1 := ⟨gk - 1, by omega⟩
          have HI1 := HI.out
          rw [← gi_zero] at HI1
          have HI2 := hid_of HI1
          clear HI HI1
          go_wp2_with fail
          go_loopg [10] n (fun gh s10 wx => ∃ i : Nat, i ≤ n ∧ n ≤ i + gh ∧ s10 = .int .i64 (i : Int) ∧ Hid (BRow wx G (rowF M (gi 3 L k i)) ∧ Below G WA wx))
          case atStart => exact ⟨0, Nat.zero_le _, by omega, rfl, HI2⟩
          case round =>
            obtain ⟨i, hin, hgh2, rfl, HI⟩ := hrel
            by_cases hlt2 : i < n
            · obtain ⟨gI, rfl⟩ : ∃ gI, gk = gI + 1 := ⟨gk - 1, by omega⟩
              have hil : i < L.length := by have := HN.out; omega
              have hct := (HC.out.keep HI.out.2 hbw).cell i hil
              obtain ⟨s, HS⟩ : ∃ s, Hid (s = L[i]) := ⟨_, hid_of rfl⟩
              rw [← HS.out] at hct
              have hss : s.size ≤ 140737488351232 := by rw [HS.out]; exact HL.out _ (List.getElem_mem hil)
              have HT := hid_of (show tx L i = txt s by rw [tx_in L i hil, HS.out])
              have hco := HI.out.1.cell k (by rw [rowF_len]; exact hkl)
              rw [gi_at _ _ _ hkl] at hco
              have hzo := HI.out.1.frozen k (by rw [rowF_len]; exact hkl)
              obtain ⟨x, HX⟩ : ∃ x, Hid (x = acc 3 k L i) := ⟨_, hid_of rfl⟩
              rw [← HX.out] at hco
              have hx8 : x < 256 := by rw [HX.out]; exact acc_lt _ _ _ _
              have HSET := hid_of (fun (y : Nat) (hy : y < 256) (he : acc 3 k L (i + 1) = y) => (show BRow (wr.setCell ⟨G, k, none⟩ (.int .u8 (y : Int))) G (rowF M (gi 3 L k (i + 1))) by have := HI.out.1.set k (by rw [rowF_len]; exact hkl) y hy; rw [gi_set _ _ hkl he] at this; exact this))
              have HBS := hid_of (fun (y : Nat) => HI.out.2.setCell (p := ⟨G, k, none⟩) (Nat.le_refl _) (.int .u8 (y : Int)))
              by_cases hks : k < s.size
              · have HCK := hid_of (show s[k].toNat = at8 (tx L i) k by rw [HT.out]; exact txt_at hks)
                have hsk := s[k].toNat_lt
                rcases (show i = 0 ∨ 0 < i by omega) with hiz | hi0'
                · have hne : ((i : Int) == 0) = true := by rw [hiz]; rfl
                  have HI3 := hid_of (And.intro (HSET.out s[k].toNat hsk (by rw [acc_one hiz, HCK.out])) (HBS.out s[k].toNat))
                  clear HSET HBS hiz
                  go_wp2_with fail
                  go_roundg gI
                  case measure => omega
                  case rel => exact ⟨i + 1, hlt2, by omega, by go_num, HI3⟩
                · have hne : ((i : Int) == 0) = false := by rw [beq_eq_false_iff_ne]; omega
                  have hb := xor8 hx8 hsk
                  have HI3 := hid_of (And.intro (HSET.out (opN 3 x s[k].toNat) (opN_lt _ hx8 hsk) (by rw [acc_more _ _ _ hi0', HCK.out, HX.out])) (HBS.out (opN 3 x s[k].toNat)))
                  clear HSET HBS
                  go_wp2_with fail
                  go_roundg gI
                  case measure => omega
                  case rel => exact ⟨i + 1, hlt2, by omega, by go_num, HI3⟩
              · have HCK := hid_of (show 0 = at8 (tx L i) k by rw [HT.out, at8_out (by rw [txt_len]; omega)])
                rcases (show i = 0 ∨ 0 < i by omega) with hiz | hi0'
                · have hne : ((i : Int) == 0) = true := by rw [hiz]; rfl
                  have HI3 := hid_of (And.intro (HSET.out 0 (by omega) (by rw [acc_one hiz, ← HCK.out])) (HBS.out 0))
                  clear HSET HBS hiz
                  go_wp2_with fail
                  go_roundg gI
                  case measure => omega
                  case rel => exact ⟨i + 1, hlt2, by omega, by go_num, HI3⟩
                · have hne : ((i : Int) == 0) = false := by rw [beq_eq_false_iff_ne]; omega
                  have hb : bits .xor .u8 (x : Int) 0 = ((opN 3 x 0 : Nat) : Int) := xor8 hx8 (b := 0) (by omega)
                  have HI3 := hid_of (And.intro (HSET.out (opN 3 x 0) (opN_lt _ hx8 (by omega)) (by rw [acc_more _ _ _ hi0', ← HCK.out, HX.out])) (HBS.out (opN 3 x 0)))
                  clear HSET HBS
                  go_wp2_with fail
                  go_roundg gI
                  case measure => omega
                  case rel => exact ⟨i + 1, hlt2, by omega, by go_num, HI3⟩
            · have HE := hid_of (show i = L.length by have := HN.out; omega)
              have HI3 := HI.out
              rw [HE.out] at HI3
              rw [gi_end _ (by omega)] at HI3
              have HI4 := hid_of HI3
              clear HI3 HI
              go_wp2_with fail
              go_roundg gO
              case measure => omega
              case rel => exact ⟨k + 1, hkl, by omega, by go_num, HI4⟩
        · have HE := hid_of (show k = M by omega)
          have hconv := HI.out.1.conv M M (by rw [rowF_len])
          have HF2 := hid_of (show rowF M (fk 3 L k) = opS 3 L by rw [HE.out, HF.out])
          go_wp2
          go_ret2
          refine ⟨ret_s0 (by rw [HF2.out]), ?_⟩
          have := HI.out.2
          rw [HG.out, HWA.out] at this
          exact this
set_option maxHeartbeats 4000000 in
set_option maxRecDepth 100000 in
theorem rop_4 (b o cap : Nat) (L : List ByteArray) (w : World) (h : SS w b o L) (hL : Small L) (hn : 0 < L.length) (hc : L.length ≤ cap) (hcb : L.length ≤ 140737488351232) (h1 : L.length ≤ 1) :
    Calls Tryd.prog 23 #[.int .i64 4, .slice (some ⟨b, o, none⟩) L.length cap] w fun e w' => e = .returned (.tuple #[.string (mkB (opS 4 L)), .int .i64 0]) ∧ Below w.heap.size w w' := by
  obtain ⟨i0, hi0, hz0, hz1, hz2⟩ := info_parts info5
  obtain ⟨n, HN⟩ : ∃ n, Hid (n = L.length) := ⟨_, hid_of rfl⟩
  have HC := hid_of h
  have HL := hid_of hL
  obtain ⟨M, HM⟩ : ∃ M, Hid (M = mx L L.length) := ⟨_, hid_of rfl⟩
  have hM : M ≤ 140737488351232 := by rw [HM.out]; exact mx_bd hL _
  have hbw := h.lt
  have HF := hid_of (fk_end 4 L)
  rw [← HM.out] at HF
  rw [← HN.out] at hc hn hcb ⊢
  rw [← HN.out] at h1
  have e4 : ¬ ((1 : Int) < (n : Int)) := by omega
  have e3 : ((n : Int) == 0) = false := by rw [beq_eq_false_iff_ne]; omega
  have hnb : n ≤ 140737488351232 := by omega
  clear h hL
  go_enter Tryd.func23, Tryd.ntmps23
  go_wp2_with fail
  go_loopg [6, 7] n (fun gh s6 s7 wx => ∃ i q : Nat, i ≤ n ∧ n ≤ i + gh ∧ s7 = .int .i64 (i : Int) ∧ s6 = .int .i64 (q : Int) ∧ Hid (q = mx L i) ∧ wx = w)
  case atStart => exact ⟨0, 0, Nat.zero_le _, by omega, rfl, rfl, hid_of rfl, rfl⟩
  case round =>
    obtain ⟨i, q, hi, hgh, rfl, rfl, HQ, rfl⟩ := hrel
    by_cases hlt : i < n
    · obtain ⟨gO, rfl⟩ : ∃ gO, gk = gO + 1 := ⟨gk - 1, by omega⟩
      have hil : i < L.length := by have := HN.out; omega
      have hct := HC.out.cell i hil
      obtain ⟨s, HS⟩ : ∃ s, Hid (s = L[i]) := ⟨_, hid_of rfl⟩
      rw [← HS.out] at hct
      obtain ⟨q', HQ'⟩ : ∃ q', Hid (q' = max q s.size) := ⟨_, hid_of rfl⟩
      have hq : max (q : Int) (s.size : Int) = (q' : Int) := by have := HQ'.out; omega
      have HQ2 := hid_of (show q' = mx L (i + 1) by rw [HQ'.out, HQ.out, mx, tx_len L i hil, HS.out])
      go_wp2_with fail
      go_roundg gO
      case measure => omega
      case rel => exact ⟨i + 1, q', hlt, by omega, by go_num, rfl, HQ2, rfl⟩
    · have HE := hid_of (show q = M by rw [HQ.out, HM.out, show i = L.length by have := HN.out; omega])
      rw [HE.out]
      clear HE HQ hgh
      go_wp2_with (at_make; refine wpList_make_full _ rfl _ _ 54 rfl wr.heap.size 5 i0 (.int .u8 0) 1 Tryd.underlying54 hi0 hz0 hz1 _ _ _ _ M rfl rfl rfl rfl ?b2 ?b3 (Nat.le_refl _) ?_)
      case b2 => rw [hz2]; omega
      case b3 => unfold maxLen; omega
      intro w0 hown0 hgrow0
      have HI0 := hid_of (And.intro (show BRow w0 wr.heap.size (rowF M (fk 4 L 0)) by rw [← fk_zero]; exact BRow.of_own (n := M) (cap := M) (base := wr.heap.size) (by simp) (by rw [made_row] at hown0; exact hown0)) (show Below wr.heap.size wr w0 from (Below.refl _ _).grown hgrow0 (Nat.le_refl _) (fun k h => by cases h)))
      clear hown0 hgrow0
      obtain ⟨G, HG⟩ : ∃ G, Hid (G = wr.heap.size) := ⟨_, hid_of rfl⟩
      obtain ⟨WA, HWA⟩ : ∃ WA, Hid (WA = wr) := ⟨_, hid_of rfl⟩
      rw [← HG.out] at HI0 hbw ⊢
      rw [← HWA.out] at HI0 HC
      go_wp2_with fail
      go_loopg [9] M (fun gh s9 wx => ∃ k : Nat, k ≤ M ∧ M ≤ k + gh ∧ s9 = .int .i64 (k : Int) ∧ Hid (BRow wx G (rowF M (fk 4 L k)) ∧ Below G WA wx))
      case atStart => exact ⟨0, Nat.zero_le _, by omega, rfl, HI0⟩
      case round =>
        obtain ⟨k, hk, hgh, rfl, HI⟩ := hrel
        by_cases hkl : k < M
        · obtain ⟨gO, rfl⟩ : ∃ gO, gk = gO + 1 := ⟨gk - 1, by omega⟩
          have HI1 := HI.out
          rw [← gi_zero] at HI1
          have HI2 := hid_of HI1
          clear HI HI1
          go_wp2_with fail
          go_loopg [10] n (fun gh s10 wx => ∃ i : Nat, i ≤ n ∧ n ≤ i + gh ∧ s10 = .int .i64 (i : Int) ∧ Hid (BRow wx G (rowF M (gi 4 L k i)) ∧ Below G WA wx))
          case atStart => exact ⟨0, Nat.zero_le _, by omega, rfl, HI2⟩
          case round =>
            obtain ⟨i, hin, hgh2, rfl, HI⟩ := hrel
            by_cases hlt2 : i < n
            · obtain ⟨gI, rfl⟩ : ∃ gI, gk = gI + 1 := ⟨gk - 1, by omega⟩
              have hil : i < L.length := by have := HN.out; omega
              have hct := (HC.out.keep HI.out.2 hbw).cell i hil
              obtain ⟨s, HS⟩ : ∃ s, Hid (s = L[i]) := ⟨_, hid_of rfl⟩
              rw [← HS.out] at hct
              have hss : s.size ≤ 140737488351232 := by rw [HS.out]; exact HL.out _ (List.getElem_mem hil)
              have HT := hid_of (show tx L i = txt s by rw [tx_in L i hil, HS.out])
              have hco := HI.out.1.cell k (by rw [rowF_len]; exact hkl)
              rw [gi_at _ _ _ hkl] at hco
              have hzo := HI.out.1.frozen k (by rw [rowF_len]; exact hkl)
              obtain ⟨x, HX⟩ : ∃ x, Hid (x = acc 4 k L i) := ⟨_, hid_of rfl⟩
              rw [← HX.out] at hco
              have hx8 : x < 256 := by rw [HX.out]; exact acc_lt _ _ _ _
              have HSET := hid_of (fun (y : Nat) (hy : y < 256) (he : acc 4 k L (i + 1) = y) => (show BRow (wr.setCell ⟨G, k, none⟩ (.int .u8 (y : Int))) G (rowF M (gi 4 L k (i + 1))) by have := HI.out.1.set k (by rw [rowF_len]; exact hkl) y hy; rw [gi_set _ _ hkl he] at this; exact this))
              have HBS := hid_of (fun (y : Nat) => HI.out.2.setCell (p := ⟨G, k, none⟩) (Nat.le_refl _) (.int .u8 (y : Int)))
              by_cases hks : k < s.size
              · have HCK := hid_of (show s[k].toNat = at8 (tx L i) k by rw [HT.out]; exact txt_at hks)
                have hsk := s[k].toNat_lt
                rcases (show i = 0 ∨ 0 < i by omega) with hiz | hi0'
                · have hne : ((i : Int) == 0) = true := by rw [hiz]; rfl
                  have HI3 := hid_of (And.intro (HSET.out s[k].toNat hsk (by rw [acc_one hiz, HCK.out])) (HBS.out s[k].toNat))
                  clear HSET HBS hiz
                  go_wp2_with fail
                  go_roundg gI
                  case measure => omega
                  case rel => exact ⟨i + 1, hlt2, by omega, by go_num, HI3⟩
                · exact absurd hi0' (by omega)
              · have HCK := hid_of (show 0 = at8 (tx L i) k by rw [HT.out, at8_out (by rw [txt_len]; omega)])
                rcases (show i = 0 ∨ 0 < i by omega) with hiz | hi0'
                · have hne : ((i : Int) == 0) = true := by rw [hiz]; rfl
                  have HI3 := hid_of (And.intro (HSET.out 0 (by omega) (by rw [acc_one hiz, ← HCK.out])) (HBS.out 0))
                  clear HSET HBS hiz
                  go_wp2_with fail
                  go_roundg gI
                  case measure => omega
                  case rel => exact ⟨i + 1, hlt2, by omega, by go_num, HI3⟩
                · exact absurd hi0' (by omega)
            · have HE := hid_of (show i = L.length by have := HN.out; omega)
              have HI3 := HI.out
              rw [HE.out] at HI3
              have hco := HI3.1.cell k (by rw [rowF_len]; exact hkl)
              rw [gi_at _ _ _ hkl] at hco
              have hzo := HI3.1.frozen k (by rw [rowF_len]; exact hkl)
              have R5 := HI3.1.set k (by rw [rowF_len]; exact hkl) (255 - acc 4 k L L.length) (by omega)
              rw [fin_set L hkl] at R5
              obtain ⟨x, HX⟩ : ∃ x, Hid (x = acc 4 k L L.length) := ⟨_, hid_of rfl⟩
              have hx8 : x < 256 := by rw [HX.out]; exact acc_lt _ _ _ _
              rw [← HX.out] at hco R5
              have hsub : (255 : Int) - (x : Int) = ((255 - x : Nat) : Int) := by omega
              have HI4 := hid_of (And.intro R5 (HI3.2.setCell (p := ⟨G, k, none⟩) (Nat.le_refl _) (.int .u8 ((255 - x : Nat) : Int))))
              clear R5 HI3 HI
              go_wp2_with fail
              go_roundg gO
              case measure => omega
              case rel => exact ⟨k + 1, hkl, by omega, by go_num, HI4⟩
        · have HE := hid_of (show k = M by omega)
          have hconv := HI.out.1.conv M M (by rw [rowF_len])
          have HF2 := hid_of (show rowF M (fk 4 L k) = opS 4 L by rw [HE.out, HF.out])
          go_wp2
          go_ret2
          refine ⟨ret_s0 (by rw [HF2.out]), ?_⟩
          have := HI.out.2
          rw [HG.out, HWA.out] at this
          exact this
end Go.Proofs.YtdkdjgpeeglbhaaDoor.RefOp
