/- The contract of glob's Match: what the pattern means. Of the keys those that match: a row of answers. The law's run of an answer that is a list. Lower of both sides, and what is shown of a name. -/
import Derived.Test.YtminfpkigenahaaGreatDoorGMathM
import Derived.Test.YtminfpkigenahaaGreatDoorParseM
import Derived.Test.YtminfpkigenahaaGreatDoorKMvM
import Derived.Test.YtminfpkigenahaaGreatDoorBaseM
import Derived.Laws.IdiomStrings
section
namespace Go.Proofs.YtminfpkigenahaaGreatDoor.GMatch
open Go.RowKit
open Go.Proofs.YtminfpkigenahaaGreatDoor.GMath
open Go.Proofs.YtminfpkigenahaaGreatDoor.GClass
open Go.Proofs.YtminfpkigenahaaGreatDoor.GPiece
set_option linter.unusedVariables false
set_option linter.unusedSimpArgs false

theorem ret_b {a b : Bool} (h : a = b) : Ending.returned (.bool a) = .returned (.bool b) := by rw [h]

/-- What holds at the head of the walk over a pattern: it is told, or the walk is at (i, k), and at most g turns are to come. -/
def Head (p s : ByteArray) (g : Nat) (b r q k : Value) : Prop :=
  (q = .int .i64 (-1) ∧ MM p s 0 0 = false) ∨
  ∃ (b' : Int) (r' i' k' : Nat), b = .int .i64 b' ∧ r = .int .i64 r' ∧ q = .int .i64 i' ∧ k = .int .i64 k' ∧ Inv p s (MM p s 0 0) i' k' b' r' ∧ -1 ≤ b' ∧ b' ≤ p.size ∧ 1 ≤ g ∧ s.size + 2 ≤ g + r'

theorem head_next {p s : ByteArray} {g r1 r : Nat} {b : Int} (B : Bad p s (MM p s 0 0) b r1) (h1 : -1 ≤ b) (h2 : b ≤ p.size) (hr : r ≤ r1) (hg : s.size + 2 ≤ g + r) :
    Head p s (g - 1) (.int .i64 b) (.int .i64 ((r1 : Int) + 1)) (.int .i64 b) (.int .i64 r1) := by
  have hB := B.1
  rcases bad_next B with ⟨x, y⟩ | ⟨b', x, I⟩
  · exact Or.inl ⟨by rw [x], y⟩
  · exact Or.inr ⟨b, r1 + 1, b', r1, rfl, rfl, by rw [x], rfl, I, h1, h2, by omega, by omega⟩

set_option maxRecDepth 100000 in
set_option maxHeartbeats 2000000 in
theorem match_any (p s : ByteArray) (w : World) (hp : p.size ≤ 1000000000) (hs : s.size ≤ 1000000000) :
    Calls Tryz.prog 108 #[.string p, .string s] w fun e w' => e = .returned (.bool (MM p s 0 0)) ∧ ∃ m, w' = w.drewN m := by
  go_enter Tryz.func108, Tryz.ntmps108
  go_wp2
  go_step3
  go_wp2
  go_step3
  go_wp2
  go_loopg [5, 6, 7, 8] (s.size + 2) (fun g s5 s6 s7 s8 wx => Head p s g s5 s6 s7 s8 ∧ ∃ m, wx = w.drewN m)
  case atStart => exact ⟨Or.inr ⟨-1, 0, 0, 0, rfl, rfl, rfl, rfl, inv_start p s, by omega, by omega, by omega, by omega⟩, drew_zero _⟩
  case round =>
    obtain ⟨HH, m, rfl⟩ := hrel
    rcases HH with ⟨rfl, HF⟩ | ⟨b, r, i, k, rfl, rfl, rfl, rfl, HI, hb1, hb2, hg1, hg2⟩
    · have HF' := hid_of HF
      clear HF
      go_wp2
      rw [Exit.noGoto_ret]
      go_ret
      exact ⟨ret_b HF'.out.symm, m, rfl⟩
    · have HI' := hid_of HI
      have hbd : i ≤ p.size ∧ k ≤ s.size ∧ r ≤ k + 1 := ⟨HI.1, HI.2.1, HI.2.2.1⟩
      clear HI
      have ht : ((i : Int) != -1) = true := by simp
      obtain ⟨gO, rfl⟩ : ∃ gO, gk = gO + 1 := ⟨gk - 1, by omega⟩
      go_wp2
      go_loopg [5, 6, 7, 8] (p.size - i) (fun g2 s5 s6 s7 s8 wy => ∃ (b' : Int) (r' i' k' : Nat), s5 = .int .i64 b' ∧ s6 = .int .i64 r' ∧ s7 = .int .i64 i' ∧ s8 = .int .i64 k' ∧ Hid (Inv p s (MM p s 0 0) i' k' b' r') ∧ -1 ≤ b' ∧ b' ≤ p.size ∧ i' ≤ p.size ∧ k' ≤ s.size ∧ r' ≤ k' + 1 ∧ r ≤ r' ∧ p.size ≤ i' + g2 ∧ ∃ m, wy = w.drewN m)
      case atStart => exact ⟨b, r, i, k, rfl, rfl, rfl, rfl, HI', hb1, hb2, hbd.1, hbd.2.1, hbd.2.2, Nat.le_refl _, by omega, m, rfl⟩
      case round =>
        clear HI' ht hb1 hb2 hbd
        obtain ⟨b1, r1, i1, k1, rfl, rfl, rfl, rfl, HI, hb1, hb2, hi1, hk1, hr1, hr2, hg3, m, rfl⟩ := hrel
        by_cases hlt : i1 < p.size
        · by_cases e42 : p[i1].toNat = 42
          · have ht : ((p[i1].toNat : Int) == 42) = true := by rw [e42]; rfl
            have HN := hid_of (inv_star HI.out hlt e42)
            clear e42 HI
            obtain ⟨g', rfl⟩ : ∃ g', gk = g' + 1 := ⟨gk - 1, by omega⟩
            go_wp2
            go_roundg g'
            case measure => omega
            case rel => exact ⟨(i1 : Int) + 1, k1 + 1, i1 + 1, k1, rfl, rfl, rfl, rfl, HN, by omega, by omega, hlt, hk1, by omega, by omega, by omega, m, rfl⟩
          · have ht : ((p[i1].toNat : Int) == 42) = false := by simp; omega
            by_cases hke : k1 = s.size
            · have HF := hid_of (inv_none HI.out hlt e42 hke)
              have ht2 : ((k1 : Int) == s.size) = true := by simp; omega
              clear e42 HI hke
              go_wp2
              rw [Exit.noGoto_ret]
              go_ret
              exact ⟨ret_b HF.out.symm, m, rfl⟩
            · have hks : k1 < s.size := by omega
              have ht2 : ((k1 : Int) == s.size) = false := by simp; omega
              have HC := hid_of (fun w => piece_any p i1 s[k1].toNat w hp hlt s[k1].toNat_lt)
              cases hx : PT p s[k1].toNat i1 with
              | false =>
                have HB := hid_of (inv_no HI.out hlt e42 hks hx)
                rw [hx] at HC
                clear e42 HI hke hx
                go_wp2_with (go_at_call 126; refine (HC.out _).mono ?_; rintro e w1 ⟨rfl, m1, rfl⟩)
                go_roundg gO
                case measure => omega
                case rel => exact ⟨head_next HB.out hb1 hb2 hr2 hg2, _, rfl⟩
              | true =>
                have HN := hid_of (inv_yes HI.out hlt e42 hks hx)
                have hn1 := PN_gt hlt
                have hn2 := PN_le hi1
                rw [hx] at HC
                clear e42 HI hke hx
                obtain ⟨g', rfl⟩ : ∃ g', gk = g' + 1 := ⟨gk - 1, by omega⟩
                go_wp2_with (go_at_call 126; refine (HC.out _).mono ?_; rintro e w1 ⟨rfl, m1, rfl⟩)
                go_roundg g'
                case measure => omega
                case rel => exact ⟨b1, r1, PN p i1, k1 + 1, rfl, rfl, rfl, rfl, HN, hb1, hb2, hn2, hks, by omega, hr2, by omega, _, rfl⟩
        · by_cases hke : k1 = s.size
          · have HF := hid_of (inv_full HI.out (by omega) hke)
            have ht2 : ((k1 : Int) == s.size) = true := by simp; omega
            clear HI hke
            go_wp2
            rw [Exit.noGoto_ret]
            go_ret
            exact ⟨ret_b HF.out.symm, m, rfl⟩
          · have HB := hid_of (inv_over HI.out (by omega) hke)
            have ht2 : ((k1 : Int) == s.size) = false := by simp; omega
            clear HI hke
            go_wp2
            go_roundg gO
            case measure => omega
            case rel => exact ⟨head_next HB.out hb1 hb2 hr2 hg2, m, rfl⟩
end Go.Proofs.YtminfpkigenahaaGreatDoor.GMatch
end
section
namespace Go.Proofs.YtminfpkigenahaaGreatDoor.KMatch
open Go.RowKit Go.Maps
open Go.Proofs.YtminfpkigenahaaGreatDoor.SpaceMath (wout withL lkp keys Ris toD)
open Go.Proofs.YtminfpkigenahaaGreatDoor.ValueMath (Vl chk small)
open Go.Proofs.YtminfpkigenahaaGreatDoor.Base (mk mk_list mk_size Gr hid_of SL)
open Go.Proofs.YtminfpkigenahaaGreatDoor.Turn
open Go.Proofs.YtminfpkigenahaaGreatDoor.Vals
open Go.Proofs.YtminfpkigenahaaGreatDoor.Check0 (Wel)
open Go.Proofs.YtminfpkigenahaaGreatDoor.SBase
open Go.Proofs.YtminfpkigenahaaGreatDoor.SFind
open Go.Proofs.YtminfpkigenahaaGreatDoor.SPut (vO)
open Go.Proofs.YtminfpkigenahaaGreatDoor.QBase
open Go.Proofs.YtminfpkigenahaaGreatDoor.KCmd
open Go.Proofs.YtminfpkigenahaaGreatDoor.Parse (Has)
set_option linter.unusedVariables false
set_option linter.unusedSimpArgs false
open Go.Proofs.YtminfpkigenahaaGreatDoor.KEx
open Go.Proofs.YtminfpkigenahaaGreatDoor.KRow
open Go.Proofs.YtminfpkigenahaaGreatDoor.GMatch
open Go.Proofs.YtminfpkigenahaaGreatDoor.GMath
abbrev rpL (v : Value) : Value := .agg #[.int .i64 6, .string ⟨#[]⟩, .int .i64 0, v]
set_option maxRecDepth 100000 in
theorem array_call (a : Option Addr) (n c : Nat) (w : World) : Calls Tryz.prog 94 #[.slice a n c] w fun e w' => e = .returned (rpL (.slice a n c)) ∧ Below w.heap.size w w' := by
  go_enter Tryz.func94, Tryz.ntmps94
  go_wp2_with fail
  exact bodyPost_ret (v := rpL (.slice a n c)) (by simp [results, Tryz.results94, go_sem]) rfl ⟨rfl, alb _ _⟩
def matM (P : ByteArray) (l : List Bs) : List Bs := l.filter fun k => MM P (mk k) 0 0
theorem mat_take (P : ByteArray) (l : List Bs) (i : Nat) (hi : i < l.length) : matM P (l.take (i + 1)) = matM P (l.take i) ++ (if MM P (mk l[i]) 0 0 then [l[i]] else []) := by
  unfold matM
  rw [List.take_succ_eq_append_getElem hi, List.filter_append]
  cases h : MM P (mk l[i]) 0 0 <;> simp [List.filter, h]
theorem rr_form {B : Nat} {w : World} {v : Value} {l : List Bs} (h : RR B w v l) : ∃ a n c, v = .slice a n c := by
  rcases h.2 with ⟨rfl, h0⟩ | ⟨g, cap, cur, rfl, hb, hg, _⟩
  · exact ⟨_, _, _, rfl⟩
  · exact ⟨_, _, _, rfl⟩
set_option maxHeartbeats 4000000 in
set_option maxRecDepth 100000 in
theorem matching_call (w : World) (P : ByteArray) (hP : P.size ≤ 1000000000) {G : Nat → Prop} {a : Option Addr} {n c : Nat} {l : List Base.El} (hl : SL G w (.slice a n c) l) (hll : l.length < 4000000000000) (hbl : ∀ x ∈ l, x.length ≤ 1000000000) :
    Calls Tryz.prog 81 #[.slice a n c, .string P] w fun e w' => ∃ v, e = .returned (rpL v) ∧ RR w.heap.size w' v (matM P l) ∧ Below w.heap.size w w' := by
  obtain ⟨rfl, hcs⟩ := sl_get hl
  obtain ⟨W, hW⟩ : ∃ W, W = w.alloc (rO 0 ⟨#[]⟩ 0 (.slice none 0 0)) := ⟨_, rfl⟩
  have bW : Below w.heap.size w W := by rw [hW]; exact alb _ _
  have x0 : W.heap[w.heap.size]? = some (rO 0 ⟨#[]⟩ 0 (.slice none 0 0)) := by rw [hW]; exact heap_alloc_new w _
  have sW : W.heap.size = w.heap.size + 1 := by rw [hW]; simp
  have HB := hid_of bW
  have HX0 := hid_of x0
  have HSW := hid_of sW
  have HW := hid_of hW
  have HM := hid_of fun (V : World) (i : Nat) (hi : i < l.length) => match_any P (mk l[i]) V hP (by rw [mk_size]; exact hbl _ (List.getElem_mem hi))
  have HBk := hid_of fun (V : World) (T : ByteArray) => bulk_call T V
  have HA := hid_of fun (V : World) (a' : Option Addr) (n' c' : Nat) => array_call a' n' c' V
  have HCS : Hid (∀ i (hi : i < l.length), ∃ ga oa, a = some ⟨ga, oa, none⟩ ∧ ∀ V, Below W.heap.size W V → V.cell? ⟨ga, oa + i, none⟩ = some (.string (mk l[i]))) := hid_of fun i hi => by
    obtain ⟨ga, oa, e, hc⟩ := hcs i hi
    have hl1 := block_lt_of_cell hc
    exact ⟨ga, oa, e, fun V hV => (hV.cell (p := ⟨ga, oa + i, none⟩) (Nat.lt_of_lt_of_le hl1 bW.size)).trans ((bW.cell (p := ⟨ga, oa + i, none⟩) hl1).trans hc)⟩
  obtain ⟨N, HN⟩ : ∃ N, Hid (N = l.length) := ⟨_, hid_of rfl⟩
  have hNb : N < 4000000000000 := by rw [HN.out]; exact hll
  clear hW bW x0 sW hcs hl hll hbl hP
  rw [← HN.out]
  go_enter Tryz.func81, Tryz.ntmps81
  go_wp2_with fail
  rw [← HW.out]
  go_wp2_with fail
  go_loopg [5, 10] N (fun gk s5 s10 wx => ∃ i : Nat, i + gk = N ∧ s10 = .int .i64 (i : Int) ∧ Hid (RR W.heap.size wx s5 (matM P (l.take i)) ∧ Below W.heap.size W wx))
  case atStart => exact ⟨0, by omega, rfl, hid_of ⟨by simpa [matM] using rr_nil _ _, Below.refl _ _⟩⟩
  case round =>
    obtain ⟨i, hi, rfl, B⟩ := hrel
    obtain ⟨a', n', c', rfl⟩ := rr_form B.out.1
    by_cases hlt : i < N
    · have his : i < l.length := by rw [← HN.out]; exact hlt
      have d1 : (i : Int) < (N : Int) := by omega
      obtain ⟨ga, oa, rfl, hcw⟩ := HCS.out i his
      have cw := hcw wr B.out.2
      have H1 := hid_of (HM.out wr i his)
      have hst := hid_of (mat_take P l i his)
      have hlen : (matM P (l.take i)).length + 1 ≤ 4000000000000 := by
        have : (matM P (l.take i)).length ≤ (l.take i).length := List.length_filter_le _ _
        rw [List.length_take] at this
        omega
      have HAp := hid_of fun (V : World) (v : Value) (q : Nat) (h : RR W.heap.size V v (matM P (l.take i))) (hq : V.heap[q]? = some (rO 4 (mk l[i]) 0 (.slice none 0 0))) (hb : W.heap.size ≤ V.heap.size) => app_rep W.heap.size V v _ l[i] q h hq hb hlen
      have ew : IntKind.i64.wrap ((i : Int) + 1) = (i : Int) + 1 := IntWalk.i64_in _ (by omega)
      clear hcw hlen
      generalize matM P (l.take i) = ms at *
      generalize hq : MM P (mk l[i]) 0 0 = q at *
      generalize hKK : mk l[i] = KK at *
      cases q
      · simp only [Bool.false_eq_true, if_false, List.append_nil] at hst
        have HST := hid_of hst.out
        clear hst hq HAp hKK
        go_wp2_with fail
        refine H1.out.mono ?_
        rintro e w2 ⟨rfl, m2, rfl⟩
        go_wp2_with fail
        go_roundg (gk - 1)
        case rel => exact ⟨i + 1, by omega, by rw [show ((i + 1 : Nat) : Int) = (i : Int) + 1 from by omega], hid_of ⟨by rw [HST.out]; exact FRow.row_below B.out.1 (FRow.bdrew (Below.refl _ _) m2), FRow.bdrew B.out.2 m2⟩⟩
        case measure => omega
      · simp only [if_true] at hst
        have HST := hid_of hst.out
        clear hst hq hKK
        go_wp2_with fail
        refine H1.out.mono ?_
        rintro e w2 ⟨rfl, m2, rfl⟩
        go_wp2_with fail
        refine (HBk.out _ _).mono ?_
        rintro e w3 ⟨rfl, b3⟩
        have B3 : Below W.heap.size W w3 := FRow.bel (FRow.bdrew B.out.2 m2) b3 (Nat.le_refl _)
        have R3 := FRow.row_below (FRow.row_below B.out.1 (FRow.bdrew (Below.refl _ _) m2)) b3
        have ba := alb w3 (rO 4 KK 0 (.slice none 0 0))
        obtain ⟨v', w4, hr, ho, hg⟩ := HAp.out (w3.alloc (rO 4 KK 0 (.slice none 0 0))) _ w3.heap.size (FRow.row_below R3 ba) (heap_alloc_new w3 _) (FRow.bel B3 ba (Nat.le_refl _)).size
        have B4 := hid_of ((FRow.bel B3 ba (Nat.le_refl _)).grown hg (FRow.bel B3 ba (Nat.le_refl _)).size (fun k hk => ((FRow.row_below R3 ba).lt k hk).1))
        obtain ⟨a4, n4, c4, rfl⟩ := rr_form ho
        have HO := hid_of ho
        clear ho hg ba R3 B3 b3 HAp
        go_wp2_with (at_builtin; refine Base.wpl_eq rfl _ _ 33 33 rfl (.slice a' n' c') (.slice (some ⟨w3.heap.size, 0, none⟩) 1 1) (.slice a4 n4 c4) _ w4 rfl rfl hr ?_)
        go_roundg (gk - 1)
        case rel => exact ⟨i + 1, by omega, by rw [show ((i + 1 : Nat) : Int) = (i : Int) + 1 from by omega], hid_of ⟨by rw [HST.out]; exact HO.out, B4.out⟩⟩
        case measure => omega
    · have d1 : ¬ (i : Int) < (N : Int) := by omega
      have hta : Hid (matM P (l.take i) = matM P l) := hid_of (by rw [List.take_of_length_le (by have := HN.out; omega)])
      go_wp2_with fail
      refine (HA.out _ _ _ _).mono ?_
      rintro e w2 ⟨rfl, b2⟩
      have x2 := (b2.block _ (Nat.lt_of_lt_of_le (lt_of HX0.out) B.out.2.size)).trans ((B.out.2.block _ (lt_of HX0.out)).trans HX0.out)
      have hz := fin4_at x2 (.int .i64 6) (.string ⟨#[]⟩) (.int .i64 0) (.slice a' n' c')
      have hbf := fin4_b (y0 := .int .i64 6) (y1 := .string ⟨#[]⟩) (y2 := .int .i64 0) (y3 := .slice a' n' c') (FRow.bel HB.out (FRow.bel B.out.2 b2 (Nat.le_refl _)) (Nat.le_refl _)) (Nat.le_refl w.heap.size)
      have R2 := FRow.row_below B.out.1 b2
      have hrow : RR w.heap.size (fin4 w2 w.heap.size (.int .i64 6) (.string ⟨#[]⟩) (.int .i64 0) (.slice a' n' c')) (.slice a' n' c') (matM P (l.take i)) := FRow.row_mono (FRow.row_later R2 fun g cs t fz hg hgg ht => by
        have hlt2 := (R2.lt g hg).1
        have : g ≠ w.heap.size := by have := HSW.out; omega
        unfold fin4
        rw [set_ne this, set_ne this, set_ne this, set_ne this]) (by have := HSW.out; omega)
      rw [hta.out] at hrow
      unfold fin4 at hz hbf hrow
      obtain ⟨⟨v0, v1, v2, v3⟩, fv⟩ := box4 x2
      have fv0 := fv 0
      have fv1 := fv 1
      have fv2 := fv 2
      have fv3 := fv 3
      clear fv x2 R2
      go_wp2_with fail
      obtain ⟨⟨g0, g1, g2, g3⟩, -⟩ := box4 hz
      exact bodyPost_ret (v := rpL (.slice a' n' c')) (by simp [results, Tryz.results81, go_sem, g0, g1, g2, g3]) rfl ⟨_, rfl, hrow, hbf⟩
end Go.Proofs.YtminfpkigenahaaGreatDoor.KMatch
end
section
namespace Go.Proofs.YtminfpkigenahaaGreatDoor.KLaw2
open Go.RowKit Go.Maps
open Go.Proofs.YtminfpkigenahaaGreatDoor.SpaceMath (wout withL lkp keys Ris toD)
open Go.Proofs.YtminfpkigenahaaGreatDoor.ValueMath (Vl chk small)
open Go.Proofs.YtminfpkigenahaaGreatDoor.Base (mk mk_list mk_size Gr hid_of SL)
open Go.Proofs.YtminfpkigenahaaGreatDoor.Turn
open Go.Proofs.YtminfpkigenahaaGreatDoor.Vals
open Go.Proofs.YtminfpkigenahaaGreatDoor.Check0 (Wel)
open Go.Proofs.YtminfpkigenahaaGreatDoor.SBase
open Go.Proofs.YtminfpkigenahaaGreatDoor.SFind
open Go.Proofs.YtminfpkigenahaaGreatDoor.SPut (vO)
open Go.Proofs.YtminfpkigenahaaGreatDoor.QBase
open Go.Proofs.YtminfpkigenahaaGreatDoor.KCmd
open Go.Proofs.YtminfpkigenahaaGreatDoor.KMv (one_box)
open Go.Proofs.YtminfpkigenahaaGreatDoor.Parse (Has)
set_option linter.unusedVariables false
set_option linter.unusedSimpArgs false
open Go.Proofs.YtminfpkigenahaaGreatDoor.KRow (RR rep)
open Go.Proofs.YtminfpkigenahaaGreatDoor.KMatch (rpL)
theorem flat_at : ∀ (l : List Bs) (k : Nat) (h : k < l.length) (j : Nat) (v : Value), (rep (l[k]'h))[j]? = some v → (l.flatMap rep)[k * 4 + j]? = some v
  | x :: r, 0, h, j, v, hv => by
    rw [List.flatMap_cons, Nat.zero_mul, Nat.zero_add]
    have hj : j < (rep x).length := (List.getElem?_eq_some_iff.1 hv).1
    rw [List.getElem?_append_left hj]
    exact hv
  | x :: r, k + 1, h, j, v, hv => by
    have ih := flat_at r k (by simpa using h) j v hv
    rw [List.flatMap_cons, List.getElem?_append_right (by simp [rep]; omega)]
    rw [← ih]
    congr 1
    simp [rep]
    omega
theorem rr_at {B : Nat} {w : World} {v : Value} {P : List Bs} (h : RR B w v P) : ∃ a c, v = .slice a P.length c ∧ ∀ k (hk : k < P.length), ∃ g, a = some ⟨g, 0, none⟩ ∧ g < w.heap.size ∧ w.cell? ⟨g, k * 4, none⟩ = some (.int .i64 4) ∧ w.cell? ⟨g, k * 4 + 1, none⟩ = some (.string (mk (P[k]'hk))) ∧ w.cell? ⟨g, k * 4 + 2, none⟩ = some (.int .i64 0) ∧ w.cell? ⟨g, k * 4 + 3, none⟩ = some (.slice none 0 0) := by
  rcases h.2 with ⟨rfl, h0⟩ | ⟨g, cap, cur, rfl, hb, hg, q1, q2, q3, q4⟩
  · refine ⟨none, 0, by rw [h0], fun k hk => by omega⟩
  · refine ⟨_, cap, rfl, fun k hk => ⟨g, rfl, lt_of hg, ?_, ?_, ?_, ?_⟩⟩
    · have := h.cellAt (k * 4) (by omega)
      exact this.trans (flat_at P k hk 0 _ rfl)
    · have := h.cellAt (k * 4 + 1) (by omega)
      exact this.trans (flat_at P k hk 1 _ rfl)
    · have := h.cellAt (k * 4 + 2) (by omega)
      exact this.trans (flat_at P k hk 2 _ rfl)
    · have := h.cellAt (k * 4 + 3) (by omega)
      exact this.trans (flat_at P k hk 3 _ rfl)
theorem rr_ev {w V w1 w2 : World} {v : Value} {P : List Bs} (h : RR V.heap.size w1 v P) (hb : w.heap.size ≤ V.heap.size) (e : Ev (KCmd.Tmp w V) w1 w2) : RR w.heap.size w2 v P := by
  refine ⟨h.1, h.2.imp id ?_⟩
  rintro ⟨g, cap, cur, rfl, hB, hg, r⟩
  exact ⟨g, cap, cur, rfl, Nat.le_trans hb hB, (e.block g (lt_of hg) (fun t => by have := t.2; omega)).trans hg, r⟩
section
variable {F X : Nat → Prop} {b : Nat} {w : World} {S : Sp}
set_option maxHeartbeats 4000000 in
set_option maxRecDepth 100000 in
theorem run_any (h : SP F X b w S) (now : Int) (a : Option Addr) (n c : Nat) {S' : Sp} (rk rn : Int) (rT : ByteArray) (R : World → Option Addr → Nat → Nat → World → Prop) (R' : Option Addr → Nat → Nat → World → Prop)
    (hR : ∀ V la ln lc w1 w2, Below w.heap.size w V → R V la ln lc w1 → Ev (KCmd.Tmp w V) w1 w2 → R' la ln lc w2)
    (hE : ∀ V (X' : Nat → Prop), SP F X' b V S → Below w.heap.size w V → Calls Tryz.prog 17 #[ptr b, .int .i64 now, .slice a n c] V fun e w' => ∃ la ln lc, e = .returned (.tuple #[.agg #[.int .i64 rk, .string rT, .int .i64 rn, .slice la ln lc], .bool true]) ∧ R V la ln lc w' ∧ Dn F X' b V w' S') :
    Calls Tryz.prog 8 #[ptr b, .int .i64 now, .slice a n c] w fun e w' => ∃ la ln lc, e = .returned (.agg #[.int .i64 rk, .string rT, .int .i64 rn, .slice la ln lc]) ∧ R' la ln lc w' ∧ Dn F X b w w' S' := by
  obtain ⟨W, hW⟩ : ∃ W, W = w.alloc (rO 0 ⟨#[]⟩ 0 (.slice none 0 0)) := ⟨_, rfl⟩
  obtain ⟨bW, x0, sW⟩ := one_box w (rO 0 ⟨#[]⟩ 0 (.slice none 0 0))
  rw [← hW] at bW x0 sW
  have HH := hid_of h
  have HB := hid_of bW
  have HX0 := hid_of x0
  have HSW := hid_of sW
  have HW := hid_of hW
  have HRR := hid_of hR
  have t0 : KCmd.Tmp w W w.heap.size := ⟨Nat.le_refl _, by rw [HSW.out]; omega⟩
  have H1 := hid_of (hE W (fun k => X k ∨ KCmd.Tmp w W k) (sp_wide h bW) bW)
  clear hW bW x0 sW h hE hR
  go_enter Tryz.func8, Tryz.ntmps8
  go_wp2_with fail
  rw [← HW.out]
  go_wp2_with fail
  refine H1.out.mono ?_
  rintro e w1 ⟨la, ln, lc, rfl, r1, d1⟩
  have hl1 : w.heap.size < w1.heap.size := Nat.lt_of_lt_of_le t0.2 (dn_size d1)
  have z2 := (dn_block HH.out HB.out d1 t0).trans HX0.out
  have hz := fin4_at z2 (.int .i64 rk) (.string rT) (.int .i64 rn) (.slice la ln lc)
  have hev := ev_fin4 (w := w) (W := W) (w1 := w1) t0 (.int .i64 rk) (.string rT) (.int .i64 rn) (.slice la ln lc)
  have hdn := dn_tmp HH.out HB.out d1 hev
  have hz2 := ((alb _ (rO rk rT rn (.slice la ln lc))).block _ (lt_of hz)).trans hz
  have hdn2 := SDrop.dn_below hdn (alb _ (rO rk rT rn (.slice la ln lc)))
  have hrr := HRR.out W la ln lc w1 _ HB.out r1 (hev.trans (Ev.of_below (alb _ (rO rk rT rn (.slice la ln lc)))))
  unfold fin4 at hz2 hdn2 hrr
  obtain ⟨⟨v0, v1, v2, v3⟩, fv⟩ := box4 z2
  have fv0 := fv 0
  have fv1 := fv 1
  have fv2 := fv 2
  have fv3 := fv 3
  clear fv z2 hz hdn d1 hev
  go_wp2_with fail
  obtain ⟨⟨g0, g1, g2, g3⟩, -⟩ := box4 hz2
  exact bodyPost_ret (v := (.agg #[.int .i64 rk, .string rT, .int .i64 rn, .slice la ln lc])) (by simp [results, Tryz.results8, go_sem, g0, g1, g2, g3]) rfl ⟨la, ln, lc, rfl, hrr, hdn2⟩
end
end Go.Proofs.YtminfpkigenahaaGreatDoor.KLaw2
end
section
namespace Go.Proofs.YtminfpkigenahaaGreatDoor.Low
open Go.RowKit
open Go.Proofs.YtminfpkigenahaaGreatDoor.Base
set_option linter.unusedVariables false
set_option linter.unusedSimpArgs false
def low (c : UInt8) : UInt8 := if 65 ≤ c.toNat ∧ c.toNat ≤ 90 then UInt8.ofNat (c.toNat + 32) else c
theorem low_yes {c : UInt8} (h1 : 65 ≤ c.toNat) (h2 : c.toNat ≤ 90) : ((low c).toNat : Int) = (c.toNat : Int) + 32 := by
  unfold low
  rw [if_pos ⟨h1, h2⟩]
  have : (UInt8.ofNat (c.toNat + 32)).toNat = c.toNat + 32 := by
    rw [UInt8.toNat_ofNat']; omega
  omega
theorem low_no {c : UInt8} (h : ¬ (65 ≤ c.toNat ∧ c.toNat ≤ 90)) : low c = c := by unfold low; rw [if_neg h]
def vis (c : UInt8) : UInt8 := if c.toNat < 32 ∨ 126 < c.toNat then 63 else c
theorem vis_yes {c : UInt8} (h : c.toNat < 32 ∨ 126 < c.toNat) : vis c = 63 := by unfold vis; rw [if_pos h]
theorem vis_no {c : UInt8} (h : ¬ (c.toNat < 32 ∨ 126 < c.toNat)) : vis c = c := by unfold vis; rw [if_neg h]
/-- The first k bytes turned, the others as they were. -/
def part (f : UInt8 → UInt8) (l : List UInt8) (k : Nat) : List UInt8 := (l.take k).map f ++ l.drop k
section
variable (f : UInt8 → UInt8) (l : List UInt8) (k : Nat)
theorem part_zero : part f l 0 = l := by simp [part]
theorem part_all (h : l.length ≤ k) : part f l k = l.map f := by
  unfold part
  rw [List.take_of_length_le h, List.drop_eq_nil_of_le h, List.append_nil]
theorem part_len : (part f l k).length = l.length := by
  unfold part
  rw [List.length_append, List.length_map, List.length_take, List.length_drop]; omega
theorem part_at (h : k < l.length) (hl : k < (part f l k).length) : (part f l k)[k] = l[k] := by
  have h1 : ((l.take k).map f).length = k := by rw [List.length_map, List.length_take]; omega
  have h2 : (part f l k)[k]? = some l[k] := by
    unfold part
    rw [List.getElem?_append_right (by omega), h1, Nat.sub_self, List.drop_eq_getElem_cons h]
    rfl
  rw [List.getElem?_eq_getElem hl] at h2
  exact Option.some.inj h2
theorem part_next (h : k < l.length) : (part f l k).set k (f l[k]) = part f l (k + 1) := by
  have h1 : ((l.take k).map f).length = k := by rw [List.length_map, List.length_take]; omega
  unfold part
  rw [List.set_append_right _ _ (by omega), h1, Nat.sub_self, List.drop_eq_getElem_cons h, List.set_cons_zero, List.take_succ_eq_append_getElem h, List.map_append, List.append_assoc]
  rfl
theorem part_same (h : k < l.length) (e : f l[k] = l[k]) : part f l k = part f l (k + 1) := by
  rw [← part_next f l k h, e]
  have := part_at f l k h (by rw [part_len]; exact h)
  rw [← this, List.set_getElem_self]
end
/- rows of bytes -/
def BRow (w : World) (B : Nat) (l : List UInt8) : Prop :=
  ∃ (C : Array Value) (N : Nat), w.heap[B]? = some (.cells C 5 (N, N + 1)) ∧ C.size = N ∧ l.length ≤ N ∧ ∀ j (h : j < l.length), C[j]? = some (.int .u8 l[j].toNat)
theorem BRow.cell {w : World} {B : Nat} {l : List UInt8} (h : BRow w B l) (j : Nat) (hj : j < l.length) : w.cell? ⟨B, j, none⟩ = some (.int .u8 l[j].toNat) := by
  obtain ⟨C, N, h1, h2, h3, h4⟩ := h
  rw [cell_of_row w B j _ _ _ h1, h4 j hj]
theorem BRow.frozen {w : World} {B : Nat} {l : List UInt8} (h : BRow w B l) (j : Nat) (hj : j < l.length) : w.frozen? ⟨B, j, none⟩ = false := by
  obtain ⟨C, N, h1, h2, h3, h4⟩ := h
  simp only [World.frozen?, h1]
  have : ¬ N ≤ j := by omega
  simp [this]
theorem BRow.put {w : World} {B : Nat} {l : List UInt8} (h : BRow w B l) (j : Nat) {X : Int} (c : UInt8) (hX : X = (c.toNat : Int)) : BRow (w.setCell ⟨B, j, none⟩ (.int .u8 X)) B (l.set j c) := by
  obtain ⟨C, N, h1, h2, h3, h4⟩ := h
  subst hX
  refine ⟨C.setIfInBounds j (.int .u8 c.toNat), N, ?_, by simp [h2], by rw [List.length_set]; exact h3, fun i hi => ?_⟩
  · simp [World.setCell, Array.getElem?_modify, h1]
  · rw [List.length_set] at hi
    rw [Array.getElem?_setIfInBounds, List.getElem_set]
    by_cases e : j = i
    · subst e; simp; omega
    · rw [if_neg e, if_neg e, h4 i hi]
theorem conv_in (l : List UInt8) (w : World) : ∃ cap w0, (convert 9 105 (.string (mk l))).run Tryz.prog w = .ok (.slice (some ⟨w.heap.size, 0, none⟩) l.length cap) w0 ∧ BRow w0 w.heap.size l ∧ Below w.heap.size w w0 := by
  have hq := run_bytes_of_string w 9 105 5 (mk l) Tryz.underlying9 Tryz.underlying105 Tryz.underlying5
  rw [mk_size] at hq
  refine ⟨_, _, hq, ⟨bytesRow (mk l) (grownCap w l.length 0 5), _, ?_, rfl, ?_, ?_⟩, ((Below.refl _ w).drew).alloc (Nat.le_refl _) _⟩
  · exact heap_alloc_new w.drew _
  · rw [← mk_size l]
    simp [bytesRow]
  · intro j hj
    unfold bytesRow
    rw [Array.getElem?_append_left (by simpa [mk] using hj), Array.getElem?_map]
    simp [mk, hj]
theorem conv_out {w : World} {B cap n : Nat} {l : List UInt8} (h : BRow w B l) (hn : n = l.length) : (convert 105 9 (.slice (some ⟨B, 0, none⟩) n cap)).run Tryz.prog w = .ok (.string (mk l)) w := by
  subst hn
  refine run_convert_bytes_back w 105 9 5 ⟨B, 0, none⟩ cap l Tryz.underlying105 Tryz.underlying5 Tryz.underlying9 (fun j hj => ?_)
  have e : (⟨B, 0, none⟩ : Addr).add j = ⟨B, j, none⟩ := by
    by_cases h0 : j = 0
    · subst h0; rfl
    · simp [Addr.add, h0]
  rw [e]
  exact h.cell j hj
theorem cut32 (l : List UInt8) : (mk l).extract 0 (min l.length 32) = mk (l.take 32) := by
  apply ByteArray.ext
  rw [ByteArray.data_extract]
  apply Array.toList_inj.1
  rw [Array.toList_extract]
  show (l.toArray.toList).extract 0 _ = (l.take 32)
  rw [List.extract_eq_take_drop, List.drop_zero, Nat.sub_zero]
  exact (List.take_eq_take_iff).2 (by simp [Nat.min_comm])
theorem ret_s {a b : ByteArray} (h : a = b) : Ending.returned (.string a) = .returned (.string b) := by rw [h]
theorem wrap8 (x : Int) (h : 0 ≤ x) (h2 : x < 256) : IntKind.u8.wrap x = x := by
  unfold IntKind.wrap
  simp [IntKind.signed, IntKind.bits]
  omega
set_option maxRecDepth 100000 in
set_option maxHeartbeats 1000000 in
theorem lower_call (l : List UInt8) (w : World) (hs : l.length < 9223372036854775808) :
    Calls Tryz.prog 30 #[.string (mk l)] w fun e w' => e = .returned (.string (mk (l.map low))) ∧ Below w.heap.size w w' := by
  obtain ⟨cap, w0, hconv, hrow, hbel⟩ := conv_in l w
  have H0 := hid_of hrow
  have HB0 := hid_of hbel
  clear hrow hbel
  obtain ⟨N, HN⟩ : ∃ N, Hid (N = l.length) := ⟨_, hid_of rfl⟩
  rw [← HN.out] at hconv
  have hN : N < 9223372036854775808 := by rw [HN.out]; exact hs
  clear hs
  generalize mk l = S at *
  go_enter Tryz.func30, Tryz.ntmps30
  go_wp2
  clear hconv
  go_loopg [10] N (fun g s4 wx => ∃ k : Nat, k ≤ N ∧ N ≤ k + g ∧ s4 = .int .i64 k ∧ Hid (BRow wx w.heap.size (part low l k)) ∧ Hid (Below w.heap.size w wx))
  case atStart => exact ⟨0, by omega, by omega, rfl, by show BRow _ _ _; rw [part_zero]; exact H0.out, HB0⟩
  case round =>
    clear H0 HB0
    obtain ⟨k, hk, hg, rfl, HR, HB⟩ := hrel
    by_cases hlt : k < N
    · obtain ⟨g', rfl⟩ : ∃ g', gk = g' + 1 := ⟨gk - 1, by omega⟩
      have hll : k < l.length := by rw [← HN.out]; exact hlt
      have hl : k < (part low l k).length := by rw [part_len]; exact hll
      have hc := HR.out.cell k hl
      have hf := HR.out.frozen k hl
      rw [part_at low l k hll hl] at hc
      have HX := hid_of (part_next low l k hll)
      have HS := hid_of (part_same low l k hll)
      obtain ⟨c, hcc⟩ : ∃ c, c = (l[k]'hll) := ⟨_, rfl⟩
      rw [← hcc] at hc HX HS
      have w1 : IntKind.i64.wrap ((k : Int) + 1) = (k : Int) + 1 := IntWalk.i64_in _ (by omega)
      have b1 : c.toNat < 256 := c.toNat_lt
      clear hcc hll hl
      by_cases h1 : 65 ≤ c.toNat
      · have t1 : decide ((65 : Int) ≤ (c.toNat : Int)) = true := by simp; omega
        by_cases h2 : c.toNat ≤ 90
        · have t2 : decide ((c.toNat : Int) ≤ 90) = true := by simp; omega
          have w2 : IntKind.u8.wrap ((c.toNat : Int) - 65) = (c.toNat : Int) - 65 := wrap8 _ (by omega) (by omega)
          have w3 : IntKind.u8.wrap ((c.toNat : Int) - 65 + 97) = (c.toNat : Int) + 32 := by rw [wrap8 _ (by omega) (by omega)]; omega
          have w4 : IntKind.u8.wrap ((c.toNat : Int) + 32) = (c.toNat : Int) + 32 := wrap8 _ (by omega) (by omega)
          have HL := hid_of (low_yes h1 h2)
          go_wp2
          go_roundg g'
          case measure => omega
          case rel => exact ⟨k + 1, by omega, by omega, by simp, by show BRow _ _ _; rw [← HX.out]; exact HR.out.put k _ (by exact HL.out.symm), HB.out.setCell (Nat.le_refl _) _⟩
        · have t2 : decide ((c.toNat : Int) ≤ 90) = false := by simp; omega
          have HL := hid_of (low_no (c := c) (by omega))
          go_wp2
          go_roundg g'
          case measure => omega
          case rel => exact ⟨k + 1, by omega, by omega, by simp, by show BRow _ _ _; rw [← HS.out (HL.out)]; exact HR.out, HB⟩
      · have t1 : decide ((65 : Int) ≤ (c.toNat : Int)) = false := by simp; omega
        have HL := hid_of (low_no (c := c) (by omega))
        go_wp2
        go_roundg g'
        case measure => omega
        case rel => exact ⟨k + 1, by omega, by omega, by simp, by show BRow _ _ _; rw [← HS.out (HL.out)]; exact HR.out, HB⟩
    · have hcv := conv_out (cap := cap) (n := N) HR.out (by rw [part_len]; exact HN.out)
      have HP := hid_of (part_all low l k (by have := HN.out; omega))
      have d1 : ¬ (k : Int) < (N : Int) := by omega
      go_wp2
      go_ret
      exact ⟨ret_s (by rw [HP.out]; try rw [List.map_take]), HB.out⟩
set_option maxRecDepth 100000 in
set_option maxHeartbeats 1000000 in
theorem shown_call (l : List UInt8) (w : World) (hs : l.length < 9223372036854775808) :
    Calls Tryz.prog 63 #[.string (mk l)] w fun e w' => e = .returned (.string (mk ((l.take 32).map vis))) ∧ Below w.heap.size w w' := by
  obtain ⟨M, hM⟩ : ∃ M : Nat, M = min l.length 32 := ⟨_, rfl⟩
  have hs2 : (l.take 32).length < 9223372036854775808 := by rw [List.length_take]; omega
  have hz : (mk l).size = l.length := mk_size l
  have hcut : (Instr.slice 9 (.string (mk l)) none (some (.int .i64 (min (l.length : Int) 32))) none).run Tryz.prog w = .ok (.string (mk (l.take 32))) w := by
    have h1 : (min (l.length : Int) 32) = ((min l.length 32 : Nat) : Int) := by omega
    have h2 : ((min l.length 32 : Nat) : Int) ≤ (l.length : Int) := by omega
    rw [h1]
    simp [Instr.slice, run_underlying Tryz.underlying9, Instr.sliceBounds, run_sliceBound, hz, h2]
    exact cut32 l
  obtain ⟨K, HK⟩ : ∃ K, Hid (K = l.length) := ⟨_, hid_of rfl⟩
  rw [← HK.out] at hz hcut
  obtain ⟨cap, w0, hconv, hrow, hbel⟩ := conv_in (l.take 32) w
  have H0 := hid_of hrow
  have HB0 := hid_of hbel
  clear hrow hbel
  obtain ⟨N, HN⟩ : ∃ N, Hid (N = (l.take 32).length) := ⟨_, hid_of rfl⟩
  rw [← HN.out] at hconv
  have hN : N < 9223372036854775808 := by rw [HN.out]; exact hs2
  clear hs hs2
  generalize mk l = S at *
  go_enter Tryz.func63, Tryz.ntmps63
  go_wp2
  clear hconv
  go_loopg [14] N (fun g s4 wx => ∃ k : Nat, k ≤ N ∧ N ≤ k + g ∧ s4 = .int .i64 k ∧ Hid (BRow wx w.heap.size (part vis (l.take 32) k)) ∧ Hid (Below w.heap.size w wx))
  case atStart => exact ⟨0, by omega, by omega, rfl, by show BRow _ _ _; rw [part_zero]; exact H0.out, HB0⟩
  case round =>
    clear H0 HB0
    obtain ⟨k, hk, hg, rfl, HR, HB⟩ := hrel
    by_cases hlt : k < N
    · obtain ⟨g', rfl⟩ : ∃ g', gk = g' + 1 := ⟨gk - 1, by omega⟩
      have hll : k < (l.take 32).length := by rw [← HN.out]; exact hlt
      have hl : k < (part vis (l.take 32) k).length := by rw [part_len]; exact hll
      have hc := HR.out.cell k hl
      have hf := HR.out.frozen k hl
      rw [part_at vis (l.take 32) k hll hl] at hc
      have HX := hid_of (part_next vis (l.take 32) k hll)
      have HS := hid_of (part_same vis (l.take 32) k hll)
      obtain ⟨c, hcc⟩ : ∃ c, c = ((l.take 32)[k]'hll) := ⟨_, rfl⟩
      rw [← hcc] at hc HX HS
      have w1 : IntKind.i64.wrap ((k : Int) + 1) = (k : Int) + 1 := IntWalk.i64_in _ (by omega)
      have b1 : c.toNat < 256 := c.toNat_lt
      clear hcc hll hl
      by_cases h1 : c.toNat < 32
      · have t1 : decide ((c.toNat : Int) < 32) = true := by simp; omega
        have HL := hid_of (vis_yes (c := c) (.inl h1))
        go_wp2
        go_roundg g'
        case measure => omega
        case rel => exact ⟨k + 1, by omega, by omega, by simp, by show BRow _ _ _; rw [← HX.out]; exact HR.out.put k _ (by rw [HL.out]; rfl), HB.out.setCell (Nat.le_refl _) _⟩
      · have t1 : decide ((c.toNat : Int) < 32) = false := by simp; omega
        by_cases h2 : 126 < c.toNat
        · have t2 : decide (126 < (c.toNat : Int)) = true := by simp; omega
          have HL := hid_of (vis_yes (c := c) (.inr h2))
          go_wp2
          go_roundg g'
          case measure => omega
          case rel => exact ⟨k + 1, by omega, by omega, by simp, by show BRow _ _ _; rw [← HX.out]; exact HR.out.put k _ (by rw [HL.out]; rfl), HB.out.setCell (Nat.le_refl _) _⟩
        · have t2 : decide (126 < (c.toNat : Int)) = false := by simp; omega
          have HL := hid_of (vis_no (c := c) (by omega))
          go_wp2
          go_roundg g'
          case measure => omega
          case rel => exact ⟨k + 1, by omega, by omega, by simp, by show BRow _ _ _; rw [← HS.out (HL.out)]; exact HR.out, HB⟩
    · have hcv := conv_out (cap := cap) (n := N) HR.out (by rw [part_len]; exact HN.out)
      have HP := hid_of (part_all vis (l.take 32) k (by have := HN.out; omega))
      have d1 : ¬ (k : Int) < (N : Int) := by omega
      go_wp2
      go_ret
      exact ⟨ret_s (by rw [HP.out]; try rw [List.map_take]), HB.out⟩
end Go.Proofs.YtminfpkigenahaaGreatDoor.Low
end
