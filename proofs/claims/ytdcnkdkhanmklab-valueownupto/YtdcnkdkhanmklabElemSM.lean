/- The program's reader: lists. The program's reader: lists. The program's reader: lists. -/
import Derived.Test.YtdcnkdkhanmklabElem
section
namespace Go.Proofs.Ytdcnkdkhanmklab.ElemS
open Go.RowKit Go.Maps
open Go.Proofs.Ytdcnkdkhanmklab.SetMath
open Go.Proofs.Ytdcnkdkhanmklab.BytesMath
open Go.Proofs.Ytdcnkdkhanmklab.ValueMath
open Go.Proofs.Ytdcnkdkhanmklab.ReadMath
open Go.Proofs.Ytdcnkdkhanmklab.Base
open Go.Proofs.Ytdcnkdkhanmklab.Vals
open Go.Proofs.Ytdcnkdkhanmklab.Rdr
open Go.Proofs.Ytdcnkdkhanmklab.Elem
set_option linter.unusedVariables false


def ResS (b : Nat) (r : Bs) (w w' : World) (v : Value) : Prop := match rdC rdT r with
  | some (l, r') => RD b (r', false) w' ∧ NR (w.heap.size) w' v l
  | none => (∃ r', RD b (r', true) w') ∧ ∃ a n c, v = .slice a n c
theorem infoS : (Try.prog.info? 9).map (fun i => (i.zero, i.size, i.bytes)) = some (some (.string ⟨#[]⟩), 1, 16) := by kernel_rfl
set_option maxHeartbeats 4000000 in
set_option maxRecDepth 100000 in
theorem elemS (b : Nat) (r : Bs) (w : World) (h : RD b (r, false) w) (hl : r.length ≤ 140737488355328) :
    Calls Try.prog 29 #[ptr b, .int .i64 4, .func (.func 28) #[ptr b] #[]] w fun e w' => ∃ v, e = .returned v ∧ ResS b r w w' v ∧ Fr (At b) w w' := by
  obtain ⟨i0, hi, hz0, hz1, hz2⟩ := info_parts infoS
  have hbw := rdr_low h
  have HN := hid_of (number_call b 4 (r, false) w h hl)
  have HR : Hid (∀ v w', (∃ r' a n c, rdC rdT r = none ∧ RD b (r', true) w' ∧ v = .slice a n c) → ResS b r w w' v) := hid_of fun v w' => by
    rintro ⟨r', a, n, c, h1, h2, h3⟩
    unfold ResS
    rw [h1]
    exact ⟨⟨r', h2⟩, a, n, c, h3⟩
  have HS : Hid (∀ v w' l r', rdC rdT r = some (l, r') → RD b (r', false) w' → NR (w.heap.size) w' v l → ResS b r w w' v) := hid_of fun v w' l r' h1 h2 h3 => by
    unfold ResS
    rw [h1]
    exact ⟨h2, h3⟩
  cases hr : rdN 4 r with
  | none =>
    rw [nb_none false hr] at HN
    have HZ : Hid (rdC rdT r = none) := hid_of (by unfold rdC; rw [hr]; rfl)
    clear h hr
    go_enter Try.func29, Try.ntmps29
    go_wp2_with fail
    refine HN.out.mono ?_
    rintro e w1 ⟨rfl, d1, f1⟩
    obtain ⟨⟨c0, c1⟩, z⟩ := box2 d1
    have hm := mk_size r
    have q0 : IntKind.i64.wrap (((mk r).size : Int) / 4) = (((mk r).size / 4 : Nat) : Int) := by rw [show ((((mk r).size / 4 : Nat) : Int)) = ((mk r).size : Int) / 4 by omega]; exact IntWalk.i64_in _ (by omega)
    have q1 : IntKind.u64.wrap ((((mk r).size / 4 : Nat) : Int)) = (((mk r).size / 4 : Nat) : Int) := by rw [IntKind.wrap_u64]; omega
    have D1 := hid_of (And.intro d1 f1)
    have hsz := f1.size
    simp only at c0 c1
    clear d1 f1 z HN hm
    have Q0 := hid_of q0
    clear q0
    obtain ⟨q, hq⟩ : ∃ q, q = (mk r).size / 4 := ⟨_, rfl⟩
    rw [← hq] at q1 Q0
    have q0 := Q0.out
    clear Q0 hq
    generalize mk r = X at *
    go_wp2_with (at_make; refine wpList_make_own _ rfl _ _ 22 rfl w1.heap.size 9 i0 (.string ⟨#[]⟩) 1 Try.underlying22 hi hz0 hz1 _ _ _ 0 rfl rfl rfl ?b2 ?b3 (Nat.le_refl _) ?_)
    case b2 => simp
    case b3 => simp
    intro w2 hown hgrow
    have B2 := hid_of ((Below.refl w1.heap.size w1).grown hgrow (Nat.le_refl _) (fun k h => by cases h))
    clear hown hgrow
    go_wp2_with fail
    go_loopg [8, 27] 0 (fun g s8 s27 wx => s8 = .slice (some ⟨w1.heap.size, 0, none⟩) 0 0 ∧ s27 = .int .u64 0 ∧ wx = w2)
    case atStart => exact ⟨rfl, rfl, rfl⟩
    case round =>
      obtain ⟨rfl, rfl, hwx⟩ := hrel
      rw [hwx]
      clear hwx
      go_wp2_with fail
      go_ret
      exact ⟨_, rfl, HR.out _ _ ⟨r, _, _, _, HZ.out, D1.out.1.fr B2.out, rfl⟩, fr_b D1.out.2 B2.out⟩
  | some qq =>
    obtain ⟨n, r1⟩ := qq
    rw [nb_some (by decide) (by decide) hr] at HN
    obtain ⟨hrr, hn⟩ := rdN_some hr
    have hn' : n < 4294967296 := by simpa using hn
    have hl1 : r1.length ≤ 140737488355328 := by rw [hrr] at hl; simp at hl; omega
    have HM : Hid (rdC rdT r = many rdT n r1) := hid_of (by unfold rdC; rw [hr]; rfl)
    clear h hr hrr hn
    go_enter Try.func29, Try.ntmps29
    go_wp2_with fail
    refine HN.out.mono ?_
    rintro e w1 ⟨rfl, d1, f1⟩
    obtain ⟨⟨c0, c1⟩, z⟩ := box2 d1
    have z1 := z 1
    have hm := mk_size r1
    have q0 : IntKind.i64.wrap (((mk r1).size : Int) / 4) = (((mk r1).size / 4 : Nat) : Int) := by rw [show ((((mk r1).size / 4 : Nat) : Int)) = ((mk r1).size : Int) / 4 by omega]; exact IntWalk.i64_in _ (by omega)
    have q1 : IntKind.u64.wrap ((((mk r1).size / 4 : Nat) : Int)) = (((mk r1).size / 4 : Nat) : Int) := by rw [IntKind.wrap_u64]; omega
    have D1 := hid_of (And.intro d1 f1)
    have hsz := f1.size
    have HT : Hid (RD b (r1, true) (w1.setCell ⟨b, 1, none⟩ (.bool true))) := hid_of (set_at (i := 1) d1 (.bool true))
    simp only at c0 c1
    have HQ : Hid ((mk r1).size / 4 < n → many rdT n r1 = none) := hid_of fun hlt => by
      cases e : many rdT n r1 with
      | none => rfl
      | some t =>
        have := many_len (k := 4) (fun s x r h => len_T h) n r1 t.1 t.2 e
        rw [hm] at hlt
        omega
    clear d1 f1 z HN hm
    have Q0 := hid_of q0
    clear q0
    obtain ⟨q, hq⟩ : ∃ q, q = (mk r1).size / 4 := ⟨_, rfl⟩
    rw [← hq] at q1 Q0 HQ
    have q0 := Q0.out
    clear Q0 hq
    generalize mk r1 = X at *
    by_cases hlt : q < n
    · have hlt2 : (q : Int) < (n : Int) := by omega
      have HZ := hid_of (HM.out.trans (HQ.out hlt))
      clear HQ
      go_wp2_with fail
      go_ret
      exact ⟨_, rfl, HR.out _ _ ⟨r1, _, _, _, HZ.out, HT.out, rfl⟩, fr_go D1.out.2 (Fr.set (F := At b) rfl _)⟩
    · have hlt2 : ¬ (q : Int) < (n : Int) := by omega
      clear HQ HT
      go_wp2_with (at_make; refine wpList_make_own _ rfl _ _ 22 rfl w1.heap.size 9 i0 (.string ⟨#[]⟩) 1 Try.underlying22 hi hz0 hz1 _ _ _ n rfl rfl rfl ?b2 ?b3 (Nat.le_refl _) ?_)
      case b2 => rw [hz2]; omega
      case b3 => unfold maxLen; omega
      intro w2 hown hgrow
      have b2 := (Below.refl w1.heap.size w1).grown hgrow (Nat.le_refl _) (fun k h => by cases h)
      have R0 : Hid (NR (w.heap.size) w2 (.slice (some ⟨w1.heap.size, 0, none⟩) 0 n) ([] : List (Bs)) ∧ RD b (r1, false) w2 ∧ Fr (At b) w w2) := hid_of ⟨NR.of_owns (FRow.row_mono hown (by omega)), D1.out.1.fr b2, fr_b D1.out.2 b2⟩
      clear hown hgrow b2 c0 c1 z1 q0 q1 hlt hlt2
      go_wp2_with fail
      go_loopg [8, 27] n (fun g s8 s27 wx => ∃ (k : Nat) (xs : List (Bs)) (ra : Option Addr) (rc : Nat) (rk : Bs), k ≤ n ∧ n ≤ k + g ∧ s8 = .slice ra k rc ∧ s27 = .int .u64 (k : Int) ∧ Hid (xs.length = k ∧ rk.length ≤ 140737488355328) ∧ Hid (many rdT n r1 = (many rdT (n - k) rk).bind fun t => some (xs ++ t.1, t.2)) ∧ Hid (NR (w.heap.size) wx (.slice ra k rc) xs ∧ RD b (rk, false) wx ∧ Fr (At b) w wx))
      case atStart => exact ⟨0, [], _, n, r1, by omega, by omega, rfl, rfl, ⟨rfl, hl1⟩, hid_of (by rw [Nat.sub_zero]; cases many rdT n r1 with | none => rfl | some t => rfl), R0⟩
      case round =>
        obtain ⟨k, xs, ra, rc, rk, hk, hg, rfl, rfl, HX, HY, R⟩ := hrel
        by_cases hkn : k < n
        · obtain ⟨g', rfl⟩ : ∃ g', gk = g' + 1 := ⟨gk - 1, by omega⟩
          have d1 : (k : Int) < (n : Int) := by omega
          have w1' : IntKind.u64.wrap ((k : Int) + 1) = (k : Int) + 1 := by rw [IntKind.wrap_u64]; omega
          have HC := hid_of (text_call b (rk, false) wr R.out.2.1 HX.out.2)
          rw [show n - k = (n - (k + 1)) + 1 by omega] at HY
          go_wp2_with fail
          refine HC.out.mono ?_
          rintro e w3 ⟨rfl, d3, f3⟩
          have row3 : NR (w.heap.size) w3 (.slice ra k rc) xs := nr_fr R.out.1 f3 hbw
          have hle := Nat.le_trans R.out.2.2.size f3.size
          obtain ⟨v4, w4, hr4, row4, b4⟩ := app_one (txS (rk, false)).1 row3 (by rw [HX.out.1]; omega) hle 22
          have d4 : RD b (txS (rk, false)).2 w4 := (b4.block b hbw).trans d3
          have f4 := fr_low (fr_go R.out.2.2 f3) b4
          obtain ⟨⟨c0, c1⟩, _⟩ := box2 d4
          obtain ⟨ra4, rc4, rfl, _⟩ := row4.shape
          rw [List.length_append, HX.out.1] at hr4 row4
          change _ = Result.ok (Value.slice ra4 (k + 1) rc4) w4 at hr4
          change NR w.heap.size w4 (Value.slice ra4 (k + 1) rc4) _ at row4
          have R4 := hid_of (And.intro row4 (And.intro d4 f4))
          clear row3 row4 d3 f3 d4 f4 b4 HC hle
          cases hp : rdT rk with
          | none =>
            have HZ := hid_of (HM.out.trans (many_stop HY.out hp))
            obtain ⟨r', hgg⟩ := tx_none hp
            rw [hgg] at c0 c1 R4 hr4 ⊢
            simp only at c0 c1
            clear hp HY hgg
            skip
            go_wp2_with (at_builtin; refine wpl_eq rfl _ _ 22 22 rfl (.slice ra k rc) (.slice (some ⟨w3.heap.size, 0, none⟩) 1 1) (.slice ra4 (k + 1) rc4) _ w4 rfl rfl hr4 ?_)
            go_ret
            exact ⟨_, rfl, HR.out _ _ ⟨r', _, _, _, HZ.out, R4.out.2.1, rfl⟩, R4.out.2.2⟩
          | some t =>
            obtain ⟨x, r'⟩ := t
            have HY2 := hid_of (many_step HY.out hp)
            have hgg := tx_some hp
            rw [hgg] at c0 c1 R4 hr4 ⊢
            simp only at c0 c1
            have HL : Hid ((xs ++ [x]).length = k + 1 ∧ r'.length ≤ 140737488355328) := hid_of ⟨by rw [List.length_append, HX.out.1]; rfl, by have := len_T hp; have := HX.out.2; omega⟩
            clear hp HY hgg
            skip
            go_wp2_with (at_builtin; refine wpl_eq rfl _ _ 22 22 rfl (.slice ra k rc) (.slice (some ⟨w3.heap.size, 0, none⟩) 1 1) (.slice ra4 (k + 1) rc4) _ w4 rfl rfl hr4 ?_)
            go_roundg g'
            case measure => omega
            case rel => exact ⟨k + 1, xs ++ [x], ra4, rc4, r', by omega, by omega, rfl, by simp, HL, HY2, R4⟩
        · obtain rfl : k = n := by omega
          have d1 : ¬ (k : Int) < (k : Int) := by omega
          rw [Nat.sub_self] at HY
          have HZ := hid_of (HM.out.trans (many_done HY.out))
          clear HY
          go_wp2_with fail
          go_ret
          exact ⟨_, rfl, HS.out _ _ xs rk HZ.out R.out.2.1 R.out.1, R.out.2.2⟩
end Go.Proofs.Ytdcnkdkhanmklab.ElemS
end
section
namespace Go.Proofs.Ytdcnkdkhanmklab.ElemF
open Go.RowKit Go.Maps
open Go.Proofs.Ytdcnkdkhanmklab.SetMath
open Go.Proofs.Ytdcnkdkhanmklab.BytesMath
open Go.Proofs.Ytdcnkdkhanmklab.ValueMath
open Go.Proofs.Ytdcnkdkhanmklab.ReadMath
open Go.Proofs.Ytdcnkdkhanmklab.Base
open Go.Proofs.Ytdcnkdkhanmklab.Vals
open Go.Proofs.Ytdcnkdkhanmklab.Rdr
open Go.Proofs.Ytdcnkdkhanmklab.Elem
set_option linter.unusedVariables false


def ResF (b : Nat) (r : Bs) (w w' : World) (v : Value) : Prop := match rdC rdF r with
  | some (l, r') => RD b (r', false) w' ∧ FRow.OR (w.heap.size) w' v l
  | none => (∃ r', RD b (r', true) w') ∧ ∃ a n c, v = .slice a n c
theorem infoF : (Try.prog.info? 38).map (fun i => (i.zero, i.size, i.bytes)) = some (some (.agg #[.string ⟨#[]⟩, .string ⟨#[]⟩]), 2, 32) := by kernel_rfl
set_option maxHeartbeats 4000000 in
set_option maxRecDepth 100000 in
theorem elemF (b : Nat) (r : Bs) (w : World) (h : RD b (r, false) w) (hl : r.length ≤ 140737488355328) :
    Calls Try.prog 30 #[ptr b, .int .i64 8, .func (.func 31) #[ptr b] #[]] w fun e w' => ∃ v, e = .returned v ∧ ResF b r w w' v ∧ Fr (At b) w w' := by
  obtain ⟨i0, hi, hz0, hz1, hz2⟩ := info_parts infoF
  have hbw := rdr_low h
  have HN := hid_of (number_call b 4 (r, false) w h hl)
  have HR : Hid (∀ v w', (∃ r' a n c, rdC rdF r = none ∧ RD b (r', true) w' ∧ v = .slice a n c) → ResF b r w w' v) := hid_of fun v w' => by
    rintro ⟨r', a, n, c, h1, h2, h3⟩
    unfold ResF
    rw [h1]
    exact ⟨⟨r', h2⟩, a, n, c, h3⟩
  have HS : Hid (∀ v w' l r', rdC rdF r = some (l, r') → RD b (r', false) w' → FRow.OR (w.heap.size) w' v l → ResF b r w w' v) := hid_of fun v w' l r' h1 h2 h3 => by
    unfold ResF
    rw [h1]
    exact ⟨h2, h3⟩
  cases hr : rdN 4 r with
  | none =>
    rw [nb_none false hr] at HN
    have HZ : Hid (rdC rdF r = none) := hid_of (by unfold rdC; rw [hr]; rfl)
    clear h hr
    go_enter Try.func30, Try.ntmps30
    go_wp2_with fail
    refine HN.out.mono ?_
    rintro e w1 ⟨rfl, d1, f1⟩
    obtain ⟨⟨c0, c1⟩, z⟩ := box2 d1
    have hm := mk_size r
    have q0 : IntKind.i64.wrap (((mk r).size : Int) / 8) = (((mk r).size / 8 : Nat) : Int) := by rw [show ((((mk r).size / 8 : Nat) : Int)) = ((mk r).size : Int) / 8 by omega]; exact IntWalk.i64_in _ (by omega)
    have q1 : IntKind.u64.wrap ((((mk r).size / 8 : Nat) : Int)) = (((mk r).size / 8 : Nat) : Int) := by rw [IntKind.wrap_u64]; omega
    have D1 := hid_of (And.intro d1 f1)
    have hsz := f1.size
    simp only at c0 c1
    clear d1 f1 z HN hm
    have Q0 := hid_of q0
    clear q0
    obtain ⟨q, hq⟩ : ∃ q, q = (mk r).size / 8 := ⟨_, rfl⟩
    rw [← hq] at q1 Q0
    have q0 := Q0.out
    clear Q0 hq
    generalize mk r = X at *
    go_wp2_with (at_make; refine wpList_make_own _ rfl _ _ 23 rfl w1.heap.size 38 i0 (.agg #[.string ⟨#[]⟩, .string ⟨#[]⟩]) 2 Try.underlying23 hi hz0 hz1 _ _ _ 0 rfl rfl rfl ?b2 ?b3 (Nat.le_refl _) ?_)
    case b2 => simp
    case b3 => simp
    intro w2 hown hgrow
    have B2 := hid_of ((Below.refl w1.heap.size w1).grown hgrow (Nat.le_refl _) (fun k h => by cases h))
    clear hown hgrow
    go_wp2_with fail
    go_loopg [8, 27] 0 (fun g s8 s27 wx => s8 = .slice (some ⟨w1.heap.size, 0, none⟩) 0 0 ∧ s27 = .int .u64 0 ∧ wx = w2)
    case atStart => exact ⟨rfl, rfl, rfl⟩
    case round =>
      obtain ⟨rfl, rfl, hwx⟩ := hrel
      rw [hwx]
      clear hwx
      go_wp2_with fail
      go_ret
      exact ⟨_, rfl, HR.out _ _ ⟨r, _, _, _, HZ.out, D1.out.1.fr B2.out, rfl⟩, fr_b D1.out.2 B2.out⟩
  | some qq =>
    obtain ⟨n, r1⟩ := qq
    rw [nb_some (by decide) (by decide) hr] at HN
    obtain ⟨hrr, hn⟩ := rdN_some hr
    have hn' : n < 4294967296 := by simpa using hn
    have hl1 : r1.length ≤ 140737488355328 := by rw [hrr] at hl; simp at hl; omega
    have HM : Hid (rdC rdF r = many rdF n r1) := hid_of (by unfold rdC; rw [hr]; rfl)
    clear h hr hrr hn
    go_enter Try.func30, Try.ntmps30
    go_wp2_with fail
    refine HN.out.mono ?_
    rintro e w1 ⟨rfl, d1, f1⟩
    obtain ⟨⟨c0, c1⟩, z⟩ := box2 d1
    have z1 := z 1
    have hm := mk_size r1
    have q0 : IntKind.i64.wrap (((mk r1).size : Int) / 8) = (((mk r1).size / 8 : Nat) : Int) := by rw [show ((((mk r1).size / 8 : Nat) : Int)) = ((mk r1).size : Int) / 8 by omega]; exact IntWalk.i64_in _ (by omega)
    have q1 : IntKind.u64.wrap ((((mk r1).size / 8 : Nat) : Int)) = (((mk r1).size / 8 : Nat) : Int) := by rw [IntKind.wrap_u64]; omega
    have D1 := hid_of (And.intro d1 f1)
    have hsz := f1.size
    have HT : Hid (RD b (r1, true) (w1.setCell ⟨b, 1, none⟩ (.bool true))) := hid_of (set_at (i := 1) d1 (.bool true))
    simp only at c0 c1
    have HQ : Hid ((mk r1).size / 8 < n → many rdF n r1 = none) := hid_of fun hlt => by
      cases e : many rdF n r1 with
      | none => rfl
      | some t =>
        have := many_len (k := 8) (fun s x r h => len_F h) n r1 t.1 t.2 e
        rw [hm] at hlt
        omega
    clear d1 f1 z HN hm
    have Q0 := hid_of q0
    clear q0
    obtain ⟨q, hq⟩ : ∃ q, q = (mk r1).size / 8 := ⟨_, rfl⟩
    rw [← hq] at q1 Q0 HQ
    have q0 := Q0.out
    clear Q0 hq
    generalize mk r1 = X at *
    by_cases hlt : q < n
    · have hlt2 : (q : Int) < (n : Int) := by omega
      have HZ := hid_of (HM.out.trans (HQ.out hlt))
      clear HQ
      go_wp2_with fail
      go_ret
      exact ⟨_, rfl, HR.out _ _ ⟨r1, _, _, _, HZ.out, HT.out, rfl⟩, fr_go D1.out.2 (Fr.set (F := At b) rfl _)⟩
    · have hlt2 : ¬ (q : Int) < (n : Int) := by omega
      clear HQ HT
      go_wp2_with (at_make; refine wpList_make_own _ rfl _ _ 23 rfl w1.heap.size 38 i0 (.agg #[.string ⟨#[]⟩, .string ⟨#[]⟩]) 2 Try.underlying23 hi hz0 hz1 _ _ _ n rfl rfl rfl ?b2 ?b3 (Nat.le_refl _) ?_)
      case b2 => rw [hz2]; omega
      case b3 => unfold maxLen; omega
      intro w2 hown hgrow
      have b2 := (Below.refl w1.heap.size w1).grown hgrow (Nat.le_refl _) (fun k h => by cases h)
      have R0 : Hid (FRow.OR (w.heap.size) w2 (.slice (some ⟨w1.heap.size, 0, none⟩) 0 n) ([] : List (Bs × Bs)) ∧ RD b (r1, false) w2 ∧ Fr (At b) w w2) := hid_of ⟨FRow.row_mono hown (by omega), D1.out.1.fr b2, fr_b D1.out.2 b2⟩
      clear hown hgrow b2 c0 c1 z1 q0 q1 hlt hlt2
      go_wp2_with fail
      go_loopg [8, 27] n (fun g s8 s27 wx => ∃ (k : Nat) (xs : List (Bs × Bs)) (ra : Option Addr) (rc : Nat) (rk : Bs), k ≤ n ∧ n ≤ k + g ∧ s8 = .slice ra k rc ∧ s27 = .int .u64 (k : Int) ∧ Hid (xs.length = k ∧ rk.length ≤ 140737488355328) ∧ Hid (many rdF n r1 = (many rdF (n - k) rk).bind fun t => some (xs ++ t.1, t.2)) ∧ Hid (FRow.OR (w.heap.size) wx (.slice ra k rc) xs ∧ RD b (rk, false) wx ∧ Fr (At b) w wx))
      case atStart => exact ⟨0, [], _, n, r1, by omega, by omega, rfl, rfl, ⟨rfl, hl1⟩, hid_of (by rw [Nat.sub_zero]; cases many rdF n r1 with | none => rfl | some t => rfl), R0⟩
      case round =>
        obtain ⟨k, xs, ra, rc, rk, hk, hg, rfl, rfl, HX, HY, R⟩ := hrel
        by_cases hkn : k < n
        · obtain ⟨g', rfl⟩ : ∃ g', gk = g' + 1 := ⟨gk - 1, by omega⟩
          have d1 : (k : Int) < (n : Int) := by omega
          have w1' : IntKind.u64.wrap ((k : Int) + 1) = (k : Int) + 1 := by rw [IntKind.wrap_u64]; omega
          have HC := hid_of (field_call b (rk, false) wr R.out.2.1 HX.out.2)
          rw [show n - k = (n - (k + 1)) + 1 by omega] at HY
          go_wp2_with fail
          refine HC.out.mono ?_
          rintro e w3 ⟨rfl, d3, f3⟩
          have row3 : FRow.OR (w.heap.size) w3 (.slice ra k rc) xs := row_fr R.out.1 f3 hbw
          have hle := Nat.le_trans R.out.2.2.size f3.size
          obtain ⟨v4, w4, hr4, row4, b4⟩ := appFRow (fdS (rk, false)).1 row3 (by rw [HX.out.1]; unfold FRow.big; omega) hle
          have d4 : RD b (fdS (rk, false)).2 w4 := (b4.block b hbw).trans d3
          have f4 := fr_low (fr_go R.out.2.2 f3) b4
          obtain ⟨⟨c0, c1⟩, _⟩ := box2 d4
          obtain ⟨ra4, rc4, rfl⟩ := shapeFRow row4
          rw [List.length_append, HX.out.1] at hr4 row4
          change _ = Result.ok (Value.slice ra4 (k + 1) rc4) w4 at hr4
          have row5 : FRow.OR w.heap.size w4 (Value.slice ra4 (k + 1) rc4) (xs ++ [(fdS (rk, false)).1]) := row4
          replace row4 := row5
          clear row5
          have R4 := hid_of (And.intro row4 (And.intro d4 f4))
          clear row3 row4 d3 f3 d4 f4 b4 HC hle
          cases hp : rdF rk with
          | none =>
            have HZ := hid_of (HM.out.trans (many_stop HY.out hp))
            obtain ⟨p', r', hgg⟩ := fd_none hp
            rw [hgg] at c0 c1 R4 hr4 ⊢
            simp only at c0 c1
            clear hp HY hgg
            skip
            go_wp2_with (at_builtin; refine wpl_eq rfl _ _ 23 23 rfl (.slice ra k rc) (.slice (some ⟨w3.heap.size, 0, none⟩) 1 1) (.slice ra4 (k + 1) rc4) _ w4 rfl rfl hr4 ?_)
            go_ret
            exact ⟨_, rfl, HR.out _ _ ⟨r', _, _, _, HZ.out, R4.out.2.1, rfl⟩, R4.out.2.2⟩
          | some t =>
            obtain ⟨x, r'⟩ := t
            have HY2 := hid_of (many_step HY.out hp)
            have hgg := fd_some hp
            rw [hgg] at c0 c1 R4 hr4 ⊢
            simp only at c0 c1
            have HL : Hid ((xs ++ [x]).length = k + 1 ∧ r'.length ≤ 140737488355328) := hid_of ⟨by rw [List.length_append, HX.out.1]; rfl, by have := len_F hp; have := HX.out.2; omega⟩
            clear hp HY hgg
            skip
            go_wp2_with (at_builtin; refine wpl_eq rfl _ _ 23 23 rfl (.slice ra k rc) (.slice (some ⟨w3.heap.size, 0, none⟩) 1 1) (.slice ra4 (k + 1) rc4) _ w4 rfl rfl hr4 ?_)
            go_roundg g'
            case measure => omega
            case rel => exact ⟨k + 1, xs ++ [x], ra4, rc4, r', by omega, by omega, rfl, by simp, HL, HY2, R4⟩
        · obtain rfl : k = n := by omega
          have d1 : ¬ (k : Int) < (k : Int) := by omega
          rw [Nat.sub_self] at HY
          have HZ := hid_of (HM.out.trans (many_done HY.out))
          clear HY
          go_wp2_with fail
          go_ret
          exact ⟨_, rfl, HS.out _ _ xs rk HZ.out R.out.2.1 R.out.1, R.out.2.2⟩
end Go.Proofs.Ytdcnkdkhanmklab.ElemF
end
section
namespace Go.Proofs.Ytdcnkdkhanmklab.ElemE
open Go.RowKit Go.Maps
open Go.Proofs.Ytdcnkdkhanmklab.SetMath
open Go.Proofs.Ytdcnkdkhanmklab.BytesMath
open Go.Proofs.Ytdcnkdkhanmklab.ValueMath
open Go.Proofs.Ytdcnkdkhanmklab.ReadMath
open Go.Proofs.Ytdcnkdkhanmklab.Base
open Go.Proofs.Ytdcnkdkhanmklab.Vals
open Go.Proofs.Ytdcnkdkhanmklab.Rdr
open Go.Proofs.Ytdcnkdkhanmklab.Elem
set_option linter.unusedVariables false


def ResE (b : Nat) (r : Bs) (w w' : World) (v : Value) : Prop := match rdC rdE r with
  | some (l, r') => RD b (r', false) w' ∧ ERow.OR (w.heap.size) w' v l
  | none => (∃ r', RD b (r', true) w') ∧ ∃ a n c, v = .slice a n c
theorem infoE : (Try.prog.info? 40).map (fun i => (i.zero, i.size, i.bytes)) = some (some (.agg #[.string ⟨#[]⟩, .int .i64 0]), 2, 24) := by kernel_rfl
set_option maxHeartbeats 4000000 in
set_option maxRecDepth 100000 in
theorem elemE (b : Nat) (r : Bs) (w : World) (h : RD b (r, false) w) (hl : r.length ≤ 140737488355328) :
    Calls Try.prog 32 #[ptr b, .int .i64 12, .func (.func 33) #[ptr b] #[]] w fun e w' => ∃ v, e = .returned v ∧ ResE b r w w' v ∧ Fr (At b) w w' := by
  obtain ⟨i0, hi, hz0, hz1, hz2⟩ := info_parts infoE
  have hbw := rdr_low h
  have HN := hid_of (number_call b 4 (r, false) w h hl)
  have HR : Hid (∀ v w', (∃ r' a n c, rdC rdE r = none ∧ RD b (r', true) w' ∧ v = .slice a n c) → ResE b r w w' v) := hid_of fun v w' => by
    rintro ⟨r', a, n, c, h1, h2, h3⟩
    unfold ResE
    rw [h1]
    exact ⟨⟨r', h2⟩, a, n, c, h3⟩
  have HS : Hid (∀ v w' l r', rdC rdE r = some (l, r') → RD b (r', false) w' → ERow.OR (w.heap.size) w' v l → ResE b r w w' v) := hid_of fun v w' l r' h1 h2 h3 => by
    unfold ResE
    rw [h1]
    exact ⟨h2, h3⟩
  cases hr : rdN 4 r with
  | none =>
    rw [nb_none false hr] at HN
    have HZ : Hid (rdC rdE r = none) := hid_of (by unfold rdC; rw [hr]; rfl)
    clear h hr
    go_enter Try.func32, Try.ntmps32
    go_wp2_with fail
    refine HN.out.mono ?_
    rintro e w1 ⟨rfl, d1, f1⟩
    obtain ⟨⟨c0, c1⟩, z⟩ := box2 d1
    have hm := mk_size r
    have q0 : IntKind.i64.wrap (((mk r).size : Int) / 12) = (((mk r).size / 12 : Nat) : Int) := by rw [show ((((mk r).size / 12 : Nat) : Int)) = ((mk r).size : Int) / 12 by omega]; exact IntWalk.i64_in _ (by omega)
    have q1 : IntKind.u64.wrap ((((mk r).size / 12 : Nat) : Int)) = (((mk r).size / 12 : Nat) : Int) := by rw [IntKind.wrap_u64]; omega
    have D1 := hid_of (And.intro d1 f1)
    have hsz := f1.size
    simp only at c0 c1
    clear d1 f1 z HN hm
    have Q0 := hid_of q0
    clear q0
    obtain ⟨q, hq⟩ : ∃ q, q = (mk r).size / 12 := ⟨_, rfl⟩
    rw [← hq] at q1 Q0
    have q0 := Q0.out
    clear Q0 hq
    generalize mk r = X at *
    go_wp2_with (at_make; refine wpList_make_own _ rfl _ _ 24 rfl w1.heap.size 40 i0 (.agg #[.string ⟨#[]⟩, .int .i64 0]) 2 Try.underlying24 hi hz0 hz1 _ _ _ 0 rfl rfl rfl ?b2 ?b3 (Nat.le_refl _) ?_)
    case b2 => simp
    case b3 => simp
    intro w2 hown hgrow
    have B2 := hid_of ((Below.refl w1.heap.size w1).grown hgrow (Nat.le_refl _) (fun k h => by cases h))
    clear hown hgrow
    go_wp2_with fail
    go_loopg [8, 27] 0 (fun g s8 s27 wx => s8 = .slice (some ⟨w1.heap.size, 0, none⟩) 0 0 ∧ s27 = .int .u64 0 ∧ wx = w2)
    case atStart => exact ⟨rfl, rfl, rfl⟩
    case round =>
      obtain ⟨rfl, rfl, hwx⟩ := hrel
      rw [hwx]
      clear hwx
      go_wp2_with fail
      go_ret
      exact ⟨_, rfl, HR.out _ _ ⟨r, _, _, _, HZ.out, D1.out.1.fr B2.out, rfl⟩, fr_b D1.out.2 B2.out⟩
  | some qq =>
    obtain ⟨n, r1⟩ := qq
    rw [nb_some (by decide) (by decide) hr] at HN
    obtain ⟨hrr, hn⟩ := rdN_some hr
    have hn' : n < 4294967296 := by simpa using hn
    have hl1 : r1.length ≤ 140737488355328 := by rw [hrr] at hl; simp at hl; omega
    have HM : Hid (rdC rdE r = many rdE n r1) := hid_of (by unfold rdC; rw [hr]; rfl)
    clear h hr hrr hn
    go_enter Try.func32, Try.ntmps32
    go_wp2_with fail
    refine HN.out.mono ?_
    rintro e w1 ⟨rfl, d1, f1⟩
    obtain ⟨⟨c0, c1⟩, z⟩ := box2 d1
    have z1 := z 1
    have hm := mk_size r1
    have q0 : IntKind.i64.wrap (((mk r1).size : Int) / 12) = (((mk r1).size / 12 : Nat) : Int) := by rw [show ((((mk r1).size / 12 : Nat) : Int)) = ((mk r1).size : Int) / 12 by omega]; exact IntWalk.i64_in _ (by omega)
    have q1 : IntKind.u64.wrap ((((mk r1).size / 12 : Nat) : Int)) = (((mk r1).size / 12 : Nat) : Int) := by rw [IntKind.wrap_u64]; omega
    have D1 := hid_of (And.intro d1 f1)
    have hsz := f1.size
    have HT : Hid (RD b (r1, true) (w1.setCell ⟨b, 1, none⟩ (.bool true))) := hid_of (set_at (i := 1) d1 (.bool true))
    simp only at c0 c1
    have HQ : Hid ((mk r1).size / 12 < n → many rdE n r1 = none) := hid_of fun hlt => by
      cases e : many rdE n r1 with
      | none => rfl
      | some t =>
        have := many_len (k := 12) (fun s x r h => len_E h) n r1 t.1 t.2 e
        rw [hm] at hlt
        omega
    clear d1 f1 z HN hm
    have Q0 := hid_of q0
    clear q0
    obtain ⟨q, hq⟩ : ∃ q, q = (mk r1).size / 12 := ⟨_, rfl⟩
    rw [← hq] at q1 Q0 HQ
    have q0 := Q0.out
    clear Q0 hq
    generalize mk r1 = X at *
    by_cases hlt : q < n
    · have hlt2 : (q : Int) < (n : Int) := by omega
      have HZ := hid_of (HM.out.trans (HQ.out hlt))
      clear HQ
      go_wp2_with fail
      go_ret
      exact ⟨_, rfl, HR.out _ _ ⟨r1, _, _, _, HZ.out, HT.out, rfl⟩, fr_go D1.out.2 (Fr.set (F := At b) rfl _)⟩
    · have hlt2 : ¬ (q : Int) < (n : Int) := by omega
      clear HQ HT
      go_wp2_with (at_make; refine wpList_make_own _ rfl _ _ 24 rfl w1.heap.size 40 i0 (.agg #[.string ⟨#[]⟩, .int .i64 0]) 2 Try.underlying24 hi hz0 hz1 _ _ _ n rfl rfl rfl ?b2 ?b3 (Nat.le_refl _) ?_)
      case b2 => rw [hz2]; omega
      case b3 => unfold maxLen; omega
      intro w2 hown hgrow
      have b2 := (Below.refl w1.heap.size w1).grown hgrow (Nat.le_refl _) (fun k h => by cases h)
      have R0 : Hid (ERow.OR (w.heap.size) w2 (.slice (some ⟨w1.heap.size, 0, none⟩) 0 n) ([] : List (Bs × Int)) ∧ RD b (r1, false) w2 ∧ Fr (At b) w w2) := hid_of ⟨FRow.row_mono hown (by omega), D1.out.1.fr b2, fr_b D1.out.2 b2⟩
      clear hown hgrow b2 c0 c1 z1 q0 q1 hlt hlt2
      go_wp2_with fail
      go_loopg [8, 27] n (fun g s8 s27 wx => ∃ (k : Nat) (xs : List (Bs × Int)) (ra : Option Addr) (rc : Nat) (rk : Bs), k ≤ n ∧ n ≤ k + g ∧ s8 = .slice ra k rc ∧ s27 = .int .u64 (k : Int) ∧ Hid (xs.length = k ∧ rk.length ≤ 140737488355328) ∧ Hid (many rdE n r1 = (many rdE (n - k) rk).bind fun t => some (xs ++ t.1, t.2)) ∧ Hid (ERow.OR (w.heap.size) wx (.slice ra k rc) xs ∧ RD b (rk, false) wx ∧ Fr (At b) w wx))
      case atStart => exact ⟨0, [], _, n, r1, by omega, by omega, rfl, rfl, ⟨rfl, hl1⟩, hid_of (by rw [Nat.sub_zero]; cases many rdE n r1 with | none => rfl | some t => rfl), R0⟩
      case round =>
        obtain ⟨k, xs, ra, rc, rk, hk, hg, rfl, rfl, HX, HY, R⟩ := hrel
        by_cases hkn : k < n
        · obtain ⟨g', rfl⟩ : ∃ g', gk = g' + 1 := ⟨gk - 1, by omega⟩
          have d1 : (k : Int) < (n : Int) := by omega
          have w1' : IntKind.u64.wrap ((k : Int) + 1) = (k : Int) + 1 := by rw [IntKind.wrap_u64]; omega
          have HC := hid_of (scored_call b (rk, false) wr R.out.2.1 HX.out.2)
          rw [show n - k = (n - (k + 1)) + 1 by omega] at HY
          go_wp2_with fail
          refine HC.out.mono ?_
          rintro e w3 ⟨rfl, d3, f3⟩
          have row3 : ERow.OR (w.heap.size) w3 (.slice ra k rc) xs := row_fr R.out.1 f3 hbw
          have hle := Nat.le_trans R.out.2.2.size f3.size
          obtain ⟨v4, w4, hr4, row4, b4⟩ := appERow (scS (rk, false)).1 row3 (by rw [HX.out.1]; unfold ERow.big; omega) hle
          have d4 : RD b (scS (rk, false)).2 w4 := (b4.block b hbw).trans d3
          have f4 := fr_low (fr_go R.out.2.2 f3) b4
          obtain ⟨⟨c0, c1⟩, _⟩ := box2 d4
          obtain ⟨ra4, rc4, rfl⟩ := shapeERow row4
          rw [List.length_append, HX.out.1] at hr4 row4
          change _ = Result.ok (Value.slice ra4 (k + 1) rc4) w4 at hr4
          have row5 : ERow.OR w.heap.size w4 (Value.slice ra4 (k + 1) rc4) (xs ++ [(scS (rk, false)).1]) := row4
          replace row4 := row5
          clear row5
          have R4 := hid_of (And.intro row4 (And.intro d4 f4))
          clear row3 row4 d3 f3 d4 f4 b4 HC hle
          cases hp : rdE rk with
          | none =>
            have HZ := hid_of (HM.out.trans (many_stop HY.out hp))
            obtain ⟨p', r', hgg⟩ := sc_none hp
            rw [hgg] at c0 c1 R4 hr4 ⊢
            simp only at c0 c1
            clear hp HY hgg
            skip
            go_wp2_with (at_builtin; refine wpl_eq rfl _ _ 24 24 rfl (.slice ra k rc) (.slice (some ⟨w3.heap.size, 0, none⟩) 1 1) (.slice ra4 (k + 1) rc4) _ w4 rfl rfl hr4 ?_)
            go_ret
            exact ⟨_, rfl, HR.out _ _ ⟨r', _, _, _, HZ.out, R4.out.2.1, rfl⟩, R4.out.2.2⟩
          | some t =>
            obtain ⟨x, r'⟩ := t
            have HY2 := hid_of (many_step HY.out hp)
            have hgg := sc_some hp
            rw [hgg] at c0 c1 R4 hr4 ⊢
            simp only at c0 c1
            have HL : Hid ((xs ++ [x]).length = k + 1 ∧ r'.length ≤ 140737488355328) := hid_of ⟨by rw [List.length_append, HX.out.1]; rfl, by have := len_E hp; have := HX.out.2; omega⟩
            clear hp HY hgg
            skip
            go_wp2_with (at_builtin; refine wpl_eq rfl _ _ 24 24 rfl (.slice ra k rc) (.slice (some ⟨w3.heap.size, 0, none⟩) 1 1) (.slice ra4 (k + 1) rc4) _ w4 rfl rfl hr4 ?_)
            go_roundg g'
            case measure => omega
            case rel => exact ⟨k + 1, xs ++ [x], ra4, rc4, r', by omega, by omega, rfl, by simp, HL, HY2, R4⟩
        · obtain rfl : k = n := by omega
          have d1 : ¬ (k : Int) < (k : Int) := by omega
          rw [Nat.sub_self] at HY
          have HZ := hid_of (HM.out.trans (many_done HY.out))
          clear HY
          go_wp2_with fail
          go_ret
          exact ⟨_, rfl, HS.out _ _ xs rk HZ.out R.out.2.1 R.out.1, R.out.2.2⟩
end Go.Proofs.Ytdcnkdkhanmklab.ElemE
end
