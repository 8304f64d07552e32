/- The program's reader: lists. The program's reader: a value. The program's reader: a value. -/
import Derived.Test.YtminfpkigenahaaGreatDoorRdM
import Derived.Test.YtminfpkigenahaaGreatDoorSTouchM
section
namespace Go.Proofs.YtminfpkigenahaaGreatDoor.ElemE
open Go.RowKit Go.Maps
open Go.Proofs.YtminfpkigenahaaGreatDoor.SetMath
open Go.Proofs.YtminfpkigenahaaGreatDoor.BytesMath
open Go.Proofs.YtminfpkigenahaaGreatDoor.ValueMath
open Go.Proofs.YtminfpkigenahaaGreatDoor.ReadMath
open Go.Proofs.YtminfpkigenahaaGreatDoor.Base
open Go.Proofs.YtminfpkigenahaaGreatDoor.Vals
open Go.Proofs.YtminfpkigenahaaGreatDoor.Rdr
open Go.Proofs.YtminfpkigenahaaGreatDoor.Elem
set_option linter.unusedVariables false


def ResE (b : Nat) (r : Bs) (w w' : World) (v : Value) : Prop := match rdC rdE r with
  | some (l, r') => RD b (r', false) w' ∧ ERow.OR (w.heap.size) w' v l
  | none => (∃ r', RD b (r', true) w') ∧ ∃ a n c, v = .slice a n c
theorem infoE : (Tryz.prog.info? 69).map (fun i => (i.zero, i.size, i.bytes)) = some (some (.agg #[.string ⟨#[]⟩, .int .i64 0]), 2, 24) := by kernel_rfl
set_option maxHeartbeats 4000000 in
set_option maxRecDepth 100000 in
theorem elemE (b : Nat) (r : Bs) (w : World) (h : RD b (r, false) w) (hl : r.length ≤ 140737488355328) :
    Calls Tryz.prog 136 #[ptr b, .int .i64 12, .func (.func 137) #[ptr b] #[]] w fun e w' => ∃ v, e = .returned v ∧ ResE b r w w' v ∧ Fr (At b) w w' := by
  obtain ⟨i0, hi, hz0, hz1, hz2⟩ := info_parts infoE
  have hbw := rdr_low h
  have HN := hid_of (number_call b 4 (r, false) w h hl)
  have HR : Hid (∀ v w', (∃ r' a n c, rdC rdE r = none ∧ RD b (r', true) w' ∧ v = .slice a n c) → ResE b r w w' v) := hid_of fun v w' => by
    rintro ⟨r', a, n, c, h1, h2, h3⟩
    unfold ResE
    rw [h1]
    exact ⟨⟨r', h2⟩, a, n, c, h3⟩
  have HS : Hid (∀ v w' l r', rdC rdE r = some (l, r') → RD b (r', false) w' → ERow.OR (w.heap.size) w' v l → ResE b r w w' v) := hid_of fun v w' l r' h1 h2 h3 => by
    unfold ResE
    rw [h1]
    exact ⟨h2, h3⟩
  cases hr : rdN 4 r with
  | none =>
    rw [nb_none false hr] at HN
    have HZ : Hid (rdC rdE r = none) := hid_of (by unfold rdC; rw [hr]; rfl)
    clear h hr
    go_enter Tryz.func136, Tryz.ntmps136
    go_wp2_with fail
    refine HN.out.mono ?_
    rintro e w1 ⟨rfl, d1, f1⟩
    obtain ⟨⟨c0, c1⟩, z⟩ := box2 d1
    have hm := mk_size r
    have q0 : IntKind.i64.wrap (((mk r).size : Int) / 12) = (((mk r).size / 12 : Nat) : Int) := by rw [show ((((mk r).size / 12 : Nat) : Int)) = ((mk r).size : Int) / 12 by omega]; exact IntWalk.i64_in _ (by omega)
    have q1 : IntKind.u64.wrap ((((mk r).size / 12 : Nat) : Int)) = (((mk r).size / 12 : Nat) : Int) := by rw [IntKind.wrap_u64]; omega
    have D1 := hid_of (And.intro d1 f1)
    have hsz := f1.size
    simp only at c0 c1
    clear d1 f1 z HN hm
    have Q0 := hid_of q0
    clear q0
    obtain ⟨q, hq⟩ : ∃ q, q = (mk r).size / 12 := ⟨_, rfl⟩
    rw [← hq] at q1 Q0
    have q0 := Q0.out
    clear Q0 hq
    generalize mk r = X at *
    go_wp2_with (at_make; refine wpList_make_own _ rfl _ _ 28 rfl w1.heap.size 69 i0 (.agg #[.string ⟨#[]⟩, .int .i64 0]) 2 Tryz.underlying28 hi hz0 hz1 _ _ _ 0 rfl rfl rfl ?b2 ?b3 (Nat.le_refl _) ?_)
    case b2 => simp
    case b3 => simp
    intro w2 hown hgrow
    have B2 := hid_of ((Below.refl w1.heap.size w1).grown hgrow (Nat.le_refl _) (fun k h => by cases h))
    clear hown hgrow
    go_wp2_with fail
    go_loopg [8, 27] 0 (fun g s8 s27 wx => s8 = .slice (some ⟨w1.heap.size, 0, none⟩) 0 0 ∧ s27 = .int .u64 0 ∧ wx = w2)
    case atStart => exact ⟨rfl, rfl, rfl⟩
    case round =>
      obtain ⟨rfl, rfl, hwx⟩ := hrel
      rw [hwx]
      clear hwx
      go_wp2_with fail
      go_ret
      exact ⟨_, rfl, HR.out _ _ ⟨r, _, _, _, HZ.out, D1.out.1.fr B2.out, rfl⟩, fr_b D1.out.2 B2.out⟩
  | some qq =>
    obtain ⟨n, r1⟩ := qq
    rw [nb_some (by decide) (by decide) hr] at HN
    obtain ⟨hrr, hn⟩ := rdN_some hr
    have hn' : n < 4294967296 := by simpa using hn
    have hl1 : r1.length ≤ 140737488355328 := by rw [hrr] at hl; simp at hl; omega
    have HM : Hid (rdC rdE r = many rdE n r1) := hid_of (by unfold rdC; rw [hr]; rfl)
    clear h hr hrr hn
    go_enter Tryz.func136, Tryz.ntmps136
    go_wp2_with fail
    refine HN.out.mono ?_
    rintro e w1 ⟨rfl, d1, f1⟩
    obtain ⟨⟨c0, c1⟩, z⟩ := box2 d1
    have z1 := z 1
    have hm := mk_size r1
    have q0 : IntKind.i64.wrap (((mk r1).size : Int) / 12) = (((mk r1).size / 12 : Nat) : Int) := by rw [show ((((mk r1).size / 12 : Nat) : Int)) = ((mk r1).size : Int) / 12 by omega]; exact IntWalk.i64_in _ (by omega)
    have q1 : IntKind.u64.wrap ((((mk r1).size / 12 : Nat) : Int)) = (((mk r1).size / 12 : Nat) : Int) := by rw [IntKind.wrap_u64]; omega
    have D1 := hid_of (And.intro d1 f1)
    have hsz := f1.size
    have HT : Hid (RD b (r1, true) (w1.setCell ⟨b, 1, none⟩ (.bool true))) := hid_of (set_at (i := 1) d1 (.bool true))
    simp only at c0 c1
    have HQ : Hid ((mk r1).size / 12 < n → many rdE n r1 = none) := hid_of fun hlt => by
      cases e : many rdE n r1 with
      | none => rfl
      | some t =>
        have := many_len (k := 12) (fun s x r h => len_E h) n r1 t.1 t.2 e
        rw [hm] at hlt
        omega
    clear d1 f1 z HN hm
    have Q0 := hid_of q0
    clear q0
    obtain ⟨q, hq⟩ : ∃ q, q = (mk r1).size / 12 := ⟨_, rfl⟩
    rw [← hq] at q1 Q0 HQ
    have q0 := Q0.out
    clear Q0 hq
    generalize mk r1 = X at *
    by_cases hlt : q < n
    · have hlt2 : (q : Int) < (n : Int) := by omega
      have HZ := hid_of (HM.out.trans (HQ.out hlt))
      clear HQ
      go_wp2_with fail
      go_ret
      exact ⟨_, rfl, HR.out _ _ ⟨r1, _, _, _, HZ.out, HT.out, rfl⟩, fr_go D1.out.2 (Fr.set (F := At b) rfl _)⟩
    · have hlt2 : ¬ (q : Int) < (n : Int) := by omega
      clear HQ HT
      go_wp2_with (at_make; refine wpList_make_own _ rfl _ _ 28 rfl w1.heap.size 69 i0 (.agg #[.string ⟨#[]⟩, .int .i64 0]) 2 Tryz.underlying28 hi hz0 hz1 _ _ _ n rfl rfl rfl ?b2 ?b3 (Nat.le_refl _) ?_)
      case b2 => rw [hz2]; omega
      case b3 => unfold maxLen; omega
      intro w2 hown hgrow
      have b2 := (Below.refl w1.heap.size w1).grown hgrow (Nat.le_refl _) (fun k h => by cases h)
      have R0 : Hid (ERow.OR (w.heap.size) w2 (.slice (some ⟨w1.heap.size, 0, none⟩) 0 n) ([] : List (Bs × Int)) ∧ RD b (r1, false) w2 ∧ Fr (At b) w w2) := hid_of ⟨FRow.row_mono hown (by omega), D1.out.1.fr b2, fr_b D1.out.2 b2⟩
      clear hown hgrow b2 c0 c1 z1 q0 q1 hlt hlt2
      go_wp2_with fail
      go_loopg [8, 27] n (fun g s8 s27 wx => ∃ (k : Nat) (xs : List (Bs × Int)) (ra : Option Addr) (rc : Nat) (rk : Bs), k ≤ n ∧ n ≤ k + g ∧ s8 = .slice ra k rc ∧ s27 = .int .u64 (k : Int) ∧ Hid (xs.length = k ∧ rk.length ≤ 140737488355328) ∧ Hid (many rdE n r1 = (many rdE (n - k) rk).bind fun t => some (xs ++ t.1, t.2)) ∧ Hid (ERow.OR (w.heap.size) wx (.slice ra k rc) xs ∧ RD b (rk, false) wx ∧ Fr (At b) w wx))
      case atStart => exact ⟨0, [], _, n, r1, by omega, by omega, rfl, rfl, ⟨rfl, hl1⟩, hid_of (by rw [Nat.sub_zero]; cases many rdE n r1 with | none => rfl | some t => rfl), R0⟩
      case round =>
        obtain ⟨k, xs, ra, rc, rk, hk, hg, rfl, rfl, HX, HY, R⟩ := hrel
        by_cases hkn : k < n
        · obtain ⟨g', rfl⟩ : ∃ g', gk = g' + 1 := ⟨gk - 1, by omega⟩
          have d1 : (k : Int) < (n : Int) := by omega
          have w1' : IntKind.u64.wrap ((k : Int) + 1) = (k : Int) + 1 := by rw [IntKind.wrap_u64]; omega
          have HC := hid_of (scored_call b (rk, false) wr R.out.2.1 HX.out.2)
          rw [show n - k = (n - (k + 1)) + 1 by omega] at HY
          go_wp2_with fail
          refine HC.out.mono ?_
          rintro e w3 ⟨rfl, d3, f3⟩
          have row3 : ERow.OR (w.heap.size) w3 (.slice ra k rc) xs := row_fr R.out.1 f3 hbw
          have hle := Nat.le_trans R.out.2.2.size f3.size
          obtain ⟨v4, w4, hr4, row4, b4⟩ := appERow (scS (rk, false)).1 row3 (by rw [HX.out.1]; unfold ERow.big; omega) hle
          have d4 : RD b (scS (rk, false)).2 w4 := (b4.block b hbw).trans d3
          have f4 := fr_low (fr_go R.out.2.2 f3) b4
          obtain ⟨⟨c0, c1⟩, _⟩ := box2 d4
          obtain ⟨ra4, rc4, rfl⟩ := shapeERow row4
          rw [List.length_append, HX.out.1] at hr4 row4
          change _ = Result.ok (Value.slice ra4 (k + 1) rc4) w4 at hr4
          have row5 : ERow.OR w.heap.size w4 (Value.slice ra4 (k + 1) rc4) (xs ++ [(scS (rk, false)).1]) := row4
          replace row4 := row5
          clear row5
          have R4 := hid_of (And.intro row4 (And.intro d4 f4))
          clear row3 row4 d3 f3 d4 f4 b4 HC hle
          cases hp : rdE rk with
          | none =>
            have HZ := hid_of (HM.out.trans (many_stop HY.out hp))
            obtain ⟨p', r', hgg⟩ := sc_none hp
            rw [hgg] at c0 c1 R4 hr4 ⊢
            simp only at c0 c1
            clear hp HY hgg
            skip
            go_wp2_with (at_builtin; refine wpl_eq rfl _ _ 28 28 rfl (.slice ra k rc) (.slice (some ⟨w3.heap.size, 0, none⟩) 1 1) (.slice ra4 (k + 1) rc4) _ w4 rfl rfl hr4 ?_)
            go_ret
            exact ⟨_, rfl, HR.out _ _ ⟨r', _, _, _, HZ.out, R4.out.2.1, rfl⟩, R4.out.2.2⟩
          | some t =>
            obtain ⟨x, r'⟩ := t
            have HY2 := hid_of (many_step HY.out hp)
            have hgg := sc_some hp
            rw [hgg] at c0 c1 R4 hr4 ⊢
            simp only at c0 c1
            have HL : Hid ((xs ++ [x]).length = k + 1 ∧ r'.length ≤ 140737488355328) := hid_of ⟨by rw [List.length_append, HX.out.1]; rfl, by have := len_E hp; have := HX.out.2; omega⟩
            clear hp HY hgg
            skip
            go_wp2_with (at_builtin; refine wpl_eq rfl _ _ 28 28 rfl (.slice ra k rc) (.slice (some ⟨w3.heap.size, 0, none⟩) 1 1) (.slice ra4 (k + 1) rc4) _ w4 rfl rfl hr4 ?_)
            go_roundg g'
            case measure => omega
            case rel => exact ⟨k + 1, xs ++ [x], ra4, rc4, r', by omega, by omega, rfl, by simp, HL, HY2, R4⟩
        · obtain rfl : k = n := by omega
          have d1 : ¬ (k : Int) < (k : Int) := by omega
          rw [Nat.sub_self] at HY
          have HZ := hid_of (HM.out.trans (many_done HY.out))
          clear HY
          go_wp2_with fail
          go_ret
          exact ⟨_, rfl, HS.out _ _ xs rk HZ.out R.out.2.1 R.out.1, R.out.2.2⟩
end Go.Proofs.YtminfpkigenahaaGreatDoor.ElemE
end
section
namespace Go.Proofs.YtminfpkigenahaaGreatDoor.RVal
open Go.RowKit Go.Maps
open Go.Proofs.YtminfpkigenahaaGreatDoor.SetMath
open Go.Proofs.YtminfpkigenahaaGreatDoor.BytesMath
open Go.Proofs.YtminfpkigenahaaGreatDoor.ValueMath
open Go.Proofs.YtminfpkigenahaaGreatDoor.ReadMath
open Go.Proofs.YtminfpkigenahaaGreatDoor.Base
open Go.Proofs.YtminfpkigenahaaGreatDoor.Vals
open Go.Proofs.YtminfpkigenahaaGreatDoor.Rdr
open Go.Proofs.YtminfpkigenahaaGreatDoor.Elem
open Go.Proofs.YtminfpkigenahaaGreatDoor.Copy (nr_set row_set set5)
set_option linter.unusedVariables false
def fin6 (w : World) (p i q : Nat) (y y0 y1 y2 y3 y4 : Value) : World := ((((((w.setCell ⟨p, i, none⟩ y).setCell ⟨q, 0, none⟩ y0).setCell ⟨q, 1, none⟩ y1).setCell ⟨q, 2, none⟩ y2).setCell ⟨q, 3, none⟩ y3).setCell ⟨q, 4, none⟩ y4)
section
variable {w w0 : World} {p i q : Nat} {y y0 y1 y2 y3 y4 : Value}
theorem f6_nr {B : Nat} {v : Value} {l : List El} (h : NR B w v l) (hp : p < B) (hq : q < B) : NR q (fin6 w p i q y y0 y1 y2 y3 y4) v l := (nr_set (nr_set (nr_set (nr_set (nr_set (nr_set h hp y) hq y0) hq y1) hq y2) hq y3) hq y4).mono (by omega)
theorem f6_row {B e sz n : Nat} {v : Value} {xs : List Value} (h : w.ownsRow B e sz v n xs) (hp : p < B) (hq : q < B) : (fin6 w p i q y y0 y1 y2 y3 y4).ownsRow q e sz v n xs := FRow.row_mono (row_set (row_set (row_set (row_set (row_set (row_set h hp y) hq y0) hq y1) hq y2) hq y3) hq y4) (by omega)
theorem f6_at {k : Nat} {o : Option Obj} (h : w.heap[k]? = o) (hp : k ≠ p) (hq : k ≠ q) : (fin6 w p i q y y0 y1 y2 y3 y4).heap[k]? = o := (set_ne hq _).trans ((set_ne hq _).trans ((set_ne hq _).trans ((set_ne hq _).trans ((set_ne hq _).trans ((set_ne hp _).trans h)))))
theorem f6_fr {b : Nat} (h : Fr (At b) w0 w) (hp : w0.heap.size ≤ p) (hq : w0.heap.size ≤ q) : Fr (At b) w0 (fin6 w p i q y y0 y1 y2 y3 y4) := fr_set (fr_set (fr_set (fr_set (fr_set (fr_set h hp) hq) hq) hq) hq) hq
end
def ResV (b : Nat) (r : Bs) (w w' : World) (v : Value) : Prop := match valS r with
  | some (x, r') => RD b (r', false) w' ∧ VN w.heap.size w' v x
  | none => (∃ r', RD b (r', true) w') ∧ ∃ k t a n c a' n' c' a'' n'' c'', v = .agg #[.int .i64 k, .string t, .slice a n c, .slice a' n' c', .slice a'' n'' c'']
theorem resS_shape {b : Nat} {r : Bs} {w w' : World} {v : Value} (h : ElemS.ResS b r w w' v) : ∃ a n c, v = .slice a n c := by
  unfold ElemS.ResS at h
  split at h
  · obtain ⟨a, c, e, _⟩ := h.2.shape; exact ⟨_, _, _, e⟩
  · exact h.2
theorem resF_shape {b : Nat} {r : Bs} {w w' : World} {v : Value} (h : ElemF.ResF b r w w' v) : ∃ a n c, v = .slice a n c := by
  unfold ElemF.ResF at h
  split at h
  · obtain ⟨a, c, e⟩ := shapeFRow h.2; exact ⟨_, _, _, e⟩
  · exact h.2
theorem resE_shape {b : Nat} {r : Bs} {w w' : World} {v : Value} (h : ElemE.ResE b r w w' v) : ∃ a n c, v = .slice a n c := by
  unfold ElemE.ResE at h
  split at h
  · obtain ⟨a, c, e⟩ := shapeERow h.2; exact ⟨_, _, _, e⟩
  · exact h.2
abbrev zO : Obj := .cells #[.int .i64 0, .string ⟨#[]⟩, .slice none 0 0, .slice none 0 0, .slice none 0 0] 30
abbrev kO (k : Int) : Obj := .cells #[.int .i64 k, .string ⟨#[]⟩, .slice none 0 0, .slice none 0 0, .slice none 0 0] 30

set_option maxHeartbeats 2000000 in
set_option maxRecDepth 100000 in
theorem val1 (b : Nat) (r r1 : Bs) (w : World) (h : RD b (r, false) w) (hl : r.length ≤ 140737488355328) (hr : rdN 1 r = some (1, r1)) :
    Calls Tryz.prog 112 #[ptr b] w fun e w' => ∃ v, e = .returned v ∧ ResV b r w w' v ∧ Fr (At b) w w' := by
  have hbw := rdr_low h
  obtain ⟨V, hV⟩ : ∃ V, V = w.alloc zO := ⟨_, rfl⟩
  have bV : Below w.heap.size w V := by rw [hV]; exact FRow.bnew w _
  have v0 : V.heap[w.heap.size]? = some (.cells #[.int .i64 0, .string ⟨#[]⟩, .slice none 0 0, .slice none 0 0, .slice none 0 0] 30 (0, 0)) := by rw [hV]; exact heap_alloc_new w _
  have HN := hid_of (number_call b 1 (r, false) V (h.fr bV) hl)
  have HV := hid_of hV
  have HB := hid_of (fun W (hW : Fr (At b) V W) => And.intro (fr_go (Fr.of_below bV) hW) (fr_box v0 hW (by omega)))
  clear h v0 bV hV
  rw [nb_some (by decide) (by decide) hr] at HN
  have hl1 : r1.length ≤ 140737488355328 := by have h0 := (rdN_some hr).1; rw [h0] at hl; simp at hl; omega
  have HZ : Hid (valS r = bodyS 1 r1) := hid_of (by unfold valS; rw [hr]; rfl)
  clear hr
  go_enter Tryz.func112, Tryz.ntmps112
  go_wp2_with fail
  rw [← HV.out]
  refine HN.out.mono ?_
  rintro e w1 ⟨rfl, d1, f1⟩
  obtain ⟨f2, v1⟩ := HB.out w1 f1
  have hlt1 : w.heap.size < w1.heap.size := lt_of v1
  obtain ⟨W, hW⟩ : ∃ W, W = w1.alloc (kO 1) := ⟨_, rfl⟩
  have bW : Below w1.heap.size w1 W := by rw [hW]; exact FRow.bnew w1 _
  have sW : W.heap.size = w1.heap.size + 1 := by rw [hW]; simp
  have w0 : W.heap[w1.heap.size]? = some (.cells #[.int .i64 1, .string ⟨#[]⟩, .slice none 0 0, .slice none 0 0, .slice none 0 0] 30 (0, 0)) := by rw [hW]; exact heap_alloc_new w1 _
  have HC := hid_of (text_call b (r1, false) W (RD.fr d1 bW) hl1)
  have v2 := (bW.block _ (lt_of v1)).trans v1
  have H2 := hid_of (And.intro (fr_b f2 bW) (And.intro v2 w0))
  have HW := hid_of hW
  have HSW := hid_of sW
  clear d1 f1 f2 v1 bW w0 hW HN HB v2 sW
  go_wp2_with fail
  rw [← HW.out]
  refine HC.out.mono ?_
  rintro e w3 ⟨rfl, d3, f3⟩
  have D3 := hid_of d3
  clear d3
  obtain ⟨T, hT⟩ : ∃ T, T = mk (txS (r1, false)).1 := ⟨_, rfl⟩
  rw [← hT]
  have HT := hid_of hT
  clear hT
  have x1 := fr_box H2.out.2.1 f3 (by omega)
  have x2 := fr_box H2.out.2.2 f3 (by omega)
  have F3 := hid_of (fr_go H2.out.1 f3)
  obtain ⟨⟨p0, p1, p2, p3, p4⟩, pz⟩ := box5 x1
  obtain ⟨⟨q0, q1, q2, q3, q4⟩, qz⟩ := box5 x2
  have pz0 := pz 0
  have pz1 := pz 1
  have pz2 := pz 2
  have pz3 := pz 3
  have pz4 := pz 4
  have qzz := qz 1
  have X1 := hid_of x1
  clear x1 x2 pz qz f3 HC
  go_wp2_with fail
  obtain ⟨⟨g0, g1, g2, g3, g4⟩, _⟩ := box5 (set5 ((set_ne (b := w1.heap.size) (i := 1) (by omega) (.string T)).trans X1.out) (.int .i64 1) (.string T) (.slice none 0 0) (.slice none 0 0) (.slice none 0 0))
  refine ⟨rfl, .agg #[(.int .i64 1), (.string T), (.slice none 0 0), (.slice none 0 0), (.slice none 0 0)], ?_, _, rfl, ?_, f6_fr (p := w1.heap.size) (i := 1) (y := (.string T)) F3.out (by omega) (Nat.le_refl _)⟩
  · simp [results, Tryz.results112, go_sem, g0, g1, g2, g3, g4]
  · show ResV b r w (fin6 w3 w1.heap.size 1 w.heap.size (.string T) (.int .i64 1) (.string T) (.slice none 0 0) (.slice none 0 0) (.slice none 0 0)) _
    have hbn : b ≠ w1.heap.size := by omega
    have hbq : b ≠ w.heap.size := by omega
    have hp : w1.heap.size < W.heap.size := by have := HSW.out; omega
    have hq : w.heap.size < W.heap.size := by omega
    unfold ResV
    rw [HZ.out]
    cases e : rdT r1 with
    | none =>
      obtain ⟨r', hx⟩ := tx_none e
      have d3 := D3.out
      rw [hx] at d3
      rw [show bodyS 1 r1 = none by show (rdT r1).bind _ = _; rw [e]; rfl]
      exact ⟨⟨r', f6_at d3 hbn hbq⟩, _, _, _, _, _, _, _, _, _, _, _, rfl⟩
    | some t =>
      obtain ⟨t, r'⟩ := t
      have hx := tx_some e
      have d3 := D3.out
      have hT := HT.out
      rw [hx] at d3 hT
      rw [show bodyS 1 r1 = some (⟨1, t, [], [], []⟩, r') by show (rdT r1).bind _ = _; rw [e]; rfl]
      exact ⟨f6_at d3 hbn hbq, _, _, _, by rw [hT], .inl ⟨rfl, rfl⟩, FRow.or_nil _ _, ERow.or_nil _ _⟩

set_option maxHeartbeats 2000000 in
set_option maxRecDepth 100000 in
theorem val2 (b : Nat) (r r1 : Bs) (w : World) (h : RD b (r, false) w) (hl : r.length ≤ 140737488355328) (hr : rdN 1 r = some (2, r1)) :
    Calls Tryz.prog 112 #[ptr b] w fun e w' => ∃ v, e = .returned v ∧ ResV b r w w' v ∧ Fr (At b) w w' := by
  have hbw := rdr_low h
  obtain ⟨V, hV⟩ : ∃ V, V = w.alloc zO := ⟨_, rfl⟩
  have bV : Below w.heap.size w V := by rw [hV]; exact FRow.bnew w _
  have v0 : V.heap[w.heap.size]? = some (.cells #[.int .i64 0, .string ⟨#[]⟩, .slice none 0 0, .slice none 0 0, .slice none 0 0] 30 (0, 0)) := by rw [hV]; exact heap_alloc_new w _
  have HN := hid_of (number_call b 1 (r, false) V (h.fr bV) hl)
  have HV := hid_of hV
  have HB := hid_of (fun W (hW : Fr (At b) V W) => And.intro (fr_go (Fr.of_below bV) hW) (fr_box v0 hW (by omega)))
  clear h v0 bV hV
  rw [nb_some (by decide) (by decide) hr] at HN
  have hl1 : r1.length ≤ 140737488355328 := by have h0 := (rdN_some hr).1; rw [h0] at hl; simp at hl; omega
  have HZ : Hid (valS r = bodyS 2 r1) := hid_of (by unfold valS; rw [hr]; rfl)
  clear hr
  go_enter Tryz.func112, Tryz.ntmps112
  go_wp2_with fail
  rw [← HV.out]
  refine HN.out.mono ?_
  rintro e w1 ⟨rfl, d1, f1⟩
  obtain ⟨f2, v1⟩ := HB.out w1 f1
  have hlt1 : w.heap.size < w1.heap.size := lt_of v1
  obtain ⟨W, hW⟩ : ∃ W, W = w1.alloc (kO 2) := ⟨_, rfl⟩
  have bW : Below w1.heap.size w1 W := by rw [hW]; exact FRow.bnew w1 _
  have sW : W.heap.size = w1.heap.size + 1 := by rw [hW]; simp
  have w0 : W.heap[w1.heap.size]? = some (.cells #[.int .i64 2, .string ⟨#[]⟩, .slice none 0 0, .slice none 0 0, .slice none 0 0] 30 (0, 0)) := by rw [hW]; exact heap_alloc_new w1 _
  have HC := hid_of (ElemS.elemS b r1 W (RD.fr d1 bW) hl1)
  have v2 := (bW.block _ (lt_of v1)).trans v1
  have H2 := hid_of (And.intro (fr_b f2 bW) (And.intro v2 w0))
  have HW := hid_of hW
  have HSW := hid_of sW
  clear d1 f1 f2 v1 bW w0 hW HN HB v2 sW
  go_wp2_with fail
  rw [← HW.out]
  refine HC.out.mono ?_
  rintro e w3 ⟨v3, rfl, d3, f3⟩
  have D3 := hid_of d3
  clear d3
  have x1 := fr_box H2.out.2.1 f3 (by omega)
  have x2 := fr_box H2.out.2.2 f3 (by omega)
  have F3 := hid_of (fr_go H2.out.1 f3)
  obtain ⟨va, vn, vc, rfl⟩ := resS_shape D3.out
  obtain ⟨⟨p0, p1, p2, p3, p4⟩, pz⟩ := box5 x1
  obtain ⟨⟨q0, q1, q2, q3, q4⟩, qz⟩ := box5 x2
  have pz0 := pz 0
  have pz1 := pz 1
  have pz2 := pz 2
  have pz3 := pz 3
  have pz4 := pz 4
  have qzz := qz 2
  have X1 := hid_of x1
  clear x1 x2 pz qz f3 HC
  go_wp2_with fail
  obtain ⟨⟨g0, g1, g2, g3, g4⟩, _⟩ := box5 (set5 ((set_ne (b := w1.heap.size) (i := 2) (by omega) (.slice va vn vc)).trans X1.out) (.int .i64 2) (.string ⟨#[]⟩) (.slice va vn vc) (.slice none 0 0) (.slice none 0 0))
  refine ⟨rfl, .agg #[(.int .i64 2), (.string ⟨#[]⟩), (.slice va vn vc), (.slice none 0 0), (.slice none 0 0)], ?_, _, rfl, ?_, f6_fr (p := w1.heap.size) (i := 2) (y := (.slice va vn vc)) F3.out (by omega) (Nat.le_refl _)⟩
  · simp [results, Tryz.results112, go_sem, g0, g1, g2, g3, g4]
  · show ResV b r w (fin6 w3 w1.heap.size 2 w.heap.size (.slice va vn vc) (.int .i64 2) (.string ⟨#[]⟩) (.slice va vn vc) (.slice none 0 0) (.slice none 0 0)) _
    have hbn : b ≠ w1.heap.size := by omega
    have hbq : b ≠ w.heap.size := by omega
    have hp : w1.heap.size < W.heap.size := by have := HSW.out; omega
    have hq : w.heap.size < W.heap.size := by omega
    unfold ResV
    rw [HZ.out]
    have d3 := D3.out
    unfold ElemS.ResS at d3
    cases e : rdC rdT r1 with
    | none =>
      rw [e] at d3
      obtain ⟨⟨r', d3⟩, _⟩ := d3
      rw [show bodyS 2 r1 = none by show (rdC rdT r1).bind _ = _; rw [e]; rfl]
      exact ⟨⟨r', f6_at d3 hbn hbq⟩, _, _, _, _, _, _, _, _, _, _, _, rfl⟩
    | some t =>
      obtain ⟨l, r'⟩ := t
      rw [e] at d3
      obtain ⟨d3, n3⟩ := d3
      rw [show bodyS 2 r1 = some (⟨2, [], l, [], []⟩, r') by show (rdC rdT r1).bind _ = _; rw [e]; rfl]
      exact ⟨f6_at d3 hbn hbq, _, _, _, rfl, f6_nr n3 hp hq, FRow.or_nil _ _, ERow.or_nil _ _⟩

set_option maxHeartbeats 2000000 in
set_option maxRecDepth 100000 in
theorem val4 (b : Nat) (r r1 : Bs) (w : World) (h : RD b (r, false) w) (hl : r.length ≤ 140737488355328) (hr : rdN 1 r = some (4, r1)) :
    Calls Tryz.prog 112 #[ptr b] w fun e w' => ∃ v, e = .returned v ∧ ResV b r w w' v ∧ Fr (At b) w w' := by
  have hbw := rdr_low h
  obtain ⟨V, hV⟩ : ∃ V, V = w.alloc zO := ⟨_, rfl⟩
  have bV : Below w.heap.size w V := by rw [hV]; exact FRow.bnew w _
  have v0 : V.heap[w.heap.size]? = some (.cells #[.int .i64 0, .string ⟨#[]⟩, .slice none 0 0, .slice none 0 0, .slice none 0 0] 30 (0, 0)) := by rw [hV]; exact heap_alloc_new w _
  have HN := hid_of (number_call b 1 (r, false) V (h.fr bV) hl)
  have HV := hid_of hV
  have HB := hid_of (fun W (hW : Fr (At b) V W) => And.intro (fr_go (Fr.of_below bV) hW) (fr_box v0 hW (by omega)))
  clear h v0 bV hV
  rw [nb_some (by decide) (by decide) hr] at HN
  have hl1 : r1.length ≤ 140737488355328 := by have h0 := (rdN_some hr).1; rw [h0] at hl; simp at hl; omega
  have HZ : Hid (valS r = bodyS 4 r1) := hid_of (by unfold valS; rw [hr]; rfl)
  clear hr
  go_enter Tryz.func112, Tryz.ntmps112
  go_wp2_with fail
  rw [← HV.out]
  refine HN.out.mono ?_
  rintro e w1 ⟨rfl, d1, f1⟩
  obtain ⟨f2, v1⟩ := HB.out w1 f1
  have hlt1 : w.heap.size < w1.heap.size := lt_of v1
  obtain ⟨W, hW⟩ : ∃ W, W = w1.alloc (kO 4) := ⟨_, rfl⟩
  have bW : Below w1.heap.size w1 W := by rw [hW]; exact FRow.bnew w1 _
  have sW : W.heap.size = w1.heap.size + 1 := by rw [hW]; simp
  have w0 : W.heap[w1.heap.size]? = some (.cells #[.int .i64 4, .string ⟨#[]⟩, .slice none 0 0, .slice none 0 0, .slice none 0 0] 30 (0, 0)) := by rw [hW]; exact heap_alloc_new w1 _
  have HC := hid_of (ElemS.elemS b r1 W (RD.fr d1 bW) hl1)
  have v2 := (bW.block _ (lt_of v1)).trans v1
  have H2 := hid_of (And.intro (fr_b f2 bW) (And.intro v2 w0))
  have HW := hid_of hW
  have HSW := hid_of sW
  clear d1 f1 f2 v1 bW w0 hW HN HB v2 sW
  go_wp2_with fail
  rw [← HW.out]
  refine HC.out.mono ?_
  rintro e w3 ⟨v3, rfl, d3, f3⟩
  have D3 := hid_of d3
  clear d3
  have x1 := fr_box H2.out.2.1 f3 (by omega)
  have x2 := fr_box H2.out.2.2 f3 (by omega)
  have F3 := hid_of (fr_go H2.out.1 f3)
  obtain ⟨va, vn, vc, rfl⟩ := resS_shape D3.out
  obtain ⟨⟨p0, p1, p2, p3, p4⟩, pz⟩ := box5 x1
  obtain ⟨⟨q0, q1, q2, q3, q4⟩, qz⟩ := box5 x2
  have pz0 := pz 0
  have pz1 := pz 1
  have pz2 := pz 2
  have pz3 := pz 3
  have pz4 := pz 4
  have qzz := qz 2
  have X1 := hid_of x1
  clear x1 x2 pz qz f3 HC
  go_wp2_with fail
  obtain ⟨⟨g0, g1, g2, g3, g4⟩, _⟩ := box5 (set5 ((set_ne (b := w1.heap.size) (i := 2) (by omega) (.slice va vn vc)).trans X1.out) (.int .i64 4) (.string ⟨#[]⟩) (.slice va vn vc) (.slice none 0 0) (.slice none 0 0))
  refine ⟨rfl, .agg #[(.int .i64 4), (.string ⟨#[]⟩), (.slice va vn vc), (.slice none 0 0), (.slice none 0 0)], ?_, _, rfl, ?_, f6_fr (p := w1.heap.size) (i := 2) (y := (.slice va vn vc)) F3.out (by omega) (Nat.le_refl _)⟩
  · simp [results, Tryz.results112, go_sem, g0, g1, g2, g3, g4]
  · show ResV b r w (fin6 w3 w1.heap.size 2 w.heap.size (.slice va vn vc) (.int .i64 4) (.string ⟨#[]⟩) (.slice va vn vc) (.slice none 0 0) (.slice none 0 0)) _
    have hbn : b ≠ w1.heap.size := by omega
    have hbq : b ≠ w.heap.size := by omega
    have hp : w1.heap.size < W.heap.size := by have := HSW.out; omega
    have hq : w.heap.size < W.heap.size := by omega
    unfold ResV
    rw [HZ.out]
    have d3 := D3.out
    unfold ElemS.ResS at d3
    cases e : rdC rdT r1 with
    | none =>
      rw [e] at d3
      obtain ⟨⟨r', d3⟩, _⟩ := d3
      rw [show bodyS 4 r1 = none by show (rdC rdT r1).bind _ = _; rw [e]; rfl]
      exact ⟨⟨r', f6_at d3 hbn hbq⟩, _, _, _, _, _, _, _, _, _, _, _, rfl⟩
    | some t =>
      obtain ⟨l, r'⟩ := t
      rw [e] at d3
      obtain ⟨d3, n3⟩ := d3
      rw [show bodyS 4 r1 = some (⟨4, [], l, [], []⟩, r') by show (rdC rdT r1).bind _ = _; rw [e]; rfl]
      exact ⟨f6_at d3 hbn hbq, _, _, _, rfl, f6_nr n3 hp hq, FRow.or_nil _ _, ERow.or_nil _ _⟩

set_option maxHeartbeats 2000000 in
set_option maxRecDepth 100000 in
theorem val3 (b : Nat) (r r1 : Bs) (w : World) (h : RD b (r, false) w) (hl : r.length ≤ 140737488355328) (hr : rdN 1 r = some (3, r1)) :
    Calls Tryz.prog 112 #[ptr b] w fun e w' => ∃ v, e = .returned v ∧ ResV b r w w' v ∧ Fr (At b) w w' := by
  have hbw := rdr_low h
  obtain ⟨V, hV⟩ : ∃ V, V = w.alloc zO := ⟨_, rfl⟩
  have bV : Below w.heap.size w V := by rw [hV]; exact FRow.bnew w _
  have v0 : V.heap[w.heap.size]? = some (.cells #[.int .i64 0, .string ⟨#[]⟩, .slice none 0 0, .slice none 0 0, .slice none 0 0] 30 (0, 0)) := by rw [hV]; exact heap_alloc_new w _
  have HN := hid_of (number_call b 1 (r, false) V (h.fr bV) hl)
  have HV := hid_of hV
  have HB := hid_of (fun W (hW : Fr (At b) V W) => And.intro (fr_go (Fr.of_below bV) hW) (fr_box v0 hW (by omega)))
  clear h v0 bV hV
  rw [nb_some (by decide) (by decide) hr] at HN
  have hl1 : r1.length ≤ 140737488355328 := by have h0 := (rdN_some hr).1; rw [h0] at hl; simp at hl; omega
  have HZ : Hid (valS r = bodyS 3 r1) := hid_of (by unfold valS; rw [hr]; rfl)
  clear hr
  go_enter Tryz.func112, Tryz.ntmps112
  go_wp2_with fail
  rw [← HV.out]
  refine HN.out.mono ?_
  rintro e w1 ⟨rfl, d1, f1⟩
  obtain ⟨f2, v1⟩ := HB.out w1 f1
  have hlt1 : w.heap.size < w1.heap.size := lt_of v1
  obtain ⟨W, hW⟩ : ∃ W, W = w1.alloc (kO 3) := ⟨_, rfl⟩
  have bW : Below w1.heap.size w1 W := by rw [hW]; exact FRow.bnew w1 _
  have sW : W.heap.size = w1.heap.size + 1 := by rw [hW]; simp
  have w0 : W.heap[w1.heap.size]? = some (.cells #[.int .i64 3, .string ⟨#[]⟩, .slice none 0 0, .slice none 0 0, .slice none 0 0] 30 (0, 0)) := by rw [hW]; exact heap_alloc_new w1 _
  have HC := hid_of (ElemF.elemF b r1 W (RD.fr d1 bW) hl1)
  have v2 := (bW.block _ (lt_of v1)).trans v1
  have H2 := hid_of (And.intro (fr_b f2 bW) (And.intro v2 w0))
  have HW := hid_of hW
  have HSW := hid_of sW
  clear d1 f1 f2 v1 bW w0 hW HN HB v2 sW
  go_wp2_with fail
  rw [← HW.out]
  refine HC.out.mono ?_
  rintro e w3 ⟨v3, rfl, d3, f3⟩
  have D3 := hid_of d3
  clear d3
  have x1 := fr_box H2.out.2.1 f3 (by omega)
  have x2 := fr_box H2.out.2.2 f3 (by omega)
  have F3 := hid_of (fr_go H2.out.1 f3)
  obtain ⟨va, vn, vc, rfl⟩ := resF_shape D3.out
  obtain ⟨⟨p0, p1, p2, p3, p4⟩, pz⟩ := box5 x1
  obtain ⟨⟨q0, q1, q2, q3, q4⟩, qz⟩ := box5 x2
  have pz0 := pz 0
  have pz1 := pz 1
  have pz2 := pz 2
  have pz3 := pz 3
  have pz4 := pz 4
  have qzz := qz 3
  have X1 := hid_of x1
  clear x1 x2 pz qz f3 HC
  go_wp2_with fail
  obtain ⟨⟨g0, g1, g2, g3, g4⟩, _⟩ := box5 (set5 ((set_ne (b := w1.heap.size) (i := 3) (by omega) (.slice va vn vc)).trans X1.out) (.int .i64 3) (.string ⟨#[]⟩) (.slice none 0 0) (.slice va vn vc) (.slice none 0 0))
  refine ⟨rfl, .agg #[(.int .i64 3), (.string ⟨#[]⟩), (.slice none 0 0), (.slice va vn vc), (.slice none 0 0)], ?_, _, rfl, ?_, f6_fr (p := w1.heap.size) (i := 3) (y := (.slice va vn vc)) F3.out (by omega) (Nat.le_refl _)⟩
  · simp [results, Tryz.results112, go_sem, g0, g1, g2, g3, g4]
  · show ResV b r w (fin6 w3 w1.heap.size 3 w.heap.size (.slice va vn vc) (.int .i64 3) (.string ⟨#[]⟩) (.slice none 0 0) (.slice va vn vc) (.slice none 0 0)) _
    have hbn : b ≠ w1.heap.size := by omega
    have hbq : b ≠ w.heap.size := by omega
    have hp : w1.heap.size < W.heap.size := by have := HSW.out; omega
    have hq : w.heap.size < W.heap.size := by omega
    unfold ResV
    rw [HZ.out]
    have d3 := D3.out
    unfold ElemF.ResF at d3
    cases e : rdC rdF r1 with
    | none =>
      rw [e] at d3
      obtain ⟨⟨r', d3⟩, _⟩ := d3
      rw [show bodyS 3 r1 = none by show (rdC rdF r1).bind _ = _; rw [e]; rfl]
      exact ⟨⟨r', f6_at d3 hbn hbq⟩, _, _, _, _, _, _, _, _, _, _, _, rfl⟩
    | some t =>
      obtain ⟨l, r'⟩ := t
      rw [e] at d3
      obtain ⟨d3, n3⟩ := d3
      rw [show bodyS 3 r1 = some (⟨3, [], [], l, []⟩, r') by show (rdC rdF r1).bind _ = _; rw [e]; rfl]
      exact ⟨f6_at d3 hbn hbq, _, _, _, rfl, .inl ⟨rfl, rfl⟩, f6_row n3 hp hq, ERow.or_nil _ _⟩

set_option maxHeartbeats 2000000 in
set_option maxRecDepth 100000 in
theorem val5 (b : Nat) (r r1 : Bs) (w : World) (h : RD b (r, false) w) (hl : r.length ≤ 140737488355328) (hr : rdN 1 r = some (5, r1)) :
    Calls Tryz.prog 112 #[ptr b] w fun e w' => ∃ v, e = .returned v ∧ ResV b r w w' v ∧ Fr (At b) w w' := by
  have hbw := rdr_low h
  obtain ⟨V, hV⟩ : ∃ V, V = w.alloc zO := ⟨_, rfl⟩
  have bV : Below w.heap.size w V := by rw [hV]; exact FRow.bnew w _
  have v0 : V.heap[w.heap.size]? = some (.cells #[.int .i64 0, .string ⟨#[]⟩, .slice none 0 0, .slice none 0 0, .slice none 0 0] 30 (0, 0)) := by rw [hV]; exact heap_alloc_new w _
  have HN := hid_of (number_call b 1 (r, false) V (h.fr bV) hl)
  have HV := hid_of hV
  have HB := hid_of (fun W (hW : Fr (At b) V W) => And.intro (fr_go (Fr.of_below bV) hW) (fr_box v0 hW (by omega)))
  clear h v0 bV hV
  rw [nb_some (by decide) (by decide) hr] at HN
  have hl1 : r1.length ≤ 140737488355328 := by have h0 := (rdN_some hr).1; rw [h0] at hl; simp at hl; omega
  have HZ : Hid (valS r = bodyS 5 r1) := hid_of (by unfold valS; rw [hr]; rfl)
  clear hr
  go_enter Tryz.func112, Tryz.ntmps112
  go_wp2_with fail
  rw [← HV.out]
  refine HN.out.mono ?_
  rintro e w1 ⟨rfl, d1, f1⟩
  obtain ⟨f2, v1⟩ := HB.out w1 f1
  have hlt1 : w.heap.size < w1.heap.size := lt_of v1
  obtain ⟨W, hW⟩ : ∃ W, W = w1.alloc (kO 5) := ⟨_, rfl⟩
  have bW : Below w1.heap.size w1 W := by rw [hW]; exact FRow.bnew w1 _
  have sW : W.heap.size = w1.heap.size + 1 := by rw [hW]; simp
  have w0 : W.heap[w1.heap.size]? = some (.cells #[.int .i64 5, .string ⟨#[]⟩, .slice none 0 0, .slice none 0 0, .slice none 0 0] 30 (0, 0)) := by rw [hW]; exact heap_alloc_new w1 _
  have HC := hid_of (ElemE.elemE b r1 W (RD.fr d1 bW) hl1)
  have v2 := (bW.block _ (lt_of v1)).trans v1
  have H2 := hid_of (And.intro (fr_b f2 bW) (And.intro v2 w0))
  have HW := hid_of hW
  have HSW := hid_of sW
  clear d1 f1 f2 v1 bW w0 hW HN HB v2 sW
  go_wp2_with fail
  rw [← HW.out]
  refine HC.out.mono ?_
  rintro e w3 ⟨v3, rfl, d3, f3⟩
  have D3 := hid_of d3
  clear d3
  have x1 := fr_box H2.out.2.1 f3 (by omega)
  have x2 := fr_box H2.out.2.2 f3 (by omega)
  have F3 := hid_of (fr_go H2.out.1 f3)
  obtain ⟨va, vn, vc, rfl⟩ := resE_shape D3.out
  obtain ⟨⟨p0, p1, p2, p3, p4⟩, pz⟩ := box5 x1
  obtain ⟨⟨q0, q1, q2, q3, q4⟩, qz⟩ := box5 x2
  have pz0 := pz 0
  have pz1 := pz 1
  have pz2 := pz 2
  have pz3 := pz 3
  have pz4 := pz 4
  have qzz := qz 4
  have X1 := hid_of x1
  clear x1 x2 pz qz f3 HC
  go_wp2_with fail
  obtain ⟨⟨g0, g1, g2, g3, g4⟩, _⟩ := box5 (set5 ((set_ne (b := w1.heap.size) (i := 4) (by omega) (.slice va vn vc)).trans X1.out) (.int .i64 5) (.string ⟨#[]⟩) (.slice none 0 0) (.slice none 0 0) (.slice va vn vc))
  refine ⟨rfl, .agg #[(.int .i64 5), (.string ⟨#[]⟩), (.slice none 0 0), (.slice none 0 0), (.slice va vn vc)], ?_, _, rfl, ?_, f6_fr (p := w1.heap.size) (i := 4) (y := (.slice va vn vc)) F3.out (by omega) (Nat.le_refl _)⟩
  · simp [results, Tryz.results112, go_sem, g0, g1, g2, g3, g4]
  · show ResV b r w (fin6 w3 w1.heap.size 4 w.heap.size (.slice va vn vc) (.int .i64 5) (.string ⟨#[]⟩) (.slice none 0 0) (.slice none 0 0) (.slice va vn vc)) _
    have hbn : b ≠ w1.heap.size := by omega
    have hbq : b ≠ w.heap.size := by omega
    have hp : w1.heap.size < W.heap.size := by have := HSW.out; omega
    have hq : w.heap.size < W.heap.size := by omega
    unfold ResV
    rw [HZ.out]
    have d3 := D3.out
    unfold ElemE.ResE at d3
    cases e : rdC rdE r1 with
    | none =>
      rw [e] at d3
      obtain ⟨⟨r', d3⟩, _⟩ := d3
      rw [show bodyS 5 r1 = none by show (rdC rdE r1).bind _ = _; rw [e]; rfl]
      exact ⟨⟨r', f6_at d3 hbn hbq⟩, _, _, _, _, _, _, _, _, _, _, _, rfl⟩
    | some t =>
      obtain ⟨l, r'⟩ := t
      rw [e] at d3
      obtain ⟨d3, n3⟩ := d3
      rw [show bodyS 5 r1 = some (⟨5, [], [], [], l⟩, r') by show (rdC rdE r1).bind _ = _; rw [e]; rfl]
      exact ⟨f6_at d3 hbn hbq, _, _, _, rfl, .inl ⟨rfl, rfl⟩, FRow.or_nil _ _, f6_row n3 hp hq⟩

end Go.Proofs.YtminfpkigenahaaGreatDoor.RVal
end
section
namespace Go.Proofs.YtminfpkigenahaaGreatDoor.RVal0
open Go.RowKit Go.Maps
open Go.Proofs.YtminfpkigenahaaGreatDoor.SetMath
open Go.Proofs.YtminfpkigenahaaGreatDoor.BytesMath
open Go.Proofs.YtminfpkigenahaaGreatDoor.ValueMath
open Go.Proofs.YtminfpkigenahaaGreatDoor.ReadMath
open Go.Proofs.YtminfpkigenahaaGreatDoor.Base
open Go.Proofs.YtminfpkigenahaaGreatDoor.Vals
open Go.Proofs.YtminfpkigenahaaGreatDoor.Rdr
open Go.Proofs.YtminfpkigenahaaGreatDoor.Elem
open Go.Proofs.YtminfpkigenahaaGreatDoor.Copy (nr_set row_set set5)
open Go.Proofs.YtminfpkigenahaaGreatDoor.RVal
set_option linter.unusedVariables false

set_option maxHeartbeats 2000000 in
set_option maxRecDepth 100000 in
theorem val0 (b k : Nat) (r : Bs) (s1 : RS) (w : World) (h : RD b (r, false) w) (hl : r.length ≤ 140737488355328) (hk : k = 0 ∨ 5 < k) (hk2 : k < 256) (hn : nbS 1 (r, false) = (k, s1)) (hz : valS r = none) :
    Calls Tryz.prog 112 #[ptr b] w fun e w' => ∃ v, e = .returned v ∧ ResV b r w w' v ∧ Fr (At b) w w' := by
  have hbw := rdr_low h
  obtain ⟨V, hV⟩ : ∃ V, V = w.alloc zO := ⟨_, rfl⟩
  have bV : Below w.heap.size w V := by rw [hV]; exact FRow.bnew w _
  have v0 : V.heap[w.heap.size]? = some (.cells #[.int .i64 0, .string ⟨#[]⟩, .slice none 0 0, .slice none 0 0, .slice none 0 0] 30 (0, 0)) := by rw [hV]; exact heap_alloc_new w _
  have HN := hid_of (number_call b 1 (r, false) V (h.fr bV) hl)
  have HV := hid_of hV
  have HB := hid_of (fun W (hW : Fr (At b) V W) => And.intro (fr_go (Fr.of_below bV) hW) (fr_box v0 hW (by omega)))
  clear h v0 bV hV
  rw [hn] at HN
  have HZ := hid_of hz
  clear hn hz
  have e1 : ((k : Int) == 1) = false := by simp; omega
  have e2 : ((k : Int) == 2) = false := by simp; omega
  have e3 : ((k : Int) == 3) = false := by simp; omega
  have e4 : ((k : Int) == 4) = false := by simp; omega
  have e5 : ((k : Int) == 5) = false := by simp; omega
  have ew : IntKind.i64.wrap (k : Int) = (k : Int) := IntWalk.i64_in _ (by omega)
  go_enter Tryz.func112, Tryz.ntmps112
  go_wp2_with fail
  rw [← HV.out]
  refine HN.out.mono ?_
  rintro e w1 ⟨rfl, d1, f1⟩
  obtain ⟨f2, v1⟩ := HB.out w1 f1
  have hlt1 : w.heap.size < w1.heap.size := lt_of v1
  obtain ⟨⟨p0, p1, p2, p3, p4⟩, pz⟩ := box5 v1
  obtain ⟨⟨q0, q1⟩, qz⟩ := box2 d1
  have pz0 := pz 0
  have pz1 := pz 1
  have pz2 := pz 2
  have pz3 := pz 3
  have pz4 := pz 4
  have qz1 := qz 1
  have D := hid_of (And.intro d1 (And.intro f2 v1))
  have hb1 : b < w1.heap.size := by omega
  have hb2 : b ≠ w1.heap.size := by omega
  have hb3 : w1.heap.size ≠ b := by omega
  have hb4 : b ≠ w.heap.size := by omega
  have hb5 : w.heap.size ≠ b := by omega
  clear d1 f1 f2 v1 pz qz HN HB
  go_wp2_with fail
  obtain ⟨d1, f2, v1⟩ := D.out
  have y1 := set5 ((set_ne (b := b) (i := 1) (by omega) (.bool true)).trans v1) (.int .i64 k) (.string ⟨#[]⟩) (.slice none 0 0) (.slice none 0 0) (.slice none 0 0)
  have y2 := (hao _ (kO k) _ (lt_of y1)).trans y1
  obtain ⟨⟨g0, g1, g2, g3, g4⟩, _⟩ := box5 y2
  refine ⟨rfl, .agg #[.int .i64 k, .string ⟨#[]⟩, .slice none 0 0, .slice none 0 0, .slice none 0 0], ?_, _, rfl, ?_, ?_⟩
  · simp [results, Tryz.results112, go_sem, g0, g1, g2, g3, g4]
  · unfold ResV
    rw [HZ.out]
    have d2 := set_at (i := 1) d1 (.bool true)
    refine ⟨⟨s1.1, ?_⟩, _, _, _, _, _, _, _, _, _, _, _, rfl⟩
    refine (hao _ _ _ ?_).trans ((set_ne hb4 _).trans ((set_ne hb4 _).trans ((set_ne hb4 _).trans ((set_ne hb4 _).trans ((set_ne hb4 _).trans d2)))))
    rw [size_set, size_set, size_set, size_set, size_set, size_set]
    exact hb1
  · exact Fr.alloc (fr_set (fr_set (fr_set (fr_set (fr_set (fr_go f2 (Fr.set (F := At b) rfl _)) (Nat.le_refl _)) (Nat.le_refl _)) (Nat.le_refl _)) (Nat.le_refl _)) (Nat.le_refl _)) _
theorem value_call (b : Nat) (r : Bs) (w : World) (h : RD b (r, false) w) (hl : r.length ≤ 140737488355328) :
    Calls Tryz.prog 112 #[ptr b] w fun e w' => ∃ v, e = .returned v ∧ ResV b r w w' v ∧ Fr (At b) w w' := by
  cases hr : rdN 1 r with
  | none => exact val0 b 0 r (r, true) w h hl (Or.inl rfl) (by decide) (nb_none false hr) (by unfold valS; rw [hr]; rfl)
  | some q =>
    obtain ⟨k, r1⟩ := q
    have hk : k < 256 := by simpa using (rdN_some hr).2
    by_cases h1 : k = 1
    · subst h1; exact val1 b r r1 w h hl hr
    · by_cases h2 : k = 2
      · subst h2; exact val2 b r r1 w h hl hr
      · by_cases h3 : k = 3
        · subst h3; exact val3 b r r1 w h hl hr
        · by_cases h4 : k = 4
          · subst h4; exact val4 b r r1 w h hl hr
          · by_cases h5 : k = 5
            · subst h5; exact val5 b r r1 w h hl hr
            · refine val0 b k r (r1, false) w h hl (by omega) hk (nb_some (by decide) (by decide) hr) ?_
              unfold valS
              rw [hr]
              show bodyS k r1 = none
              unfold bodyS
              rw [if_neg h1, if_neg (by omega), if_neg h3, if_neg h5]
end Go.Proofs.YtminfpkigenahaaGreatDoor.RVal0
end
