/- Effects: whether one may be; the program's answer. mayBe and allMayBe. strings.Builder at this program: the contracts of copyCheck, WriteByte and WriteString. The contracts of num.Fix and of the document's own Fix. -/
import Derived.Test.YtpnigkjmofhmbabGreatSSortM
import Derived.Test.YtpnigkjmofhmbabGreatShelf
import Derived.Test.YtpnigkjmofhmbabGreatEqualM
import Derived.WalkKit
import Derived.Lib.OthersKept
import Derived.Test.YtpnigkjmofhmbabGreatRows
import Derived.Test.YtpnigkjmofhmbabGreatFixMathM
import Derived.Below
section
namespace Go.Proofs.YtpnigkjmofhmbabGreat.EMay
open Go.RowKit Go.Maps
open Go.Proofs.YtpnigkjmofhmbabGreat.ValueMath (Vl chk small sm)
open Go.Proofs.YtpnigkjmofhmbabGreat.Base (mk mk_list mk_size Gr hid_of SL)
open Go.Proofs.YtpnigkjmofhmbabGreat.Turn
open Go.Proofs.YtpnigkjmofhmbabGreat.Vals
open Go.Proofs.YtpnigkjmofhmbabGreat.Check0 (Wel)
open Go.Proofs.YtpnigkjmofhmbabGreat.Dec (zV)
open Go.Proofs.YtpnigkjmofhmbabGreat.SBase
open Go.Proofs.YtpnigkjmofhmbabGreat.SFind (alb)
open Go.Proofs.YtpnigkjmofhmbabGreat.SPut (vO va_shape)
set_option linter.unusedVariables false
set_option linter.unusedSimpArgs false
def okK (k : Int) : Bool := decide (k = 1) || decide (k = 2) || decide (k = 3) || decide (k = 4)
def pkK (k : Int) : Bool := decide (k = 1) || decide (k = 2) || decide (k = 3)
def pdK (k : Int) : Bool := decide (k = 1) || decide (k = 3)
def pvK (k : Int) : Bool := decide (k = 1)
def dueOk (d : Int) : Bool := decide (0 ≤ d) && decide (d ≤ 9007199254740992)
def keyB (u : Bool) (k : Bs) : Bool := u || decide (k = [])
def dueB (u : Bool) (d : Int) : Bool := if u then dueOk d else decide (d = 0)
def valB (u : Bool) (x : Vl) : Bool := if u then decide (chk x = 0) else sm x zV
def mayE (f : Ef) : Bool := okK f.kind && (keyB (pkK f.kind) f.key && (dueB (pdK f.kind) f.due && valB (pvK f.kind) f.val))
set_option maxRecDepth 100000 in
theorem parts_call (k : Int) (w : World) : Calls Tryz.prog 49 #[.int .i64 k] w fun e w' => e = .returned (.tuple #[.agg #[.bool (pkK k), .bool (pdK k), .bool (pvK k)], .bool (okK k)]) ∧ Below w.heap.size w w' := by
  by_cases h1 : k = 1
  · subst h1
    go_enter Tryz.func49, Tryz.ntmps49
    go_wp2_with fail
    exact bodyPost_ret (v := .tuple #[.agg #[.bool true, .bool true, .bool true], .bool true]) (by simp [results, Tryz.results49, go_sem]) rfl ⟨rfl, alb _ _⟩
  · by_cases h2 : k = 2
    · subst h2
      go_enter Tryz.func49, Tryz.ntmps49
      go_wp2_with fail
      exact bodyPost_ret (v := .tuple #[.agg #[.bool true, .bool false, .bool false], .bool true]) (by simp [results, Tryz.results49, go_sem]) rfl ⟨rfl, alb _ _⟩
    · by_cases h3 : k = 3
      · subst h3
        go_enter Tryz.func49, Tryz.ntmps49
        go_wp2_with fail
        exact bodyPost_ret (v := .tuple #[.agg #[.bool true, .bool true, .bool false], .bool true]) (by simp [results, Tryz.results49, go_sem]) rfl ⟨rfl, alb _ _⟩
      · by_cases h4 : k = 4
        · subst h4
          go_enter Tryz.func49, Tryz.ntmps49
          go_wp2_with fail
          exact bodyPost_ret (v := .tuple #[.agg #[.bool false, .bool false, .bool false], .bool true]) (by simp [results, Tryz.results49, go_sem]) rfl ⟨rfl, alb _ _⟩
        · have e1 : (k == 1) = false := by simp [h1]
          have e2 : (k == 2) = false := by simp [h2]
          have e3 : (k == 3) = false := by simp [h3]
          have e4 : (k == 4) = false := by simp [h4]
          have p1 : pkK k = false := by simp [pkK, h1, h2, h3]
          have p2 : pdK k = false := by simp [pdK, h1, h3]
          have p3 : pvK k = false := by simp [pvK, h1]
          have p4 : okK k = false := by simp [okK, h1, h2, h3, h4]
          rw [p1, p2, p3, p4]
          go_enter Tryz.func49, Tryz.ntmps49
          go_wp2_with fail
          exact bodyPost_ret (v := .tuple #[.agg #[.bool false, .bool false, .bool false], .bool false]) (by simp [results, Tryz.results49, go_sem]) rfl ⟨rfl, alb _ _⟩
theorem empty_list (k : Bs) : (mk k).toList.isEmpty = decide (k = []) := by
  rw [mk_list]
  cases k <;> simp
theorem beq_list (k : Bs) : ((mk k).toList == []) = decide (k = []) := by
  rw [mk_list]
  cases k <;> simp
set_option maxRecDepth 100000 in
theorem key_call (k : Bs) (u : Bool) (w : World) : Calls Tryz.prog 52 #[.string (mk k), .bool u] w fun e w' => e = .returned (.bool (keyB u k)) ∧ w' = w := by
  unfold keyB
  have e0 := empty_list k
  have e1 := beq_list k
  generalize decide (k = []) = q at *
  generalize mk k = K at *
  cases u
  · go_enter Tryz.func52, Tryz.ntmps52
    go_wp2_with fail
    go_ret
    exact ⟨by first | rfl | simp [e0, e1], rfl⟩
  · go_enter Tryz.func52, Tryz.ntmps52
    go_wp2_with fail
    go_ret
    exact ⟨by simp, rfl⟩
set_option maxRecDepth 100000 in
theorem due_call (d : Int) (u : Bool) (w : World) : Calls Tryz.prog 53 #[.int .i64 d, .bool u] w fun e w' => e = .returned (.bool (dueB u d)) ∧ w' = w := by
  unfold dueB dueOk
  cases u
  · go_enter Tryz.func53, Tryz.ntmps53
    go_wp2_with fail
    go_ret
    exact ⟨by first | rfl | (by_cases h : d = 0 <;> simp [h]), rfl⟩
  · by_cases h0 : 0 ≤ d
    · rw [decide_eq_true h0]
      go_enter Tryz.func53, Tryz.ntmps53
      go_wp2_with fail
      go_ret
      exact ⟨by simp, rfl⟩
    · rw [decide_eq_false h0]
      go_enter Tryz.func53, Tryz.ntmps53
      go_wp2_with fail
      go_ret
      exact ⟨by simp, rfl⟩
theorem va_zero (w : World) : VA w (.agg #[.int .i64 0, .string ⟨#[]⟩, .slice none 0 0, .slice none 0 0, .slice none 0 0]) zV := (Dec.vz 0 w).va
theorem fit_zero : Fit zV := ⟨by simp [zV], by simp [zV], by simp [zV]⟩
set_option maxRecDepth 100000 in
theorem val_call {w : World} {a1 a2 a3 : Option Addr} {n1 c1 n2 c2 n3 c3 : Nat} {T : ByteArray} {kd : Int} {x : Vl} (h : VA w (.agg #[.int .i64 kd, .string T, .slice a1 n1 c1, .slice a2 n2 c2, .slice a3 n3 c3]) x) (hw : Wel x) (u : Bool) :
    Calls Tryz.prog 54 #[.agg #[.int .i64 kd, .string T, .slice a1 n1 c1, .slice a2 n2 c2, .slice a3 n3 c3], .bool u] w fun e w' => e = .returned (.bool (valB u x)) ∧ Below w.heap.size w w' := by
  obtain ⟨W, hW⟩ : ∃ W, W = w.alloc (vO kd T (.slice a1 n1 c1) (.slice a2 n2 c2) (.slice a3 n3 c3)) := ⟨_, rfl⟩
  have HB := hid_of (show Below w.heap.size w W by rw [hW]; exact alb _ _)
  have HC := hid_of (Check.check_call (h.below HB.out) hw)
  have HS := hid_of (Same.same_call (h.below HB.out) (va_zero W) hw.toFit fit_zero)
  have HW := hid_of hW
  clear hW h
  unfold valB
  generalize sm x zV = r at *
  cases u
  · go_enter Tryz.func54, Tryz.ntmps54
    go_wp2_with fail
    rw [← HW.out]
    refine HS.out.mono ?_
    rintro e w1 ⟨rfl, hb⟩
    have HB1 := hid_of hb
    clear hb
    go_wp2_with fail
    go_ret
    exact ⟨rfl, HB.out.trans (HB1.out.mono HB.out.size)⟩
  · generalize chk x = q at *
    go_enter Tryz.func54, Tryz.ntmps54
    go_wp2_with fail
    rw [← HW.out]
    refine HC.out.mono ?_
    rintro e w1 ⟨rfl, hb⟩
    have HB1 := hid_of hb
    clear hb
    go_wp2_with fail
    go_ret
    exact ⟨by first | rfl | (by_cases h : q = 0 <;> simp [h]), HB.out.trans (HB1.out.mono HB.out.size)⟩
end Go.Proofs.YtpnigkjmofhmbabGreat.EMay
end
section
namespace Go.Proofs.YtpnigkjmofhmbabGreat.EAll
open Go.RowKit Go.Maps
open Go.Proofs.YtpnigkjmofhmbabGreat.ValueMath (Vl chk small sm)
open Go.Proofs.YtpnigkjmofhmbabGreat.Base (mk mk_list mk_size Gr hid_of SL)
open Go.Proofs.YtpnigkjmofhmbabGreat.Turn
open Go.Proofs.YtpnigkjmofhmbabGreat.Vals
open Go.Proofs.YtpnigkjmofhmbabGreat.Check0 (Wel)
open Go.Proofs.YtpnigkjmofhmbabGreat.SBase
open Go.Proofs.YtpnigkjmofhmbabGreat.SFind (alb)
open Go.Proofs.YtpnigkjmofhmbabGreat.SSet (box8)
open Go.Proofs.YtpnigkjmofhmbabGreat.SPut (vO va_shape)
open Go.Proofs.YtpnigkjmofhmbabGreat.EMay
set_option linter.unusedVariables false
set_option linter.unusedSimpArgs false
abbrev fO (kd k2 d : Int) (K T : ByteArray) (A B C : Value) : Obj := .cells #[.int .i64 kd, .string K, .int .i64 k2, .string T, A, B, C, .int .i64 d] 40
abbrev pO (a b c : Bool) : Obj := .cells #[.bool a, .bool b, .bool c] 105
theorem may_fold (f : Ef) : mayE f = (okK f.kind && (keyB (pkK f.kind) f.key && (dueB (pdK f.kind) f.due && valB (pvK f.kind) f.val))) := rfl
set_option maxHeartbeats 1000000 in
set_option maxRecDepth 100000 in
theorem may_call {w : World} {a1 a2 a3 : Option Addr} {n1 c1 n2 c2 n3 c3 : Nat} {T : ByteArray} {k2 : Int} {f : Ef} (h : VA w (.agg #[.int .i64 k2, .string T, .slice a1 n1 c1, .slice a2 n2 c2, .slice a3 n3 c3]) f.val) (hw : Wel f.val) :
    Calls Tryz.prog 25 #[.agg #[.int .i64 f.kind, .string (mk f.key), .int .i64 k2, .string T, .slice a1 n1 c1, .slice a2 n2 c2, .slice a3 n3 c3, .int .i64 f.due]] w fun e w' => e = .returned (.bool (mayE f)) ∧ Below w.heap.size w w' := by
  obtain ⟨W, hW⟩ : ∃ W, W = w.alloc (fO f.kind k2 f.due (mk f.key) T (.slice a1 n1 c1) (.slice a2 n2 c2) (.slice a3 n3 c3)) := ⟨_, rfl⟩
  have x0 : W.heap[w.heap.size]? = some (fO f.kind k2 f.due (mk f.key) T (.slice a1 n1 c1) (.slice a2 n2 c2) (.slice a3 n3 c3)) := by rw [hW]; exact heap_alloc_new w _
  have HB := hid_of (show Below w.heap.size w W by rw [hW]; exact alb _ _)
  have HP := hid_of (parts_call f.kind W)
  have HK := hid_of (key_call f.key (pkK f.kind))
  have HD := hid_of (due_call f.due (pdK f.kind))
  have HV := hid_of (fun (V : World) (hV : Below w.heap.size w V) => val_call (h.below hV) hw (pvK f.kind))
  have HX := hid_of x0
  have HW := hid_of hW
  clear hW h x0 hw
  rw [may_fold]
  generalize okK f.kind = po at *
  generalize pkK f.kind = pk at *
  generalize pdK f.kind = pd at *
  generalize pvK f.kind = pv at *
  generalize keyB pk f.key = r1 at *
  generalize dueB pd f.due = r2 at *
  generalize valB pv f.val = r3 at *
  generalize f.kind = kd at *
  generalize mk f.key = K at *
  generalize f.due = d at *
  go_enter Tryz.func25, Tryz.ntmps25
  go_wp2_with fail
  rw [← HW.out]
  refine HP.out.mono ?_
  rintro e w1 ⟨rfl, hb1⟩
  obtain ⟨V, hV⟩ : ∃ V, V = w1.alloc (pO pk pd pv) := ⟨_, rfl⟩
  have HB1 := hid_of (show Below W.heap.size W V by rw [hV]; exact hb1.trans ((alb w1 _).mono hb1.size))
  have xV : V.heap[w.heap.size]? = _ := (HB1.out.block _ (lt_of HX.out)).trans HX.out
  have pV : V.heap[w1.heap.size]? = some (pO pk pd pv) := by rw [hV]; exact heap_alloc_new w1 _
  have HBV := hid_of (HB.out.trans (HB1.out.mono HB.out.size))
  have HVV := hid_of hV
  have x1 := (hb1.block _ (lt_of HX.out)).trans HX.out
  obtain ⟨⟨y0, y1, y2, y3, y4, y5, y6, y7⟩, -⟩ := box8 x1
  have hlt1 : w.heap.size < w1.heap.size := lt_of x1
  have HXV := hid_of (And.intro xV pV)
  clear hb1 HP xV pV hV x1
  cases po
  · go_wp2_with fail
    rw [← HVV.out]
    go_ret
    exact ⟨by simp, HBV.out⟩
  · go_wp2_with fail
    rw [← HVV.out]
    refine (HK.out V).mono ?_
    rintro e w2 ⟨rfl, rfl⟩
    clear y0 y1 y2 y3 y4 y5 y6 y7 hlt1
    obtain ⟨⟨y0, y1, y2, y3, y4, y5, y6, y7⟩, -⟩ := box8 HXV.out.1
    obtain ⟨⟨p0, p1, p2⟩, -⟩ := box3 HXV.out.2
    cases r1
    · go_wp2_with fail
      go_ret
      exact ⟨by simp, HBV.out⟩
    · go_wp2_with fail
      refine (HD.out w2).mono ?_
      rintro e w3 ⟨rfl, rfl⟩
      cases r2
      · go_wp2_with fail
        go_ret
        exact ⟨by simp, HBV.out⟩
      · go_wp2_with fail
        refine (HV.out w3 HBV.out).mono ?_
        rintro e w4 ⟨rfl, hb4⟩
        have HB4 := hid_of (HBV.out.trans (hb4.mono HBV.out.size))
        clear hb4
        go_wp2_with fail
        go_ret
        exact ⟨by simp, HB4.out⟩
/- effects that are read -/
def FAt (w : World) (g o : Nat) (f : Ef) : Prop := ∃ a1 n1 c1 a2 n2 c2 a3 n3 c3 k2 T, w.cell? ⟨g, o, none⟩ = some (.int .i64 f.kind) ∧ w.cell? ⟨g, o + 1, none⟩ = some (.string (mk f.key)) ∧ w.cell? ⟨g, o + 2, none⟩ = some (.int .i64 k2) ∧ w.cell? ⟨g, o + 3, none⟩ = some (.string T) ∧ w.cell? ⟨g, o + 4, none⟩ = some (.slice a1 n1 c1) ∧ w.cell? ⟨g, o + 5, none⟩ = some (.slice a2 n2 c2) ∧ w.cell? ⟨g, o + 6, none⟩ = some (.slice a3 n3 c3) ∧ w.cell? ⟨g, o + 7, none⟩ = some (.int .i64 f.due) ∧ VA w (.agg #[.int .i64 k2, .string T, .slice a1 n1 c1, .slice a2 n2 c2, .slice a3 n3 c3]) f.val
def FSl (w : World) (v : Value) (l : List Ef) : Prop := ∃ a c, v = .slice a l.length c ∧ l.length ≤ c ∧ (l = [] ∨ ∃ g o, a = some ⟨g, o, none⟩ ∧ ∀ k (h : k < l.length), FAt w g (o + k * 8) (l[k]'h))
theorem FAt.below {w w' : World} {g o : Nat} {f : Ef} (h : FAt w g o f) (hb : Below w.heap.size w w') : FAt w' g o f := by
  obtain ⟨a1, n1, c1, a2, n2, c2, a3, n3, c3, k2, T, h0, h1, h2, h3, h4, h5, h6, h7, hv⟩ := h
  exact ⟨a1, n1, c1, a2, n2, c2, a3, n3, c3, k2, T, FRow.cell_on hb h0, FRow.cell_on hb h1, FRow.cell_on hb h2, FRow.cell_on hb h3, FRow.cell_on hb h4, FRow.cell_on hb h5, FRow.cell_on hb h6, FRow.cell_on hb h7, hv.below hb⟩
theorem FSl.below {w w' : World} {v : Value} {l : List Ef} (h : FSl w v l) (hb : Below w.heap.size w w') : FSl w' v l := by
  obtain ⟨a, c, rfl, hc, h⟩ := h
  refine ⟨a, c, rfl, hc, h.imp id ?_⟩
  rintro ⟨g, o, e, hq⟩
  exact ⟨g, o, e, fun k hk => (hq k hk).below hb⟩
def allE (l : List Ef) : Bool := l.all mayE
set_option maxHeartbeats 1000000 in
set_option maxRecDepth 100000 in
theorem all_call {w : World} {v : Value} {l : List Ef} (h : FSl w v l) (hw : ∀ f ∈ l, Wel f.val) (hl : l.length < 1099511627776) :
    Calls Tryz.prog 30 #[v] w fun e w' => e = .returned (.bool (allE l)) ∧ Below w.heap.size w w' := by
  obtain ⟨a, c, rfl, hc, h⟩ := h
  have HR := hid_of h
  have HWl := hid_of hw
  clear h hw
  go_enter Tryz.func30, Tryz.ntmps30
  go_wp2_with fail
  go_loopg [7] l.length (fun g si wx => ∃ k : Nat, k ≤ l.length ∧ l.length ≤ k + g ∧ si = .int .i64 (k : Int) ∧ Hid (Below w.heap.size w wx) ∧ Hid (allE (l.take k) = true))
  case atStart => exact ⟨0, by omega, by omega, rfl, hid_of (Below.refl _ _), hid_of (by simp [allE])⟩
  case round =>
    obtain ⟨k, hk, hg, rfl, HN, HA⟩ := hrel
    by_cases hlt : k < l.length
    · obtain ⟨g', rfl⟩ : ∃ g', gk = g' + 1 := ⟨gk - 1, by omega⟩
      obtain ⟨gb, o, rfl, hcs⟩ : ∃ g o, a = some ⟨g, o, none⟩ ∧ ∀ k (h : k < l.length), FAt w g (o + k * 8) (l[k]'h) := by
        rcases HR.out with h | h
        · rw [h] at hlt; simp at hlt
        · exact h
      obtain ⟨a1, n1, c1, a2, n2, c2, a3, n3, c3, k2, T, h0, h1, h2, h3, h4, h5, h6, h7, hv⟩ := (hcs k hlt).below HN.out
      have e2 : IntKind.i64.wrap ((k : Int) + 1) = (k : Int) + 1 := IntWalk.i64_in _ (by omega)
      have g2 : (k : Int) < (l.length : Int) := by omega
      obtain ⟨W, hW⟩ : ∃ W, W = wr.alloc (fO (l[k]'hlt).kind k2 (l[k]'hlt).due (mk (l[k]'hlt).key) T (.slice a1 n1 c1) (.slice a2 n2 c2) (.slice a3 n3 c3)) := ⟨_, rfl⟩
      have HBW := hid_of (show Below wr.heap.size wr W by rw [hW]; exact alb _ _)
      have HM := hid_of (may_call (hv.below HBW.out) (HWl.out _ (List.getElem_mem hlt)))
      have HT := hid_of (show allE (l.take (k + 1)) = mayE (l[k]'hlt) by
        have := HA.out
        unfold allE at *
        rw [List.take_succ_eq_append_getElem hlt, List.all_append, this]
        simp)
      have HF : Hid (mayE (l[k]'hlt) = false → allE l = false) := hid_of fun q => by
        unfold allE
        rw [List.all_eq_false]
        exact ⟨_, List.getElem_mem hlt, by rw [q]; simp⟩
      have HW := hid_of hW
      generalize mayE (l[k]'hlt) = r at *
      generalize (l[k]'hlt).kind = kd at *
      generalize (l[k]'hlt).due = d at *
      generalize mk (l[k]'hlt).key = K at *
      clear hcs hv hW
      go_wp2_with fail
      rw [← HW.out]
      refine HM.out.mono ?_
      rintro e w2 ⟨rfl, hb2⟩
      have HN2 := hid_of (show Below w.heap.size w w2 from (HN.out.trans (HBW.out.mono HN.out.size)).trans (hb2.mono (Nat.le_trans HN.out.size HBW.out.size)))
      clear hb2 h0 h1 h2 h3 h4 h5 h6 h7 HM
      cases r
      · go_wp2_with fail
        go_ret
        exact ⟨by rw [HF.out (by first | rfl | trivial)]; rfl, HN2.out⟩
      · go_wp2_with fail
        go_roundg g'
        case measure => omega
        case rel => exact ⟨k + 1, by omega, by omega, by rw [show ((k + 1 : Nat) : Int) = (k : Int) + 1 from by omega], HN2, HT⟩
    · obtain rfl : k = l.length := by omega
      have gi : ¬ (l.length : Int) < (l.length : Int) := by omega
      have HT := hid_of (show allE l = true by have := HA.out; rw [List.take_length] at this; exact this)
      go_wp2_with fail
      go_ret
      exact ⟨by rw [HT.out]; rfl, HN.out⟩
end Go.Proofs.YtpnigkjmofhmbabGreat.EAll
end
section
set_option linter.unusedVariables false
namespace Go.Proofs.YtpnigkjmofhmbabGreat.Builder
open Go.RowKit Go.Shelf

/- below B all stands, and above it all but the builder's own block and rows of bytes -/
def Kp (B b : Nat) (w w' : World) : Prop := Below B w w' ∧ Lib.OthersKept 5 (some b) w w'
theorem Kp.refl (B b : Nat) (w : World) : Kp B b w w := ⟨Below.refl B w, Lib.OthersKept.refl _ _ w⟩
theorem Kp.trans {B b : Nat} {x y z : World} (h : Kp B b x y) (k : Kp B b y z) : Kp B b x z := ⟨h.1.trans k.1, h.2.trans k.2⟩
theorem Kp.alloc {B b : Nat} {x y : World} (h : Kp B b x y) (hB : B ≤ x.heap.size) (o : Obj) : Kp B b x (y.alloc o) := ⟨h.1.alloc (Nat.le_trans hB h.1.size) o, h.2.alloc o⟩
theorem Kp.size {B b : Nat} {x y : World} (h : Kp B b x y) : x.heap.size ≤ y.heap.size := h.1.size
theorem owns_kind {w : World} {B : Nat} {e : TypeId} {v : Value} {n z : Nat} {xs : List Value} (h : w.ownsRow B e z v n xs) : ∀ g, v.ownBlock = some g → ∃ c fz, w.heap[g]? = some (.cells c e fz) := by
  intro g hg
  rcases h.2 with ⟨rfl, _⟩ | ⟨g', cap, cur, rfl, _, hgg, _⟩
  · simp [Value.ownBlock] at hg
  · simp [Value.ownBlock] at hg
    subst hg
    exact ⟨cur, _, hgg⟩

theorem size59 : (Tryz.prog.info? 70).map (·.size) = some 2 := by kernel_rfl
theorem lies59 : liesAt Tryz.prog Tryz.prog.depth 70 (2 / Tryz.prog.cellsOf 70) 0 70 1 = true := by kernel_rfl
theorem info5 : (Tryz.prog.info? 5).map (fun i => (i.zero, i.size, i.bytes)) = some (some (.int .u8 0), 1, 1) := by kernel_rfl

set_option maxHeartbeats 1000000 in
set_option maxRecDepth 100000 in
theorem check_used (b : Nat) (w : World) (h0 : w.cell? ⟨b, 0, none⟩ = some (.pointer (some ⟨b, 0, none⟩))) :
    Calls Tryz.prog 77 #[.pointer (some ⟨b, 0, none⟩)] w fun e w' => e = .returned (.tuple #[]) ∧ w' = w := by
  obtain ⟨j, hj, _⟩ := Option.map_eq_some_iff.1 size59
  go_enter Tryz.func77, Tryz.ntmps77
  go_wp2
  rw [Lib.run_neq_ptr_same w _ Tryz.underlying67 hj]
  go_wp2
  go_end0
  exact ⟨rfl, rfl⟩
set_option maxHeartbeats 1000000 in
set_option maxRecDepth 100000 in
theorem check_fresh (b : Nat) (w : World) (h0 : w.cell? ⟨b, 0, none⟩ = some (.pointer none)) (hsh : w.shape? b = some (70, 2)) (hfz : w.frozen? ⟨b, 0, none⟩ = false) :
    Calls Tryz.prog 77 #[.pointer (some ⟨b, 0, none⟩)] w fun e w' => e = .returned (.tuple #[]) ∧ w' = w.setCell ⟨b, 0, none⟩ (.pointer (some ⟨b, 0, none⟩)) := by
  obtain ⟨j, hj, hjs⟩ := Option.map_eq_some_iff.1 size59
  go_enter Tryz.func77, Tryz.ntmps77
  go_wp2
  rw [Lib.run_to_unsafe w ⟨b, 0, none⟩ Tryz.underlying67 Tryz.underlying170 hj (by rw [hjs]; decide) hsh (Nat.zero_lt_succ 1)]
  simp only [Result.andThen]
  rw [Oper.upon_value]
  go_wp2
  rw [run_callFunc_extern Tryz.func98 (by kernel_rfl) (by kernel_rfl) (by kernel_rfl) (e := Extern.AbiNoEscape.same) (by kernel_rfl)]
  rw [Lib.run_noEscape]
  simp only [Result.andThen]
  rw [Oper.upon_value]
  go_wp2
  rw [Lib.run_from_unsafe w ⟨b, 0, none⟩ Tryz.underlying170 Tryz.underlying67 hj hsh lies59]
  simp only [Result.andThen]
  rw [Oper.upon_value]
  go_wp2
  go_end0
  exact ⟨rfl, rfl⟩
theorem check_any (B b : Nat) (bs : List Value) (w : World) (h : Lib.IsBuilder 70 5 B b bs w) :
    Calls Tryz.prog 77 #[.pointer (some ⟨b, 0, none⟩)] w fun e w' => e = .returned (.tuple #[]) ∧ (Lib.BuilderAt 70 5 B b (.pointer (some ⟨b, 0, none⟩)) bs w' ∧ Kp B b w w') := by
  rcases h with h | h
  · refine (check_fresh b w h.cell0 h.shape h.frozen0).mono ?_
    rintro e w' ⟨rfl, rfl⟩
    exact ⟨rfl, h.used _, (Below.refl B w).setCell (p := ⟨b, 0, none⟩) h.1 _, (Lib.OthersKept.refl _ _ w).setCell ⟨b, 0, none⟩ rfl _⟩
  · refine (check_used b w h.cell0).mono ?_
    rintro e w' ⟨rfl, rfl⟩
    exact ⟨rfl, h, Kp.refl B b _⟩
set_option maxHeartbeats 2000000 in
set_option maxRecDepth 100000 in
theorem put_byte (B b : Nat) (bs : List Value) (c : Int) (w : World) (h : Lib.IsBuilder 70 5 B b bs w) (hlen : bs.length + 1 ≤ 140737488355328) (hBw : B ≤ w.heap.size) :
    Calls Tryz.prog 60 #[.pointer (some ⟨b, 0, none⟩), .int .u8 c] w fun e w' => e = .returned .nilIface ∧ (Lib.BuilderAt 70 5 B b (.pointer (some ⟨b, 0, none⟩)) (bs ++ [.int .u8 c]) w' ∧ Kp B b w w') := by
  obtain ⟨i0, hi, hz0, hz1, hz2⟩ := info_parts info5
  go_enter Tryz.func60, Tryz.ntmps60
  go_wp2_with (go_at_call 77; refine (check_any B b bs _ h).mono ?_)
  rintro e w1 ⟨rfl, h1, hb1⟩
  obtain ⟨hB, v, hbk, hown, hne⟩ := h1
  have c0 : w1.cell? ⟨b, 0, none⟩ = some (.pointer (some ⟨b, 0, none⟩)) := by rw [Lib.cell_of_heap hbk]; rfl
  have c1 : w1.cell? ⟨b, 1, none⟩ = some v := by rw [Lib.cell_of_heap hbk]; rfl
  go_wp2_with (at_builtin; refine wpList_append_own _ rfl _ _ 68 rfl B 5 i0 (.int .u8 0) 1 1 Tryz.underlying68 hi hz0 hz1 hz2 rfl (by decide) _ _ _ rfl (hown.alloc _) ⟨w1.heap.size, 0, none⟩ 1 1 [.int .u8 c] rfl rfl ?c1 ?c2 ?c3 ?c4 ?c5 ?_)
  case c1 =>
    intro j u hj
    match j, hj with
    | 0, hj => simp at hj; subst hj; simp [Addr.add]
  case c2 => intro u hu; simp at hu; subst hu; rfl
  case c3 => unfold maxLen; omega
  case c4 => omega
  case c5 => have := hb1.size; simp; omega
  intro v' w2 hown' hgrow _
  have hlt : b < w1.heap.size := by
    rcases Nat.lt_or_ge b w1.heap.size with h' | h'
    · exact h'
    · simp [Array.getElem?_eq_none h'] at hbk
  have hb2 : w2.heap[b]? = some (.cells #[.pointer (some ⟨b, 0, none⟩), v] 70 (0, 0)) := by
    rw [hgrow.block b (by simp; omega) (fun e => hne e.symm), Lib.alloc_old w1 _ b hlt]
    exact hbk
  have d0 : w2.cell? ⟨b, 0, none⟩ = some (.pointer (some ⟨b, 0, none⟩)) := by rw [Lib.cell_of_heap hb2]; rfl
  have d1 : w2.cell? ⟨b, 1, none⟩ = some v := by rw [Lib.cell_of_heap hb2]; rfl
  have f1 : w2.frozen? ⟨b, 1, none⟩ = false := Lib.frozen_of_heap hb2 1
  obtain ⟨g, cap, rfl⟩ : ∃ g cap, v' = .slice (some ⟨g, 0, none⟩) (bs.length + 1) cap := by
    rcases hown'.2 with ⟨_, h0⟩ | ⟨g, cap, cur, hv, _⟩
    · omega
    · exact ⟨g, cap, hv⟩
  go_wp2
  go_ret
  refine ⟨rfl, ?_, ?_⟩
  · exact Lib.BuilderAt.put (T := 70) (e := 5) hB hb2 (bs' := bs ++ [.int .u8 c]) (by simpa using hown') (by decide)
  · refine ⟨((hb1.1.alloc (by have := hb1.size; omega) _).grown hgrow (by have := hb1.size; simp; omega) (fun k hk => (hown.lt k hk).1)).setCell (p := ⟨b, 1, none⟩) hB _, ?_⟩
    exact ((hb1.2.alloc _).grown hgrow (owns_kind (hown.alloc _))).setCell ⟨b, 1, none⟩ rfl _
set_option maxHeartbeats 2000000 in
set_option maxRecDepth 100000 in
theorem put_string (B b : Nat) (bs : List Value) (s : ByteArray) (w : World) (h : Lib.IsBuilder 70 5 B b bs w) (hlen : bs.length + s.size ≤ 140737488355328) (hBw : B ≤ w.heap.size) :
    Calls Tryz.prog 46 #[.pointer (some ⟨b, 0, none⟩), .string s] w fun e w' => e = .returned (.tuple #[.int .i64 s.size, .nilIface]) ∧ (Lib.BuilderAt 70 5 B b (.pointer (some ⟨b, 0, none⟩)) (bs ++ Lib.strCells s) w' ∧ Kp B b w w') := by
  obtain ⟨i0, hi, hz0, hz1, hz2⟩ := info_parts info5
  go_enter Tryz.func46, Tryz.ntmps46
  go_wp2_with (go_at_call 77; refine (check_any B b bs _ h).mono ?_)
  rintro e w1 ⟨rfl, h1, hb1⟩
  obtain ⟨hB, v, hbk, hown, hne⟩ := h1
  have c0 : w1.cell? ⟨b, 0, none⟩ = some (.pointer (some ⟨b, 0, none⟩)) := by rw [Lib.cell_of_heap hbk]; rfl
  have c1 : w1.cell? ⟨b, 1, none⟩ = some v := by rw [Lib.cell_of_heap hbk]; rfl
  go_wp2_with (at_builtin; refine Lib.wpList_append_own_string _ rfl _ _ 68 9 rfl B 5 i0 Tryz.underlying68 Tryz.underlying9 hi hz0 hz1 hz2 _ _ _ rfl hown s rfl ?c3 ?c4 ?c5 ?_)
  case c3 => unfold maxLen; omega
  case c4 => omega
  case c5 => have := hb1.size; omega
  intro v' w2 hown' hgrow _
  have hlt : b < w1.heap.size := by
    rcases Nat.lt_or_ge b w1.heap.size with h' | h'
    · exact h'
    · simp [Array.getElem?_eq_none h'] at hbk
  have hb2 : w2.heap[b]? = some (.cells #[.pointer (some ⟨b, 0, none⟩), v] 70 (0, 0)) := by
    rw [hgrow.block b hlt (fun e => hne e.symm)]
    exact hbk
  have d0 : w2.cell? ⟨b, 0, none⟩ = some (.pointer (some ⟨b, 0, none⟩)) := by rw [Lib.cell_of_heap hb2]; rfl
  have d1 : w2.cell? ⟨b, 1, none⟩ = some v := by rw [Lib.cell_of_heap hb2]; rfl
  have f1 : w2.frozen? ⟨b, 1, none⟩ = false := Lib.frozen_of_heap hb2 1
  obtain ⟨ao, n', cap, rfl⟩ : ∃ ao n' cap, v' = .slice ao n' cap := by
    rcases hown'.2 with ⟨hv, _⟩ | ⟨g, cap, cur, hv, _⟩
    · exact ⟨_, _, _, hv⟩
    · exact ⟨_, _, _, hv⟩
  go_wp2
  go_ret2
  refine ⟨rfl, ?_, ?_⟩
  · exact Lib.BuilderAt.put (T := 70) (e := 5) hB hb2 (bs' := bs ++ Lib.strCells s) (by simpa [Lib.strCells_length] using hown') (by decide)
  · refine ⟨(hb1.1.grown hgrow (by have := hb1.size; omega) (fun k hk => (hown.lt k hk).1)).setCell (p := ⟨b, 1, none⟩) hB _, ?_⟩
    exact (hb1.2.grown hgrow (owns_kind hown)).setCell ⟨b, 1, none⟩ rfl _
end Go.Proofs.YtpnigkjmofhmbabGreat.Builder
end
section
namespace Go.Proofs.YtpnigkjmofhmbabGreat.Fix
open Go.RowKit
open Go.Proofs.YtpnigkjmofhmbabGreat.FixMath
set_option linter.unusedVariables false

theorem hid_of {p : Prop} (h : p) : Hid p := h
theorem ret_si {a b : ByteArray} {c d : Int} (h1 : a = b) (h2 : c = d) : Ending.returned (.tuple #[.string a, .int .i64 c]) = .returned (.tuple #[.string b, .int .i64 d]) := by rw [h1, h2]
theorem info5 : (Tryz.prog.info? 5).map (fun i => (i.zero, i.size, i.bytes)) = some (some (.int .u8 0), 1, 1) := by kernel_rfl
theorem made_row (u : Int) (n : Nat) : (madeCells #[Value.int .u8 0] n).toList = rowK u n 0 := by
  rw [rowK_zero]; exact toList_madeCells_one _ n
theorem bytes_of_row {w : World} {B base : Nat} {u : Int} {n cap : Nat} (h : w.ownsRow base 5 1 (.slice (some ⟨B, 0, none⟩) n cap) n (rowC u n)) : Lib.Bytes w B 0 ⟨(leY u n).toArray⟩ := by
  intro i hi
  have hi' : i < n := by rw [size_of, leY_len] at hi; exact hi
  rw [Nat.zero_add, h.cellAt i (by omega), rowC_get u n i hi']
  have : (⟨(leY u n).toArray⟩ : ByteArray)[i] = (leY u n)[i]'(by rw [leY_len]; exact hi') := rfl
  rw [this, leY_toNat]
theorem conv_row {w : World} {B base : Nat} {u : Int} {n cap : Nat} (h : w.ownsRow base 5 1 (.slice (some ⟨B, 0, none⟩) n cap) n (rowC u n)) :
    (convert 68 9 (.slice (some ⟨B, 0, none⟩) n cap)).run Tryz.prog w = .ok (.string ⟨(leY u n).toArray⟩) w := by
  have := Lib.run_convert_whole (P := Tryz.prog) w 68 5 9 Tryz.underlying68 Tryz.underlying5 Tryz.underlying9 B 0 _ (bytes_of_row h) cap
  rwa [size_of, leY_len] at this
theorem step_row {w wr : World} {u : Int} {n k : Nat} (hown : wr.ownsRow w.heap.size 5 1 (.slice (some ⟨w.heap.size, 0, none⟩) n n) n (rowK u n k)) (hnx : Below w.heap.size w wr) :
    (wr.setCell ⟨w.heap.size, k, none⟩ (.int .u8 (u / 2 ^ (8 * k) % 256))).ownsRow w.heap.size 5 1 (.slice (some ⟨w.heap.size, 0, none⟩) n n) n (rowK u n (k + 1)) ∧
      Below w.heap.size w (wr.setCell ⟨w.heap.size, k, none⟩ (.int .u8 (u / 2 ^ (8 * k) % 256))) := by
  have h := hown.stored k (.int .u8 (bt u k))
  rw [rowK_succ] at h
  exact ⟨h.1, hnx.setCell (Nat.le_refl _) _⟩

set_option maxHeartbeats 1000000 in
set_option maxRecDepth 100000 in
theorem fix_ok (u : Int) (n : Nat) (w : World) (hu0 : 0 ≤ u) (hu : u ≤ 18446744073709551615) (h1 : 1 ≤ n) (h8 : n ≤ 8) (hf : (u / 2 ^ (8 * n) != 0) = false) :
    Calls Tryz.prog 76 #[.int .u64 u, .int .i64 n] w fun e w' => e = .returned (.tuple #[.string ⟨(leY u n).toArray⟩, .int .i64 0]) ∧ Below w.heap.size w w' := by
  obtain ⟨i0, hi, hz0, hz1, hz2⟩ := info_parts info5
  go_enter Tryz.func76, Tryz.ntmps76
  go_wp2_with (at_make; refine wpList_make_full _ rfl _ _ 68 rfl w.heap.size 5 i0 (.int .u8 0) 1 Tryz.underlying68 hi hz0 hz1 _ _ _ _ n rfl rfl rfl rfl ?b2 ?b3 (Nat.le_refl _) ?_)
  case b2 => rw [hz2]; omega
  case b3 => unfold maxLen; omega
  intro w0 hown0 hgrow0
  rw [made_row u n] at hown0
  go_wp2
  go_loopw [24] (fun i wr => ∃ k : Nat, k ≤ n ∧ i = .int .i64 k ∧ wr.ownsRow w.heap.size 5 1 (.slice (some ⟨w.heap.size, 0, none⟩) n n) n (rowK u n k) ∧ Below w.heap.size w wr) (fun i _ => n - (intOf i).toNat)
  case atStart => exact ⟨0, Nat.zero_le _, rfl, hown0, (Below.refl _ _).grown hgrow0 (Nat.le_refl _) (fun k h => by cases h)⟩
  case round =>
    obtain ⟨k, hk, rfl, hown, hnx⟩ := hrel
    by_cases hlt : k < n
    · have hc := (hown.cellAt k (by omega)).trans (rowK_get u n k k hlt)
      have hz := hown.frozenAt k
      go_wp2
      exact ⟨⟨k + 1, hlt, by go_num, step_row hown hnx⟩, by simp [intOf]; omega⟩
    · have hkn : k = n := by omega
      subst hkn
      rw [rowK_end] at hown
      have hconv := conv_row hown
      go_wp2
      go_ret2
      exact ⟨rfl, hnx⟩

set_option maxHeartbeats 1000000 in
set_option maxRecDepth 100000 in
theorem fix_over (u : Int) (n : Nat) (w : World) (hu0 : 0 ≤ u) (hu : u ≤ 18446744073709551615) (h1 : 1 ≤ n) (h8 : n ≤ 8) (hf : (u / 2 ^ (8 * n) != 0) = true) :
    Calls Tryz.prog 76 #[.int .u64 u, .int .i64 n] w fun e w' => e = .returned (.tuple #[.string ByteArray.empty, .int .i64 12]) ∧ Below w.heap.size w w' := by
  go_enter Tryz.func76, Tryz.ntmps76
  go_wp2
  go_ret2
  exact ⟨rfl, Below.refl _ _⟩

set_option maxHeartbeats 1000000 in
set_option maxRecDepth 100000 in
theorem fix_no (u n : Int) (w : World) (h : n < 1 ∨ 8 < n) :
    Calls Tryz.prog 76 #[.int .u64 u, .int .i64 n] w fun e w' => e = .returned (.tuple #[.string ByteArray.empty, .int .i64 12]) ∧ Below w.heap.size w w' := by
  rcases h with h | h
  all_goals
    go_enter Tryz.func76, Tryz.ntmps76
    go_wp2
    go_ret2
    exact ⟨rfl, Below.refl _ _⟩

theorem step_app {w wr w1 : World} {u y : Int} {k : Nat} {v v' : Value} {c : Value} (HY : Hid (y = u / 2 ^ (8 * k))) (hown : wr.ownsRow w.heap.size 5 1 v k (rowC u k)) (hnx : Below w.heap.size w wr)
    (hown' : w1.ownsRow w.heap.size 5 1 v' (k + 1) (rowC u k ++ [Value.int .u8 (y % 256)])) (hgrow : (wr.alloc (.cells #[c] 5)).grownBy w1 v.ownBlock) :
    w1.ownsRow w.heap.size 5 1 v' (k + 1) (rowC u (k + 1)) ∧ Below w.heap.size w w1 := by
  have e : y % 256 = bt u k := by rw [HY.out]; rfl
  rw [e, rowC_succ] at hown'
  have hs := hnx.size
  exact ⟨hown', (hnx.alloc hs _).grown hgrow (by simp; omega) (fun j hj => (hown.lt j hj).1)⟩
theorem own_shape {w : World} {base : Nat} {v : Value} {n : Nat} {xs : List Value} (h : w.ownsRow base 5 1 v n xs) (hn : 1 ≤ n) : ∃ g cap, v = .slice (some ⟨g, 0, none⟩) n cap := by
  rcases h.2 with ⟨_, e⟩ | ⟨g, cap, cur, e, _⟩
  · omega
  · exact ⟨g, cap, e⟩
theorem hid_next {u y : Int} {k : Nat} (HY : Hid (y = u / 2 ^ (8 * k))) : Hid (y / 256 = u / 2 ^ (8 * (k + 1))) := by
  show y / 256 = _
  rw [HY.out, quo_step]
def fixS (u : Int) (n : Nat) : ByteArray := if (u / 2 ^ (8 * n) != 0) = true then ByteArray.empty else ⟨(leY u n).toArray⟩
def fixE (u : Int) (n : Nat) : Int := if (u / 2 ^ (8 * n) != 0) = true then 12 else 0

theorem fix_any (u : Int) (n : Nat) (w : World) (hu0 : 0 ≤ u) (hu : u ≤ 18446744073709551615) (h1 : 1 ≤ n) (h8 : n ≤ 8) :
    Calls Tryz.prog 76 #[.int .u64 u, .int .i64 n] w fun e w' => e = .returned (.tuple #[.string (fixS u n), .int .i64 (fixE u n)]) ∧ Below w.heap.size w w' := by
  unfold fixS fixE
  cases h : (u / 2 ^ (8 * n) != 0)
  · exact fix_ok u n w hu0 hu h1 h8 h
  · exact fix_over u n w hu0 hu h1 h8 h
end Go.Proofs.YtpnigkjmofhmbabGreat.Fix
end
