/- The document's own names: find, without. -/
import Derived.Test.YtilbffbmpgebmaaPlan2
namespace Go.Proofs.Ytilbffbmpgebmaa.RefNames
open Go.RowKit Go.Maps
open Go.Proofs.Ytilbffbmpgebmaa.DiskMath
open Go.Proofs.Ytilbffbmpgebmaa.Base
open Go.Proofs.Ytilbffbmpgebmaa.Small
open Go.Proofs.Ytilbffbmpgebmaa.Append
open Go.Proofs.Ytilbffbmpgebmaa.Plan
set_option linter.unusedVariables false

/- a slice of names, to be read -/
def NmSl (w : World) (v : Value) (l : NL) : Prop := ∃ a c, v = .slice a l.length c ∧ (l = [] ∨ ∃ g o, a = some ⟨g, o, none⟩ ∧ ∀ k (h : k < l.length), w.cell? ⟨g, o + k * 2, none⟩ = some (.string (mk (l[k]'h).1)) ∧ w.cell? ⟨g, o + k * 2 + 1, none⟩ = some (.int .i64 ((l[k]'h).2 : Int)))
theorem nm_below {w w' : World} {v : Value} {l : NL} (h : NmSl w v l) (hb : Below w.heap.size w w') : NmSl w' v l := by
  obtain ⟨a, c, rfl, h⟩ := h
  refine ⟨a, c, rfl, h.imp id ?_⟩
  rintro ⟨g, o, e, hc⟩
  exact ⟨g, o, e, fun k hk => ⟨cell_on hb (hc k hk).1, cell_on hb (hc k hk).2⟩⟩
def nmCells (p : Bs × Nat) : List Value := [.string (mk p.1), .int .i64 (p.2 : Int)]
def findS (l : NL) (k : Bs) : Int := match lkp l k with | some f => (f : Int) | none => -1
theorem mk_eq {a : List UInt8} {s : ByteArray} : ((mk a).toList == s.toList) = (a == bs s) := by
  rw [Lib.toList_data, Lib.toList_data]
  rfl
set_option maxHeartbeats 1000000 in
set_option maxRecDepth 100000 in
theorem rfind_call (v : Value) (l : NL) (s : ByteArray) (w : World) (h : NmSl w v l) (hl : l.length < 1099511627776) : Calls Try.prog 69 #[v, .string s] w fun e w' => e = .returned (.int .i64 (findS l (bs s))) ∧ w' = w := by
  obtain ⟨a, c, rfl, h⟩ := h
  have HF := hid_of h
  clear h
  go_enter Try.func69, Try.ntmps69
  go_wp2_with fail
  go_loopg [5] l.length (fun g si wx => ∃ k : Nat, k ≤ l.length ∧ l.length ≤ k + g ∧ si = .int .i64 k ∧ Hid (lkp l (bs s) = lkp (l.drop k) (bs s)) ∧ wx = w)
  case atStart => exact ⟨0, by omega, by omega, rfl, by rw [List.drop_zero]; exact hid_of rfl, rfl⟩
  case round =>
    obtain ⟨k, hk, hg, rfl, HR, hwx⟩ := hrel
    subst hwx
    by_cases hlt : k < l.length
    · obtain ⟨g', rfl⟩ : ∃ g', gk = g' + 1 := ⟨gk - 1, by omega⟩
      obtain ⟨gb, o, rfl, hc⟩ : ∃ g o, a = some ⟨g, o, none⟩ ∧ ∀ k (h : k < l.length), wr.cell? ⟨g, o + k * 2, none⟩ = some (.string (mk (l[k]'h).1)) ∧ wr.cell? ⟨g, o + k * 2 + 1, none⟩ = some (.int .i64 ((l[k]'h).2 : Int)) := by
        rcases HF.out with h | h
        · subst h; exact absurd hlt (by simp)
        · exact h
      obtain ⟨c0, c1⟩ := hc k hlt
      have hd : l.drop k = l[k] :: l.drop (k + 1) := List.drop_eq_getElem_cons hlt
      have ew : IntKind.i64.wrap ((k : Int) + 1) = (k : Int) + 1 := IntWalk.i64_in _ (by omega)
      have gi : (k : Int) < (l.length : Int) := by omega
      obtain ⟨p, hp⟩ : ∃ p, p = l[k] := ⟨_, rfl⟩
      rw [← hp] at c0 c1 hd
      have hcmp := mk_eq (a := p.1) (s := s)
      have hlk : lkp (l.drop k) (bs s) = if (p.1 == bs s) = true then some p.2 else lkp (l.drop (k + 1)) (bs s) := by
        rw [hd]
        unfold lkp
        rw [List.find?_cons]
        cases hq : (p.1 == bs s) <;> simp
      cases hq : (p.1 == bs s) with
      | true =>
        rw [hq] at hcmp hlk
        have HE : Hid (findS l (bs s) = (p.2 : Int)) := by
          show _ = _
          unfold findS
          rw [HR.out, hlk]
          rfl
        generalize mk p.1 = X at c0 hcmp
        clear hc hd hp hlk hq
        go_wp2_with fail
        go_ret
        rw [HE.out]
        exact ⟨rfl, rfl⟩
      | false =>
        rw [hq] at hcmp hlk
        have HN : Hid (lkp l (bs s) = lkp (l.drop (k + 1)) (bs s)) := by
          show _ = _
          rw [HR.out, hlk]
          rfl
        generalize mk p.1 = X at c0 hcmp
        clear hc hd hp hlk hq
        go_wp2_with fail
        go_roundg g'
        case measure => omega
        case rel => exact ⟨k + 1, by omega, by omega, by rw [show ((k + 1 : Nat) : Int) = (k : Int) + 1 from by omega], HN, rfl⟩
    · obtain rfl : k = l.length := by omega
      have gi : ¬ (l.length : Int) < (l.length : Int) := by omega
      have HE : Hid (findS l (bs s) = -1) := by
        show _ = _
        unfold findS
        rw [HR.out, List.drop_length]
        rfl
      go_wp2_with fail
      go_ret
      rw [HE.out]
      exact ⟨rfl, rfl⟩
/- names that are the call's own -/
def ON (w : World) (l : NL) (v : Value) (wx : World) : Prop := wx.ownsRow w.heap.size 105 2 v l.length (l.flatMap nmCells) ∧ Below w.heap.size w wx
theorem nflat_len (l : NL) : (l.flatMap nmCells).length = l.length * 2 := by
  induction l with
  | nil => rfl
  | cons f r ih => rw [List.flatMap_cons, List.length_append, ih, List.length_cons]; simp [nmCells]; omega
theorem nflat_at : ∀ (l : NL) (k : Nat) (h : k < l.length), (l.flatMap nmCells)[k * 2]? = some (.string (mk (l[k]'h).1)) ∧ (l.flatMap nmCells)[k * 2 + 1]? = some (.int .i64 ((l[k]'h).2 : Int))
  | f :: r, 0, h => ⟨rfl, rfl⟩
  | f :: r, k + 1, h => by
    have ih := nflat_at r k (by simpa using h)
    have e : ∀ i, ((f :: r).flatMap nmCells)[(k + 1) * 2 + i]? = (r.flatMap nmCells)[k * 2 + i]? := fun i => by
      rw [List.flatMap_cons, List.getElem?_append_right (by simp [nmCells]; omega)]
      congr 1
      simp [nmCells]
      omega
    exact ⟨(e 0).trans ih.1, (e 1).trans ih.2⟩
theorem on_sl {w wx : World} {l : NL} {v : Value} (h : ON w l v wx) : NmSl wx v l := by
  have h1 := h.1
  rcases h1.2 with ⟨rfl, h0⟩ | ⟨g, cap, cur, rfl, hb, hg, q1, q2, q3, q4⟩
  · have : l = [] := List.length_eq_zero_iff.1 h0
    subst this
    exact ⟨none, 0, rfl, Or.inl rfl⟩
  · refine ⟨_, cap, rfl, Or.inr ⟨g, 0, rfl, fun k hk => ?_⟩⟩
    obtain ⟨d0, d1⟩ := nflat_at l k hk
    have c0 := h1.cellAt (k * 2) (by omega)
    have c1 := h1.cellAt (k * 2 + 1) (by omega)
    rw [Nat.zero_add]
    exact ⟨c0.trans d0, c1.trans d1⟩
theorem info105 : (Try.prog.info? 105).map (fun i => (i.zero, i.size, i.bytes)) = some (some (.agg #[.string ⟨#[]⟩, .int .i64 0]), 2, 24) := by kernel_rfl
theorem two_new (w : World) (x y : Value) (t : TypeId) : ∀ j u, [x, y][j]? = some u → (w.alloc (.cells #[x, y] t)).cell? ((⟨w.heap.size, 0, none⟩ : Addr).add j) = some u := by
  intro j u hj
  match j, hj with
  | 0, hj =>
    simp at hj
    subst hj
    simp [Addr.add]
  | 1, hj =>
    simp at hj
    subst hj
    simp [Addr.add]
theorem wout_snoc (l : NL) (k : Nat) (h : k < l.length) (n : Bs) : wout (l.take (k + 1)) n = wout (l.take k) n ++ (if ((l[k]'h).1 == n) = true then [] else [l[k]'h]) := by
  unfold wout
  rw [List.take_succ_eq_append_getElem h, List.filter_append]
  congr 1
  cases hq : ((l[k]'h).1 == n) <;> simp [hq]
theorem on_start (w : World) : ON w [] (.slice none 0 0) w := ⟨World.ownsRow_nil _ _ _ _, Below.refl _ _⟩
theorem on_snoc {w W W' : World} {l : NL} {p : Bs × Nat} {v v' : Value} {o : Obj} (h : ON w l v W) (h1 : W'.ownsRow w.heap.size 105 2 v' (l.length + 1) (l.flatMap nmCells ++ nmCells p)) (h2 : (W.alloc o).grownBy W' v.ownBlock) : ON w (l ++ [p]) v' W' := by
  have hb : Below w.heap.size w (W.alloc o) := h.2.alloc h.2.size o
  refine ⟨?_, hb.grown h2 hb.size (fun k hk => (h.1.lt k hk).1)⟩
  rw [List.length_append, List.flatMap_append, show [p].flatMap nmCells = nmCells p from by simp]
  exact h1
set_option maxHeartbeats 2000000 in
set_option maxRecDepth 100000 in
theorem without_call (v : Value) (l : NL) (s : ByteArray) (w : World) (h : NmSl w v l) (hl : l.length < 1099511627776) : Calls Try.prog 68 #[v, .string s] w fun e w' => ∃ v', e = .returned v' ∧ ON w (wout l (bs s)) v' w' := by
  have HV := hid_of h
  obtain ⟨a, c, rfl, h⟩ := h
  clear h
  obtain ⟨i0, hi, hz0, hz1, hz2⟩ := parts info105
  go_enter Try.func68, Try.ntmps68
  go_wp2_with fail
  go_loopg [6, 5] l.length (fun g si so wx => ∃ k : Nat, k ≤ l.length ∧ l.length ≤ k + g ∧ si = .int .i64 k ∧ Hid (ON w (wout (l.take k) (bs s)) so wx))
  case atStart => exact ⟨0, by omega, by omega, rfl, on_start w⟩
  case round =>
    obtain ⟨k, hk, hg, rfl, HO⟩ := hrel
    by_cases hlt : k < l.length
    · obtain ⟨g', rfl⟩ : ∃ g', gk = g' + 1 := ⟨gk - 1, by omega⟩
      obtain ⟨a2, c2, e2, hF⟩ := nm_below HV.out HO.out.2
      injection e2 with e3 e4 e5
      subst e3
      obtain ⟨gb, o, rfl, hc⟩ : ∃ g o, a = some ⟨g, o, none⟩ ∧ ∀ k (h : k < l.length), wr.cell? ⟨g, o + k * 2, none⟩ = some (.string (mk (l[k]'h).1)) ∧ wr.cell? ⟨g, o + k * 2 + 1, none⟩ = some (.int .i64 ((l[k]'h).2 : Int)) := by
        rcases hF with h | h
        · subst h; exact absurd hlt (by simp)
        · exact h
      clear hF e4 e5
      obtain ⟨c0, c1⟩ := hc k hlt
      have hws := wout_snoc l k hlt (bs s)
      have ew : IntKind.i64.wrap ((k : Int) + 1) = (k : Int) + 1 := IntWalk.i64_in _ (by omega)
      have gi : (k : Int) < (l.length : Int) := by omega
      obtain ⟨p, hp⟩ : ∃ p, p = l[k] := ⟨_, rfl⟩
      rw [← hp] at c0 c1 hws
      have hcmp := mk_eq (a := p.1) (s := s)
      have hwl : (wout (l.take k) (bs s)).length ≤ k := Nat.le_trans (wout_len _ _) (by rw [List.length_take]; omega)
      cases hq : (p.1 == bs s) with
      | true =>
        rw [hq] at hcmp hws
        have HN : Hid (ON w (wout (l.take (k + 1)) (bs s)) u5 wr) := by
          rw [hws]
          simp only [if_true, List.append_nil]
          exact HO
        generalize mk p.1 = X at c0 hcmp
        clear hc hp hws hq
        go_wp2_with fail
        go_roundg g'
        case measure => omega
        case rel => exact ⟨k + 1, by omega, by omega, by rw [show ((k + 1 : Nat) : Int) = (k : Int) + 1 from by omega], HN⟩
      | false =>
        rw [hq] at hcmp hws
        have HWS : Hid (wout (l.take (k + 1)) (bs s) = wout (l.take k) (bs s) ++ [p]) := by
          show _ = _
          rw [hws]
          rfl
        have HX : Hid (nmCells p = [.string (mk p.1), .int .i64 (p.2 : Int)]) := rfl
        obtain ⟨X, hX⟩ : ∃ X, X = mk p.1 := ⟨_, rfl⟩
        rw [← hX] at c0 hcmp HX
        clear hc hp hws hq hX
        go_wp2_with (first
          | (at_builtin; refine wpList_append_own _ rfl _ _ 27 rfl w.heap.size 105 i0 (.agg #[.string ⟨#[]⟩, .int .i64 0]) 2 24 Try.underlying27 hi hz0 hz1 hz2 rfl (by decide) _ _ _ rfl (HO.out.1.alloc _) _ 1 1 [.string X, .int .i64 (p.2 : Int)] rfl rfl (two_new _ _ _ _) (by simp [Value.oneCell']) (by unfold maxLen; omega) (by omega) (by have := HO.out.2.size; simp; omega) ?_; intro v' w1 hown hg1 hnil; go_frame)
          | go_in)
        rw [← HX.out] at hown
        have HN := hid_of (on_snoc HO.out hown hg1)
        rw [← HWS.out] at HN
        clear hown hg1 hnil
        go_wp2_with fail
        go_roundg g'
        case measure => omega
        case rel => exact ⟨k + 1, by omega, by omega, by rw [show ((k + 1 : Nat) : Int) = (k : Int) + 1 from by omega], HN⟩
    · obtain rfl : k = l.length := by omega
      have gi : ¬ (l.length : Int) < (l.length : Int) := by omega
      have HE := HO.out
      rw [List.take_length] at HE
      have HE2 := hid_of HE
      clear HE
      go_wp2_with fail
      go_ret
      exact ⟨_, rfl, HE2.out⟩
end Go.Proofs.Ytilbffbmpgebmaa.RefNames
