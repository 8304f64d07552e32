/- The document's own: slices of fields cut and joined; Find, Get. -/
import Derived.Test.YtolihcgpnoacaaaDoorWalk
import Derived.Test.YtolihcgpnoacaaaDoorRefBelow
import Derived.Test.YtolihcgpnoacaaaDoorRefArith
namespace Go.Proofs.YtolihcgpnoacaaaDoor.RefA
open Go.RowKit Go.Maps Go.Sort
open Go.Proofs.YtolihcgpnoacaaaDoor.DictMath
open Go.Proofs.YtolihcgpnoacaaaDoor.Base
open Go.Proofs.YtolihcgpnoacaaaDoor.Rising
open Go.Proofs.YtolihcgpnoacaaaDoor.Of
open Go.Proofs.YtolihcgpnoacaaaDoor.Fields
open Go.Proofs.YtolihcgpnoacaaaDoor.Walk
set_option linter.unusedVariables false

/- a slice of fields with its room -/
structure FC (w : World) (v : Value) (l : FL) : Prop where
  fs : FS w v l
  cap : ∃ a c, v = .slice a l.length c ∧ l.length ≤ c
theorem FC.below {w w' : World} {v : Value} {l : FL} (h : FC w v l) (hb : Below w.heap.size w w') : FC w' v l := ⟨h.fs.below hb, h.cap⟩
theorem FC.mv {m : Nat} {w w' : World} {v : Value} {l : FL} (h : FC w v l) (hb : Mv m w w') : FC w' v l := ⟨h.fs.mv hb, h.cap⟩
theorem fc_row {B : Nat} {w : World} {l : FL} {v : Value} (h : w.ownsRow B 52 2 v l.length (l.flatMap fCells)) : FC w v l := by
  refine ⟨fs_row h, ?_⟩
  rcases h.2 with ⟨rfl, h0⟩ | ⟨g, cap, cur, rfl, hb, hg, q1, _⟩
  · exact ⟨none, 0, by rw [h0], by omega⟩
  · exact ⟨_, cap, rfl, q1⟩
def ca (a : Option Addr) (c i : Nat) : Option Addr := if c = i then a else a.map (·.add (i * 2))
theorem cut_lo (a : Option Addr) (n c i : Nat) (hi : i ≤ n) (w : World) : (Instr.slice 22 (.slice a n c) (some (.int .i64 (i : Int))) none none).run Tryd.prog w = .ok (.slice (ca a c i) (n - i) (c - i)) w := by
  have h1 : (i : Int) ≤ n := by omega
  simp [Instr.slice, run_underlying Tryd.underlying22, Instr.sliceBounds, run_sliceBound, ca, h1]
theorem cut_hi (a : Option Addr) (n c j : Nat) (hj : j ≤ c) (w : World) : (Instr.slice 22 (.slice a n c) none (some (.int .i64 (j : Int))) none).run Tryd.prog w = .ok (.slice a j c) w := by
  have h2 : (j : Int) ≤ c := by omega
  have h0 : (if c = 0 then a else a.map (·.add 0)) = a := by
    by_cases h : c = 0
    · rw [if_pos h]
    · rw [if_neg h]
      cases a with
      | none => rfl
      | some a => simp [Addr.add]
  simp [Instr.slice, run_underlying Tryd.underlying22, Instr.sliceBounds, run_sliceBound, h2, h0]
theorem cut_any (a : Option Addr) (n c i j : Nat) (hij : i ≤ j) (hj : j ≤ c) (w : World) : (Instr.slice 22 (.slice a n c) (some (.int .i64 (i : Int))) (some (.int .i64 (j : Int))) none).run Tryd.prog w = .ok (.slice (ca a c i) (j - i) (c - i)) w := by
  have h1 : (i : Int) ≤ j := by omega
  have h2 : (j : Int) ≤ c := by omega
  simp [Instr.slice, run_underlying Tryd.underlying22, Instr.sliceBounds, run_sliceBound, ca, h1, h2]
theorem FC.take {w : World} {a : Option Addr} {c : Nat} {l : FL} (h : FC w (.slice a l.length c) l) (j : Nat) (hj : j ≤ l.length) : FC w (.slice a j c) (l.take j) := by
  obtain ⟨⟨a', c', e, hfs⟩, ⟨a2, c2, e2, hc⟩⟩ := h
  injection e with e1 _ e3
  injection e2 with f1 _ f3
  subst e1 e3 f3
  have hl : (l.take j).length = j := by rw [List.length_take]; omega
  refine ⟨⟨a, c, by rw [hl], ?_⟩, ⟨a, c, by rw [hl], by omega⟩⟩
  rcases hfs with rfl | ⟨g, o, rfl, hq⟩
  · exact Or.inl (by simp)
  · refine Or.inr ⟨g, o, rfl, fun k hk => ?_⟩
    rw [List.getElem_take]
    exact hq k (by omega)
theorem FC.drop {w : World} {a : Option Addr} {c : Nat} {l : FL} (h : FC w (.slice a l.length c) l) (i : Nat) (hi : i ≤ l.length) : FC w (.slice (ca a c i) (l.length - i) (c - i)) (l.drop i) := by
  obtain ⟨⟨a', c', e, hfs⟩, ⟨a2, c2, e2, hc⟩⟩ := h
  injection e with e1 _ e3
  injection e2 with f1 _ f3
  subst e1 e3 f3
  have hl : (l.drop i).length = l.length - i := List.length_drop
  refine ⟨⟨ca a c i, c - i, by rw [hl], ?_⟩, ⟨ca a c i, c - i, by rw [hl], by omega⟩⟩
  by_cases hd : l.drop i = []
  · exact Or.inl hd
  · have hp : 0 < (l.drop i).length := List.length_pos_iff.2 hd
    rw [hl] at hp
    rcases hfs with rfl | ⟨g, o, rfl, hq⟩
    · simp at hp
    · refine Or.inr ⟨g, o + i * 2, ?_, fun k hk => ?_⟩
      · unfold ca
        rw [if_neg (by omega)]
        show some ((⟨g, o, none⟩ : Addr).add (i * 2)) = _
        rw [Addr.add_lit]
      · rw [List.getElem_drop]
        have := hq (i + k) (by omega)
        rw [show o + (i + k) * 2 = o + i * 2 + k * 2 from by omega] at this
        exact this
/- append -/
theorem fs_news {w : World} {g o : Nat} {l : FL} (h : ∀ k (h : k < l.length), w.cell? ⟨g, o + k * 2, none⟩ = some (.string (mk (l[k]'h).1)) ∧ w.cell? ⟨g, o + k * 2 + 1, none⟩ = some (.string (mk (l[k]'h).2))) : ∀ j u, (l.flatMap fCells)[j]? = some u → w.cell? ((⟨g, o, none⟩ : Addr).add j) = some u := fun j u hj => by
  have hlt : j < (l.flatMap fCells).length := (List.getElem?_eq_some_iff.1 hj).1
  rw [fflat_len] at hlt
  have hk : j / 2 < l.length := by omega
  obtain ⟨d0, d1⟩ := fflat_at l (j / 2) hk
  obtain ⟨c0, c1⟩ := h (j / 2) hk
  rw [Addr.add_lit]
  rcases Nat.mod_two_eq_zero_or_one j with e | e
  · have e2 : j = j / 2 * 2 := by omega
    rw [e2, d0] at hj
    rw [e2, c0]
    exact hj
  · have e2 : j = j / 2 * 2 + 1 := by omega
    rw [e2, d1] at hj
    rw [e2, show o + (j / 2 * 2 + 1) = o + j / 2 * 2 + 1 from by omega, c1]
    exact hj
theorem app_nil (a : Option Addr) (c : Nat) (w : World) : (Builtin.append_ #[22, 22] 22 #[.slice none 0 0, .slice a 0 c]).run Tryd.prog w = .ok (.slice none 0 0) w := by
  cases a with
  | none => kernel_rfl
  | some a => kernel_rfl
theorem append_fs (B : Nat) (w : World) (v u : Value) (xs ys : FL) (h : w.ownsRow B 52 2 v xs.length (xs.flatMap fCells)) (hu : FS w u ys) (hb : B ≤ w.heap.size) (hn : xs.length + ys.length ≤ 4398046511104) :
    ∃ v' w', (Builtin.append_ #[22, 22] 22 #[v, u]).run Tryd.prog w = .ok v' w' ∧ w'.ownsRow B 52 2 v' (xs ++ ys).length ((xs ++ ys).flatMap fCells) ∧ w.grownBy w' v.ownBlock := by
  obtain ⟨i, hi, hz0, hz1, hz2⟩ := parts_of info52
  obtain ⟨a, c, rfl, hq⟩ := hu
  by_cases he : ys = []
  · subst he
    rw [List.append_nil]
    rcases h.2 with ⟨rfl, h0⟩ | ⟨g, cap, cur, rfl, hbg, hg, q1, q2, q3, q4⟩
    · exact ⟨_, w, app_nil a c w, h, ⟨rfl, rfl, rfl, Nat.le_refl _, fun _ _ _ => rfl⟩⟩
    · have hsrc : Src Tryd.prog i.size 22 (.slice a 0 c) 0 [] w := by
        cases a with
        | none => exact Src.ofNil w Tryd.underlying22 c
        | some a => exact Src.ofSlice w Tryd.underlying22 a 0 c [] (by simp) (fun j u hj => by simp at hj) (fun u hu => by cases hu)
      have hr := run_append_room_src (P := Tryd.prog) w 22 22 22 52 i Tryd.underlying22 hi g 0 xs.length cap (.slice a 0 c) 0 [] hsrc (by omega) (fun j hj => by simp at hj) (fun j hj => by simp at hj)
      refine ⟨.slice (some ⟨g, 0, none⟩) xs.length cap, w, ?_, h, ⟨rfl, rfl, rfl, Nat.le_refl _, fun _ _ _ => rfl⟩⟩
      rw [show ([] : FL).length = 0 from rfl, hr]
      simp [World.setCells]
  · rcases hq with hq | ⟨g, o, rfl, hq⟩
    · exact absurd hq he
    · obtain ⟨v', w', hr, ho, hg, _⟩ := run_append_own (P := Tryd.prog) w B 22 22 52 i _ 2 32 Tryd.underlying22 hi hz0 hz1 hz2 rfl (by decide) v xs.length (xs.flatMap fCells) h ⟨g, o, none⟩ ys.length c (ys.flatMap fCells) (fflat_len ys) (fs_news hq) (one_all ys) (by unfold maxLen; omega) (by omega) hb
      refine ⟨v', w', hr, ?_, hg⟩
      rw [List.length_append, List.flatMap_append]
      exact ho
section
variable {ops : Array Oper} {rest : List Oper} {o : Oper} {a : Act} {Q : Exit → Act → World → Prop}
theorem wpl_eq (hgd : o.guard = none) (s x : Operand) (t tx : TypeId) (ho : o.op = .call { callee := .builtin .append, args := #[s, x], argTypes := #[t, tx] }) (v u v' : Value) (W W' : World) (hs : a.eval s = v) (hx : a.eval x = u)
    (hr : (Builtin.append_ #[t, tx] o.type #[v, u]).run Tryd.prog W = .ok v' W') (hK : wpList Tryd.prog ops Q rest (a.put o.dst v') W') : wpList Tryd.prog ops Q (o :: rest) a W := by
  refine wpList_plain hgd fun K hK2 => ?_
  unfold Oper.wp execOp
  simp only [ho, resolve, invoke, builtin, Sem.run_bind, Sem.run_pure, Result.andThen_ok, List.map_toArray, List.map_cons, List.map_nil, hs, hx, hr]
  exact hK2 _ _ hK
end
/- places -/
theorem pos_of : ∀ {l : FL} {k : Bs} {i : Nat}, i ≤ l.length → (∀ j (h : j < l.length), j < i → (l[j]'h).1 < k) → (∀ h : i < l.length, ¬ (l[i]'h).1 < k) → pos l k = i
  | [], k, i, hi, _, _ => by have : i = 0 := by simpa using hi
                             subst this; rfl
  | a :: r, k, 0, _, _, h2 => pos_cons_ge (h2 (by simp))
  | a :: r, k, i + 1, hi, h1, h2 => by
    have ha : a.1 < k := h1 0 (by simp) (by omega)
    rw [pos_cons_lt ha, pos_of (i := i) (by simpa using hi) (fun j hj hji => h1 (j + 1) (by simpa using hj) (by omega)) (fun h => h2 (by simpa using h))]
theorem ok_pos : ∀ {l : FL}, Ris l → ∀ k, ok l k = decide (∃ h : pos l k < l.length, (l[pos l k]'h).1 = k)
  | [], _, k => by simp [ok, lkp]
  | a :: r, h, k => by
    unfold ok
    rw [lkp_cons]
    by_cases hk : a.1 < k
    · rw [if_neg (lt_ne hk)]
      have ih := ok_pos h.tail k
      unfold ok at ih
      rw [ih, decide_eq_decide, pos_cons_lt hk]
      simp
    · rw [pos_cons_ge hk]
      by_cases he : a.1 = k
      · rw [if_pos he]; simp [he]
      · rw [if_neg he, lkp_none (fun p hp e => List.lt_irrefl k (by have := all_above h hk p hp; rw [e] at this; exact this))]
        simp [he]
theorem get_pos : ∀ {l : FL}, Ris l → ∀ k (h : pos l k < l.length), (l[pos l k]'h).1 = k → lkp l k = some (l[pos l k]'h).2 := fun hr k h e => by
  have := lkp_at hr _ (List.getElem_mem h)
  rw [e] at this
  exact this
set_option maxHeartbeats 2000000 in
set_option maxRecDepth 100000 in
theorem rfind_call (v : Value) (l : FL) (k : Bs) (w : World) (h : FS w v l) (hr : Ris l) (hl : l.length ≤ 140737488355328) : Calls Tryd.prog 25 #[v, .string (mk k)] w fun e w' => e = .returned (.tuple #[.int .i64 (pos l k : Int), .bool (ok l k)]) ∧ Below w.heap.size w w' := by
  obtain ⟨a, c, rfl, hfs⟩ := h
  have HF := hid_of hfs
  have HR := hid_of hr
  clear hfs hr
  go_enter Tryd.func25, Tryd.ntmps25
  go_wp2_with fail
  go_loopg [6, 7] l.length (fun g slo shi wx => ∃ lo hi : Nat, lo ≤ hi ∧ hi ≤ l.length ∧ hi ≤ lo + g ∧ slo = .int .i64 (lo : Int) ∧ shi = .int .i64 (hi : Int) ∧ Hid (∀ j (h : j < l.length), j < lo → (l[j]'h).1 < k) ∧ Hid (∀ j (h : j < l.length), hi ≤ j → ¬ (l[j]'h).1 < k) ∧ wx = w)
  case atStart => exact ⟨0, l.length, by omega, by omega, by omega, rfl, rfl, hid_of (fun j h hj => by omega), hid_of (fun j h hj => by omega), rfl⟩
  case round =>
    obtain ⟨lo, hi, h1, h2, hg, rfl, rfl, HL, HH, hwx⟩ := hrel
    subst hwx
    by_cases hlt : lo < hi
    · obtain ⟨g', rfl⟩ : ∃ g', gk = g' + 1 := ⟨gk - 1, by omega⟩
      obtain ⟨M, hM⟩ : ∃ M, M = (lo + hi) / 2 := ⟨_, rfl⟩
      have hMl : M < l.length := by omega
      obtain ⟨ga, oa, rfl, ha⟩ : ∃ g o, a = some ⟨g, o, none⟩ ∧ ∀ k (h : k < l.length), wr.cell? ⟨g, o + k * 2, none⟩ = some (.string (mk (l[k]'h).1)) ∧ wr.cell? ⟨g, o + k * 2 + 1, none⟩ = some (.string (mk (l[k]'h).2)) := by
        rcases HF.out with h | ⟨g, o, e, h⟩
        · subst h; simp at hMl
        · exact ⟨g, o, e, h⟩
      have c0 := (ha M hMl).1
      have e1 : IntKind.i64.wrap ((lo : Int) + (hi : Int)) = (lo : Int) + (hi : Int) := IntWalk.i64_in _ (by omega)
      have e2 : ((lo : Int) + (hi : Int)) / 2 = (M : Int) := by omega
      have e3 : IntKind.i64.wrap ((M : Int) + 1) = (M : Int) + 1 := IntWalk.i64_in _ (by omega)
      have g1 : (lo : Int) < (hi : Int) := by omega
      have g2 : (M : Int) < (l.length : Int) := by omega
      have hless := less_mk (l[M]'hMl).1 k
      have HM := hid_of hM
      by_cases hq : (l[M]'hMl).1 < k
      · rw [decide_eq_true hq] at hless
        have HL2 : Hid (∀ j (h : j < l.length), j < M + 1 → (l[j]'h).1 < k) := hid_of fun j hj hjM => by
          by_cases e : j = M
          · subst e; exact hq
          · exact List.lt_trans (List.pairwise_iff_getElem.1 HR.out j M hj hMl (by omega)) hq
        clear hq ha hM
        generalize mk (l[M]'hMl).1 = X at *
        generalize mk k = Kb at *
        go_wp2_with fail
        go_roundg g'
        case measure => omega
        case rel => exact ⟨M + 1, hi, by have := HM.out; omega, h2, by have := HM.out; omega, by rw [show ((M + 1 : Nat) : Int) = (M : Int) + 1 from by omega], rfl, HL2, HH, rfl⟩
      · rw [decide_eq_false hq] at hless
        have HH2 : Hid (∀ j (h : j < l.length), M ≤ j → ¬ (l[j]'h).1 < k) := hid_of fun j hj hjM hlt2 => by
          by_cases e : j = M
          · subst e; exact hq hlt2
          · exact hq (List.lt_trans (List.pairwise_iff_getElem.1 HR.out M j hMl hj (by omega)) hlt2)
        clear hq ha hM
        generalize mk (l[M]'hMl).1 = X at *
        generalize mk k = Kb at *
        go_wp2_with fail
        go_roundg g'
        case measure => omega
        case rel => exact ⟨lo, M, by have := HM.out; omega, by omega, by have := HM.out; omega, rfl, by rw [e2], HL, HH2, rfl⟩
    · obtain rfl : lo = hi := by omega
      have hp : pos l k = lo := pos_of h2 HL.out (fun h => HH.out lo h (Nat.le_refl _))
      have hok := ok_pos HR.out k
      have gi : ¬ (lo : Int) < (lo : Int) := by omega
      by_cases hlo : lo < l.length
      · obtain ⟨ga, oa, rfl, ha⟩ : ∃ g o, a = some ⟨g, o, none⟩ ∧ ∀ k (h : k < l.length), wr.cell? ⟨g, o + k * 2, none⟩ = some (.string (mk (l[k]'h).1)) ∧ wr.cell? ⟨g, o + k * 2 + 1, none⟩ = some (.string (mk (l[k]'h).2)) := by
          rcases HF.out with h | ⟨g, o, e, h⟩
          · subst h; simp at hlo
          · exact ⟨g, o, e, h⟩
        have c0 := (ha lo hlo).1
        have g3 : (lo : Int) < (l.length : Int) := by omega
        have g4 : decide ((lo : Int) < (l.length : Int)) = true := decide_eq_true g3
        have hcmp := str_eq (l[lo]'hlo).1 k
        have HO : Hid (ok l k = ((l[lo]'hlo).1 == k)) := hid_of (by rw [hok, Bool.eq_iff_iff]; simp [hp, hlo])
        rw [← HO.out] at hcmp
        have HP := hid_of hp
        clear hp hok ha HO
        generalize mk (l[lo]'hlo).1 = X at *
        generalize mk k = Kb at *
        go_wp2_with fail
        go_quiet (fail)
        go_wp2_with fail
        go_ret2
        rw [HP.out]
        exact ⟨rfl, bdrew (Below.refl _ _) nq⟩
      · have g3 : ¬ (lo : Int) < (l.length : Int) := by omega
        have g4 : decide ((lo : Int) < (l.length : Int)) = false := decide_eq_false g3
        have HO : Hid (ok l k = false) := hid_of (by rw [hok]; simp [hp, hlo])
        have HP := hid_of hp
        clear hp hok
        generalize mk k = Kb at *
        go_wp2_with fail
        go_quiet (fail)
        go_wp2_with fail
        go_ret2
        rw [HP.out, HO.out]
        exact ⟨rfl, bdrew (Below.refl _ _) nq⟩
set_option maxHeartbeats 1000000 in
set_option maxRecDepth 100000 in
theorem rget_call (v : Value) (l : FL) (k : Bs) (w : World) (h : FS w v l) (hr : Ris l) (hl : l.length ≤ 140737488355328) : Calls Tryd.prog 22 #[v, .string (mk k)] w fun e w' => e = .returned (.tuple #[.string (valS l k), .bool (ok l k)]) ∧ Below w.heap.size w w' := by
  have H1 := hid_of (rfind_call v l k w h hr hl)
  have hok := ok_pos hr k
  obtain ⟨a, c, rfl, hfs⟩ := h
  cases ho : ok l k with
  | false =>
    rw [ho] at H1
    have HV : Hid (valS l k = ⟨#[]⟩) := hid_of (by unfold ok at ho; unfold valS; rw [Option.isSome_eq_false_iff, Option.isNone_iff_eq_none] at ho; rw [ho]; rfl)
    clear hok hfs
    generalize mk k = Kb at *
    go_enter Tryd.func22, Tryd.ntmps22
    go_wp2_with fail
    refine H1.out.mono ?_
    rintro e w1 hw1
    obtain ⟨rfl, bb⟩ := hw1
    go_wp2_with fail
    go_ret2
    rw [HV.out]
    exact ⟨rfl, bb⟩
  | true =>
    rw [ho] at H1 hok
    obtain ⟨hp, he⟩ := of_decide_eq_true hok.symm
    have hg := get_pos hr k hp he
    have HV : Hid (valS l k = mk (l[pos l k]'hp).2) := hid_of (by unfold valS; rw [hg]; rfl)
    obtain ⟨ga, oa, rfl, ha⟩ : ∃ g o, a = some ⟨g, o, none⟩ ∧ ∀ k (h : k < l.length), w.cell? ⟨g, o + k * 2, none⟩ = some (.string (mk (l[k]'h).1)) ∧ w.cell? ⟨g, o + k * 2 + 1, none⟩ = some (.string (mk (l[k]'h).2)) := by
      rcases hfs with h | ⟨g, o, e, h⟩
      · subst h; simp at hp
      · exact ⟨g, o, e, h⟩
    have HC : Hid (∀ w1, Below w.heap.size w w1 → w1.cell? ⟨ga, oa + pos l k * 2 + 1, none⟩ = some (.string (mk (l[pos l k]'hp).2))) := hid_of fun w1 b1 => cell_on b1 (ha _ hp).2
    have g2 : (pos l k : Int) < (l.length : Int) := by omega
    clear hok hfs ha hg he
    generalize mk (l[pos l k]'hp).2 = Y at *
    generalize pos l k = N at *
    generalize mk k = Kb at *
    go_enter Tryd.func22, Tryd.ntmps22
    go_wp2_with fail
    refine H1.out.mono ?_
    rintro e w1 hw1
    obtain ⟨rfl, bb⟩ := hw1
    have c1 := HC.out w1 bb
    have BB := hid_of bb
    clear bb HC
    go_wp2_with fail
    go_ret2
    rw [HV.out]
    exact ⟨rfl, BB.out⟩
end Go.Proofs.YtolihcgpnoacaaaDoor.RefA
