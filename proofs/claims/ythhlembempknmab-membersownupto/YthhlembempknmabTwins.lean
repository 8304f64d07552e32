/- twins: lists in memory of their own, with one more behind each. -/
import Derived.Test.YthhlembempknmabRefK
import Derived.Test.YthhlembempknmabAwake
namespace Go.Proofs.Ythhlembempknmab.Twins
open Go.RowKit Go.Sort
open Go.Proofs.Ythhlembempknmab.SetMath
open Go.Proofs.Ythhlembempknmab.Base
open Go.Proofs.Ythhlembempknmab.Small
open Go.Proofs.Ythhlembempknmab.Lists
open Go.Proofs.Ythhlembempknmab.ROf
open Go.Proofs.Ythhlembempknmab.Code
open Go.Proofs.Ythhlembempknmab.After
set_option linter.unusedVariables false
set_option linter.unusedSimpArgs false
/- a row of headers -/
def NV (B : Nat) (w : World) (v : Value) (us : List Value) : Prop := (v = .slice none 0 0 ∧ us = []) ∨ ∃ g c cur, v = .slice (some ⟨g, 0, none⟩) us.length c ∧ B ≤ g ∧ w.heap[g]? = some (.cells cur 22 (0, 0)) ∧ cur.size = c ∧ us.length ≤ c ∧ cur.toList.take us.length = us
theorem rowV_at {cur : Array Value} {us : List Value} (h : cur.toList.take us.length = us) {j : Nat} {x : Value} (hj : us[j]? = some x) : cur[j]? = some x := by
  have hl : j < us.length := (List.getElem?_eq_some_iff.1 hj).1
  have h1 : (cur.toList.take us.length)[j]? = us[j]? := by rw [h]
  rw [List.getElem?_take_of_lt hl, hj, Array.getElem?_toList] at h1
  exact h1
theorem NV.rd {B : Nat} {w : World} {v : Value} {us : List Value} (h : NV B w v us) : ∃ a c, v = .slice a us.length c ∧ us.length ≤ c ∧ RdV (fun k => B ≤ k) w a us := by
  rcases h with ⟨rfl, rfl⟩ | ⟨g, c, cur, rfl, hB, hr, hx, hl, ht⟩
  · exact ⟨none, 0, rfl, Nat.le_refl _, .inl rfl⟩
  · refine ⟨_, _, rfl, hl, .inr ⟨g, 0, rfl, hB, fun j x hj => ?_⟩⟩
    rw [Lib.cell_of_heap hr, Nat.zero_add]
    exact rowV_at ht hj
theorem NV.keep {B : Nat} {w w' : World} {v : Value} {l : List Value} (h : NV B w v l) (hk : ∀ k, k < w.heap.size → B ≤ k → w'.heap[k]? = w.heap[k]?) : NV B w' v l := by
  rcases h with h | ⟨g, c, cur, rfl, hB, hr, hx, hl, ht⟩
  · exact .inl h
  · exact .inr ⟨g, c, cur, rfl, hB, (hk g (lt_of hr) hB).trans hr, hx, hl, ht⟩
theorem NV.below {B : Nat} {w w' : World} {v : Value} {l : List Value} (h : NV B w v l) (b : Below w.heap.size w w') : NV B w' v l := h.keep fun k hk _ => b.block k hk
theorem info22 : (Try.prog.info? 22).map (fun i => (i.zero, i.size, i.bytes)) = some (some (.slice none 0 0), 1, 24) := by kernel_rfl
/-- append(us, u) -/
theorem appV_one {B : Nat} {w : World} {v : Value} {us : List Value} (a0 : Option Addr) (n0 c0 : Nat) (h : NV B w v us) (hb : us.length * 24 ≤ 140737488355328) (hB : B ≤ w.heap.size) (ty : TypeId) :
    ∃ v' w', (Builtin.append_ #[24, 24] ty #[v, .slice (some ⟨w.heap.size, 0, none⟩) 1 1]).run Try.prog (w.alloc (.cells #[.slice a0 n0 c0] 22)) = .ok v' w' ∧ NV B w' v' (us ++ [.slice a0 n0 c0]) ∧ Below B w w' ∧ ∀ (k : Nat) (cs : Array Value), w.heap[k]? = some (.cells cs 9 (0, 0)) → w'.heap[k]? = some (.cells cs 9 (0, 0)) := by
  obtain ⟨i, hi, hz0, hz1, hz2⟩ := info_parts info22
  have b1 := (Below.refl w.heap.size w).alloc (Nat.le_refl _) (.cells #[.slice a0 n0 c0] 22)
  have h1 := h.below b1
  have hsrc : Src Try.prog 1 24 (.slice (some ⟨w.heap.size, 0, none⟩) 1 1) 1 [.slice a0 n0 c0] (w.alloc (.cells #[.slice a0 n0 c0] 22)) := by
    refine Src.ofSlice (P := Try.prog) _ Try.underlying24 ⟨w.heap.size, 0, none⟩ 1 1 [.slice a0 n0 c0] rfl (fun j u hj => ?_) (fun u hu => by
      rw [List.mem_singleton.1 hu]; rfl)
    rw [add_off, Lib.cell_of_heap (heap_alloc_new w _), Nat.zero_add]
    cases j with
    | zero => simp at hj; subst hj; rfl
    | succ j => simp at hj
  obtain ⟨W, hW⟩ : ∃ W, W = w.alloc (.cells #[.slice a0 n0 c0] 22) := ⟨_, rfl⟩
  rw [← hW] at b1 h1 hsrc ⊢
  have hs : Src Try.prog i.size 24 (.slice (some ⟨w.heap.size, 0, none⟩) 1 1) 1 [.slice a0 n0 c0] W := by rw [hz1]; exact hsrc
  have hk9 : ∀ (k : Nat) (cs : Array Value), w.heap[k]? = some (.cells cs 9 (0, 0)) → W.heap[k]? = some (.cells cs 9 (0, 0)) := fun k cs hk => (b1.block k (lt_of hk)).trans hk
  by_cases hroom : ∃ g cp cur, v = .slice (some ⟨g, 0, none⟩) us.length cp ∧ B ≤ g ∧ W.heap[g]? = some (.cells cur 22 (0, 0)) ∧ cur.size = cp ∧ cur.toList.take us.length = us ∧ us.length + 1 ≤ cp
  · obtain ⟨g, cp, cur, rfl, hBg, hr, hx, ht, hrm⟩ := hroom
    have hst := run_storeCells_at Try.prog g us.length 22 [.slice a0 n0 c0] 0 cur W hr (by simp; omega) (fun v hv => by
      rw [List.mem_singleton.1 hv]; rfl)
    simp only [Nat.add_zero] at hst
    have hcl := hs.cells
    rw [hz1] at hcl
    refine ⟨.slice (some ⟨g, 0, none⟩) (us.length + 1) cp, _, ?_, .inr ⟨g, cp, _, by rw [List.length_append]; rfl, hBg, setRow_heap W g cur (cur.toList.take us.length ++ [Value.slice a0 n0 c0] ++ cur.toList.drop (us.length + 1)).toArray 22 (0, 0) hr, by simp; omega, by rw [List.length_append]; exact hrm, ?_⟩, ?_, ?_⟩
    · simp [Builtin.append_, run_underlying Try.underlying24, Builtin.lenOf, sizeOf, typeInfo, hi, hz1, hrm, hcl, Addr.add_lit]
      simp at hst
      rw [hst]
      simp
    · rw [ht]
      exact List.take_left' (by simp)
    · exact (b1.mono hB).trans ((Fr.row (F := fun k => k = g) rfl _).below (Nat.le_trans hB b1.size) fun k e => by rw [e]; exact hBg)
    · intro k cs hk
      have hne : k ≠ g := fun e => by
        have h2 := hk9 k cs hk
        rw [e, hr] at h2
        cases h2
      rw [row_ne hne]
      exact hk9 k cs hk
  · have hg : ∃ ba cp, v = .slice ba us.length cp ∧ us.length ≤ cp ∧ cp < us.length + 1 ∧ (Builtin.firstCells i.size us.length (.slice ba us.length cp)).run Try.prog W.drew = .ok us.toArray W.drew := by
      rcases h1 with ⟨rfl, rfl⟩ | ⟨g, cp, cur, rfl, hBg, hr, hx, hlc, ht⟩
      · exact ⟨none, 0, rfl, Nat.le_refl _, by simp, by simp [Builtin.firstCells]⟩
      · refine ⟨_, cp, rfl, hlc, ?_, ?_⟩
        · rcases Nat.lt_or_ge cp (us.length + 1) with q | q
          · exact q
          · exact absurd ⟨g, cp, cur, rfl, hBg, hr, hx, ht, q⟩ hroom
        · refine run_firstCells_some (P := Try.prog) W.drew i.size us.length ⟨g, 0, none⟩ us.length cp us (by simp [hz1]) ?_
          intro j y hj
          rw [add_off, Nat.zero_add]
          show W.cell? ⟨g, j, none⟩ = _
          rw [Lib.cell_of_heap hr]
          exact rowV_at ht hj
    obtain ⟨ba, cp, rfl, hlc, hlt, hold⟩ := hg
    have hfit : Builtin.nextslicecap (us.length + 1) cp * i.bytes ≤ 281474976710656 := by
      rw [hz2]
      obtain rfl : cp = us.length := by omega
      exact growslice_fits_succ hb (by decide)
    have hr := run_append_grow_src (P := Try.prog) W 24 24 ty 22 i (.slice none 0 0) Try.underlying24 hi hz0 ba us.length cp us hold (.slice (some ⟨w.heap.size, 0, none⟩) 1 1) 1 [.slice a0 n0 c0] hs hlt (by omega) hfit
    have hge := grownCap_ge W (us.length + 1) cp 22
    have hBW : B ≤ W.heap.size := Nat.le_trans hB b1.size
    refine ⟨_, _, hr, .inr ⟨W.heap.size, grownCap W (us.length + 1) cp 22, _, by rw [List.length_append]; rfl, hBW, heap_alloc_new W.drew _, ?_, by rw [List.length_append]; exact hge, ?_⟩, (b1.mono hB).trans ((Below.refl _ W).drew.alloc hBW _), ?_⟩
    · simp [Builtin.zeroCells, Value.cells]
      omega
    · rw [Array.toList_append]
      exact List.take_left' (by simp)
    · intro k cs hk
      have h2 := hk9 k cs hk
      exact (((Below.refl W.heap.size W).drew.alloc (Nat.le_refl _) _).block k (lt_of h2)).trans h2
section
variable {ops : Array Oper} {o : Oper} {a : Act} {K : Act → World → Prop} {Q : Exit → Act → World → Prop} {E : Prop}
/-- an append in a region that draws its order -/
theorem step_app (hgd : o.guard = none) (s x : Operand) (t tx : TypeId) (ho : o.op = .call { callee := .builtin .append, args := #[s, x], argTypes := #[t, tx] }) (v u : Value) (W : World) (hs : a.eval s = v) (hx : a.eval x = u) {R : Value → World → Prop}
    (hr : ∃ v' w', (Builtin.append_ #[t, tx] o.type #[v, u]).run Try.prog W = .ok v' w' ∧ R v' w') (hK : ∀ v' w', R v' w' → K (a.put o.dst v') w') :
    if Region.wanted o (yielded ops a.tmps) = true then Oper.wp Try.prog o a W K Q else E := by
  have hw : Region.wanted o (yielded ops a.tmps) = true := by simp [Region.wanted, hgd]
  rw [if_pos hw]
  obtain ⟨v', w', h1, h2⟩ := hr
  unfold Oper.wp execOp
  simp only [ho, resolve, invoke, builtin, Sem.run_bind, Sem.run_pure, Result.andThen_ok, List.map_toArray, List.map_cons, List.map_nil, hs, hx, h1]
  exact hK _ _ h2
end
def sp : Bs := [115, 112, 97, 114, 101]
/-- a list, with one more behind it, in a row of its own -/
def TW (B : Nat) (w : World) (u : Value) (l : List El) : Prop := ∃ g c, u = .slice (some ⟨g, 0, none⟩) l.length c ∧ RW B w g c (l ++ [sp])
theorem RW.keep {B : Nat} {w w' : World} {g c : Nat} {l : List El} (h : RW B w g c l) (hk : ∀ (k : Nat) (cs : Array Value), w.heap[k]? = some (.cells cs 9 (0, 0)) → B ≤ k → w'.heap[k]? = some (.cells cs 9 (0, 0))) : RW B w' g c l := by
  obtain ⟨h1, cur, h2, r⟩ := h
  exact ⟨h1, cur, hk g cur h2 h1, r⟩
theorem TW.keep {B : Nat} {w w' : World} {u : Value} {l : List El} (h : TW B w u l) (hk : ∀ (k : Nat) (cs : Array Value), w.heap[k]? = some (.cells cs 9 (0, 0)) → B ≤ k → w'.heap[k]? = some (.cells cs 9 (0, 0))) : TW B w' u l := by
  obtain ⟨g, c, e, r⟩ := h
  exact ⟨g, c, e, RW.keep r hk⟩
theorem TW.below {B : Nat} {w w' : World} {u : Value} {l : List El} (h : TW B w u l) (b : Below w.heap.size w w') : TW B w' u l := h.keep fun k cs hk _ => (b.block k (lt_of hk)).trans hk
theorem TW.sl {B : Nat} {w : World} {u : Value} {l : List El} (h : TW B w u l) : SL (fun k => B ≤ k) w u l := by
  obtain ⟨g, c, rfl, r⟩ := h
  have hl := r.len
  rw [List.length_append] at hl
  refine ⟨_, _, rfl, by omega, .inr ⟨g, 0, rfl, r.1, fun j x hj => ?_⟩⟩
  rw [Nat.zero_add]
  exact r.cell (by rw [List.getElem?_append_left (List.getElem?_eq_some_iff.1 hj).1]; exact hj)
theorem TW.mono {B B' : Nat} {w : World} {u : Value} {l : List El} (h : TW B w u l) (hB : B' ≤ B) : TW B' w u l := by
  obtain ⟨g, c, e, r1, r2⟩ := h
  exact ⟨g, c, e, Nat.le_trans hB r1, r2⟩
/-- twins of the lists ls -/
structure TL (B : Nat) (w : World) (v : Value) (us : List Value) (ls : List (List El)) : Prop where
  nv : NV B w v us
  len : us.length = ls.length
  el : ∀ (j : Nat) (u : Value) (l : List El), us[j]? = some u → ls[j]? = some l → TW B w u l
theorem TL.below {B : Nat} {w w' : World} {v : Value} {us : List Value} {ls : List (List El)} (h : TL B w v us ls) (b : Below w.heap.size w w') : TL B w' v us ls :=
  ⟨h.nv.below b, h.len, fun j u l h1 h2 => (h.el j u l h1 h2).below b⟩
theorem TL.ll {B : Nat} {w : World} {v : Value} {us : List Value} {ls : List (List El)} (h : TL B w v us ls) : ∃ a c, v = .slice a ls.length c ∧ ls.length ≤ c ∧ LL (fun k => B ≤ k) w a ls us := by
  obtain ⟨a, c, e, hc, r⟩ := h.nv.rd
  rw [h.len] at e hc
  exact ⟨a, c, e, hc, h.len, r, fun j u l h1 h2 => (h.el j u l h1 h2).sl⟩
theorem LL.lt {G : Nat → Prop} {w : World} {a : Option Addr} {ls : List (List El)} {us : List Value} (h : LL G w a ls us) : LL (fun k => k < w.heap.size) w a ls us :=
  ⟨h.len, h.rd.lt.mono fun _ _ q => q.2, fun j u l h1 h2 => by
    obtain ⟨x, c, e, hc, r⟩ := h.el j u l h1 h2
    exact ⟨x, c, e, hc, r.lt.mono fun _ _ q => q.2⟩⟩
theorem LL.getG {G : Nat → Prop} {w : World} {a : Option Addr} {ls : List (List El)} {us : List Value} (h : LL G w a ls us) {j : Nat} {l : List El} (hj : ls[j]? = some l) : ∃ g o u, a = some ⟨g, o, none⟩ ∧ w.cell? ⟨g, o + j, none⟩ = some u ∧ SL G w u l ∧ G g := by
  have hl : j < ls.length := (List.getElem?_eq_some_iff.1 hj).1
  have hu : j < us.length := by rw [h.len]; exact hl
  obtain ⟨g, o, e, hg, q⟩ := h.rd.get (by omega)
  exact ⟨g, o, us[j], e, q j _ (List.getElem?_eq_getElem hu), h.el j _ _ (List.getElem?_eq_getElem hu) hj, hg⟩
theorem TL.snoc {B : Nat} {w w' : World} {v v' : Value} {us : List Value} {ls : List (List El)} {l : List El} {g c : Nat} (h : TL B w v us ls) (n : NV B w' v' (us ++ [.slice (some ⟨g, 0, none⟩) l.length c])) (r : RW B w g c (l ++ [sp])) (hk : ∀ (k : Nat) (cs : Array Value), w.heap[k]? = some (.cells cs 9 (0, 0)) → w'.heap[k]? = some (.cells cs 9 (0, 0))) : TL B w' v' (us ++ [.slice (some ⟨g, 0, none⟩) l.length c]) (ls ++ [l]) := by
  refine ⟨n, by simp [h.len], fun j u x h1 h2 => ?_⟩
  by_cases q : j < us.length
  · rw [List.getElem?_append_left q] at h1
    rw [List.getElem?_append_left (by rw [← h.len]; exact q)] at h2
    exact (h.el j u x h1 h2).keep fun k cs hc _ => hk k cs hc
  · rw [List.getElem?_append_right (by omega)] at h1
    rw [List.getElem?_append_right (by rw [← h.len]; omega), ← h.len] at h2
    obtain ⟨t, ht⟩ : ∃ t, j - us.length = t := ⟨_, rfl⟩
    rw [ht] at h1 h2
    cases t with
    | zero =>
      cases h1
      cases h2
      exact ⟨g, c, rfl, RW.keep r fun k cs hc _ => hk k cs hc⟩
    | succ t => simp at h1
set_option maxHeartbeats 2000000 in
set_option maxRecDepth 100000 in
theorem twins_call {G : Nat → Prop} {w : World} {a : Option Addr} {c : Nat} {ls : List (List El)} {us0 : List Value} (h : LL G w a ls us0) (hc : ls.length ≤ c) (hl : ls.length * 24 ≤ 140737488355328) (hb : tot ls * 16 ≤ 140737488355328) :
    Calls Try.prog 5 #[.slice a ls.length c] w fun e w' => ∃ r us, e = .returned r ∧ TL w.heap.size w' r us ls ∧ Below w.heap.size w w' := by
  obtain ⟨L, HL⟩ : ∃ L, Hid (L = ls.length) := ⟨_, hid_of rfl⟩
  have HR := hid_of fun (W : World) (b : Below w.heap.size w W) => LL.below (Twins.LL.lt h) b
  have HLT : Hid (∀ m ∈ ls, m.length * 16 ≤ 140737488355328) := hid_of fun m hm => by have := tot_mem hm; omega
  rw [← HL.out] at hl hc ⊢
  clear h hb
  go_enter Try.func5, Try.ntmps5
  go_wp2_with fail
  go_loopg [3, 4] L (fun g s3 s4 wx => ∃ (i : Nat) (ra : Option Addr) (rc : Nat), i ≤ L ∧ L ≤ i + g ∧ s3 = .slice ra i rc ∧ s4 = .int .i64 (i : Int) ∧ Hid (∃ us, TL w.heap.size wx (.slice ra i rc) us (ls.take i) ∧ Below w.heap.size w wx))
  case atStart => exact ⟨0, none, 0, by omega, by omega, rfl, rfl, hid_of ⟨[], ⟨.inl ⟨rfl, rfl⟩, by simp, fun j u l h1 => by simp at h1⟩, Below.refl _ _⟩⟩
  case round =>
    obtain ⟨i, ra, rc, hi, hg, rfl, rfl, R⟩ := hrel
    by_cases hlt : i < L
    · obtain ⟨g', rfl⟩ : ∃ g', gk = g' + 1 := ⟨gk - 1, by omega⟩
      have hil : i < ls.length := by rw [← HL.out]; exact hlt
      obtain ⟨us, tl, bl⟩ := R.out
      obtain ⟨g1, o1, u1, rfl, c1, sl1, hg1⟩ := Twins.LL.getG (HR.out _ bl) (j := i) (l := ls[i]) (List.getElem?_eq_getElem hil)
      obtain ⟨ua, uc, rfl, hc1, rd1⟩ := sl1
      have hul : us.length = i := by rw [tl.len, List.length_take]; omega
      have hlen := HLT.out ls[i] (List.getElem_mem hil)
      have htk : ls.take (i + 1) = ls.take i ++ [ls[i]] := List.take_succ_eq_append_getElem hil
      generalize ls[i] = li at *
      have CC := hid_of fun (W : World) (b : Below wr.heap.size wr W) => (World.cell?_of_block (w := wr) (b.block g1 (cell_lt c1))).trans c1
      have HA : Hid (∀ W, Below wr.heap.size wr W → ∃ v' w', (Builtin.append_ #[22, 22] 22 #[.slice none 0 0, .slice ua li.length uc]).run Try.prog W = .ok v' w' ∧ (NR W.heap.size w' v' li ∧ Below W.heap.size W w')) := hid_of fun W b => by
        obtain ⟨v', w', h1, h2, h3⟩ := app_any (l := []) (B := W.heap.size) (w := W) (c := uc) (.inl ⟨rfl, rfl⟩) (rd1.keep (w' := W) fun k hk _ => b.block k hk) (.inl (by simp; omega)) (Nat.le_refl _) 22
        exact ⟨v', w', h1, h2, h3⟩
      have HB : Hid (∀ (B : Nat) (W : World) (v : Value) (q : Nat), NR B W v li → W.heap[q]? = some (.cells #[.string (mk sp)] 9 (0, 0)) → B ≤ W.heap.size → ∃ v' w', (Builtin.append_ #[22, 22] 22 #[v, .slice (some ⟨q, 0, none⟩) 1 1]).run Try.prog W = .ok v' w' ∧ (∃ g2 c2, v' = .slice (some ⟨g2, 0, none⟩) (li.length + 1) c2 ∧ li.length + 1 ≤ c2 ∧ RW B w' g2 c2 (li ++ [sp]) ∧ Below B W w')) := hid_of fun B W v q hn hq hBW => by
        obtain ⟨v', w', h1, h2, h3⟩ := app_any (G := fun _ => True) (a := some ⟨q, 0, none⟩) (m := [sp]) (c := 1) hn (.inr ⟨q, 0, rfl, trivial, fun j y hj => by
          rw [Lib.cell_of_heap hq]
          cases j with
          | zero => simp at hj; subst hj; rfl
          | succ j => simp at hj⟩) (.inr ⟨rfl, hlen⟩) hBW 22
        obtain ⟨g2, c2, e2, r2⟩ := NR.row h2 (by simp)
        have hl2 := r2.len
        rw [List.length_append] at e2 hl2
        exact ⟨v', w', h1, g2, c2, e2, hl2, r2, h3⟩
      have HC : Hid (∀ (W : World) (a0 : Option Addr) (n0 c0 : Nat), NV w.heap.size W (.slice ra i rc) us → w.heap.size ≤ W.heap.size → ∃ v' w', (Builtin.append_ #[24, 24] 24 #[.slice ra i rc, .slice (some ⟨W.heap.size, 0, none⟩) 1 1]).run Try.prog (W.alloc (.cells #[.slice a0 n0 c0] 22)) = .ok v' w' ∧ (NV w.heap.size w' v' (us ++ [.slice a0 n0 c0]) ∧ Below w.heap.size W w' ∧ ∀ (k : Nat) (cs : Array Value), W.heap[k]? = some (.cells cs 9 (0, 0)) → w'.heap[k]? = some (.cells cs 9 (0, 0)))) := hid_of fun W a0 n0 c0 hn hBW => appV_one a0 n0 c0 hn (by rw [hul]; omega) hBW 24
      have TL0 := hid_of tl
      have BL0 := hid_of bl
      have HU := hid_of hul
      have HT := hid_of htk
      have w2 : IntKind.i64.wrap ((i : Int) + 1) = (i : Int) + 1 := IntWalk.i64_in _ (by omega)
      have sE : mk sp = ⟨#[115, 112, 97, 114, 101]⟩ := rfl
      have d1 : Hid (Below wr.heap.size wr wr.drew) := bel_drewN wr 1
      have d2 : Hid (Below wr.heap.size wr (wr.drew.alloc (.cells #[.string ⟨#[115, 112, 97, 114, 101]⟩] 9))) := hid_of ((Below.refl _ wr).drew.alloc (Nat.le_refl _) _)
      obtain ⟨n1, HN1⟩ : ∃ n1, Hid (n1 = li.length) := ⟨_, hid_of rfl⟩
      rw [← HN1.out] at c1 CC HA HB
      clear tl bl rd1 hc1 hul htk hlen R
      go_wp2_with fail
      go_region_held3 (fun V => V.cell? ⟨g1, o1 + i, none⟩ = some (.slice ua n1 uc)) (first | exact c1 | exact kA | exact kC | exact kE | exact Lib.cell?_alloc_some _ kA | exact Lib.cell?_alloc_some _ kC | exact Lib.cell?_alloc_some _ c1) (first
        | (refine step_app (by rfl) _ _ 22 22 (by rfl) (.slice none 0 0) (.slice ua n1 uc) _ (by rfl) (by rfl) (HA.out _ d1.out) ?_; rintro v1 w1 ⟨q1, k1⟩; have kA := CC.out w1 (d1.out.trans k1); have P1 : Hid (NR wr.heap.size w1 v1 li ∧ Below wr.heap.size wr w1) := hid_of ⟨q1, d1.out.trans k1⟩; clear q1 k1)
        | (refine step_app (by rfl) _ _ 22 22 (by rfl) (.slice none 0 0) (.slice ua n1 uc) _ (by rfl) (by rfl) (HA.out _ d2.out) ?_; rintro v1 w1 ⟨q1, k1⟩; have kA := CC.out w1 (bel d2.out k1 (Nat.le_refl _)); have P2 : Hid (NR wr.heap.size w1 v1 li ∧ Below wr.heap.size wr w1 ∧ w1.heap[wr.heap.size]? = some (.cells #[.string (mk sp)] 9 (0, 0))) := hid_of ⟨q1.mono d2.out.size, bel d2.out k1 (Nat.le_refl _), (k1.block _ (by simp)).trans (heap_alloc_new wr.drew _)⟩; clear q1 k1)
        | (refine step_app (by rfl) _ _ 22 22 (by rfl) v1 (.slice (some ⟨w1.heap.size, 0, none⟩) 1 1) _ (by rfl) (by rfl) (HB.out wr.heap.size _ v1 w1.heap.size (P1.out.1.below ((Below.refl _ w1).alloc (Nat.le_refl _) (.cells #[.string (mk sp)] 9))) (heap_alloc_new w1 _) (by have := P1.out.2.size; simp; omega)) ?_; rintro v2 w2 ⟨g2, c2, rfl, hc2, rw2, k2⟩; have B2 : Hid (Below wr.heap.size wr w2) := hid_of (P1.out.2.trans ((((Below.refl _ w1).alloc (Nat.le_refl _) _).mono P1.out.2.size).trans k2)); have kC := CC.out w2 B2.out; have RW2 := hid_of rw2; have hcut := fun W => cut_hi (some ⟨g2, 0, none⟩) (n1 + 1) c2 n1 (n1 : Int) rfl (by omega) W; have HE := hid_of (HC.out w2 (some ⟨g2, 0, none⟩) n1 c2 (TL0.out.nv.below B2.out) (Nat.le_trans BL0.out.size B2.out.size)); clear k2 rw2)
        | (refine step_app (by rfl) _ _ 22 22 (by rfl) v1 (.slice (some ⟨wr.heap.size, 0, none⟩) 1 1) _ (by rfl) (by rfl) (HB.out wr.heap.size w1 v1 wr.heap.size P2.out.1 P2.out.2.2 P2.out.2.1.size) ?_; rintro v2 w2 ⟨g2, c2, rfl, hc2, rw2, k2⟩; have B2 : Hid (Below wr.heap.size wr w2) := hid_of (P2.out.2.1.trans k2); have kC := CC.out w2 B2.out; have RW2 := hid_of rw2; have hcut := fun W => cut_hi (some ⟨g2, 0, none⟩) (n1 + 1) c2 n1 (n1 : Int) rfl (by omega) W; have HE := hid_of (HC.out w2 (some ⟨g2, 0, none⟩) n1 c2 (TL0.out.nv.below B2.out) (Nat.le_trans BL0.out.size B2.out.size)); clear k2 rw2)
        | (refine step_app (by rfl) _ _ 24 24 (by rfl) (.slice ra i rc) (.slice (some ⟨w2.heap.size, 0, none⟩) 1 1) _ (by rfl) (by rfl) HE.out ?_; rintro v3 w3 ⟨q3, k3, p3⟩; have Q3 := hid_of (And.intro q3 (And.intro k3 p3)); have kE : w3.cell? ⟨g1, o1 + i, none⟩ = some (.slice ua n1 uc) := (World.cell?_of_block (w := w2) (k3.block g1 (by omega))).trans kC; clear q3 k3 p3))
      all_goals
        obtain ⟨q3, k3, p3⟩ := Q3.out
        have K : Hid (∃ us, TL w.heap.size w3 v3 us (ls.take (i + 1)) ∧ Below w.heap.size w w3) := hid_of ⟨_, by
          rw [HT.out]
          have r2 := RW2.out
          have t2 := TL0.out.below B2.out
          rw [HN1.out] at q3
          exact TL.snoc t2 q3 ⟨Nat.le_trans BL0.out.size r2.1, r2.2⟩ p3, (bel BL0.out B2.out (Nat.le_refl _)).trans k3⟩
        obtain ⟨ra3, rc3, e3, _, _⟩ := NV.rd q3
        have hl3 : (us ++ [Value.slice (some ⟨g2, 0, none⟩) n1 c2]).length = i + 1 := by rw [List.length_append, HU.out]; rfl
        rw [hl3] at e3
        subst e3
        clear q3 k3 p3 Q3 hl3
        go_wp2_with fail
        go_roundg g'
        case measure => omega
        case rel => exact ⟨i + 1, ra3, rc3, by omega, by omega, rfl, by simp, K⟩
    · have HE : Hid (ls.take i = ls) := hid_of (List.take_of_length_le (by have := HL.out; omega))
      have R2 := hid_of R.out
      clear R
      go_wp2_with fail
      go_ret
      obtain ⟨us, r1, r2⟩ := R2.out
      rw [HE.out] at r1
      exact ⟨_, us, rfl, r1, r2⟩
end Go.Proofs.Ythhlembempknmab.Twins
