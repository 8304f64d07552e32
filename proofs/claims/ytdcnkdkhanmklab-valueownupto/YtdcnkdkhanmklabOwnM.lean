/- Values in new memory, in blocks of their own. A region of two calls, two boxes and two stores, in whatever order the calls and the boxes come up. The law ValueOwn. -/
import Derived.Test.YtdcnkdkhanmklabSpoil
import Derived.Test.YtdcnkdkhanmklabAwake
import Derived.Test.YtdcnkdkhanmklabApart
import Derived.OrdersHeld
import Derived.RegionTactic
section
namespace Go.Proofs.Ytdcnkdkhanmklab.Npv
open Go.RowKit Go.Maps
open Go.Proofs.Ytdcnkdkhanmklab.SetMath
open Go.Proofs.Ytdcnkdkhanmklab.BytesMath
open Go.Proofs.Ytdcnkdkhanmklab.ValueMath
open Go.Proofs.Ytdcnkdkhanmklab.Base
open Go.Proofs.Ytdcnkdkhanmklab.Vals
open Go.Proofs.Ytdcnkdkhanmklab.Check0
open Go.Proofs.Ytdcnkdkhanmklab.Enc
open Go.Proofs.Ytdcnkdkhanmklab.Dec
open Go.Proofs.Ytdcnkdkhanmklab.Apart
open Go.Proofs.Ytdcnkdkhanmklab.Spare
open Go.Proofs.Ytdcnkdkhanmklab.Kept
open Go.Proofs.Ytdcnkdkhanmklab.SpoilM (Sw rt_keep rw_keep)
set_option linter.unusedVariables false
set_option linter.unusedSimpArgs false
/- a value in new memory, in blocks of which P holds -/
structure NP (P : Nat → Prop) (W : World) (x : Vl) (a1 a2 a3 : Option Addr) (c1 c2 c3 : Nat) : Prop where
  l : NR 0 W (.slice a1 x.list.length c1) x.list
  f : FRow.OR 0 W (.slice a2 (List.length x.fields) c2) x.fields
  r : ERow.OR 0 W (.slice a3 (List.length x.ranked) c3) x.ranked
  o1 : ∀ k, (Value.slice a1 x.list.length c1).ownBlock = some k → P k
  o2 : ∀ k, (Value.slice a2 (List.length x.fields) c2).ownBlock = some k → P k
  o3 : ∀ k, (Value.slice a3 (List.length x.ranked) c3).ownBlock = some k → P k
abbrev vv (x : Vl) (a1 a2 a3 : Option Addr) (c1 c2 c3 : Nat) : Value := .agg #[.int .i64 x.kind, .string (mk x.text), .slice a1 x.list.length c1, .slice a2 (List.length x.fields) c2, .slice a3 (List.length x.ranked) c3]
theorem own_row {B t sz n : Nat} {w : World} {v : Value} {xs : List Value} (h : w.ownsRow B t sz v n xs) : ∀ k, v.ownBlock = some k → B ≤ k ∧ k < w.heap.size := fun k hk => by
  rcases h.2 with ⟨rfl, _⟩ | ⟨g, cap, cur, rfl, hb, hg, _⟩
  · cases hk
  · injection hk with hk
    have e : g = k := hk
    subst e
    exact ⟨hb, lt_of hg⟩
theorem own_nr {B : Nat} {w : World} {v : Value} {l : List El} (h : NR B w v l) : ∀ k, v.ownBlock = some k → B ≤ k ∧ k < w.heap.size := fun k hk => by
  rcases h with ⟨rfl, _⟩ | ⟨g, c, cur, rfl, hB, hr, _⟩
  · cases hk
  · injection hk with hk
    have e : g = k := hk
    subst e
    exact ⟨hB, lt_of hr⟩
theorem np_of {B : Nat} {W : World} {v : Value} {x : Vl} (h : VN B W v x) : ∃ a1 a2 a3 c1 c2 c3, v = vv x a1 a2 a3 c1 c2 c3 ∧ NP (fun k => B ≤ k ∧ k < W.heap.size) W x a1 a2 a3 c1 c2 c3 := by
  obtain ⟨a, b, c, rfl, h1, h2, h3⟩ := h
  obtain ⟨a1, c1, rfl, _⟩ := h1.shape
  obtain ⟨a2, c2, rfl⟩ := shapeFRow h2
  obtain ⟨a3, c3, rfl⟩ := shapeERow h3
  exact ⟨a1, a2, a3, c1, c2, c3, rfl, h1.mono (Nat.zero_le _), FRow.row_mono h2 (Nat.zero_le _), FRow.row_mono h3 (Nat.zero_le _), own_nr h1, own_row h2, own_row h3⟩
section
variable {P Q : Nat → Prop} {W W' : World} {x : Vl} {a1 a2 a3 : Option Addr} {c1 c2 c3 : Nat}
theorem NP.keep (h : NP P W x a1 a2 a3 c1 c2 c3) (hk : ∀ k, k < W.heap.size → P k → W'.heap[k]? = W.heap[k]?) : NP P W' x a1 a2 a3 c1 c2 c3 := by
  refine ⟨?_, ?_, ?_, h.o1, h.o2, h.o3⟩
  · rcases h.l with e | ⟨g, c, cur, e, hB, hr, r⟩
    · exact .inl e
    · exact .inr ⟨g, c, cur, e, hB, (hk g (lt_of hr) (h.o1 g (by rw [e]; rfl))).trans hr, r⟩
  · refine ⟨h.f.1, h.f.2.imp id ?_⟩
    rintro ⟨g, cap, cur, e, hB, hr, r⟩
    exact ⟨g, cap, cur, e, hB, (hk g (lt_of hr) (h.o2 g (by rw [e]; rfl))).trans hr, r⟩
  · refine ⟨h.r.1, h.r.2.imp id ?_⟩
    rintro ⟨g, cap, cur, e, hB, hr, r⟩
    exact ⟨g, cap, cur, e, hB, (hk g (lt_of hr) (h.o3 g (by rw [e]; rfl))).trans hr, r⟩
theorem NP.below (h : NP P W x a1 a2 a3 c1 c2 c3) (b : Below W.heap.size W W') : NP P W' x a1 a2 a3 c1 c2 c3 := h.keep fun k hk _ => b.block k hk
theorem NP.fr (h : NP P W x a1 a2 a3 c1 c2 c3) (f : Fr Q W W') (hd : ∀ k, P k → ¬ Q k) : NP P W' x a1 a2 a3 c1 c2 c3 := h.keep fun k hk hp => f.block k hk (hd k hp)
theorem NP.va (h : NP P W x a1 a2 a3 c1 c2 c3) : VA W (vv x a1 a2 a3 c1 c2 c3) x := ⟨_, _, _, rfl, nr_sl h.l, FRow.fs_row h.f, ERow.fs_row h.r⟩
theorem NP.spoil (h : NP P W x a1 a2 a3 c1 c2 c3) (hP : ∀ k, P k → k < W.heap.size) (hx : small x) : Calls Try.prog 6 #[vv x a1 a2 a3 c1 c2 c3] W fun e w' => e = .returned (.tuple #[]) ∧ Fr P W w' := by
  obtain ⟨s1, s2, s3⟩ := hx
  exact Spoil.spoil_raw P W (.int .i64 0) (Base.mk x.text) x.kind a1 a2 a3 _ _ _ c1 c2 c3 (fun o => by
    have h' := h.below (FRow.bnew W o)
    exact ⟨Fr.refl _ _, ⟨x.list, rfl, h'.l⟩, ⟨_, h'.f⟩, ⟨_, h'.r⟩, fun k hk => .inl (h'.o1 k hk), fun k hk => .inl (h'.o2 k hk), fun k hk => .inl (h'.o3 k hk)⟩) hP (by omega) (by omega) (by omega)
end
theorem bA {W U : World} (h : Below W.heap.size W U) (o : Obj) : Below W.heap.size W (U.alloc o) := h.alloc h.size o
theorem bS {W U : World} (h : Below W.heap.size W U) {b i : Nat} (hb : W.heap.size ≤ b) (v : Value) : Below W.heap.size W (U.setCell ⟨b, i, none⟩ v) := h.setCell hb v
theorem sp_lt {B : Nat} {w : World} {x : Vl} {g1 c1 g2 c2 g3 c3 : Nat} (h : SP B w x g1 c1 g2 c2 g3 c3) : g1 < w.heap.size ∧ g2 < w.heap.size ∧ g3 < w.heap.size := ⟨(own_nr h.l g1 rfl).2, (own_row h.f g2 rfl).2, (own_row h.r g3 rfl).2⟩
theorem sp_keep {B : Nat} {w w' : World} {x : Vl} {g1 c1 g2 c2 g3 c3 : Nat} (h : SP B w x g1 c1 g2 c2 g3 c3) (h1 : w'.heap[g1]? = w.heap[g1]?) (h2 : w'.heap[g2]? = w.heap[g2]?) (h3 : w'.heap[g3]? = w.heap[g3]?) : SP B w' x g1 c1 g2 c2 g3 c3 := by
  refine ⟨?_, ?_, ?_⟩
  · rcases h.l with ⟨e, _⟩ | ⟨g, c, cur, e, hB, hr, r⟩
    · cases e
    · obtain rfl : g1 = g := by injection e with e; injection e with e; injection e
      exact .inr ⟨g1, c, cur, e, hB, h1.trans hr, r⟩
  · refine ⟨h.f.1, h.f.2.imp id ?_⟩
    rintro ⟨g, cap, cur, e, hB, hr, r⟩
    obtain rfl : g2 = g := by injection e with e; injection e with e; injection e
    exact ⟨g2, cap, cur, e, hB, h2.trans hr, r⟩
  · refine ⟨h.r.1, h.r.2.imp id ?_⟩
    rintro ⟨g, cap, cur, e, hB, hr, r⟩
    obtain rfl : g3 = g := by injection e with e; injection e with e; injection e
    exact ⟨g3, cap, cur, e, hB, h3.trans hr, r⟩
theorem room {x : Vl} (nx : Nc x) : List.length x.fields + 1 ≤ FRow.big ∧ List.length x.ranked + 1 ≤ ERow.big := by
  obtain ⟨h1, h2, h3⟩ := nx.sm
  unfold FRow.big ERow.big
  exact ⟨by omega, by omega⟩
end Go.Proofs.Ytdcnkdkhanmklab.Npv
end
section
namespace Go.Proofs.Ytdcnkdkhanmklab.AnyV
open Go Go.RowKit
open Go.Proofs.Ytdcnkdkhanmklab.ValueMath
open Go.Proofs.Ytdcnkdkhanmklab.Base
open Go.Proofs.Ytdcnkdkhanmklab.Vals
open Go.Proofs.Ytdcnkdkhanmklab.Npv
set_option linter.unusedVariables false
set_option linter.unusedSimpArgs false
section
variable {P : Program} {ops : Array Oper} {Q : Exit → Act → World → Prop} {md : Region.Mode} {S : World → Prop}
/-- until D: what comes up keeps Inv -/
theorem inv_until {Inv : Nat → Array Bool → Act → World → Prop} {D : Array Bool → Prop} (hS : ∀ n l a w, Inv n l a w → S w) (hD : ∀ n l a w, Inv n l a w → D l → wpAnyH P md ops Q S n l a w)
    (hz : ∀ l a w, Inv 0 l a w → D l)
    (hstep : ∀ n l a w, Inv (n + 1) l a w → ¬ D l → Region.ready md ops l ≠ [] ∧ ∀ i ∈ Region.ready md ops l, wpOp P ops Q i (fun a' w' => Inv n (l.setIfInBounds i true) a' w') a w) :
    ∀ (n : Nat) (l : Array Bool) (a : Act) (w : World), Inv n l a w → wpAnyH P md ops Q S n l a w
  | 0, l, a, w, h => hD 0 l a w h (hz l a w h)
  | n + 1, l, a, w, h => by
    by_cases hd : D l
    · exact hD _ l a w h hd
    · obtain ⟨h1, h2⟩ := hstep n l a w h hd
      exact ⟨fun h0 => absurd h0 h1, fun i hi => wpOp_mono (fun a' w' h' => ⟨hS _ _ _ _ h', inv_until hS hD hz hstep n _ a' w' h'⟩) (h2 i hi)⟩
end
section
variable {P : Program} {ops : Array Oper} {Q : Exit → Act → World → Prop} {md : Region.Mode} {S : World → Prop}
/- one alone may come up -/
theorem oneH {i : Nat} {o : Oper} {fuel : Nat} {listed : Array Bool} {a : Act} {w : World} (ho : ops[i]? = some o) (hr : Region.ready md ops listed = [i])
    (h : ∀ K' : Act → World → Prop, (∀ a' w', S w' → wpAnyH P md ops Q S fuel (listed.setIfInBounds i true) a' w' → K' a' w') → if Region.wanted o (yielded ops a.tmps) = true then Oper.wp P o a w K' Q else K' (a.put o.dst undef) w) : wpAnyH P md ops Q S (fuel + 1) listed a w := by
  refine wpAnyH_all hr (by simp) fun j hj => ?_
  obtain rfl : j = i := List.mem_singleton.1 hj
  exact wpOp_step ho (fun K' hK => h K' (fun a' w' h1 h2 => hK a' w' ⟨h1, h2⟩))
end
structure Is (ops : Array Oper) (i : Nat) (op : Op) (dst : Nat) : Prop where
  ex : ∃ o, ops[i]? = some o ∧ o.guard = none ∧ o.op = op ∧ o.dst = some dst
theorem Is.value {ops : Array Oper} {Q : Exit → Act → World → Prop} {i : Nat} {op : Op} {dst : Nat} (h : Is ops i op dst) {a : Act} {w w' : World} {v : Value} {K : Act → World → Prop}
    (hx : ∀ o : Oper, o.op = op → (execOp a.eval o).run Try.prog w = .ok (.value v) w') (hK : K (a.put (some dst) v) w') : wpOp Try.prog ops Q i K a w := by
  obtain ⟨o, h1, h2, h3, h4⟩ := h.ex
  unfold wpOp
  simp only [h1]
  have hw : Region.wanted o (yielded ops a.tmps) = true := by simp [Region.wanted, h2]
  simp only [hw, if_true]
  refine .inl ?_
  unfold Oper.wp
  rw [hx o h3]
  simp only [Oper.upon]
  rw [h4]
  exact hK
theorem Is.call {ops : Array Oper} {Q : Exit → Act → World → Prop} {i : Nat} {op : Op} {dst : Nat} (h : Is ops i op dst) {a : Act} {w : World} {f : FuncId} {args : Array Value} {K : Act → World → Prop}
    (hx : ∀ o : Oper, o.op = op → (execOp a.eval o).run Try.prog w = .ok (.enter f args) w) (hK : Calls Try.prog f args w fun e w' => ∃ v, e = .returned v ∧ K (a.put (some dst) v) w') : wpOp Try.prog ops Q i K a w := by
  obtain ⟨o, h1, h2, h3, h4⟩ := h.ex
  unfold wpOp
  simp only [h1]
  have hw : Region.wanted o (yielded ops a.tmps) = true := by simp [Region.wanted, h2]
  simp only [hw, if_true]
  refine .inl ?_
  unfold Oper.wp
  rw [hx o h3]
  simp only [Oper.upon]
  refine hK.mono ?_
  rintro e w' ⟨v, rfl, hk⟩
  rw [h4]
  exact hk
theorem exec_copy (a : Act) (w : World) (t : Nat) (o : Oper) (ho : o.op = .call { callee := .value (.func 5), args := #[.tmp t], argTypes := #[26] }) : (execOp a.eval o).run Try.prog w = .ok (.enter 5 #[a.eval (.tmp t)]) w := by
  cases o
  simp only at ho
  subst ho
  kernel_rfl
abbrev zBox : Obj := .cells #[.int .i64 0, .string ⟨#[]⟩, .slice none 0 0, .slice none 0 0, .slice none 0 0] 26 (0, 0)
theorem exec_alloc (a : Act) (w : World) (o : Oper) (ho : o.op = .alloc 26) : (execOp a.eval o).run Try.prog w = .ok (.value (.pointer (some ⟨w.heap.size, 0, none⟩))) (w.alloc zBox) := by
  cases o
  simp only at ho
  subst ho
  kernel_rfl
/- four of the slots -/
def slots : List Nat := [20, 22, 4, 5]
def puts (A : Act) (f : Nat → Value) : Act := { A with tmps := A.tmps.mapIdx fun i v => if i ∈ slots then f i else v }
theorem eval_out {A : Act} {f : Nat → Value} {s : Nat} (hs : s ∉ slots) : (puts A f).eval (.tmp s) = A.eval (.tmp s) := by
  unfold puts Act.eval
  simp [hs]
def upd (f : Nat → Value) (s : Nat) (v : Value) : Nat → Value := fun t => if t = s then v else f t
theorem upd_same (f : Nat → Value) (s : Nat) (v : Value) : upd f s v s = v := by unfold upd; rw [if_pos rfl]
theorem upd_ne {f : Nat → Value} {s t : Nat} {v : Value} (h : t ≠ s) : upd f s v t = f t := by unfold upd; rw [if_neg h]
theorem put_puts {A : Act} {f : Nat → Value} {s : Nat} {v : Value} (hs : s ∈ slots) : (puts A f).put (some s) v = puts A (upd f s v) := by
  unfold puts Act.put
  simp only
  congr 1
  apply Array.ext_getElem?
  intro i
  by_cases e : i = s
  · subst e
    rcases Nat.lt_or_ge i A.tmps.size with q | q
    · simp [q, hs, upd_same]
    · simp [Array.getElem?_eq_none q]
      exact q
  · rw [Array.getElem?_setIfInBounds_ne (Ne.symm e)]
    simp only [Array.getElem?_mapIdx]
    congr 1
    funext v'
    by_cases q : i ∈ slots
    · rw [if_pos q, if_pos q, upd_ne e]
    · rw [if_neg q, if_neg q]
theorem puts_self (A : Act) : puts A (fun s => A.tmps.getD s undef) = A := by
  unfold puts
  cases A with
  | mk t d =>
    simp only
    congr 1
    apply Array.ext_getElem?
    intro i
    rcases Nat.lt_or_ge i t.size with q | q
    · simp [q]
    · simp [Array.getElem?_eq_none q]
/- what the four leave: a copy in the blocks from lo to hi, or a box at lo -/
def Vv (x : Vl) (lo hi : Nat) (w : World) (v : Value) : Prop := ∃ a1 a2 a3 c1 c2 c3, v = vv x a1 a2 a3 c1 c2 c3 ∧ NP (fun k => lo ≤ k ∧ k < hi) w x a1 a2 a3 c1 c2 c3
def Bx (lo hi : Nat) (w : World) (v : Value) : Prop := v = .pointer (some ⟨lo, 0, none⟩) ∧ hi = lo + 1 ∧ w.heap[lo]? = some zBox
def sl (i : Nat) : Nat := if i = 1 then 20 else if i = 3 then 22 else i
def Fact (x : Vl) (i lo hi : Nat) (w : World) (v : Value) : Prop := if i = 1 ∨ i = 3 then Vv x lo hi w v else Bx lo hi w v
theorem Fact.keep {x : Vl} {i lo hi : Nat} {w w' : World} {v : Value} (h : Fact x i lo hi w v) (b : Below w.heap.size w w') : Fact x i lo hi w' v := by
  unfold Fact at *
  split
  · rename_i q
    rw [if_pos q] at h
    obtain ⟨a1, a2, a3, c1, c2, c3, e, hn⟩ := h
    exact ⟨a1, a2, a3, c1, c2, c3, e, hn.below b⟩
  · rename_i q
    rw [if_neg q] at h
    obtain ⟨e1, e2, e3⟩ := h
    exact ⟨e1, e2, (b.block lo (lt_of e3)).trans e3⟩
def four : List Nat := [1, 3, 4, 5]
def arr (b : Nat → Bool) : Array Bool := #[true, b 1, true, b 3, b 4, b 5, false, false]
def mkb (b : Nat → Bool) (i : Nat) : Nat → Bool := fun j => decide (j = i) || b j
theorem arr_set {b : Nat → Bool} {i : Nat} (hi : i ∈ four) : (arr b).setIfInBounds i true = arr (mkb b i) := by
  unfold four at hi
  simp at hi
  rcases hi with rfl | rfl | rfl | rfl <;> simp [arr, mkb]
def cnt (b : Nat → Bool) : Nat := (if b 1 then 0 else 1) + (if b 3 then 0 else 1) + (if b 4 then 0 else 1) + (if b 5 then 0 else 1)
theorem cnt_mk {b : Nat → Bool} {i : Nat} (hi : i ∈ four) (h : b i = false) : cnt (mkb b i) + 1 = cnt b := by
  unfold four at hi
  simp at hi
  rcases hi with rfl | rfl | rfl | rfl <;> simp [cnt, mkb, h] <;> omega
theorem cnt_all {b : Nat → Bool} (h : cnt b = 0) : ∀ i ∈ four, b i = true := by
  unfold cnt at h
  intro i hi
  unfold four at hi
  simp at hi
  cases h1 : b 1 <;> cases h3 : b 3 <;> cases h4 : b 4 <;> cases h5 : b 5 <;> simp [h1, h3, h4, h5] at h <;> rcases hi with rfl | rfl | rfl | rfl <;> assumption
/-- what has come up, and where it lies -/
structure Ok (W : World) (x : Vl) (f : Nat → Value) (R : Nat → Nat × Nat) (b : Nat → Bool) (w : World) : Prop where
  bl : Below W.heap.size W w
  fact : ∀ i ∈ four, b i = true → W.heap.size ≤ (R i).1 ∧ (R i).2 ≤ w.heap.size ∧ Fact x i (R i).1 (R i).2 w (f (sl i))
  apart : ∀ i ∈ four, ∀ j ∈ four, i ≠ j → b i = true → b j = true → (R i).2 ≤ (R j).1 ∨ (R j).2 ≤ (R i).1
theorem sl_in : ∀ i ∈ four, sl i ∈ slots := by decide
theorem sl_inj : ∀ i ∈ four, ∀ j ∈ four, i ≠ j → sl i ≠ sl j := by decide
theorem Ok.step {W w w' : World} {x : Vl} {f : Nat → Value} {R : Nat → Nat × Nat} {b : Nat → Bool} {i : Nat} {r : Value} (h : Ok W x f R b w) (hi : i ∈ four) (hb : Below w.heap.size w w') (hf : Fact x i w.heap.size w'.heap.size w' r) :
    Ok W x (upd f (sl i) r) (fun j => if j = i then (w.heap.size, w'.heap.size) else R j) (mkb b i) w' := by
  have hs := hb.size
  have hW := h.bl.size
  refine ⟨FRow.bel h.bl hb (Nat.le_refl _), fun j hj e => ?_, fun j hj k hk hne e1 e2 => ?_⟩
  · by_cases c : j = i
    · subst c
      simp only [if_true]
      rw [upd_same]
      exact ⟨hW, Nat.le_refl _, hf⟩
    · simp only [if_neg c]
      have e' : b j = true := by simpa [mkb, c] using e
      obtain ⟨k1, k2, k3⟩ := h.fact j hj e'
      rw [upd_ne (sl_inj j hj i hi c)]
      exact ⟨k1, Nat.le_trans k2 hs, k3.keep hb⟩
  · by_cases c : j = i
    · subst c
      have c' : k ≠ j := Ne.symm hne
      have e' : b k = true := by simpa [mkb, c'] using e2
      obtain ⟨k1, k2, k3⟩ := h.fact k hk e'
      simp only [if_true, if_neg c']
      exact .inr k2
    · have e' : b j = true := by simpa [mkb, c] using e1
      by_cases c' : k = i
      · subst c'
        obtain ⟨k1, k2, k3⟩ := h.fact j hj e'
        simp only [if_true, if_neg c]
        exact .inl k2
      · have e'' : b k = true := by simpa [mkb, c'] using e2
        simp only [if_neg c, if_neg c']
        exact h.apart j hj k hk hne e' e''
theorem region_v {ops : Array Oper} {Q : Exit → Act → World → Prop} {S : World → Prop} {W : World} {x : Vl} {G : Value} {A0 : Act} {w : World}
    (I1 : Is ops 1 (.call { callee := .value (.func 5), args := #[.tmp 19], argTypes := #[26] }) 20)
    (I3 : Is ops 3 (.call { callee := .value (.func 5), args := #[.tmp 21], argTypes := #[26] }) 22)
    (I4 : Is ops 4 (.alloc 26) 4) (I5 : Is ops 5 (.alloc 26) 5)
    (e19 : A0.eval (.tmp 19) = G) (e21 : A0.eval (.tmp 21) = G)
    (hrd : ∀ b1 b3 b4 b5 : Bool, (b1 && b3 && b4 && b5) = false → Region.ready .any ops #[true, b1, true, b3, b4, b5, false, false] ≠ [] ∧ ∀ i ∈ Region.ready .any ops #[true, b1, true, b3, b4, b5, false, false], i ∈ four ∧ #[true, b1, true, b3, b4, b5, false, false].getD i true = false)
    (hS : ∀ U, Below W.heap.size W U → S U) (kc : ∀ U, Below W.heap.size W U → Calls Try.prog 5 #[G] U fun e w' => ∃ v, e = .returned v ∧ Vv x U.heap.size w'.heap.size w' v ∧ Below U.heap.size U w')
    (hw : Below W.heap.size W w)
    {F : (Nat → Value) → Act} (hFF : ∀ f, puts A0 f = F f)
    (hfin : ∀ f R U b, (∀ i ∈ four, b i = true) → Ok W x f R b U → wpAnyH Try.prog .any ops Q S 2 #[true, true, true, true, true, true, false, false] (F f) U) :
    wpAnyH Try.prog .any ops Q S 6 #[true, false, true, false, false, false, false, false] A0 w := by
  refine inv_until (Inv := fun n l a w => ∃ f R b, n = 2 + cnt b ∧ l = arr b ∧ a = puts A0 f ∧ Ok W x f R b w) (D := fun l => l = #[true, true, true, true, true, true, false, false]) ?_ ?_ ?_ ?_ 6 _ A0 w ⟨_, fun _ => (0, 0), fun _ => false, by simp [cnt], by simp [arr], (puts_self A0).symm, hw, fun i _ e => by simp at e, fun i _ j _ _ e => by simp at e⟩
  · rintro n l a w ⟨f, R, b, -, -, -, h⟩
    exact hS w h.bl
  · rintro n l a w ⟨f, R, b, rfl, e, rfl, h⟩ hd
    have hb : ∀ i ∈ four, b i = true := by
      rw [e] at hd
      unfold arr at hd
      simp at hd
      obtain ⟨q1, q3, q4, q5⟩ := hd
      intro i hi
      unfold four at hi
      simp at hi
      rcases hi with rfl | rfl | rfl | rfl <;> assumption
    have hc : cnt b = 0 := by
      unfold cnt
      rw [hb 1 (by decide), hb 3 (by decide), hb 4 (by decide), hb 5 (by decide)]
      rfl
    rw [hc, hd, hFF]
    exact hfin f R w b hb h
  · rintro l a w ⟨f, R, b, hn, -, -, -⟩
    omega
  · rintro n l a w ⟨f, R, b, hn, rfl, rfl, h⟩ hd
    have hnb : (b 1 && b 3 && b 4 && b 5) = false := by
      cases e : (b 1 && b 3 && b 4 && b 5) with
      | false => rfl
      | true =>
        exfalso
        simp only [Bool.and_eq_true] at e
        exact hd (by unfold arr; rw [e.1.1.1, e.1.1.2, e.1.2, e.2])
    obtain ⟨r1, r2⟩ := hrd _ _ _ _ hnb
    refine ⟨r1, fun i hi => ?_⟩
    obtain ⟨i4, i5⟩ := r2 i hi
    have hbi : b i = false := by
      have hi4 := i4
      unfold four at hi4
      simp at hi4
      rcases hi4 with rfl | rfl | rfl | rfl <;> simpa using i5
    have hcn := cnt_mk i4 hbi
    have go : ∀ (r : Value) (w' : World), Below w.heap.size w w' → Fact x i w.heap.size w'.heap.size w' r → ∃ f' R' b', n = 2 + cnt b' ∧ (arr b).setIfInBounds i true = arr b' ∧ (puts A0 f).put (some (sl i)) r = puts A0 f' ∧ Ok W x f' R' b' w' := fun r w' hb hf => ⟨_, _, _, by omega, arr_set i4, put_puts (sl_in i i4), h.step i4 hb hf⟩
    have hi4 := i4
    unfold four at hi4
    simp at hi4
    have out : ∀ t, t ∉ slots → (puts A0 f).eval (.tmp t) = A0.eval (.tmp t) := fun t ht => eval_out ht
    rcases hi4 with rfl | rfl | rfl | rfl
    · refine I1.call (fun o ho => exec_copy _ w 19 o ho) ?_
      rw [out 19 (by decide), e19]
      exact (kc w h.bl).mono fun e w' ⟨v, e1, e2, e3⟩ => ⟨v, e1, go v w' e3 (by unfold Fact; rw [if_pos (by decide)]; exact e2)⟩
    · refine I3.call (fun o ho => exec_copy _ w 21 o ho) ?_
      rw [out 21 (by decide), e21]
      exact (kc w h.bl).mono fun e w' ⟨v, e1, e2, e3⟩ => ⟨v, e1, go v w' e3 (by unfold Fact; rw [if_pos (by decide)]; exact e2)⟩
    · refine I4.value (fun o ho => exec_alloc _ w o ho) ?_
      exact go _ _ (FRow.bnew w _) (by unfold Fact; rw [if_neg (by decide)]; exact ⟨rfl, by simp, heap_alloc_new w _⟩)
    · refine I5.value (fun o ho => exec_alloc _ w o ho) ?_
      exact go _ _ (FRow.bnew w _) (by unfold Fact; rw [if_neg (by decide)]; exact ⟨rfl, by simp, heap_alloc_new w _⟩)
end Go.Proofs.Ytdcnkdkhanmklab.AnyV
end
section
namespace Go.Proofs.Ytdcnkdkhanmklab.OwnL
open Go.RowKit Go.Maps
open Go.Proofs.Ytdcnkdkhanmklab.SetMath
open Go.Proofs.Ytdcnkdkhanmklab.BytesMath
open Go.Proofs.Ytdcnkdkhanmklab.ValueMath
open Go.Proofs.Ytdcnkdkhanmklab.Base
open Go.Proofs.Ytdcnkdkhanmklab.Vals
open Go.Proofs.Ytdcnkdkhanmklab.Check0
open Go.Proofs.Ytdcnkdkhanmklab.Enc
open Go.Proofs.Ytdcnkdkhanmklab.Dec
open Go.Proofs.Ytdcnkdkhanmklab.Apart
open Go.Proofs.Ytdcnkdkhanmklab.Spare
open Go.Proofs.Ytdcnkdkhanmklab.Kept
open Go.Proofs.Ytdcnkdkhanmklab.SpoilM (Sw rt_keep rw_keep)
open Go.Proofs.Ytdcnkdkhanmklab.Npv
set_option linter.unusedVariables false
set_option linter.unusedSimpArgs false
theorem dec_np {x : Vl} (nx : Nc x) (hc : chk x = 0) (W : World) : Calls Try.prog 11 #[.string (mk (enc x))] W fun e w' => ∃ a1 a2 a3 d1 d2 d3, e = .returned (.tuple #[.agg #[.int .i64 x.kind, .string (mk x.text), .slice a1 x.list.length d1, .slice a2 (List.length x.fields) d2, .slice a3 (List.length x.ranked) d3], .int .i64 ((enc x).length : Int), .int .i64 0]) ∧ Hid (NP (fun k => W.heap.size ≤ k ∧ k < w'.heap.size) w' x a1 a2 a3 d1 d2 d3 ∧ Below W.heap.size W w') := by
  refine (decode_call (enc x) W (Nat.le_trans nx.len (by decide))).mono ?_
  rintro e w' ⟨v, h1, h2, h3⟩
  have hd : decV (enc x) = (x, (enc x).length, 0) := by
    have := dec_app x [] hc nx.sm
    rw [List.append_nil] at this
    unfold decV
    rw [this]
  rw [hd] at h1 h2
  obtain ⟨a1, a2, a3, d1, d2, d3, rfl, hn⟩ := np_of h2
  exact ⟨_, _, _, _, _, _, h1, hid_of ⟨hn, h3⟩⟩
set_option maxHeartbeats 4000000 in
set_option maxRecDepth 100000 in
theorem own_call {w : World} {u : Value} {x : Vl} (h : VA w u x) (nx : Nc x) :
    Calls Try.prog 3 #[u] w fun e w' => e = .returned (.bool true) ∧ Below w.heap.size w w' := by
  have HS := hid_of fun (W : World) (hW : Below w.heap.size w W) => spare_call (h.below hW) nx.wel.toFit nx.wel.toFit.l (room nx).1 (room nx).2
  have HA := hid_of fun W => Awake.awake_call W
  have HVX := hid_of fun (W : World) (hW : Below w.heap.size w W) => h.below hW
  obtain ⟨a, b, c, rfl, h1, h2, h3⟩ := h
  obtain ⟨aa, ac, rfl, _, _⟩ := id h1
  obtain ⟨ba, bc, rfl, _, _⟩ := id h2
  obtain ⟨ca, cc, rfl, _, _⟩ := id h3
  clear h1 h2 h3
  unfold spV at HS
  obtain ⟨V, hV⟩ : ∃ V, V = w.alloc (.cells #[.int .i64 x.kind, .string (mk x.text), .slice aa x.list.length ac, .slice ba (List.length x.fields) bc, .slice ca (List.length x.ranked) cc] 26) := ⟨_, rfl⟩
  have bV : Below w.heap.size w V := by rw [hV]; exact FRow.bnew w _
  have v0 : V.heap[w.heap.size]? = some (.cells #[.int .i64 x.kind, .string (mk x.text), .slice aa x.list.length ac, .slice ba (List.length x.fields) bc, .slice ca (List.length x.ranked) cc] 26 (0, 0)) := by rw [hV]; exact heap_alloc_new w _
  have HV := hid_of hV
  have HB := hid_of bV
  have HV0 := hid_of v0
  clear v0 bV hV
  go_enter Try.func3, Try.ntmps3
  go_wp2_with fail
  rw [← HV.out]
  refine (HS.out V HB.out).mono ?_
  rintro e w1 ⟨g1, c1, g2, c2, g3, c3, rfl, N1⟩
  obtain ⟨W, hW⟩ : ∃ W, W = w1.alloc (.cells #[.int .i64 x.kind, .string (mk x.text), .slice (some ⟨g1, 0, none⟩) x.list.length c1, .slice (some ⟨g2, 0, none⟩) (List.length x.fields) c2, .slice (some ⟨g3, 0, none⟩) (List.length x.ranked) c3] 26) := ⟨_, rfl⟩
  have bW : Below w1.heap.size w1 W := by rw [hW]; exact FRow.bnew w1 _
  have x1 : W.heap[w1.heap.size]? = some (.cells #[.int .i64 x.kind, .string (mk x.text), .slice (some ⟨g1, 0, none⟩) x.list.length c1, .slice (some ⟨g2, 0, none⟩) (List.length x.fields) c2, .slice (some ⟨g3, 0, none⟩) (List.length x.ranked) c3] 26 (0, 0)) := by rw [hW]; exact heap_alloc_new w1 _
  have b1 : Below V.heap.size V W := FRow.bel N1.out.2 bW (Nat.le_refl _)
  have x0 := (b1.block _ (lt_of HV0.out)).trans HV0.out
  have HSP := hid_of (SPbelow N1.out.1 bW)
  have HSL := hid_of (sp_lt N1.out.1)
  have BW := hid_of (FRow.bel HB.out b1 (Nat.le_refl _))
  have HW := hid_of hW
  have X0 := hid_of x0
  have X1 := hid_of x1
  have HCp : Hid (∀ U, Below W.heap.size W U → Calls Try.prog 5 #[.agg #[.int .i64 x.kind, .string (mk x.text), .slice (some ⟨g1, 0, none⟩) x.list.length c1, .slice (some ⟨g2, 0, none⟩) (List.length x.fields) c2, .slice (some ⟨g3, 0, none⟩) (List.length x.ranked) c3]] U fun e w' => ∃ a1 a2 a3 d1 d2 d3, e = .returned (vv x a1 a2 a3 d1 d2 d3) ∧ Hid (NP (fun k => U.heap.size ≤ k ∧ k < w'.heap.size) w' x a1 a2 a3 d1 d2 d3 ∧ Below U.heap.size U w')) := hid_of fun U hU => (Copy.copy_call (va_sp (SPbelow HSP.out hU)) nx.wel.toFit).mono (by
    rintro e w' ⟨u, rfl, n1, b1⟩
    obtain ⟨a1, a2, a3, d1, d2, d3, rfl, hn⟩ := np_of n1
    exact ⟨a1, a2, a3, d1, d2, d3, rfl, hid_of ⟨hn, b1⟩⟩)
  obtain ⟨⟨i0, i1, i2, i3, i4⟩, _⟩ := box5 x1
  have HSx := hid_of fun (U : World) (hU : Below W.heap.size W U) => (box5 ((hU.block _ (lt_of X1.out)).trans X1.out)).1
  have hlw : w1.heap.size < W.heap.size := lt_of x1
  clear bW b1 x0 x1 hW N1 HS HV0
  go_wp2_with fail
  rw [← HW.out]
  refine wp_region_held (S := fun V => Below W.heap.size W V) (by kernel_rfl) ?_
  have hS0 : Below W.heap.size W W.drew := (Below.refl _ W).drew
  refine wpAnyH_take (i := 0) (v := .agg #[.int .i64 x.kind, .string (mk x.text), .slice (some ⟨g1, 0, none⟩) x.list.length c1, .slice (some ⟨g2, 0, none⟩) (List.length x.fields) c2, .slice (some ⟨g3, 0, none⟩) (List.length x.ranked) c3]) rfl (by kernel_rfl) (by kernel_rfl) (by kernel_rfl) (fun _ _ _ h => h) (Or.inl ⟨by kernel_rfl, ?_⟩) hS0 ?_
  · intro Wx hSW
    obtain ⟨j0, j1, j2, j3, j4⟩ := HSx.out Wx hSW
    go_simp
  simp only [Act.put, List.setIfInBounds_toArray, List.set_cons_zero, List.set_cons_succ]
  refine wpAnyH_take (i := 2) (v := .agg #[.int .i64 x.kind, .string (mk x.text), .slice (some ⟨g1, 0, none⟩) x.list.length c1, .slice (some ⟨g2, 0, none⟩) (List.length x.fields) c2, .slice (some ⟨g3, 0, none⟩) (List.length x.ranked) c3]) rfl (by kernel_rfl) (by kernel_rfl) (by kernel_rfl) (fun _ _ _ h => h) (Or.inl ⟨by kernel_rfl, ?_⟩) hS0 ?_
  · intro Wx hSW
    obtain ⟨j0, j1, j2, j3, j4⟩ := HSx.out Wx hSW
    go_simp
  simp only [Act.put, List.setIfInBounds_toArray, List.set_cons_zero, List.set_cons_succ]
  refine AnyV.region_v (W := W) (x := x) (F := fun f => { tmps := #[.agg #[.int .i64 x.kind, .string (mk x.text), .slice aa x.list.length ac, .slice ba (List.length x.fields) bc, .slice ca (List.length x.ranked) cc], .pointer (some ⟨w.heap.size, 0, none⟩), .bool false, .pointer (some ⟨w1.heap.size, 0, none⟩), f 4, f 5, undef, undef, undef, undef, undef, undef, undef, undef, undef, undef, undef, .agg #[.int .i64 x.kind, .string (mk x.text), .slice aa x.list.length ac, .slice ba (List.length x.fields) bc, .slice ca (List.length x.ranked) cc], .agg #[.int .i64 x.kind, .string (mk x.text), .slice (some ⟨g1, 0, none⟩) x.list.length c1, .slice (some ⟨g2, 0, none⟩) (List.length x.fields) c2, .slice (some ⟨g3, 0, none⟩) (List.length x.ranked) c3], .agg #[.int .i64 x.kind, .string (mk x.text), .slice (some ⟨g1, 0, none⟩) x.list.length c1, .slice (some ⟨g2, 0, none⟩) (List.length x.fields) c2, .slice (some ⟨g3, 0, none⟩) (List.length x.ranked) c3], f 20, .agg #[.int .i64 x.kind, .string (mk x.text), .slice (some ⟨g1, 0, none⟩) x.list.length c1, .slice (some ⟨g2, 0, none⟩) (List.length x.fields) c2, .slice (some ⟨g3, 0, none⟩) (List.length x.ranked) c3], f 22, undef, undef, undef, undef, undef, undef, undef, undef, undef, undef, undef, undef, undef, undef, undef, undef, undef, undef, undef, undef, undef, undef, undef, undef, undef, undef, undef, undef, undef, undef, undef, undef, undef, undef, undef, undef, undef, undef, undef, undef, undef, undef, undef, undef, undef, undef, undef, undef, undef, undef, undef], defers := [] }) ⟨_, rfl, rfl, rfl, rfl⟩ ⟨_, rfl, rfl, rfl, rfl⟩ ⟨_, rfl, rfl, rfl, rfl⟩ ⟨_, rfl, rfl, rfl, rfl⟩ rfl rfl (by decide +kernel) (fun U hU => hU) (fun U hU => (HCp.out U hU).mono ?_) hS0 (fun f => by kernel_rfl) ?_
  · rintro e w' ⟨a1, a2, a3, d1, d2, d3, rfl, hn⟩
    exact ⟨_, rfl, ⟨a1, a2, a3, d1, d2, d3, rfl, hn.out.1⟩, hn.out.2⟩
  intro f R U bb hall ok
  obtain ⟨-, -, k1⟩ := ok.fact 1 (by decide) (hall 1 (by decide))
  obtain ⟨-, -, k3⟩ := ok.fact 3 (by decide) (hall 3 (by decide))
  obtain ⟨l4, u4, k4⟩ := ok.fact 4 (by decide) (hall 4 (by decide))
  obtain ⟨l5, u5, k5⟩ := ok.fact 5 (by decide) (hall 5 (by decide))
  obtain ⟨l1, u1, -⟩ := ok.fact 1 (by decide) (hall 1 (by decide))
  obtain ⟨l3, u3, -⟩ := ok.fact 3 (by decide) (hall 3 (by decide))
  have d := fun i hi j hj hn => ok.apart i hi j hj hn (hall i hi) (hall j hj)
  have d13 := d 1 (by decide) 3 (by decide) (by decide)
  have d14 := d 1 (by decide) 4 (by decide) (by decide)
  have d15 := d 1 (by decide) 5 (by decide) (by decide)
  have d34 := d 3 (by decide) 4 (by decide) (by decide)
  have d35 := d 3 (by decide) 5 (by decide) (by decide)
  have d45 := d 4 (by decide) 5 (by decide) (by decide)
  have hU := ok.bl
  clear d ok
  obtain ⟨a1, a2, a3, m1, m2, m3, e20, n20⟩ : AnyV.Vv x (R 1).1 (R 1).2 U (f 20) := k1
  obtain ⟨b1, b2, b3, f1, f2, f3, e22, n22⟩ : AnyV.Vv x (R 3).1 (R 3).2 U (f 22) := k3
  obtain ⟨e4, s4, z4⟩ : AnyV.Bx (R 4).1 (R 4).2 U (f 4) := k4
  obtain ⟨e5, s5, z5⟩ : AnyV.Bx (R 5).1 (R 5).2 U (f 5) := k5
  rw [e20, e22, e4, e5]
  rw [s4] at d14 d34 d45 u4
  rw [s5] at d15 d35 d45 u5
  clear e20 e22 e4 e5 s4 s5 hall bb
  generalize (R 4).1 = q4 at *
  generalize (R 5).1 = q5 at *
  generalize hP1 : (R 1).1 = p1 at *
  generalize hP2 : (R 1).2 = p2 at *
  generalize hP3 : (R 3).1 = p3 at *
  generalize hP4 : (R 3).2 = p4 at *
  clear hP1 hP2 hP3 hP4 f R
  have q45 : q4 ≠ q5 := by omega
  have wq4 : W.heap.size ≤ q4 := l4
  have wq5 : W.heap.size ≤ q5 := l5
  obtain ⟨⟨i40, i41, i42, i43, i44⟩, fz4⟩ := box5 z4
  have fz40 := fz4 0
  have fz41 := fz4 1
  have fz42 := fz4 2
  have fz43 := fz4 3
  have fz44 := fz4 4
  have hU6 : Below W.heap.size W (((((U.setCell ⟨q4, 0, none⟩ (.int .i64 x.kind)).setCell ⟨q4, 1, none⟩ (.string (mk x.text))).setCell ⟨q4, 2, none⟩ (.slice a1 x.list.length m1)).setCell ⟨q4, 3, none⟩ (.slice a2 (List.length x.fields) m2)).setCell ⟨q4, 4, none⟩ (.slice a3 (List.length x.ranked) m3)) := bset (bset (bset (bset (bset hU wq4 _) wq4 _) wq4 _) wq4 _) wq4 _
  have y4 := Copy.set5 z4 (.int .i64 x.kind) (.string (mk x.text)) (.slice a1 x.list.length m1) (.slice a2 (List.length x.fields) m2) (.slice a3 (List.length x.ranked) m3)
  have y5 : (((((U.setCell ⟨q4, 0, none⟩ (.int .i64 x.kind)).setCell ⟨q4, 1, none⟩ (.string (mk x.text))).setCell ⟨q4, 2, none⟩ (.slice a1 x.list.length m1)).setCell ⟨q4, 3, none⟩ (.slice a2 (List.length x.fields) m2)).setCell ⟨q4, 4, none⟩ (.slice a3 (List.length x.ranked) m3)).heap[q5]? = some AnyV.zBox := by
    rw [set_ne (Ne.symm q45), set_ne (Ne.symm q45), set_ne (Ne.symm q45), set_ne (Ne.symm q45), set_ne (Ne.symm q45)]
    exact z5
  have kp : ∀ k, k ≠ q4 → (((((U.setCell ⟨q4, 0, none⟩ (.int .i64 x.kind)).setCell ⟨q4, 1, none⟩ (.string (mk x.text))).setCell ⟨q4, 2, none⟩ (.slice a1 x.list.length m1)).setCell ⟨q4, 3, none⟩ (.slice a2 (List.length x.fields) m2)).setCell ⟨q4, 4, none⟩ (.slice a3 (List.length x.ranked) m3)).heap[k]? = U.heap[k]? := fun k hk => by
    rw [set_ne hk, set_ne hk, set_ne hk, set_ne hk, set_ne hk]
  have N1 := hid_of (n20.keep fun k hk hp => kp k (by omega))
  have N3 := hid_of (n22.keep fun k hk hp => kp k (by omega))
  have H6 := hid_of (And.intro hU6 (And.intro y4 y5))
  have HDJ := hid_of (show (W.heap.size ≤ p1 ∧ p2 ≤ U.heap.size ∧ W.heap.size ≤ p3 ∧ p4 ≤ U.heap.size) ∧ (q4 < U.heap.size ∧ q5 < U.heap.size) ∧ (∀ k, p1 ≤ k ∧ k < p2 → k ≠ q4 ∧ k ≠ q5 ∧ ¬ (p3 ≤ k ∧ k < p4)) ∧ (∀ k, p3 ≤ k ∧ k < p4 → k ≠ q4 ∧ k ≠ q5) from ⟨⟨l1, u1, l3, u3⟩, ⟨by omega, by omega⟩, fun k hk => ⟨by omega, by omega, by omega⟩, fun k hk => ⟨by omega, by omega⟩⟩)
  clear n20 n22 z4 z5 fz4 hU6 y4 y5 kp d13 d14 d15 d34 d35 d45 u1 u3 l1 l3 u4 u5 hU
  refine AnyV.oneH (i := 6) rfl (by kernel_rfl) ?_
  intro K' hK0
  have hK := hid_of hK0
  clear hK0
  go_simp
  refine hK.out _ _ H6.out.1 ?_
  clear hK K' i40 i41 i42 i43 i44 fz40 fz41 fz42 fz43 fz44
  obtain ⟨U6, hU6⟩ : ∃ U6, U6 = (((((U.setCell ⟨q4, 0, none⟩ (.int .i64 x.kind)).setCell ⟨q4, 1, none⟩ (.string (mk x.text))).setCell ⟨q4, 2, none⟩ (.slice a1 x.list.length m1)).setCell ⟨q4, 3, none⟩ (.slice a2 (List.length x.fields) m2)).setCell ⟨q4, 4, none⟩ (.slice a3 (List.length x.ranked) m3)) := ⟨_, rfl⟩
  rw [← hU6]
  rw [← hU6] at H6 N1 N3
  have sU6 : U6.heap.size = U.heap.size := by rw [hU6, size_set, size_set, size_set, size_set, size_set]
  have HSZ := hid_of sU6
  clear hU6 sU6
  obtain ⟨⟨i50, i51, i52, i53, i54⟩, fz5⟩ := box5 H6.out.2.2
  have fz50 := fz5 0
  have fz51 := fz5 1
  have fz52 := fz5 2
  have fz53 := fz5 3
  have fz54 := fz5 4
  clear fz5
  obtain ⟨Z, hZ⟩ : ∃ Z, Z = (((((U6.setCell ⟨q5, 0, none⟩ (.int .i64 x.kind)).setCell ⟨q5, 1, none⟩ (.string (mk x.text))).setCell ⟨q5, 2, none⟩ (.slice b1 x.list.length f1)).setCell ⟨q5, 3, none⟩ (.slice b2 (List.length x.fields) f2)).setCell ⟨q5, 4, none⟩ (.slice b3 (List.length x.ranked) f3)) := ⟨_, rfl⟩
  have hB7 : Below W.heap.size W Z := by rw [hZ]; exact bset (bset (bset (bset (bset H6.out.1 wq5 _) wq5 _) wq5 _) wq5 _) wq5 _
  have kp7 : ∀ k, k ≠ q5 → Z.heap[k]? = U6.heap[k]? := fun k hk => by
    rw [hZ, set_ne hk, set_ne hk, set_ne hk, set_ne hk, set_ne hk]
  have z5 : Z.heap[q5]? = some (.cells #[.int .i64 x.kind, .string (mk x.text), .slice b1 x.list.length f1, .slice b2 (List.length x.fields) f2, .slice b3 (List.length x.ranked) f3] 26 (0, 0)) := by rw [hZ]; exact Copy.set5 H6.out.2.2 _ _ _ _ _
  have z4 := (kp7 q4 q45).trans H6.out.2.1
  have sZ : Z.heap.size = U.heap.size := by rw [hZ, size_set, size_set, size_set, size_set, size_set]; exact HSZ.out
  have HSp := hid_of ((N1.out.keep fun k hk hp => kp7 k (HDJ.out.2.2.1 k hp).2.1).spoil (fun k hp => by rw [sZ]; have := HDJ.out.1.2.1; omega) nx.sm)
  have NB := hid_of (N3.out.keep fun k hk hp => kp7 k (HDJ.out.2.2.2 k hp).2)
  have HB7 := hid_of hB7
  have Z5 := hid_of z5
  have ZZ := hid_of sZ
  have HZ := hid_of hZ
  have HU0 := hid_of fun (U : World) (hU : Below W.heap.size W U) => (box5 ((hU.block _ (lt_of X0.out)).trans X0.out)).1
  clear hB7 kp7 z5 sZ hZ N1 N3 H6 HSZ
  refine AnyV.oneH (i := 7) rfl (by kernel_rfl) ?_
  intro K' hK0
  have hK := hid_of hK0
  clear hK0
  go_simp
  rw [← HZ.out]
  refine hK.out _ _ HB7.out ?_
  clear hK K' i50 i51 i52 i53 i54 fz50 fz51 fz52 fz53 fz54 HZ
  refine wpAnyH_done (by kernel_rfl) ?_ _
  obtain ⟨⟨e0, e1, e2, e3, e4⟩, -⟩ := box5 z4
  clear z4
  go_wp2_with fail
  refine HSp.out.mono ?_
  rintro e w4 ⟨rfl, r4⟩
  have hle4 : W.heap.size ≤ Z.heap.size := HB7.out.size
  have b4 : Below W.heap.size W w4 := HB7.out.trans (r4.below hle4 fun k hp => Nat.le_trans HDJ.out.1.1 hp.1)
  have B4 := hid_of b4
  have y5 := (r4.block q5 (by have := ZZ.out; have := HDJ.out.2.1.2; omega) (fun hp => (HDJ.out.2.2.1 q5 hp).2.1 rfl)).trans Z5.out
  have NB4 := hid_of (NB.out.fr r4 fun k hp hq => (HDJ.out.2.2.1 k hq).2.2 hp)
  clear r4 b4 e0 e1 e2 e3 e4 HSp NB Z5 HB7
  obtain ⟨⟨e0, e1, e2, e3, e4⟩, -⟩ := box5 y5
  clear y5
  obtain ⟨o0, o1, o2, o3, o4⟩ := HU0.out w4 B4.out
  have HS4 := hid_of (RSame.rsame_call NB4.out.va (HVX.out w4 (FRow.bel BW.out B4.out (Nat.le_refl _))) nx.wel.toFit nx.wel.toFit)
  rw [sm_self] at HS4
  go_wp2_with fail
  refine HS4.out.mono ?_
  rintro e w5 ⟨rfl, b5⟩
  have B5 := hid_of (FRow.bel B4.out b5 (Nat.le_refl _))
  clear b5 e0 e1 e2 e3 e4 o0 o1 o2 o3 o4 HS4 NB4 B4
  obtain ⟨o0, o1, o2, o3, o4⟩ := HU0.out w5 B5.out
  obtain ⟨j0, j1, j2, j3, j4⟩ := HSx.out w5 B5.out
  have HK5 := hid_of (kept_call (SPbelow HSP.out B5.out) (HVX.out w5 (FRow.bel BW.out B5.out (Nat.le_refl _))) nx.wel.toFit)
  unfold spV at HK5
  go_wp2_with fail
  refine HK5.out.mono ?_
  rintro e w6 ⟨rfl, b6⟩
  have B6 := hid_of (FRow.bel B5.out b6 (Nat.le_refl _))
  clear b6 o0 o1 o2 o3 o4 j0 j1 j2 j3 j4 HK5 B5
  go_wp2_with fail
  refine (HA.out w6).mono ?_
  rintro e w7 ⟨rfl, b7⟩
  have B7 := hid_of (FRow.bel B6.out b7 (Nat.le_refl _))
  clear b7 B6
  obtain ⟨j0, j1, j2, j3, j4⟩ := HSx.out w7 B7.out
  have HE7 := hid_of (encode_call (va_sp (SPbelow HSP.out B7.out)) nx.wel nx.sm (Nat.le_trans nx.len (by decide)))
  unfold spV at HE7
  go_wp2_with fail
  refine HE7.out.mono ?_
  rintro e w8 ⟨rfl, b8⟩
  have B8 := hid_of (FRow.bel B7.out b8 (Nat.le_refl _))
  clear b8 j0 j1 j2 j3 j4 HE7 B7
  by_cases hc : chk x = 0
  · have HD8 := hid_of (fun U => dec_np nx hc U)
    have hev : encV x = enc x := by unfold encV; rw [if_pos hc]
    rw [hev, hc]
    clear hev hc
    generalize mk (enc x) = T at *
    go_wp2_with fail
    refine (HD8.out w8).mono ?_
    rintro e w9 ⟨a1, a2, a3, d1, d2, d3, rfl, R9⟩
    obtain ⟨W9, hW9⟩ : ∃ W9, W9 = w9.alloc (.cells #[.int .i64 x.kind, .string (mk x.text), .slice a1 x.list.length d1, .slice a2 (List.length x.fields) d2, .slice a3 (List.length x.ranked) d3] 26) := ⟨_, rfl⟩
    have bn9 : Below w9.heap.size w9 W9 := by rw [hW9]; exact FRow.bnew w9 _
    have x9 := hid_of (show W9.heap[w9.heap.size]? = some (.cells #[.int .i64 x.kind, .string (mk x.text), .slice a1 x.list.length d1, .slice a2 (List.length x.fields) d2, .slice a3 (List.length x.ranked) d3] 26 (0, 0)) by rw [hW9]; exact heap_alloc_new w9 _)
    have b9 := FRow.bel R9.out.2 bn9 (Nat.le_refl _)
    have NA := hid_of (R9.out.1.below bn9)
    have sz9 := R9.out.2.size
    have B9 := hid_of (FRow.bel B8.out b9 (Nat.le_refl _))
    have HL9 := hid_of (show w8.heap.size ≤ w9.heap.size ∧ w9.heap.size < W9.heap.size from ⟨sz9, lt_of x9.out⟩)
    have HW9 := hid_of hW9
    clear bn9 b9 hW9 sz9 R9
    go_wp2_with fail
    rw [← HW9.out]
    refine (HD8.out W9).mono ?_
    rintro e w10 ⟨b1, b2, b3, f1, f2, f3, rfl, R10⟩
    obtain ⟨W10, hW10⟩ : ∃ W10, W10 = w10.alloc (.cells #[.int .i64 x.kind, .string (mk x.text), .slice b1 x.list.length f1, .slice b2 (List.length x.fields) f2, .slice b3 (List.length x.ranked) f3] 26) := ⟨_, rfl⟩
    have bn10 : Below w10.heap.size w10 W10 := by rw [hW10]; exact FRow.bnew w10 _
    have x10 := hid_of (show W10.heap[w10.heap.size]? = some (.cells #[.int .i64 x.kind, .string (mk x.text), .slice b1 x.list.length f1, .slice b2 (List.length x.fields) f2, .slice b3 (List.length x.ranked) f3] 26 (0, 0)) by rw [hW10]; exact heap_alloc_new w10 _)
    have b10 := FRow.bel R10.out.2 bn10 (Nat.le_refl _)
    have NB := hid_of (R10.out.1.below bn10)
    have NA2 := hid_of (NA.out.below b10)
    have x92 := (b10.block _ HL9.out.2).trans x9.out
    have HL10 := hid_of (show W9.heap.size ≤ w10.heap.size ∧ w10.heap.size < W10.heap.size from ⟨R10.out.2.size, lt_of x10.out⟩)
    have B10 := hid_of (FRow.bel B9.out b10 (Nat.le_refl _))
    have HW10 := hid_of hW10
    have HSp := hid_of (NA2.out.spoil (fun k hp => by have := HL9.out; have := HL10.out; omega) nx.sm)
    clear bn10 b10 hW10 R10 NA NA2 x9 B9
    obtain ⟨⟨e0, e1, e2, e3, e4⟩, -⟩ := box5 x92
    have lq9 : w9.heap.size < W10.heap.size := by have := HL9.out; have := HL10.out; omega
    have lq9' : w9.heap.size < w10.heap.size := by have := HL9.out; have := HL10.out; omega
    obtain ⟨⟨h0, h1, h2, h3, h4⟩, -⟩ := box5 (show w10.heap[w9.heap.size]? = some (.cells #[.int .i64 x.kind, .string (mk x.text), .slice a1 x.list.length d1, .slice a2 (List.length x.fields) d2, .slice a3 (List.length x.ranked) d3] 26 (0, 0)) by
      have q := x92
      rw [HW10.out, Below.heap_alloc _ _ _ lq9'] at q
      exact q)
    clear x92
    go_wp2_with fail
    rw [← HW10.out]
    refine HSp.out.mono ?_
    rintro e w11 ⟨rfl, r11⟩
    have b11 : Below W.heap.size W w11 := B10.out.trans (r11.below B10.out.size fun k hp => Nat.le_trans B8.out.size hp.1)
    have y10 := hid_of ((r11.block _ HL10.out.2 (fun hp => by have := HL9.out; have := HL10.out; omega)).trans x10.out)
    have NB11 := hid_of (NB.out.fr r11 fun k hp hq => by have := HL9.out; omega)
    have s11 := r11.size
    have HL11 := hid_of (show w10.heap.size < w11.heap.size by have := HL10.out; omega)
    have B11 := hid_of b11
    clear r11 b11 s11 HSp NB x10 e0 e1 e2 e3 e4 h0 h1 h2 h3 h4 lq9 lq9' B10
    go_wp2_with fail
    refine (HD8.out w11).mono ?_
    rintro e w12 ⟨k1, k2, k3, t1, t2, t3, rfl, R12⟩
    obtain ⟨W12, hW12⟩ : ∃ W12, W12 = w12.alloc (.cells #[.int .i64 x.kind, .string (mk x.text), .slice k1 x.list.length t1, .slice k2 (List.length x.fields) t2, .slice k3 (List.length x.ranked) t3] 26) := ⟨_, rfl⟩
    have bn12 : Below w12.heap.size w12 W12 := by rw [hW12]; exact FRow.bnew w12 _
    have x12 := hid_of (show W12.heap[w12.heap.size]? = some (.cells #[.int .i64 x.kind, .string (mk x.text), .slice k1 x.list.length t1, .slice k2 (List.length x.fields) t2, .slice k3 (List.length x.ranked) t3] 26 (0, 0)) by rw [hW12]; exact heap_alloc_new w12 _)
    have b12 := FRow.bel R12.out.2 bn12 (Nat.le_refl _)
    have NC := hid_of (R12.out.1.below bn12)
    have NB12 := hid_of (NB11.out.below b12)
    have x102 := (b12.block _ HL11.out).trans y10.out
    have B12 := hid_of (FRow.bel B11.out b12 (Nat.le_refl _))
    have HL12 := hid_of (show w11.heap.size ≤ w12.heap.size ∧ w12.heap.size < W12.heap.size from ⟨R12.out.2.size, lt_of x12.out⟩)
    have HW12 := hid_of hW12
    have lq10' : w10.heap.size < w12.heap.size := by have := HL11.out; have := HL12.out; omega
    have hw1' : w.heap.size < w12.heap.size := by
      have q1 := lt_of X0.out
      have q2 := B11.out.size
      have := HL12.out
      omega
    have B12' := hid_of (FRow.bel B11.out R12.out.2 (Nat.le_refl _))
    clear bn12 b12 hW12 R12 NB11 y10 B11
    obtain ⟨⟨e0, e1, e2, e3, e4⟩, -⟩ := box5 x102
    obtain ⟨⟨h0, h1, h2, h3, h4⟩, -⟩ := box5 (show w12.heap[w10.heap.size]? = some (.cells #[.int .i64 x.kind, .string (mk x.text), .slice b1 x.list.length f1, .slice b2 (List.length x.fields) f2, .slice b3 (List.length x.ranked) f3] 26 (0, 0)) by
      have q := x102
      rw [HW12.out, Below.heap_alloc _ _ _ lq10'] at q
      exact q)
    clear x102
    obtain ⟨o0, o1, o2, o3, o4⟩ := HU0.out W12 B12.out
    obtain ⟨n0, n1, n2, n3, n4⟩ := HU0.out w12 B12'.out
    have HS12 := hid_of (RSame.rsame_call NB12.out.va (HVX.out W12 (FRow.bel BW.out B12.out (Nat.le_refl _))) nx.wel.toFit nx.wel.toFit)
    rw [sm_self] at HS12
    go_wp2_with fail
    rw [← HW12.out]
    refine HS12.out.mono ?_
    rintro e w13 ⟨rfl, b13⟩
    have x122 := (b13.block _ HL12.out.2).trans x12.out
    have NC13 := NC.out.below b13
    have B13 := hid_of (FRow.bel B12.out b13 (Nat.le_refl _))
    have HS13 := hid_of (RSame.rsame_call NC13.va (HVX.out w13 (FRow.bel BW.out B13.out (Nat.le_refl _))) nx.wel.toFit nx.wel.toFit)
    rw [sm_self] at HS13
    clear b13 NC13 e0 e1 e2 e3 e4 h0 h1 h2 h3 h4 o0 o1 o2 o3 o4 n0 n1 n2 n3 n4 HS12 B12 NC x12
    obtain ⟨⟨e0, e1, e2, e3, e4⟩, -⟩ := box5 x122
    obtain ⟨o0, o1, o2, o3, o4⟩ := HU0.out w13 B13.out
    clear x122
    go_wp2_with fail
    refine HS13.out.mono ?_
    rintro e w14 ⟨rfl, b14⟩
    have B14 := hid_of (FRow.bel B13.out b14 (Nat.le_refl _))
    clear b14
    go_wp2_with fail
    go_ret
    exact ⟨rfl, FRow.bel BW.out B14.out (Nat.le_refl _)⟩
  · have hne : (chk x == 0) = false := by simp [hc]
    generalize chk x = ck at *
    go_wp2_with fail
    go_ret
    exact ⟨rfl, FRow.bel BW.out B8.out (Nat.le_refl _)⟩
end Go.Proofs.Ytdcnkdkhanmklab.OwnL
end
