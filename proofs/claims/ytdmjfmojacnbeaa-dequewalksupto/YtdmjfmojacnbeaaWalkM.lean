/- What the law DequeWalks carries from step to step. -/
import Derived.Test.YtdmjfmojacnbeaaSeq
namespace Go.Proofs.Ytdmjfmojacnbeaa.WalkM
open Go.RowKit Go.Shelf
open Go.Proofs.Ytdmjfmojacnbeaa.Base
open Go.Proofs.Ytdmjfmojacnbeaa.Seq
set_option linter.unusedVariables false
set_option linter.unusedSimpArgs false
/-- block k holds cells -/
def IsC (W : World) (k : Nat) : Prop := ∃ cs ty fz, W.heap[k]? = some (.cells cs ty fz)
theorem isc_lt {W : World} {k : Nat} (h : IsC W k) : k < W.heap.size := by
  obtain ⟨_, _, _, e⟩ := h
  exact lt_of e
theorem isc_of_cell {w : World} {p : Addr} {v : Value} (h : w.cell? p = some v) : IsC w p.block := by
  unfold World.cell? at h
  split at h
  · rename_i c ty fz e
    exact ⟨_, _, _, e⟩
  · cases h
theorem isc_same {W W' : World} {k : Nat} (h : IsC W k) (e : W'.heap[k]? = W.heap[k]?) : IsC W' k := by
  obtain ⟨cs, ty, fz, h⟩ := h
  exact ⟨cs, ty, fz, e.trans h⟩
theorem not_isc {W : World} {k : Nat} {o : Obj} (h : W.heap[k]? = some o) (ho : o.isCells = false) : ¬ IsC W k := by
  rintro ⟨cs, ty, fz, e⟩
  rw [h] at e
  injection e with e
  subst e
  cases ho
theorem DQ.isc {F : Nat → Prop} {b : Nat} {l : List El} {w : World} (h : DQ F b l w) : DQ (fun k => F k ∧ IsC w k) b l w := by
  obtain ⟨a, n, c, f, xs, h⟩ := h
  refine ⟨a, n, c, f, xs, h.blk, ⟨h.own, _, _, _, h.blk⟩, h.fit, h.nc, h.lim, ?_, h.is⟩
  rcases h.row with r | ⟨g, e, hF, hx, hr⟩
  · exact .inl r
  · exact .inr ⟨g, e, ⟨hF, _, _, _, hr⟩, hx, hr⟩
theorem SL.isc {G : Nat → Prop} {w : World} {v : Value} {l : List El} (h : SL G w v l) : SL (fun k => G k ∧ IsC w k) w v l := by
  obtain ⟨a, c, rfl, hc, hr⟩ := h
  refine ⟨a, c, rfl, hc, ?_⟩
  rcases hr with rfl | ⟨g, o, rfl, hG, hr⟩
  · exact .inl rfl
  · cases l with
    | nil => exact .inl rfl
    | cons x r => exact .inr ⟨g, o, rfl, ⟨hG, isc_of_cell (hr 0 x rfl)⟩, hr⟩
/-- cells alone have turned, and none of those that stand -/
def Ok (Q : Nat → Prop) (W W' : World) : Prop := Fr (fun k => IsC W k ∧ ¬ Q k) W W'
theorem Ok.refl (Q : Nat → Prop) (W : World) : Ok Q W W := Fr.refl _ _
theorem Ok.trans {Q : Nat → Prop} {a b c : World} (h : Ok Q a b) (k : Ok Q b c) : Ok Q a c :=
  Fr.trans h (Fr.mono k fun i hi e => by
    by_cases hi' : i < a.heap.size
    · by_cases hc : IsC a i
      · exact .inl ⟨hc, e.2⟩
      · exact absurd (isc_same e.1 (h.block i hi' fun q => hc q.1).symm) hc
    · exact .inr (by omega))
theorem Ok.turn {Q G : Nat → Prop} {a b c : World} (h : Ok Q a b) (f : Fr G b c) (hG : ∀ k, G k → a.heap.size ≤ k) : Ok Q a c := Fr.trans h (f.mono fun k _ e => .inr (hG k e))
theorem Ok.below {Q : Nat → Prop} {W W' : World} (k : Below W.heap.size W W') : Ok Q W W' := Fr.of_below k
theorem Ok.set {Q : Nat → Prop} {W : World} {k : Nat} (hc : IsC W k) (hq : ¬ Q k) (v : Value) : Ok Q W (W.setCell ⟨k, 0, none⟩ v) := Fr.set (F := fun k => IsC W k ∧ ¬ Q k) (i := 0) ⟨hc, hq⟩ v
theorem Ok.alloc {Q : Nat → Prop} (W : World) (o : Obj) : Ok Q W (W.alloc o) := Fr.alloc (Fr.refl _ _) o
theorem Ok.from {Q : Nat → Prop} {W W' : World} (h : Ok Q W W') (B : Nat) : KeepsFrom B W W' :=
  ⟨h.size, fun k o _ hk ho => (h.block k (lt_of hk) fun e => not_isc hk ho e.1).trans hk⟩
theorem Ok.kp {Q : Nat → Prop} {W W' : World} (h : Ok Q W W') (hl : ∀ k, Q k → k < W.heap.size) : Kp Q W W' := fun k hk => h.block k (hl k hk) fun e => e.2 hk
theorem Ok.stay {Q : Nat → Prop} {W W' : World} (h : Ok Q W W') {k : Nat} {o : Obj} (hk : W.heap[k]? = some o) (ho : o.isCells = false) : W'.heap[k]? = some o := (h.block k (lt_of hk) fun e => not_isc hk ho e.1).trans hk
theorem fr_grown {W W' : World} {row : Option Nat} (h : W.grownBy W' row) : Fr (fun k => row = some k) W W' := ⟨h.os, h.tape, h.output, h.size, fun k hk hn => h.block k hk fun e => hn e.symm⟩
/-- what stands from the law's beginning on -/
structure Cw (w : World) (u dv v : Value) (l : List El) (b Db Ab Bx : Nat) (Q : Nat → Prop) (Ds : List Nat) (W : World) : Prop where
  bel : Below w.heap.size w W
  low : ∀ k, k < w.heap.size → Q k
  lt : ∀ k, Q k → k < W.heap.size
  cl : Q w.heap.size ∧ W.heap[w.heap.size]? = some (.cells #[u] 22 (0, 0))
  cm : Q (w.heap.size + 1) ∧ W.heap[w.heap.size + 1]? = some (.cells #[dv] 23 (0, 0))
  cr : Q (w.heap.size + 2) ∧ W.heap[w.heap.size + 2]? = some (.cells #[.bool false] 4 (0, 0))
  cd : Q Db ∧ W.heap[Db]? = some (.cells #[ptr b] 24 (0, 0))
  ca : Q Ab ∧ W.heap[Ab]? = some (.cells #[.func (.func 80) #[] #[.pointer (some ⟨Bx, 0, none⟩)]] 69 (0, 0))
  cx : Q Bx ∧ W.heap[Bx]? = some (.cells #[v] 22 (0, 0))
  sv : SL Q W v l
  mrk : ∀ D ∈ Ds, Q D ∧ w.heap.size + 2 < D ∧ W.heap[D]? = some (.deferred (some []))
theorem Cw.fr {w : World} {u dv v : Value} {l : List El} {b Db Ab Bx : Nat} {Q G : Nat → Prop} {Ds : List Nat} {W W' : World} (h : Cw w u dv v l b Db Ab Bx Q Ds W) (f : Fr G W W') (hG : ∀ k, G k → ¬ Q k) : Cw w u dv v l b Db Ab Bx Q Ds W' := by
  have hb : ∀ k, Q k → W'.heap[k]? = W.heap[k]? := fun k hk => f.block k (h.lt k hk) fun e => hG k e hk
  exact ⟨h.bel.trans (f.below h.bel.size fun k e => by
      by_cases q : k < w.heap.size
      · exact absurd (h.low k q) (hG k e)
      · omega), h.low, fun k hk => Nat.lt_of_lt_of_le (h.lt k hk) f.size, ⟨h.cl.1, (hb _ h.cl.1).trans h.cl.2⟩, ⟨h.cm.1, (hb _ h.cm.1).trans h.cm.2⟩, ⟨h.cr.1, (hb _ h.cr.1).trans h.cr.2⟩, ⟨h.cd.1, (hb _ h.cd.1).trans h.cd.2⟩, ⟨h.ca.1, (hb _ h.ca.1).trans h.ca.2⟩, ⟨h.cx.1, (hb _ h.cx.1).trans h.cx.2⟩, h.sv.keep fun k _ hk => hb k hk, fun D hD => ⟨(h.mrk D hD).1, (h.mrk D hD).2.1, (hb _ (h.mrk D hD).1).trans (h.mrk D hD).2.2⟩⟩
theorem Cw.ok {w : World} {u dv v : Value} {l : List El} {b Db Ab Bx : Nat} {Q : Nat → Prop} {Ds : List Nat} {W W' : World} (h : Cw w u dv v l b Db Ab Bx Q Ds W) (f : Ok Q W W') : Cw w u dv v l b Db Ab Bx Q Ds W' := h.fr f fun _ e => e.2
theorem Cw.below {w : World} {u dv v : Value} {l : List El} {b Db Ab Bx : Nat} {Q : Nat → Prop} {Ds : List Nat} {W W' : World} (h : Cw w u dv v l b Db Ab Bx Q Ds W) (f : Below W.heap.size W W') : Cw w u dv v l b Db Ab Bx Q Ds W' := h.ok (Ok.below f)
theorem Cw.mark {w : World} {u dv v : Value} {l : List El} {b Db Ab Bx : Nat} {Q : Nat → Prop} {Ds : List Nat} {W : World} (h : Cw w u dv v l b Db Ab Bx Q Ds W) {D : Nat} (hD : W.heap[D]? = some (.deferred (some []))) (hl : w.heap.size + 2 < D) : Cw w u dv v l b Db Ab Bx (fun k => Q k ∨ k = D) (D :: Ds) W :=
  ⟨h.bel, fun k e => .inl (h.low k e), fun k e => by
    rcases e with e | rfl
    · exact h.lt k e
    · exact lt_of hD, ⟨.inl h.cl.1, h.cl.2⟩, ⟨.inl h.cm.1, h.cm.2⟩, ⟨.inl h.cr.1, h.cr.2⟩, ⟨.inl h.cd.1, h.cd.2⟩, ⟨.inl h.ca.1, h.ca.2⟩, ⟨.inl h.cx.1, h.cx.2⟩, h.sv.mono fun k _ e => .inl e, fun E hE => by
    rcases List.mem_cons.1 hE with rfl | hE
    · exact ⟨.inr rfl, hl, hD⟩
    · exact ⟨.inl (h.mrk E hE).1, (h.mrk E hE).2⟩⟩
theorem cw_own (w : World) (u dv v : Value) (l : List El) (b Db Ab Bx : Nat) (Q : Nat → Prop) (Ds : List Nat) {β : Type} (B : Nat) (hB : ∀ k, Q k → k < B) : OwnFrom B (fun (_ : β) W => Cw w u dv v l b Db Ab Bx Q Ds W) := fun s W W' row h hg hr => h.fr (fr_grown hg) fun k e q => by have := (hr k e).1; have := hB k q; omega
/-- what turns: the list, the document's list, the place -/
structure Vw (b : Nat) (Q X : Nat → Prop) (Wb Tb : Nat) (l' : List El) (at' : Int) (W : World) : Prop where
  ex : ∃ F r, W.heap[Wb]? = some (.cells #[r] 22 (0, 0)) ∧ DQ F b l' W ∧ SL (fun k => ¬ F k ∧ ¬ X k) W r l' ∧ (∀ k, F k → ¬ Q k ∧ ¬ X k ∧ IsC W k)
  ct : W.heap[Tb]? = some (.cells #[.int .i64 at'] 3 (0, 0))
  xw : X Wb ∧ X Tb ∧ Wb ≠ Tb ∧ ¬ Q Wb ∧ ¬ Q Tb
  xl : ∀ k, X k → k < W.heap.size
theorem Vw.fr {b : Nat} {Q X G : Nat → Prop} {Wb Tb : Nat} {l' : List El} {at' : Int} {W W' : World} (h : Vw b Q X Wb Tb l' at' W) (f : Fr G W W') (hG : ∀ k, G k → ¬ IsC W k ∨ (X k ∧ k ≠ Wb ∧ k ≠ Tb)) : Vw b Q X Wb Tb l' at' W' := by
  obtain ⟨⟨F, r, cw, dq, sl, hf⟩, ct, xw, xl⟩ := h
  have kb : ∀ k, IsC W k → (X k → k = Wb ∨ k = Tb) → W'.heap[k]? = W.heap[k]? := fun k hk hx => f.block k (isc_lt hk) fun g => by
    rcases hG k g with n | n
    · exact n hk
    · rcases hx n.1 with e | e
      · exact n.2.1 e
      · exact n.2.2 e
  exact ⟨⟨F, r, (kb Wb ⟨_, _, _, cw⟩ fun _ => .inl rfl).trans cw, dq.keep fun k _ e => kb k (hf k e).2.2 fun x => absurd x (hf k e).2.1, ((SL.isc sl).keep fun k _ e => kb k e.2 fun x => absurd x e.1.2).mono fun k _ e => e.1, fun k e => ⟨(hf k e).1, (hf k e).2.1, isc_same (hf k e).2.2 (kb k (hf k e).2.2 fun x => absurd x (hf k e).2.1)⟩⟩, (kb Tb ⟨_, _, _, ct⟩ fun _ => .inr rfl).trans ct, xw, fun k e => Nat.lt_of_lt_of_le (xl k e) f.size⟩
theorem Vw.below {b : Nat} {Q X : Nat → Prop} {Wb Tb : Nat} {l' : List El} {at' : Int} {W W' : World} (h : Vw b Q X Wb Tb l' at' W) (f : Below W.heap.size W W') : Vw b Q X Wb Tb l' at' W' := h.fr (Fr.of_below (F := fun _ => False) f) fun _ e => e.elim
theorem vw_own (b : Nat) (Q X : Nat → Prop) (Wb Tb : Nat) (l' : List El) (at' : Int) {β : Type} (B : Nat) : OwnFrom B (fun (_ : β) W => Vw b Q X Wb Tb l' at' W) := fun s W W' row h hg hr => h.fr (fr_grown hg) fun k e => .inl (by
  obtain ⟨_, o, ho, hn⟩ := hr k e
  exact not_isc ho hn)
/-- another place -/
theorem Vw.put {b : Nat} {Q X : Nat → Prop} {Wb Tb : Nat} {l' : List El} {at' : Int} {W : World} (h : Vw b Q X Wb Tb l' at' W) (a2 : Int) : Vw b Q X Wb Tb l' a2 (W.setCell ⟨Tb, 0, none⟩ (.int .i64 a2)) := by
  obtain ⟨⟨F, r, cw, dq, sl, hf⟩, ct, xw, xl⟩ := h
  have kb : ∀ k, k ≠ Tb → (W.setCell ⟨Tb, 0, none⟩ (.int .i64 a2)).heap[k]? = W.heap[k]? := fun k hk => set_ne hk _
  refine ⟨⟨F, r, (kb Wb xw.2.2.1).trans cw, dq.keep fun k _ e => kb k fun q => (hf k e).2.1 (by rw [q]; exact xw.2.1), sl.keep fun k _ e => kb k fun q => e.2 (by rw [q]; exact xw.2.1), fun k e => ⟨(hf k e).1, (hf k e).2.1, isc_same (hf k e).2.2 (kb k fun q => (hf k e).2.1 (by rw [q]; exact xw.2.1))⟩⟩, ?_, xw, fun k e => by rw [size_set]; exact xl k e⟩
  have := set_at (i := 0) ct (.int .i64 a2)
  simpa using this
/-- one block more that the list does not lie in -/
theorem Vw.more {b : Nat} {Q X : Nat → Prop} {Wb Tb : Nat} {l' : List El} {at' : Int} {W : World} (h : Vw b Q X Wb Tb l' at' W) (o : Obj) : Vw b Q (fun k => X k ∨ k = W.heap.size) Wb Tb l' at' (W.alloc o) := by
  have h2 := h.below ((Below.refl _ W).alloc (Nat.le_refl _) o)
  obtain ⟨⟨F, r, cw, dq, sl, hf⟩, ct, xw, xl⟩ := h
  have kb : ∀ k, k < W.heap.size → (W.alloc o).heap[k]? = W.heap[k]? := fun k hk => Below.heap_alloc W o k hk
  have sz : (W.alloc o).heap.size = W.heap.size + 1 := by simp
  refine ⟨⟨F, r, (kb Wb (lt_of cw)).trans cw, dq.keep fun k hk e => kb k hk, ((SL.isc sl).keep fun k hk e => kb k hk).mono fun k _ e => ⟨e.1.1, fun c => ?_⟩, fun k e => ⟨(hf k e).1, fun c => ?_, isc_same (hf k e).2.2 (kb k (isc_lt (hf k e).2.2))⟩⟩, (kb Tb (lt_of ct)).trans ct, ⟨.inl xw.1, .inl xw.2.1, xw.2.2⟩, fun k e => ?_⟩
  · rcases c with c | c
    · exact e.1.2 c
    · have := isc_lt e.2; omega
  · rcases c with c | c
    · exact (hf k e).2.1 c
    · have := isc_lt (hf k e).2.2; omega
  · rcases e with e | e
    · have := xl k e; omega
    · omega
/-- fewer blocks that it does not lie in -/
theorem Vw.less {b : Nat} {Q X X' : Nat → Prop} {Wb Tb : Nat} {l' : List El} {at' : Int} {W : World} (h : Vw b Q X Wb Tb l' at' W) (hX : ∀ k, X' k → X k) (hw : X' Wb) (ht : X' Tb) : Vw b Q X' Wb Tb l' at' W := by
  obtain ⟨⟨F, r, cw, dq, sl, hf⟩, ct, xw, xl⟩ := h
  exact ⟨⟨F, r, cw, dq, sl.mono fun k _ e => ⟨e.1, fun c => e.2 (hX k c)⟩, fun k e => ⟨(hf k e).1, fun c => (hf k e).2.1 (hX k c), (hf k e).2.2⟩⟩, ct, ⟨hw, ht, xw.2.2⟩, fun k e => xl k (hX k e)⟩
/-- one more that stands, of no cells -/
theorem Vw.mark {b : Nat} {Q X : Nat → Prop} {Wb Tb : Nat} {l' : List El} {at' : Int} {W : World} (h : Vw b Q X Wb Tb l' at' W) {D : Nat} (hD : W.heap[D]? = some (.deferred (some []))) : Vw b (fun k => Q k ∨ k = D) X Wb Tb l' at' W := by
  obtain ⟨⟨F, r, cw, dq, sl, hf⟩, ct, xw, xl⟩ := h
  have nd : ¬ IsC W D := not_isc hD rfl
  refine ⟨⟨F, r, cw, dq, sl, fun k e => ⟨fun c => ?_, (hf k e).2.1, (hf k e).2.2⟩⟩, ct, ⟨xw.1, xw.2.1, xw.2.2.1, fun c => ?_, fun c => ?_⟩, xl⟩
  · rcases c with c | c
    · exact (hf k e).1 c
    · exact nd (by rw [← c]; exact (hf k e).2.2)
  · rcases c with c | c
    · exact xw.2.2.2.1 c
    · exact nd (by rw [← c]; exact ⟨_, _, _, cw⟩)
  · rcases c with c | c
    · exact xw.2.2.2.2 c
    · exact nd (by rw [← c]; exact ⟨_, _, _, ct⟩)
/-- the list alone -/
def Uw (b : Nat) (Q : Nat → Prop) (l' : List El) (W : World) : Prop := ∃ F, DQ F b l' W ∧ ∀ k, F k → ¬ Q k ∧ IsC W k
theorem Uw.fr {b : Nat} {Q G : Nat → Prop} {l' : List El} {W W' : World} (h : Uw b Q l' W) (f : Fr G W W') (hG : ∀ k, G k → ¬ IsC W k) : Uw b Q l' W' := by
  obtain ⟨F, dq, hf⟩ := h
  have kb : ∀ k, IsC W k → W'.heap[k]? = W.heap[k]? := fun k hk => f.block k (isc_lt hk) fun g => hG k g hk
  exact ⟨F, dq.keep fun k _ e => kb k (hf k e).2, fun k e => ⟨(hf k e).1, isc_same (hf k e).2 (kb k (hf k e).2)⟩⟩
theorem uw_own (b : Nat) (Q : Nat → Prop) (l' : List El) {β : Type} (B : Nat) : OwnFrom B (fun (_ : β) W => Uw b Q l' W) := fun s W W' row h hg hr => h.fr (fr_grown hg) fun k e => by
  obtain ⟨_, o, ho, hn⟩ := hr k e
  exact not_isc ho hn
theorem Uw.mark {b : Nat} {Q : Nat → Prop} {l' : List El} {W : World} (h : Uw b Q l' W) {D : Nat} (hD : W.heap[D]? = some (.deferred (some []))) : Uw b (fun k => Q k ∨ k = D) l' W := by
  obtain ⟨F, dq, hf⟩ := h
  refine ⟨F, dq, fun k e => ⟨fun c => ?_, (hf k e).2⟩⟩
  rcases c with c | c
  · exact (hf k e).1 c
  · exact not_isc hD rfl (by rw [← c]; exact (hf k e).2)
/-- the two boxes are laid -/
theorem Vw.start {b : Nat} {Q : Nat → Prop} {l' : List El} {W : World} {r : Value} (h : Uw b Q l' W) (hQ : ∀ k, Q k → k < W.heap.size) (hr : SL Q W r l') :
    Vw b Q (fun k => k = W.heap.size ∨ k = W.heap.size + 1) W.heap.size (W.heap.size + 1) l' 0 ((W.alloc (.cells #[r] 22)).alloc (.cells #[.int .i64 0] 3)) ∧ Ok Q W ((W.alloc (.cells #[r] 22)).alloc (.cells #[.int .i64 0] 3)) := by
  obtain ⟨F, dq, hf⟩ := h
  have e1 : (W.alloc (.cells #[r] 22)).heap.size = W.heap.size + 1 := by simp
  have e2 : ((W.alloc (.cells #[r] 22)).alloc (.cells #[.int .i64 0] 3)).heap.size = W.heap.size + 2 := by simp
  have bl : Below W.heap.size W ((W.alloc (.cells #[r] 22)).alloc (.cells #[.int .i64 0] 3)) := ((Below.refl _ W).alloc (Nat.le_refl _) _).alloc (by omega) _
  have h2 := heap_alloc_new (W.alloc (.cells #[r] 22)) (.cells #[.int .i64 0] 3)
  rw [e1] at h2
  have h1 : ((W.alloc (.cells #[r] 22)).alloc (.cells #[.int .i64 0] 3)).heap[W.heap.size]? = some (.cells #[r] 22 (0, 0)) := by
    rw [Below.heap_alloc _ _ _ (by omega)]; exact heap_alloc_new W _
  refine ⟨⟨⟨F, r, h1, dq.below bl, (hr.below bl).mono fun k _ e => ⟨fun c => (hf k c).1 e, fun c => by have := hQ k e; omega⟩, fun k e => ⟨(hf k e).1, fun c => by have := isc_lt (hf k e).2; omega, isc_same (hf k e).2 (bl.block k (isc_lt (hf k e).2))⟩⟩, h2, ⟨.inl rfl, .inr rfl, by omega, fun c => by have := hQ _ c; omega, fun c => by have := hQ _ c; omega⟩, fun k e => by omega⟩, Ok.below bl⟩
/-- where the ranges begin -/
theorem cw_start {w w1 w2 w3 : World} {u dv v : Value} {l : List El} {b Bx : Nat}
    (s : w1.heap[w.heap.size]? = some (.cells #[u] 22 (0, 0)) ∧ w1.heap[w.heap.size + 1]? = some (.cells #[dv] 23 (0, 0)) ∧ w1.heap[w.heap.size + 2]? = some (.cells #[.bool false] 4 (0, 0)) ∧ w.heap.size + 3 ≤ w1.heap.size ∧ Below w.heap.size w w1 ∧ DQ (fun k => w.heap.size + 3 ≤ k ∧ k < w1.heap.size) b l w1)
    (t : w2.heap[w1.heap.size]? = some (.cells #[ptr b] 24 (0, 0)) ∧ Below w1.heap.size w1 w2 ∧ w1.heap.size + 1 ≤ w2.heap.size)
    (x : w3.heap[Bx]? = some (.cells #[v] 22 (0, 0)) ∧ w2.heap.size ≤ Bx ∧ NR w2.heap.size w3 v l ∧ Below w2.heap.size w2 w3) :
    Cw w u dv v l b w1.heap.size w3.heap.size Bx (fun k => k < w.heap.size + 3 ∨ w1.heap.size ≤ k ∧ k < w3.heap.size + 1) [] (w3.alloc (.cells #[.func (.func 80) #[] #[.pointer (some ⟨Bx, 0, none⟩)]] 69)) ∧
      Uw b (fun k => k < w.heap.size + 3 ∨ w1.heap.size ≤ k ∧ k < w3.heap.size + 1) l (w3.alloc (.cells #[.func (.func 80) #[] #[.pointer (some ⟨Bx, 0, none⟩)]] 69)) := by
  obtain ⟨a0, a1, a2, sz, bl, dq⟩ := s
  obtain ⟨t0, tb, ts⟩ := t
  obtain ⟨x0, xl, xn, xb⟩ := x
  have s3 := xb.size
  have e5 : (w3.alloc (.cells #[.func (.func 80) #[] #[.pointer (some ⟨Bx, 0, none⟩)]] 69)).heap.size = w3.heap.size + 1 := by simp
  have b5 : Below w3.heap.size w3 (w3.alloc (.cells #[.func (.func 80) #[] #[.pointer (some ⟨Bx, 0, none⟩)]] 69)) := (Below.refl _ w3).alloc (Nat.le_refl _) _
  have k25 := xb.trans (b5.mono xb.size)
  have k15 := tb.trans (k25.mono tb.size)
  have hBx := lt_of x0
  have n5 := heap_alloc_new w3 (.cells #[.func (.func 80) #[] #[.pointer (some ⟨Bx, 0, none⟩)]] 69)
  refine ⟨⟨bl.trans (k15.mono (by omega)), fun k e => .inl (by omega), fun k e => by omega, ⟨.inl (by omega), (k15.block _ (by omega)).trans a0⟩, ⟨.inl (by omega), (k15.block _ (by omega)).trans a1⟩, ⟨.inl (by omega), (k15.block _ (by omega)).trans a2⟩, ⟨.inr (by omega), (k25.block _ (by omega)).trans t0⟩, ⟨.inr (by omega), n5⟩, ⟨.inr (by omega), (b5.block _ hBx).trans x0⟩, ((SL.isc xn.sl).mono fun k hk e => ?_).below b5, fun D hD => by cases hD⟩, ?_⟩
  · exact .inr (by omega)
  · exact ⟨_, DQ.isc (dq.keep fun k hk e => k15.block k e.2), fun k e => ⟨by have := e.1; omega, e.2⟩⟩
theorem kp_put {Q : Nat → Prop} {n : Nat} (hQ : ∀ k, Q k → k < n) (W : World) (q : Nat) (o o' : Obj) (hq : n ≤ q) (_ : W.heap[q]? = some o) (_ : o.isCells = false) (_ : o.isWalk = false) : Kp Q W (W.putObj q o') := fun k hk => by
  have := hQ k hk
  by_cases hkW : k < W.heap.size
  · exact (grownBy_putObj' W q o').block k hkW (by intro e; cases e; omega)
  · have e1 : (W.putObj q o').heap.size = W.heap.size := by simp [World.putObj]
    rw [Array.getElem?_eq_none (by rw [e1]; omega), Array.getElem?_eq_none (by omega)]
/-- within a round, the inner box laid -/
structure Jw (w : World) (u dv v : Value) (l : List El) (b Db Ab Bx : Nat) (Q : Nat → Prop) (Ds : List Nat) (X : Nat → Prop) (Wb Tb : Nat) (l' : List El) (at' : Int) (W0 : World) (Ib : Nat) (n : Int) (W : World) : Prop where
  cw : Cw w u dv v l b Db Ab Bx Q Ds W
  vw : Vw b Q X Wb Tb l' at' W
  ib : W.heap[Ib]? = some (.cells #[.int .i64 n] 3 (0, 0))
  ok : Ok Q W0 W
  xi : X Ib ∧ Ib ≠ Wb ∧ Ib ≠ Tb ∧ ¬ Q Ib
theorem jw_own (w : World) (u dv v : Value) (l : List El) (b Db Ab Bx : Nat) (Q : Nat → Prop) (Ds : List Nat) (X : Nat → Prop) (Wb Tb : Nat) (l' : List El) (at' : Int) (W0 : World) (Ib : Nat) (n : Int) (B : Nat) (hB : ∀ k, Q k → k < B) (h0 : W0.heap.size ≤ B) : ∀ (W W' : World) (row : Option Nat), Jw w u dv v l b Db Ab Bx Q Ds X Wb Tb l' at' W0 Ib n W → W.grownBy W' row → (∀ r, row = some r → B ≤ r ∧ ∃ o : Obj, W.heap[r]? = some o ∧ o.isCells = false) → Jw w u dv v l b Db Ab Bx Q Ds X Wb Tb l' at' W0 Ib n W' := fun W W' row h hg hr =>
  ⟨cw_own _ _ _ _ _ _ _ _ _ _ _ B hB () W W' row h.cw hg hr, vw_own _ _ _ _ _ _ _ B () W W' row h.vw hg hr, ((fr_grown hg).block Ib (lt_of h.ib) fun e => by
    obtain ⟨_, o, ho, hn⟩ := hr Ib e
    exact not_isc ho hn ⟨_, _, _, h.ib⟩).trans h.ib, h.ok.turn (fr_grown hg) fun k e => Nat.le_trans h0 (hr k e).1, h.xi⟩
theorem Jw.put {w : World} {u dv v : Value} {l : List El} {b Db Ab Bx : Nat} {Q : Nat → Prop} {Ds : List Nat} {X : Nat → Prop} {Wb Tb : Nat} {l' : List El} {at' : Int} {W0 : World} {Ib : Nat} {n : Int} {W : World} (h : Jw w u dv v l b Db Ab Bx Q Ds X Wb Tb l' at' W0 Ib n W) (m : Int) : Jw w u dv v l b Db Ab Bx Q Ds X Wb Tb l' at' W0 Ib m (W.setCell ⟨Ib, 0, none⟩ (.int .i64 m)) ∧ Ok Q W (W.setCell ⟨Ib, 0, none⟩ (.int .i64 m)) := by
  have o1 : Ok Q W (W.setCell ⟨Ib, 0, none⟩ (.int .i64 m)) := Ok.set ⟨_, _, _, h.ib⟩ h.xi.2.2.2 _
  refine ⟨⟨h.cw.ok o1, h.vw.fr (Fr.set (F := fun k => k = Ib) (i := 0) rfl _) fun k e => .inr (by rw [e]; exact ⟨h.xi.1, h.xi.2.1, h.xi.2.2.1⟩), ?_, h.ok.trans o1, h.xi⟩, o1⟩
  have := set_at (i := 0) h.ib (.int .i64 m)
  simpa using this
theorem Jw.start {w : World} {u dv v : Value} {l : List El} {b Db Ab Bx : Nat} {Q : Nat → Prop} {Ds : List Nat} {X : Nat → Prop} {Wb Tb : Nat} {l' : List El} {at' : Int} {W0 W : World} (c : Cw w u dv v l b Db Ab Bx Q Ds W) (h : Vw b Q X Wb Tb l' at' W) (o : Ok Q W0 W) : Jw w u dv v l b Db Ab Bx Q Ds (fun k => X k ∨ k = W.heap.size) Wb Tb l' at' W0 W.heap.size 0 (W.alloc (.cells #[.int .i64 0] 3)) :=
  ⟨c.ok (Ok.alloc W _), h.more _, heap_alloc_new W _, o.trans (Ok.alloc W _), .inr rfl, fun e => by have := h.xl _ h.xw.1; omega, fun e => by have := h.xl _ h.xw.2.1; omega, fun e => by have := c.lt _ e; omega⟩
section
variable {F : Fence} {n : Nat} {P : Program}
/-- a range whose variables lie in slots, its body told of its record -/
theorem rangeH {α : Type} {g : Operand} {ps : Array Tmp} {assign body : Code} {Q : Exit → Act → World → Prop} {a : Act} {w : World}
    (hro : F.round = none) (h1 : 1 ≤ n) {gf : Nat} {lb : Array Value} (hg : a.eval g = .func (.func gf) #[] lb) (hFg : F.fn gf) (eg : ∀ args w, (callFunc gf args).run P w = .ok (.enter gf args) w)
    {encs : α → Array Value} {Kp : World → World → Prop} {S Sp : List α → Prop} {N : Nat} {w0 : World} (hseq : SeqStopsK F (n - 1) P gf lb encs Kp S Sp N w0)
    (hKt : ∀ {A B C : World}, Kp A B → Kp B C → Kp A C) (hKr : ∀ A : World, Kp A A) (hKb : ∀ (W : World) (l : Nat) (o o' : Obj), w.heap.size ≤ l → W.heap[l]? = some o → o.isCells = false → o.isWalk = false → Kp W (W.putObj l o')) (hb0 : Below w0.heap.size w0 w) (hps : ∀ x, (encs x).size = ps.size)
    (I : List α → World → Prop) (Ix : Code → List α → World → Prop) (hI : OwnFrom w.heap.size I) (hIx : ∀ c, OwnFrom w.heap.size (Ix c)) (h0 : I [] w) (a₁ : α → Act)
    (hassign : ∀ (l : Nat) (x : α) (W : World) (K : Act → World → Prop), K (a₁ x) W →
      assign.wpIn (F.inRound l) (n - 1 - 1) P (Exit.then K (fun _ _ _ => False)) { tmps := (ps.zip (encs x)).foldl (fun t (p, v) => t.setIfInBounds p v) a.tmps, defers := [] } W)
    (hbody : ∀ (l : Nat) (pre : List α) (x : α) (W : World), w.heap.size ≤ l → (∃ r, W.heap[l]? = some (.loop r)) → I pre W → pre.length < N → body.wpIn (F.inRound l) (n - 1 - 1) P (ownPostG w.heap.size Kp I Ix (pre ++ [x]) W) (a₁ x) W)
    (hdone : ∀ (D : Nat) (xs : List α) (W : World), w.heap.size ≤ D → S xs → I xs W → W.heap[D]? = some (.deferred (some [])) → Q .normal { a with defers := { target := .collected D, args := #[] } :: a.defers } W)
    (hstop : ∀ (D : Nat) (c : Code) (pre : List α) (W : World), w.heap.size ≤ D → Sp pre → Ix c pre W → W.heap[D]? = some (.deferred (some [])) → c.wpIn F n P Q { a with defers := { target := .collected D, args := #[] } :: a.defers } W) :
    (Code.rangeFunc g ps assign body).wpIn F n P Q a w :=
  wpIn_rangeFunc_ownH hro h1 hg hFg eg hseq hKt hKb hb0 hps I Ix hI hIx h0 (fun x a' _ => a' = a₁ x) (fun _ _ _ _ _ _ h _ _ => h)
    (fun l pre x W K hi hK => hassign l x W K (hK _ _ (KeepsFrom.refl _ _) (hKr W) hi rfl))
    (fun l pre x a' W hl hr hi ha hp => by subst ha; exact hbody l pre x W hl hr hi hp) hdone hstop
/-- the same within a round -/
theorem rangeN {α : Type} {g : Operand} {ps : Array Tmp} {assign body : Code} {Q : Exit → Act → World → Prop} {a : Act} {w : World}
    {l₀ : Nat} {r₀ : Loop} (hro : F.round = some l₀) (hl₀ : w.heap[l₀]? = some (.loop r₀)) (h1 : 1 ≤ n) {gf : Nat} {lb : Array Value} (hg : a.eval g = .func (.func gf) #[] lb) (hFg : F.fn gf) (eg : ∀ args w, (callFunc gf args).run P w = .ok (.enter gf args) w)
    {encs : α → Array Value} {Kp : World → World → Prop} {S Sp : List α → Prop} {N : Nat} {w0 : World} (hseq : SeqStopsK F (n - 1) P gf lb encs Kp S Sp N w0)
    (hKt : ∀ {A B C : World}, Kp A B → Kp B C → Kp A C) (hKr : ∀ A : World, Kp A A) (hKb : ∀ (W : World) (l : Nat) (o o' : Obj), w.heap.size ≤ l → W.heap[l]? = some o → o.isCells = false → o.isWalk = false → Kp W (W.putObj l o')) (hb0 : Below w0.heap.size w0 w) (hps : ∀ x, (encs x).size = ps.size)
    (I : List α → World → Prop) (Ix : Code → List α → World → Prop) (hI : OwnFrom w.heap.size I) (hIx : ∀ c, OwnFrom w.heap.size (Ix c)) (h0 : I [] w) (a₁ : α → Act)
    (hassign : ∀ (l : Nat) (x : α) (W : World) (K : Act → World → Prop), K (a₁ x) W →
      assign.wpIn (F.inRound l) (n - 1 - 1) P (Exit.then K (fun _ _ _ => False)) { tmps := (ps.zip (encs x)).foldl (fun t (p, v) => t.setIfInBounds p v) a.tmps, defers := [] } W)
    (hbody : ∀ (l : Nat) (pre : List α) (x : α) (W : World), w.heap.size ≤ l → (∃ r, W.heap[l]? = some (.loop r)) → I pre W → pre.length < N → body.wpIn (F.inRound l) (n - 1 - 1) P (ownPostG w.heap.size Kp I Ix (pre ++ [x]) W) (a₁ x) W)
    (hdone : ∀ (xs : List α) (W : World), S xs → I xs W → Q .normal a W)
    (hstop : ∀ (c : Code) (pre : List α) (W : World), Sp pre → Ix c pre W → c.wpIn F n P Q a W) :
    (Code.rangeFunc g ps assign body).wpIn F n P Q a w :=
  wpIn_rangeFunc_ownN hro hl₀ h1 hg hFg eg hseq hKt hKb hb0 hps I Ix hI hIx h0 (fun x a' _ => a' = a₁ x) (fun _ _ _ _ _ _ h _ _ => h)
    (fun l pre x W K hi hK => hassign l x W K (hK _ _ (KeepsFrom.refl _ _) (hKr W) hi rfl))
    (fun l pre x a' W hl hr hi ha hp => by subst ha; exact hbody l pre x W hl hr hi hp) hdone hstop
end
theorem inb {id : Nat} {Q : Exit → Act → World → Prop} {a : Act} {w : World} (h : Q .normal a w) : Exit.inBlock id Q (.exit id) a w := by
  unfold Exit.inBlock
  simp only [if_true]
  exact h
theorem kp_r {G : Nat → Prop} (A : World) : Kp G A A := fun _ _ => rfl
/-- one proof for two ways on -/
theorem share {α β : Type} {Goal : Prop} {P G : α → β → Prop} (hmain : (∀ a b, P a b → G a b) → Goal) (hrest : ∀ a b, P a b → G a b) : Goal := hmain hrest
theorem ne_ty {W : World} {a c : Nat} {cs cs' : Array Value} {t t' : TypeId} {fz fz' : Nat × Nat} (h : W.heap[a]? = some (.cells cs t fz)) (h' : W.heap[c]? = some (.cells cs' t' fz')) (n : t ≠ t') : a ≠ c := by
  rintro rfl
  rw [h] at h'
  injection h' with h'
  injection h' with _ h' _
  exact n h'
/-- the answer is laid, three marks stand -/
structure Fz (w : World) (D6 D7 D8 : Nat) (W : World) : Prop where
  m8 : W.heap[D8]? = some (.deferred (some []))
  m7 : W.heap[D7]? = some (.deferred (some []))
  m6 : W.heap[D6]? = some (.deferred (some []))
  ans : W.heap[w.heap.size + 1 + 1]? = some (.cells #[.bool true] 4 (0, 0))
  bel : Below w.heap.size w W
  ord : w.heap.size + 2 < D6 ∧ D6 < D7 ∧ D7 < D8
theorem fn_start {w W : World} {D6 D7 D8 : Nat} (h8 : W.heap[D8]? = some (.deferred (some []))) (h7 : W.heap[D7]? = some (.deferred (some []))) (h6 : W.heap[D6]? = some (.deferred (some []))) (ha : W.heap[w.heap.size + 1 + 1]? = some (.cells #[.bool false] 4 (0, 0))) (hb : Below w.heap.size w W) (o1 : D6 < D7) (o2 : D7 < D8) (o0 : w.heap.size + 2 < D6) : Fz w D6 D7 D8 (W.setCell ⟨w.heap.size + 1 + 1, 0, none⟩ (.bool true)) :=
  ⟨(set_ne (by omega) _).trans h8, (set_ne (by omega) _).trans h7, (set_ne (by omega) _).trans h6, by
    have := set_at (i := 0) ha (.bool true)
    simpa using this, hb.setCell (p := ⟨w.heap.size + 1 + 1, 0, none⟩) (by show w.heap.size ≤ w.heap.size + 1 + 1; omega) _, o0, o1, o2⟩
theorem Fz.fin {w W : World} {D6 D7 D8 : Nat} (h : Fz w D6 D7 D8 W) : (W.putObj D8 (.deferred none)).heap[D7]? = some (.deferred (some [])) ∧ ((W.putObj D8 (.deferred none)).putObj D7 (.deferred none)).heap[D6]? = some (.deferred (some [])) ∧
    (((W.putObj D8 (.deferred none)).putObj D7 (.deferred none)).putObj D6 (.deferred none)).cell? ⟨w.heap.size + 1 + 1, 0, none⟩ = some (.bool true) ∧ Below w.heap.size w (((W.putObj D8 (.deferred none)).putObj D7 (.deferred none)).putObj D6 (.deferred none)) := by
  obtain ⟨o0, o1, o2⟩ := h.ord
  have p : ∀ (V : World) (q k : Nat) (o : Obj), k ≠ q → V.heap[k]? = some o → (V.putObj q (.deferred none)).heap[k]? = some o := fun V q k o hn hk => ((grownBy_putObj' V q (.deferred none)).block k (lt_of hk) (fun e => hn (by cases e; rfl))).trans hk
  have a7 := p W D8 D7 _ (by omega) h.m7
  have a6 := p _ D7 D6 _ (by omega) (p W D8 D6 _ (by omega) h.m6)
  have aa := p _ D6 _ _ (by omega) (p _ D7 _ _ (by omega) (p W D8 _ _ (by omega) h.ans))
  have b1 : Below w.heap.size w (W.putObj D8 (.deferred none)) := h.bel.grown (grownBy_putObj' _ D8 (.deferred none)) h.bel.size (fun j hj => by cases hj; omega)
  have b2 : Below w.heap.size w ((W.putObj D8 (.deferred none)).putObj D7 (.deferred none)) := b1.grown (grownBy_putObj' _ D7 (.deferred none)) b1.size (fun j hj => by cases hj; omega)
  have b3 : Below w.heap.size w (((W.putObj D8 (.deferred none)).putObj D7 (.deferred none)).putObj D6 (.deferred none)) := b2.grown (grownBy_putObj' _ D6 (.deferred none)) b2.size (fun j hj => by cases hj; omega)
  exact ⟨a7, a6, Lib.cell_of_heap aa 0, b3⟩
theorem ret_cell (w : World) (p : Nat) (hc : w.cell? ⟨p, 0, none⟩ = some (.bool true)) : ((Sem.run Try.prog (asAddr (Value.pointer (some { block := p, off := 0 }))) w).andThen fun a w' => Sem.run Try.prog (loadVar 4 a) w') = Result.ok (Value.bool true) w := by
  first
    | (simp [asAddr, loadVar, go_sem, hc]; done)
    | (simp [asAddr, loadVar, load, go_sem, Sem.run, hc]; done)
    | (simp [asAddr, loadVar, load, go_sem]; unfold Sem.run; rw [hc]; rfl)
theorem share3 {α β γ : Type} {Goal : Prop} {P G : α → β → γ → Prop} (hmain : (∀ a b c, P a b c → G a b c) → Goal) (hrest : ∀ a b c, P a b c → G a b c) : Goal := hmain hrest
end Go.Proofs.Ytdmjfmojacnbeaa.WalkM
