/- A range over an iterator that turns memory of its own between two rounds: the relation R tells what it may turn. -/
import Derived.RangeFuncWrites
import Derived.RangeFuncNested
namespace Go.Proofs.Ytiaggddpoddbcaa.Range
open Go Go.RowKit
set_option linter.unusedVariables false
/- the iterator's word: called in any later world, with an invariant of the caller's that abides R from there on -/
def SeqR {α : Type} (R : Nat → World → World → Prop) (n : Nat) (P : Program) (g : Nat) (lb : Array Value) (encs : α → Array Value) (Kp : World → World → Prop) (S Sp : List α → Prop) (N : Nat) (w : World) : Prop :=
  ∀ (l : Nat) (J Jx : List α → World → Prop) (W : World), Below w.heap.size w W → (∀ s A A', J s A → R W.heap.size A A' → J s A') → (∀ s A A', Jx s A → R W.heap.size A A' → Jx s A') →
    (∀ pre x W1, J pre W1 → pre.length < N → YieldAt Fence.wide (n - 1) P l (encs x) W1 fun e W' => (e = .returned (.bool true) ∧ J (pre ++ [x]) W' ∧ Kp W1 W') ∨ (e = .returned (.bool false) ∧ Jx (pre ++ [x]) W')) →
    J [] W → Calls P g (#[.func (.yield l) #[] #[]] ++ lb) W fun e W' => (∃ v, e = .returned v) ∧ ((∃ xs, S xs ∧ J xs W') ∨ ∃ pre, Sp pre ∧ Jx pre W')
/- the loop's record at D + 1, and the block of what is deferred at D -/
structure Book (D : Nat) (r : Loop) (W : World) : Prop where
  lp : W.heap[D + 1]? = some (.loop r)
  df : W.heap[D]? = some (.deferred (some []))
section
variable {D : Nat} {r r' : Loop} {W W' : World}
theorem Book.keep (h : Book D r W) (hk : ∀ (k : Nat) (o : Obj), W.heap[k]? = some o → o.isCells = false → D ≤ k → W'.heap[k]? = some o) : Book D r W' := ⟨hk _ _ h.lp rfl (by omega), hk _ _ h.df rfl (Nat.le_refl _)⟩
theorem Book.put (h : Book D r W) : Book D r' (W.putObj (D + 1) (.loop r')) := ⟨World.putObj_heap_same (Array.getElem?_eq_some_iff.1 h.lp).1, (World.putObj_heap_other (by omega)).trans h.df⟩
end
theorem range_own {α : Type} {n : Nat} {P : Program} {g : Operand} {ps : Array Tmp} {assign body : Code} {Q : Exit → Act → World → Prop} {a : Act} {w : World}
    (h1 : 1 ≤ n) {gf : Nat} {lb : Array Value} (hg : a.eval g = .func (.func gf) #[] lb) (eg : ∀ args w, (callFunc gf args).run P w = .ok (.enter gf args) w)
    {encs : α → Array Value} {Kp : World → World → Prop} {S Sp : List α → Prop} {N : Nat} {w0 : World} {R : Nat → World → World → Prop} (hseq : SeqR R (n - 1) P gf lb encs Kp S Sp N w0)
    (hb0 : Below w0.heap.size w0 w) (hps : ∀ x, (encs x).size = ps.size)
    (hRo : ∀ (B : Nat) (A A' : World) (k : Nat) (o : Obj), R B A A' → A.heap[k]? = some o → o.isCells = false → A'.heap[k]? = some o)
    (hKt : ∀ {A B C : World}, Kp A B → Kp B C → Kp A C) (hKb : ∀ (W : World) (k : Nat) (o o' : Obj), w.heap.size ≤ k → W.heap[k]? = some o → o.isCells = false → Kp W (W.putObj k o'))
    (I : List α → World → Prop) (Ix : Code → List α → World → Prop) (hI : OwnFrom w.heap.size I) (hIx : ∀ c, OwnFrom w.heap.size (Ix c))
    (hIR : ∀ s A A', I s A → R (w.heap.size + 2) A A' → I s A') (hIxR : ∀ c s A A', Ix c s A → R (w.heap.size + 2) A A' → Ix c s A')
    (h0 : I [] w) (a₁ : α → World → Act) (A : α → World → World) (hA : ∀ x W, Below W.heap.size W (A x W)) (hAI : ∀ pre x W, I pre W → I pre (A x W)) (hAK : ∀ pre x W, I pre W → Kp W (A x W))
    (hassign : ∀ (l : Nat) (x : α) (W : World) (K : Act → World → Prop), K (a₁ x W) (A x W) →
      assign.wpIn (Fence.wide.inRound l) (n - 1 - 1) P (Exit.then K (fun _ _ _ => False)) { tmps := (ps.zip (encs x)).foldl (fun t (p, v) => t.setIfInBounds p v) a.tmps, defers := [] } W)
    (hbody : ∀ (l : Nat) (pre : List α) (x : α) (W V : World), w.heap.size ≤ W.heap.size → I pre V → pre.length < N → V.heap.size = (A x W).heap.size → (∀ k, W.heap.size ≤ k → V.heap[k]? = (A x W).heap[k]?) → body.wpIn (Fence.wide.inRound l) (n - 1 - 1) P (ownPostG w.heap.size Kp I Ix (pre ++ [x]) V) (a₁ x W) V)
    (hdone : ∀ (D : Nat) (xs : List α) (W : World), w.heap.size ≤ D → S xs → I xs W → W.heap[D]? = some (.deferred (some [])) → Q .normal { a with defers := { target := .collected D, args := #[] } :: a.defers } W)
    (hstop : ∀ (D : Nat) (c : Code) (pre : List α) (W : World), w.heap.size ≤ D → Sp pre → Ix c pre W → W.heap[D]? = some (.deferred (some [])) → c.wpIn Fence.wide n P Q { a with defers := { target := .collected D, args := #[] } :: a.defers } W) :
    (Code.rangeFunc g ps assign body).wpIn Fence.wide n P Q a w := by
  refine wpIn_rangeFunc fun fn hfn => ?_
  obtain ⟨B, hB⟩ : ∃ B, B = w.heap.size := ⟨_, rfl⟩
  obtain ⟨lr, hlr⟩ : ∃ lr : LoopState → Option Code → Loop, ∀ st pe, lr st pe = { state := st, pending := pe, fn, tmps := a.tmps, params := ps, assign, body, defers := B } := ⟨fun st pe => _, fun _ _ => rfl⟩
  obtain ⟨V, hV⟩ : ∃ V, V = (w.alloc (.deferred (some []))).alloc (.loop (lr .ready none)) := ⟨_, rfl⟩
  have sV : V.heap.size = B + 2 := by rw [hV, hB]; simp
  have kV : Book B (lr .ready none) V := by
    refine ⟨?_, ?_⟩
    · rw [hV, hB]; have := World.alloc_heap_new (w.alloc (.deferred (some []))) (.loop (lr .ready none)); rwa [World.size_alloc] at this
    · rw [hV, hB, Below.heap_alloc _ _ _ (by simp)]; exact World.alloc_heap_new w _
  have iV : I [] V := by rw [hV]; exact hI.alloc _ (hI.alloc _ h0)
  have bV : Below w0.heap.size w0 V := hb0.trans (by rw [hV]; exact (((Below.refl _ w).alloc (Nat.le_refl _) _).alloc (by simp) _).mono hb0.size)
  refine ⟨B + 1, [{ target := .collected B, args := #[] }], V, { target := .fn (.func gf) lb, args := #[.func (.yield (B + 1)) #[] #[]] }, V, gf, #[.func (.yield (B + 1)) #[] #[]] ++ lb, V, ?_, ?_, fun _ _ => trivial, ?_, fun _ => h1, ?_⟩
  · rw [hV, hlr, hB]; exact run_enterLoop_outer _ _ _ _ _
  · simp only [resolve, hg]
    simp [go_sem]
  · simp [invoke, go_sem, eg]
  · refine callsIn_wide.2 ((hseq (B + 1) (fun pre W => I pre W ∧ Book B (lr .ready none) W) (fun pre W => ∃ c, Ix c pre W ∧ Book B (lr .done (some c)) W) V bV (fun s A A' hs hr => ?_) (fun s A A' hs hr => ?_) ?_ ⟨iV, kV⟩).mono ?_)
    · rw [sV, hB] at hr
      exact ⟨hIR s A A' hs.1 hr, hs.2.keep fun k o hk ho _ => hRo _ _ _ k o hr hk ho⟩
    · rw [sV, hB] at hr
      obtain ⟨c, hc, bk⟩ := hs
      exact ⟨c, hIxR c s A A' hc hr, bk.keep fun k o hk ho _ => hRo _ _ _ k o hr hk ho⟩
    · rintro pre x W ⟨hi, bk⟩ hlen
      have hy := run_yield (P := P) (args := encs x) bk.lp (by rw [hlr]; exact hps x)
      rw [hlr] at hy
      have hlB : B + 1 < W.heap.size := (Array.getElem?_eq_some_iff.1 bk.lp).1
      have bkA : Book B (lr .ready none) (A x W) := bk.keep fun k o hk ho _ => ((hA x W).block k (Array.getElem?_eq_some_iff.1 hk).1).trans hk
      refine ⟨fn, _, assign, body, hy, roundIn_of_wpIn hfn (hassign _ x W _ ⟨_, run_beginRound bkA.lp (by rw [hlr]), ?_⟩)⟩
      obtain ⟨W2, hW2⟩ : ∃ W2, W2 = (A x W).putObj (B + 1) (.loop { lr .ready none with state := .busy }) := ⟨_, rfl⟩
      rw [← hW2]
      have bk2 : Book B { lr .ready none with state := .busy } W2 := by rw [hW2]; exact bkA.put
      have kp2 : Kp W W2 := by rw [hW2]; exact hKt (hAK pre x W hi) (hKb _ _ _ _ (by omega) bkA.lp rfl)
      have i2 : I pre W2 := by rw [hW2]; exact hI.putObj _ (hAI _ _ _ hi) (by omega) bkA.lp rfl
      refine wpIn_mono (hbody _ pre x W W2 (by omega) i2 hlen (by rw [hW2]; simp [World.putObj]) (fun k hk => by rw [hW2]; exact World.putObj_heap_other (by omega))) ?_
      have fin : ∀ (jump : Option Code) (W3 : World), KeepsFrom w.heap.size W2 W3 → Book B { lr .ready none with state := .busy } W3 ∧
          (Instr.endRound (B + 1) jump).run P W3 = .ok (.bool jump.isNone) (W3.putObj (B + 1) (.loop (lr (if jump.isNone then .ready else .done) jump))) := fun jump W3 hk3 => by
        have bk3 : Book B { lr .ready none with state := .busy } W3 := bk2.keep fun k o hk ho hle => hk3.same k o (by omega) hk ho
        refine ⟨bk3, ?_⟩
        have e := run_endRound (P := P) jump bk3.lp
        rw [hlr] at e
        rw [hlr]
        exact e
      rintro e a3 W3 hp
      cases e with
      | normal =>
        obtain ⟨hk3, hkp3, hi3⟩ := hp
        obtain ⟨bk3, hr3⟩ := fin none W3 hk3
        exact ⟨_, _, hr3, .inl ⟨rfl, ⟨hI.putObj _ hi3 (by omega) bk3.lp rfl, bk3.put⟩, hKt (hKt kp2 hkp3) (hKb _ _ _ _ (by omega) bk3.lp rfl)⟩⟩
      | ret =>
        obtain ⟨hk3, hi3⟩ := hp
        obtain ⟨bk3, hr3⟩ := fin (some .ret) W3 hk3
        exact ⟨_, _, hr3, .inr ⟨rfl, .ret, (hIx _).putObj _ hi3 (by omega) bk3.lp rfl, bk3.put⟩⟩
      | exit id =>
        obtain ⟨hk3, hi3⟩ := hp
        obtain ⟨bk3, hr3⟩ := fin (some (.exit id)) W3 hk3
        exact ⟨_, _, hr3, .inr ⟨rfl, .exit id, (hIx _).putObj _ hi3 (by omega) bk3.lp rfl, bk3.put⟩⟩
      | goto t =>
        obtain ⟨hk3, hi3⟩ := hp
        obtain ⟨bk3, hr3⟩ := fin (some (.goto t)) W3 hk3
        exact ⟨_, _, hr3, .inr ⟨rfl, .goto t, (hIx _).putObj _ hi3 (by omega) bk3.lp rfl, bk3.put⟩⟩
      | panic ch => exact hp.elim
      | outgrown => exact hp.elim
    · rintro e W2 ⟨⟨v, rfl⟩, (⟨xs, hS, hi, bk⟩ | ⟨pre, hSp, c, hi, bk⟩)⟩
      · have hr := run_endLoop (P := P) bk.lp (by rw [hlr]; simp)
        rw [hlr] at hr
        exact ⟨none, _, hr, hdone B xs _ (by omega) hS (hI.putObj _ hi (by omega) bk.lp rfl) ((World.putObj_heap_other (by omega)).trans bk.df)⟩
      · have hr := run_endLoop (P := P) bk.lp (by rw [hlr]; simp)
        rw [hlr] at hr
        exact ⟨some c, _, hr, hstop B c pre _ (by omega) hSp ((hIx c).putObj _ hi (by omega) bk.lp rfl) ((World.putObj_heap_other (by omega)).trans bk.df)⟩
end Go.Proofs.Ytiaggddpoddbcaa.Range
