/- The document's Decode: what it holds between two operations, and the mathematics of its loop. -/
import Derived.Test.YtdcnkdkhanmklaaRRd
import Derived.Test.YtdcnkdkhanmklaaDec
import Derived.Test.YtdcnkdkhanmklaaLastM
import Derived.Test.YtdcnkdkhanmklaaREnc5
import Derived.Test.YtdcnkdkhanmklaaRCheck
namespace Go.Proofs.Ytdcnkdkhanmklaa.RDecM
open Go.RowKit Go.Maps
open Go.Proofs.Ytdcnkdkhanmklaa.SetMath
open Go.Proofs.Ytdcnkdkhanmklaa.BytesMath
open Go.Proofs.Ytdcnkdkhanmklaa.ValueMath
open Go.Proofs.Ytdcnkdkhanmklaa.ReadMath
open Go.Proofs.Ytdcnkdkhanmklaa.Base
open Go.Proofs.Ytdcnkdkhanmklaa.Vals
open Go.Proofs.Ytdcnkdkhanmklaa.Rdr (ptr At)
open Go.Proofs.Ytdcnkdkhanmklaa.RRd
open Go.Proofs.Ytdcnkdkhanmklaa.Dec
open Go.Proofs.Ytdcnkdkhanmklaa.Elem
set_option linter.unusedVariables false
set_option linter.unusedSimpArgs false
abbrev zC : Obj := .cells #[.int .i64 0, .string ⟨#[]⟩, .slice none 0 0, .slice none 0 0, .slice none 0 0] 26 (0, 0)
structure DI (w : World) (P : Nat) (S : Bs) (s : RS) (K T A1 A2 A3 : Value) (W : World) : Prop where
  b0 : W.heap[w.heap.size]? = some zC
  rr : RR (w.heap.size + 1) S s W
  bp : W.heap[P]? = some (.cells #[K, T, A1, A2, A3] 26 (0, 0))
  hp : w.heap.size + 2 ≤ P
  bel : Below w.heap.size w W
section
variable {w W W' : World} {P : Nat} {S : Bs} {s s' : RS} {K T A1 A2 A3 : Value}
theorem DI.lt (h : DI w P S s K T A1 A2 A3 W) : P + 1 ≤ W.heap.size := lt_of h.bp
theorem DI.low (h : DI w P S s K T A1 A2 A3 W) (b : Below (P + 1) W W') : DI w P S s K T A1 A2 A3 W' := by
  have hp := h.hp
  exact ⟨(b.block _ (by omega)).trans h.b0, rr_keep h.rr (b.block _ (by omega)), (b.block _ (by omega)).trans h.bp, hp, h.bel.trans (b.mono (by omega))⟩
theorem DI.drew (h : DI w P S s K T A1 A2 A3 W) : DI w P S s K T A1 A2 A3 W.drew := h.low ((Below.refl _ W).drew)
theorem DI.alloc (h : DI w P S s K T A1 A2 A3 W) (o : Obj) : DI w P S s K T A1 A2 A3 (W.alloc o) := h.low ((Below.refl _ W).alloc h.lt o)
theorem DI.call (h : DI w P S s K T A1 A2 A3 W) (r : RR (w.heap.size + 1) S s' W') (f : Fr (At (w.heap.size + 1)) W W') : DI w P S s' K T A1 A2 A3 W' := by
  have hp := h.hp
  have hl := h.lt
  exact ⟨(f.block _ (by omega) (by intro e; have : w.heap.size = w.heap.size + 1 := e; omega)).trans h.b0, r, (f.block _ (by omega) (by intro e; have : P = w.heap.size + 1 := e; omega)).trans h.bp, hp, h.bel.trans (f.below (by omega) (fun k e => by have : k = w.heap.size + 1 := e; omega))⟩
theorem DI.set1 (h : DI w P S s K T A1 A2 A3 W) (v : Value) : DI w P S s K v A1 A2 A3 (W.setCell ⟨P, 1, none⟩ v) := by
  have hp := h.hp
  exact ⟨(set_ne (by omega) _).trans h.b0, rr_keep h.rr (set_ne (by omega) _), set_at h.bp _, hp, bset h.bel (by omega) _⟩
theorem DI.set2 (h : DI w P S s K T A1 A2 A3 W) (v : Value) : DI w P S s K T v A2 A3 (W.setCell ⟨P, 2, none⟩ v) := by
  have hp := h.hp
  exact ⟨(set_ne (by omega) _).trans h.b0, rr_keep h.rr (set_ne (by omega) _), set_at h.bp _, hp, bset h.bel (by omega) _⟩
theorem DI.set3 (h : DI w P S s K T A1 A2 A3 W) (v : Value) : DI w P S s K T A1 v A3 (W.setCell ⟨P, 3, none⟩ v) := by
  have hp := h.hp
  exact ⟨(set_ne (by omega) _).trans h.b0, rr_keep h.rr (set_ne (by omega) _), set_at h.bp _, hp, bset h.bel (by omega) _⟩
theorem DI.set4 (h : DI w P S s K T A1 A2 A3 W) (v : Value) : DI w P S s K T A1 A2 v (W.setCell ⟨P, 4, none⟩ v) := by
  have hp := h.hp
  exact ⟨(set_ne (by omega) _).trans h.b0, rr_keep h.rr (set_ne (by omega) _), set_at h.bp _, hp, bset h.bel (by omega) _⟩
end
/- the loop -/
structure Jn {α : Type} (p : Bs → Option (α × Bs)) (n : Nat) (r2 : Bs) (k : Nat) (xs : List α) (s : RS) : Prop where
  le : k ≤ n
  len : xs.length = k
  b : s.1.length ≤ 140737488355328
  ok : s.2 = false → many p n r2 = (many p (n - k) s.1).bind fun t => some (xs ++ t.1, t.2)
  no : s.2 = true → many p n r2 = none
theorem Jn.start {α : Type} (p : Bs → Option (α × Bs)) (n : Nat) (r2 : Bs) (h : r2.length ≤ 140737488355328) : Jn p n r2 0 [] (r2, false) :=
  ⟨Nat.zero_le _, rfl, h, fun _ => by rw [Nat.sub_zero]; cases many p n r2 with | none => rfl | some t => rfl, fun h => by cases h⟩
theorem Jn.step {α : Type} {p : Bs → Option (α × Bs)} {g : RS → α × RS} (hs : ∀ r x r', p r = some (x, r') → g (r, false) = (x, r', false)) (hn : ∀ r, p r = none → ∃ x r', g (r, false) = (x, r', true))
    (hle : ∀ s, (g s).2.1.length ≤ s.1.length) {n : Nat} {r2 : Bs} {k : Nat} {xs : List α} {rk : Bs} (h : Jn p n r2 k xs (rk, false)) (hk : k < n) : Jn p n r2 (k + 1) (xs ++ [(g (rk, false)).1]) (g (rk, false)).2 := by
  have hok := h.ok rfl
  rw [show n - k = (n - (k + 1)) + 1 by omega] at hok
  refine ⟨hk, by rw [List.length_append, h.len]; rfl, Nat.le_trans (hle _) h.b, ?_, ?_⟩
  · intro hf
    cases hp : p rk with
    | none => obtain ⟨x, r', e⟩ := hn rk hp; rw [e] at hf; cases hf
    | some q =>
      obtain ⟨x, r'⟩ := q
      have := many_step hok hp
      rw [hs rk x r' hp]
      exact this
  · intro hf
    cases hp : p rk with
    | none => exact many_stop hok hp
    | some q =>
      obtain ⟨x, r'⟩ := q
      rw [hs rk x r' hp] at hf
      cases hf
theorem Jn.done {α : Type} {p : Bs → Option (α × Bs)} {n : Nat} {r2 : Bs} {xs : List α} {rk : Bs} (h : Jn p n r2 n xs (rk, false)) : many p n r2 = some (xs, rk) := by
  have := h.ok rfl
  rw [Nat.sub_self] at this
  exact many_done this
theorem fd_le (s : RS) : (fdS s).2.1.length ≤ s.1.length := Nat.le_trans (tx_le (txS s).2).1 (tx_le s).1
theorem sc_le (s : RS) : (scS s).2.1.length ≤ s.1.length := Nat.le_trans (tx_le (nbS 8 s).2).1 (nb_le 8 s)
theorem JnT {n : Nat} {r2 : Bs} {k : Nat} {xs : List Bs} {rk : Bs} (h : Jn rdT n r2 k xs (rk, false)) (hk : k < n) : Jn rdT n r2 (k + 1) (xs ++ [(txS (rk, false)).1]) (txS (rk, false)).2 := h.step (g := txS) (fun _ _ _ h => tx_some h) (fun r h => by obtain ⟨r', e⟩ := tx_none h; exact ⟨_, r', e⟩) (fun s => (tx_le s).1) hk
theorem JnF {n : Nat} {r2 : Bs} {k : Nat} {xs : List (Bs × Bs)} {rk : Bs} (h : Jn rdF n r2 k xs (rk, false)) (hk : k < n) : Jn rdF n r2 (k + 1) (xs ++ [(fdS (rk, false)).1]) (fdS (rk, false)).2 := h.step (g := fdS) (fun _ _ _ h => fd_some h) (fun r h => fd_none h) fd_le hk
theorem JnE {n : Nat} {r2 : Bs} {k : Nat} {xs : List (Bs × Int)} {rk : Bs} (h : Jn rdE n r2 k xs (rk, false)) (hk : k < n) : Jn rdE n r2 (k + 1) (xs ++ [(scS (rk, false)).1]) (scS (rk, false)).2 := h.step (g := scS) (fun _ _ _ h => sc_some h) (fun r h => sc_none h) sc_le hk
theorem dec_none {S : Bs} (h : valS S = none) : decV S = (zV, 0, 132) := by unfold decV decS; rw [h]; rfl
theorem dec_some {S r' : Bs} {x : Vl} (h : valS S = some (x, r')) : decV S = if chk x = 0 then (x, S.length - r'.length, 0) else (zV, 0, 132) := by
  unfold decV decS
  rw [h]
  simp only [Option.bind_some]
  by_cases h0 : chk x = 0
  · rw [if_pos h0, if_pos h0]
  · rw [if_neg h0, if_neg h0]
end Go.Proofs.Ytdcnkdkhanmklaa.RDecM
