/- The program's reader: lists. -/
import Derived.Test.YtdcnkdkhanmklabRd
namespace Go.Proofs.Ytdcnkdkhanmklab.Elem
open Go.RowKit Go.Maps
open Go.Proofs.Ytdcnkdkhanmklab.SetMath
open Go.Proofs.Ytdcnkdkhanmklab.BytesMath
open Go.Proofs.Ytdcnkdkhanmklab.ValueMath
open Go.Proofs.Ytdcnkdkhanmklab.ReadMath
open Go.Proofs.Ytdcnkdkhanmklab.Base
open Go.Proofs.Ytdcnkdkhanmklab.Vals
open Go.Proofs.Ytdcnkdkhanmklab.Rdr
set_option linter.unusedVariables false

theorem many_len {α : Type} {p : Bs → Option (α × Bs)} {k : Nat} (hp : ∀ s x r, p s = some (x, r) → r.length + k ≤ s.length) : ∀ (n : Nat) (s : Bs) (l : List α) (r : Bs), many p n s = some (l, r) → r.length + n * k ≤ s.length
  | 0, s, l, r, h => by
    injection h with h
    injection h with h1 h2
    subst h2
    omega
  | n + 1, s, l, r, h => by
    obtain ⟨⟨x, r1⟩, h1, h2⟩ := Option.bind_eq_some_iff.1 h
    obtain ⟨⟨t, r2⟩, h3, h4⟩ := Option.bind_eq_some_iff.1 h2
    injection h4 with h4
    injection h4 with h5 h6
    simp only at h3 h6
    subst h6
    have e1 := hp _ _ _ h1
    have e2 := many_len hp n _ _ _ h3
    have e3 : (n + 1) * k = n * k + k := Nat.succ_mul n k
    omega
theorem len_T {s x r : Bs} (h : rdT s = some (x, r)) : r.length + 4 ≤ s.length := by
  rw [(rdT_some h).1]; unfold encT; rw [List.length_append, List.length_append, len_le4]; omega
theorem len_F {s r : Bs} {x : Bs × Bs} (h : rdF s = some (x, r)) : r.length + 8 ≤ s.length := by
  rw [(rdF_some h).1]; unfold encF encT; simp only [List.length_append, len_le4]; omega
theorem len_E {s r : Bs} {x : Bs × Int} (h : rdE s = some (x, r)) : r.length + 12 ≤ s.length := by
  rw [(rdE_some h).1]; unfold encE encT; simp only [List.length_append, len_le4, len_le8]; omega
/- many, one behind the other -/
theorem many_step {α : Type} {p : Bs → Option (α × Bs)} {n m : Nat} {r1 r r' : Bs} {xs : List α} {x : α} (h : many p n r1 = (many p (m + 1) r).bind fun t => some (xs ++ t.1, t.2)) (hp : p r = some (x, r')) : many p n r1 = (many p m r').bind fun t => some ((xs ++ [x]) ++ t.1, t.2) := by
  rw [h]
  show (((p r).bind fun q => (many p m q.2).bind fun t => some (q.1 :: t.1, t.2)).bind _) = _
  rw [hp]
  show (((many p m r').bind fun t => some (x :: t.1, t.2)).bind _) = _
  cases many p m r' with
  | none => rfl
  | some q => simp
theorem many_stop {α : Type} {p : Bs → Option (α × Bs)} {n m : Nat} {r1 r : Bs} {xs : List α} (h : many p n r1 = (many p (m + 1) r).bind fun t => some (xs ++ t.1, t.2)) (hp : p r = none) : many p n r1 = none := by
  rw [h]
  show (((p r).bind fun q => (many p m q.2).bind fun t => some (q.1 :: t.1, t.2)).bind _) = _
  rw [hp]
  rfl
theorem many_done {α : Type} {p : Bs → Option (α × Bs)} {n : Nat} {r1 r : Bs} {xs : List α} (h : many p n r1 = (many p 0 r).bind fun t => some (xs ++ t.1, t.2)) : many p n r1 = some (xs, r) := by
  rw [h]
  show some (xs ++ [], r) = _
  rw [List.append_nil]
theorem fr_low {F : Nat → Prop} {a c d : World} (h : Fr F a c) (k : Below a.heap.size c d) : Fr F a d :=
  ⟨k.os.trans h.os, k.tape.trans h.tape, k.output.trans h.output, Nat.le_trans h.size k.size, fun i hi hn => (k.block i hi).trans (h.block i hi hn)⟩
theorem nr_fr {B b : Nat} {w w' : World} {v : Value} {l : List El} (h : NR B w v l) (f : Fr (At b) w w') (hb : b < B) : NR B w' v l := h.keep fun k hk hB => f.block k hk (by intro e; have : k = b := e; omega)
theorem row_fr {B b e sz n : Nat} {w w' : World} {v : Value} {xs : List Value} (h : w.ownsRow B e sz v n xs) (f : Fr (At b) w w') (hb : b < B) : w'.ownsRow B e sz v n xs := by
  refine ⟨h.1, h.2.imp id ?_⟩
  rintro ⟨g, cap, cur, rfl, hbg, hg, rest⟩
  exact ⟨g, cap, cur, rfl, hbg, (f.block g (lt_of hg) (by intro e; have : g = b := e; omega)).trans hg, rest⟩

theorem appFRow {B : Nat} {w : World} {v : Value} {l : FRow.LL} (x : FRow.EN) (h : FRow.OR B w v l) (hb : l.length + 1 ≤ FRow.big) (hB : B ≤ w.heap.size) :
    ∃ v' w', (Builtin.append_ #[23, 23] 23 #[v, .slice (some ⟨w.heap.size, 0, none⟩) 1 1]).run Try.prog (w.alloc (.cells #[.string (mk x.1), .string (mk x.2)] 38)) = .ok v' w' ∧ FRow.OR B w' v' (l ++ [x]) ∧ Below B w w' := by
  have b1 := FRow.bnew w (.cells #[.string (mk x.1), .string (mk x.2)] 38)
  obtain ⟨v', w', h1, h2, h3⟩ := FRow.append_fs B _ v _ l [x] (FRow.row_below h b1) (FRow.fs_one w x) (Nat.le_trans hB b1.size) (by simpa using hb)
  exact ⟨v', w', h1, h2, (b1.mono hB).trans ((Below.refl B _).grown h3 (Nat.le_trans hB b1.size) (fun k hk => ((FRow.row_below h b1).lt k hk).1))⟩

theorem appERow {B : Nat} {w : World} {v : Value} {l : ERow.LL} (x : ERow.EN) (h : ERow.OR B w v l) (hb : l.length + 1 ≤ ERow.big) (hB : B ≤ w.heap.size) :
    ∃ v' w', (Builtin.append_ #[24, 24] 24 #[v, .slice (some ⟨w.heap.size, 0, none⟩) 1 1]).run Try.prog (w.alloc (.cells #[.string (mk x.1), .int .i64 x.2] 40)) = .ok v' w' ∧ ERow.OR B w' v' (l ++ [x]) ∧ Below B w w' := by
  have b1 := ERow.bnew w (.cells #[.string (mk x.1), .int .i64 x.2] 40)
  obtain ⟨v', w', h1, h2, h3⟩ := ERow.append_fs B _ v _ l [x] (ERow.row_below h b1) (ERow.fs_one w x) (Nat.le_trans hB b1.size) (by simpa using hb)
  exact ⟨v', w', h1, h2, (b1.mono hB).trans ((Below.refl B _).grown h3 (Nat.le_trans hB b1.size) (fun k hk => ((ERow.row_below h b1).lt k hk).1))⟩
end Go.Proofs.Ytdcnkdkhanmklab.Elem
