/- The law's do: what stands ahead of a deed, and the deeds 2 and 4 to 7. -/
import Derived.Test.YtdmjfmojacnbeaaRefC
import Derived.Test.YtdmjfmojacnbeaaRFindB
import Derived.Test.YtdmjfmojacnbeaaEnds
namespace Go.Proofs.Ytdmjfmojacnbeaa.EoA
open Go.RowKit
open Go.Proofs.Ytdmjfmojacnbeaa.Base
open Go.Proofs.Ytdmjfmojacnbeaa.Held
open Go.Proofs.Ytdmjfmojacnbeaa.Lay
open Go.Proofs.Ytdmjfmojacnbeaa.Free
open Go.Proofs.Ytdmjfmojacnbeaa.Keep
open Go.Proofs.Ytdmjfmojacnbeaa.Pop
open Go.Proofs.Ytdmjfmojacnbeaa.Place
open Go.Proofs.Ytdmjfmojacnbeaa.Piece
open Go.Proofs.Ytdmjfmojacnbeaa.App
open Go.Proofs.Ytdmjfmojacnbeaa.FindMath
open Go.Proofs.Ytdmjfmojacnbeaa.Find
open Go.Proofs.Ytdmjfmojacnbeaa.FindA
open Go.Proofs.Ytdmjfmojacnbeaa.DropC
open Go.Proofs.Ytdmjfmojacnbeaa.Remove
open Go.Proofs.Ytdmjfmojacnbeaa.Insert
open Go.Proofs.Ytdmjfmojacnbeaa.Same
open Go.Proofs.Ytdmjfmojacnbeaa.Awake
open Go.Proofs.Ytdmjfmojacnbeaa.Ends
open Go.Proofs.Ytdmjfmojacnbeaa.Ref
open Go.Proofs.Ytdmjfmojacnbeaa.RefB
open Go.Proofs.Ytdmjfmojacnbeaa.RefC
set_option linter.unusedVariables false
set_option linter.unusedSimpArgs false
/-- the blocks that stand, and those in which the document's list may not lie -/
structure Cx where
  Lo : Nat → Prop
  X : Nat → Prop
/-- the program's list at b and the document's at u, both l; what stands has not turned since w0 -/
structure Sx (F : Nat → Prop) (B : Cx) (b : Nat) (l : List El) (u : Value) (w0 w : World) : Prop where
  dq : DQ F b l w
  sl : SL (fun k => ¬ F k ∧ ¬ B.X k) w u l
  ow : ∀ k, F k → ¬ B.Lo k ∧ k < w.heap.size
  xw : ∀ k, B.X k → k < w.heap.size
  lo : ∀ k, B.Lo k → k < w.heap.size
  bl : Fr (fun k => ¬ B.Lo k) w0 w
theorem SL.frx {F X : Nat → Prop} {w w' : World} {v : Value} {l : List El} (h : SL (fun k => ¬ F k ∧ ¬ X k) w v l) (f : Fr F w w') : SL (fun k => ¬ Gr F w k ∧ ¬ X k) w' v l := by
  obtain ⟨a, c, rfl, hc, hr⟩ := h
  refine ⟨a, c, rfl, hc, (hr.lt.keep fun k hk hn => f.block k hk hn.1.1).mono fun k _ hn => ⟨fun e => ?_, hn.1.2⟩⟩
  rcases e with e | e
  · exact hn.1.1 e
  · exact absurd hn.2 (by omega)
theorem SL.frn {F X : Nat → Prop} {w w' : World} {v : Value} {l : List El} (h : SL (fun k => ¬ F k ∧ ¬ X k) w v l) (f : Fr F w w') : SL (fun k => ¬ Gr F w k) w' v l := (SL.frx h f).mono fun _ _ e => e.1
theorem Sx.read {F : Nat → Prop} {B : Cx} {b : Nat} {l : List El} {u : Value} {w0 w w' : World} (h : Sx F B b l u w0 w) (k : Below w.heap.size w w') : Sx F B b l u w0 w' :=
  ⟨h.dq.below k, h.sl.below k, fun j hj => ⟨(h.ow j hj).1, Nat.lt_of_lt_of_le (h.ow j hj).2 k.size⟩, fun j hj => Nat.lt_of_lt_of_le (h.xw j hj) k.size, fun j hj => Nat.lt_of_lt_of_le (h.lo j hj) k.size, h.bl.trans (Fr.of_below k)⟩
theorem Sx.drewN {F : Nat → Prop} {B : Cx} {b : Nat} {l : List El} {u : Value} {w0 w : World} (h : Sx F B b l u w0 w) (m : Nat) : Sx F B b l u w0 (w.drewN m) := h.read (bel_drewN w m)
theorem Sx.gr {F : Nat → Prop} {B : Cx} {b : Nat} {l : List El} {u : Value} {w0 w : World} (h : Sx F B b l u w0 w) (k : Nat) (e : Gr F w k) : ¬ B.Lo k := by
  rcases e with e | e
  · exact (h.ow k e).1
  · exact fun c => by have := h.lo k c; omega
theorem Sx.fb {F : Nat → Prop} {B : Cx} {b : Nat} {l : List El} {u : Value} {w0 w w' : World} (h : Sx F B b l u w0 w) (f : Fr F w w') : Fr (fun k => ¬ B.Lo k) w0 w' := h.bl.trans (f.mono fun k _ e => .inl (h.ow k e).1)
/-- another list of the document's -/
theorem Sx.next {F : Nat → Prop} {B : Cx} {b : Nat} {l l' : List El} {u r : Value} {w0 w w' : World} (h : Sx F B b l u w0 w) (q : DQ (Gr F w) b l' w') (f : Fr F w w') (s : SL (fun k => ¬ Gr F w k ∧ ¬ B.X k) w' r l') : ∃ F', Sx F' B b l' r w0 w' :=
  ⟨fun k => Gr F w k ∧ k < w'.heap.size, q.low, s.mono fun k _ e => ⟨fun c => e.1 c.1, e.2⟩, fun k e => ⟨h.gr k e.1, e.2⟩, fun k e => Nat.lt_of_lt_of_le (h.xw k e) f.size, fun k e => Nat.lt_of_lt_of_le (h.lo k e) f.size, h.fb f⟩
/-- a new row that was there ahead of the turn -/
theorem nr_sl {F X : Nat → Prop} {B0 : Nat} {w w' : World} {r : Value} {l : List El} (n : NR B0 w r l) (hF : ∀ k, F k ∨ X k → k < B0) (f : Fr F w w') : SL (fun k => ¬ Gr F w k ∧ ¬ X k) w' r l :=
  SL.frx (n.sl.mono (G' := fun k => ¬ F k ∧ ¬ X k) fun k _ e => ⟨fun c => by have := hF k (.inl c); omega, fun c => by have := hF k (.inr c); omega⟩) f
abbrev box (K A Bq C : Int) (L : Value) (bf : Bool) : Array Value := #[.int .i64 K, L, .int .i64 A, .int .i64 Bq, .int .i64 C, .bool bf]
/-- what is given is laid: the world behind do's first lines -/
theorem given_run {G : Nat → Prop} {w : World} {la : Option Addr} {lc : Nat} {m : List El} (K A Bq C : Int) (bf : Bool) (h : SL G w (.slice la m.length lc) m) (hb : (m.length + 1) * 8 ≤ 140737488355328) :
    ∃ v1 w1 g gc w2, (Builtin.append_ #[22, 22] 22 #[.slice none 0 0, .slice la m.length lc]).run Try.prog (w.alloc (.cells (box K A Bq C (.slice la m.length lc) bf) 30)) = .ok v1 w1 ∧
      (Builtin.append_ #[22, 22] 22 #[v1, .slice (some ⟨w1.heap.size, 0, none⟩) 1 1]).run Try.prog (w1.alloc (.cells #[V 77] 3)) = .ok (.slice (some ⟨g, 0, none⟩) (m.length + 1) gc) w2 ∧
      (∃ xs, RowIs w2 g xs ∧ xs.length = gc ∧ m.length + 1 ≤ gc ∧ xs.take (m.length + 1) = m ++ [77]) ∧ w.heap.size < g ∧ w2.heap[w.heap.size]? = some (.cells (box K A Bq C (.slice la m.length lc) bf) 30 (0, 0)) ∧ Below w.heap.size w w2 := by
  have b0 := (Below.refl w.heap.size w).alloc (Nat.le_refl _) (.cells (box K A Bq C (.slice la m.length lc) bf) 30)
  have s0 : w.heap.size < (w.alloc (.cells (box K A Bq C (.slice la m.length lc) bf) 30)).heap.size := lt_of (heap_alloc_new w _)
  obtain ⟨a', c', e', _, hr⟩ := h.below b0
  cases e'
  obtain ⟨v1, w1, h1, n1, k1⟩ := app_nil (c := lc) hr (by omega) 22
  obtain ⟨v2, w2, h2, n2, k2⟩ := app_one (77 : El) n1 (by omega) k1.size 22
  rcases n2 with ⟨_, e⟩ | ⟨g, gc, xs, rfl, hB, hrow, hx, hl, ht⟩
  · simp at e
  · rw [List.length_append, List.length_singleton] at *
    refine ⟨v1, w1, g, gc, w2, h1, h2, ⟨xs, hrow, hx, hl, ht⟩, Nat.lt_of_lt_of_le s0 hB, ?_, ?_⟩
    · rw [k2.block _ s0, k1.block _ s0, heap_alloc_new]
    · exact b0.trans ((k1.mono (Nat.le_of_lt s0)).trans (k2.mono (Nat.le_of_lt s0)))
/-- what a deed leaves -/
structure Dd where
  K : Int
  L : List El
  A : Int
  Bq : Int
  C : Int
  bf : Bool
def insD (l : List El) (bf : Bool) (p v : El) : List El := match findN l p 1 false 1 l.length with
  | [] => l
  | k :: _ => insS l (if bf then k else k + 1) v
def doS (l : List El) (d : Dd) : List El :=
  if d.K = 0 then d.L.reverse ++ l
  else if d.K = 1 then l ++ d.L
  else if d.K = 2 then l.drop (clamp d.A l.length)
  else if d.K = 3 then l.take (l.length - clamp d.A l.length)
  else if d.K = 4 then putS l d.A d.Bq
  else if d.K = 5 then pieceS l d.A d.Bq
  else if d.K = 6 then dropS l 0 (remP l d.A d.Bq)
  else if d.K = 7 then insD l d.bf d.A d.Bq
  else l
def In (x : Int) : Prop := -9223372036854775808 ≤ x ∧ x ≤ 9223372036854775807
/-- what do answers -/
def DoE (B : Cx) (b : Nat) (l' : List El) (w0 : World) (e : Ending) (w' : World) : Prop := ∃ r, e = .returned (.tuple #[r, .bool true]) ∧ ∃ F', Sx F' B b l' r w0 w'
end Go.Proofs.Ytdmjfmojacnbeaa.EoA
