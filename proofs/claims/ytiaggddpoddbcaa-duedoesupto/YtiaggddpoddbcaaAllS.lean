/- All of an index over texts: what it gives to go over; going over it. -/
import Derived.Test.YtiaggddpoddbcaaCol
import Derived.Test.YtiaggddpoddbcaaNilS
namespace Go.Proofs.Ytiaggddpoddbcaa.AllS
open Go.RowKit Go.Maps Go.Shelf
attribute [local go_sem] Oper.semAt_some
open Go.Proofs.Ytiaggddpoddbcaa.HeapMath
open Go.Proofs.Ytiaggddpoddbcaa.Heap
open Go.Proofs.Ytiaggddpoddbcaa.Turn
open Go.Proofs.Ytiaggddpoddbcaa.Before
open Go.Proofs.Ytiaggddpoddbcaa.RowB
open Go.Proofs.Ytiaggddpoddbcaa.Edge
open Go.Proofs.Ytiaggddpoddbcaa.IndexS
open Go.Proofs.Ytiaggddpoddbcaa.ThingS
open Go.Proofs.Ytiaggddpoddbcaa.Range
open Go.Proofs.Ytiaggddpoddbcaa.Rise
open Go.Proofs.Ytiaggddpoddbcaa.Peek
open Go.Proofs.Ytiaggddpoddbcaa.PeekS
open Go.Proofs.Ytiaggddpoddbcaa.Col
set_option linter.unusedVariables false
set_option linter.unusedSimpArgs false
theorem ix_seq {base b : Nat} {s S : Es} {w : World} (h : IX base b w s) (hS : Sorted ltS s S) (hlen : s.length + 1 < 1099511627776) (n : Nat) :
    b < w.heap.size ∧ ∃ g, g < w.heap.size ∧ ∀ (w3 : World) (Bx N : Nat), Below w.heap.size w w3 → w3.heap[Bx]? = some (.cells #[.pointer (some ⟨b, 0, none⟩)] 100 (0, 0)) → N ≤ w3.heap.size → SeqR Tr n Try.prog 54 #[.pointer (some ⟨Bx, 0, none⟩)] (fun x => #[eS x]) (Rise.Kp [Bx, b, g] N) (fun xs => xs = S) (fun pre => pre <+: S) S.length w3 := by
  obtain ⟨l, hr, hh, hp⟩ := h
  have hS' : Sorted ltS l S := ⟨hS.perm.trans hp.symm, hS.inc⟩
  obtain ⟨ev, mv, h'⟩ := hr.1
  have hl := hp.length_eq
  have hb := lt_of h'.idx
  refine ⟨hb, ?_⟩
  rcases Nat.eq_zero_or_pos l.length with h0 | h0
  · obtain ⟨a, c, rfl⟩ := row_shape h'.ent
    have e1 : l = [] := List.length_eq_zero_iff.1 h0
    have e2 : S = [] := by have := hS'.perm; rw [e1] at this; exact this.eq_nil
    rw [e2]
    rw [h0] at h'
    have hrow : w.cell? ⟨b, 0, none⟩ = some (.slice a 0 c) := Lib.cell_of_heap h'.idx 0
    refine ⟨b, hb, fun w3 Bx N hbel hbx hN L J Jx W hW hJ _ hY hJ0 => ?_⟩
    have h1 := lt_of hbx
    have h2 : b < w3.heap.size := Nat.lt_of_lt_of_le hb hbel.size
    exact rise_nil (Lib.cell_of_heap ((hW.block Bx h1).trans hbx) 0) ((hW.cell (p := ⟨b, 0, none⟩) h2).trans ((hbel.cell (p := ⟨b, 0, none⟩) hb).trans hrow)) hJ hJ0
  · obtain ⟨g, c, rfl, _, hc⟩ := row_block h'.ent h0
    have c0 : w.cell? ⟨b, 0, none⟩ = some (.slice (some ⟨g, 0, none⟩) l.length c) := Lib.cell_of_heap h'.idx 0
    have hg : g < w.heap.size := block_lt_of_cell (hc 0 h0).1
    refine ⟨g, hg, fun w3 Bx N hbel hbx hN => ?_⟩
    have hent : EN g l w := hc
    exact rise_seq n h0 (by omega) (sorted_nodup hS') hh hS' (ent_keys keysS).tot ⟨Lib.cell_of_heap hbx 0, (hbel.cell (p := ⟨b, 0, none⟩) hb).trans c0, hent.keep (hbel.block g hg)⟩ (lt_of hbx) (by have := hbel.size; omega) (by have := hbel.size; omega) N hN
theorem rowE_lo {B B' e n sz : Nat} {w : World} {v : Value} {xs : List Value} (h : w.ownsRow B e sz v n xs) (hB : B' ≤ B) : w.ownsRow B' e sz v n xs := ⟨h.1, h.2.imp id fun ⟨g, cap, cur, q, hb, r⟩ => ⟨g, cap, cur, q, Nat.le_trans hB hb, r⟩⟩
set_option maxRecDepth 100000 in
theorem all_call {base b : Nat} {s S : Es} {w : World} (h : IX base b w s) (hS : Sorted ltS s S) (hlen : s.length + 1 < 1099511627776) :
    Calls Try.prog 25 #[ptr b] w fun e w' => ∃ q v, e = .returned (.func (.func 44) #[] #[.pointer (some ⟨q, 0, none⟩)]) ∧ w.heap.size ≤ q ∧ w'.heap[q]? = some (.cells #[v] 68 (0, 0)) ∧ w'.ownsRow (w.heap.size + 1) 96 2 v S.length (S.flatMap cS) ∧ Below w.heap.size w w' := by
  obtain ⟨hb, g, hg, hseq⟩ := ix_seq h hS hlen 4
  have hSl : S.length < 1099511627776 := by have := hS.perm.length_eq; omega
  obtain ⟨W, hW⟩ : ∃ W, W = w.alloc (.cells #[.slice none 0 0] 68) := ⟨_, rfl⟩
  have bW : Below w.heap.size w W := by rw [hW]; exact (Below.refl _ w).alloc (Nat.le_refl _) _
  have xW : W.heap[w.heap.size]? = some (.cells #[.slice none 0 0] 68 (0, 0)) := by rw [hW]; exact heap_alloc_new w _
  have HR := hid_of (rising_call b W)
  obtain ⟨w1, hw1⟩ : ∃ w1, w1 = W.alloc (.cells #[.pointer (some ⟨b, 0, none⟩)] 100) := ⟨_, rfl⟩
  have b1 : Below W.heap.size W w1 := by rw [hw1]; exact (Below.refl _ W).alloc (Nat.le_refl _) _
  have x1 : w1.heap[W.heap.size]? = some (.cells #[.pointer (some ⟨b, 0, none⟩)] 100 (0, 0)) := by rw [hw1]; exact heap_alloc_new W _
  have sW : w.heap.size < W.heap.size := lt_of xW
  have s1 : W.heap.size < w1.heap.size := lt_of x1
  have HC : Hid (Calls Try.prog 57 #[.slice none 0 0, .func (.func 54) #[] #[.pointer (some ⟨W.heap.size, 0, none⟩)]] w1 fun e w' => ∃ v, e = .returned v ∧ w'.ownsRow w1.heap.size 96 2 v S.length (S.flatMap cS) ∧ Below w1.heap.size w1 w') := hid_of (seq_call (b := b) (g := g) hSl s1 (by omega) (by omega) fun w3 N k hN => hseq w3 _ N (bW.trans ((b1.trans (k.mono (Nat.le_of_lt s1))).mono (Nat.le_of_lt sW))) ((k.block _ s1).trans x1) hN)
  rw [← hw1] at HR
  have HW := hid_of hW
  have HF := hid_of (And.intro bW (And.intro xW (And.intro b1 (And.intro sW s1))))
  have HCol : Hid (Calls Try.prog 43 #[.func (.func 54) #[] #[.pointer (some ⟨W.heap.size, 0, none⟩)]] w1 fun e w' => ∃ v, e = .returned v ∧ w'.ownsRow w1.heap.size 96 2 v S.length (S.flatMap cS) ∧ Below w1.heap.size w1 w') := by
    clear HR HW HF hseq h hS hw1 hW
    refine hid_of ?_
    go_enter Try.func43, Try.ntmps43
    go_wp2_with fail
    refine HC.out.mono ?_
    rintro e w' ⟨v, rfl, r, k⟩
    have H := hid_of (And.intro r k)
    clear r k
    go_wp2_with fail
    go_ret
    exact ⟨v, rfl, H.out⟩
  clear HC hW bW xW b1 x1 hw1 sW s1 hseq h hS
  unfold ptr
  go_enter Try.func25, Try.ntmps25
  go_wp2_with fail
  rw [← HW.out]
  refine HR.out.mono ?_
  rintro e w2 ⟨rfl, hw2⟩
  rw [hw2]
  clear hw2
  go_wp2_with fail
  refine HCol.out.mono ?_
  rintro e w4 ⟨v, rfl, r4, k4⟩
  obtain ⟨va, vc, rfl⟩ := Push.shape r4
  have hlt : w.heap.size < w1.heap.size := Nat.lt_trans HF.out.2.2.2.1 HF.out.2.2.2.2
  have x4 : w4.heap[w.heap.size]? = some (.cells #[.slice none 0 0] 68 (0, 0)) := (k4.block _ hlt).trans ((HF.out.2.2.1.block _ HF.out.2.2.2.1).trans HF.out.2.1)
  have c4 : w4.cell? ⟨w.heap.size, 0, none⟩ = some (.slice none 0 0) := Lib.cell_of_heap x4 0
  have z4 : w4.frozen? ⟨w.heap.size, 0, none⟩ = false := Lib.frozen_of_heap x4 0
  have hxx : (w4.setCell ⟨w.heap.size, 0, none⟩ (.slice va S.length vc)).heap[w.heap.size]? = some (.cells #[.slice va S.length vc] 68 (0, 0)) := by simpa using set_at (i := 0) x4 (.slice va S.length vc)
  have hrr : (w4.setCell ⟨w.heap.size, 0, none⟩ (.slice va S.length vc)).ownsRow (w.heap.size + 1) 96 2 (.slice va S.length vc) S.length (S.flatMap cS) := by
    refine ⟨r4.1, r4.2.imp id ?_⟩
    rintro ⟨g', cap, cur, e', hb', hg', r⟩
    exact ⟨g', cap, cur, e', by omega, (set_ne (by omega) _).trans hg', r⟩
  have hbb : Below w.heap.size w (w4.setCell ⟨w.heap.size, 0, none⟩ (.slice va S.length vc)) := (HF.out.1.trans ((HF.out.2.2.1.trans (k4.mono (Nat.le_of_lt HF.out.2.2.2.2))).mono (Nat.le_of_lt HF.out.2.2.2.1))).setCell (Nat.le_refl _) (.slice va S.length vc)
  have H := hid_of (And.intro hxx (And.intro hrr hbb))
  clear r4 k4 x4 hxx hrr hbb HCol HR
  go_wp2_with fail
  go_ret
  exact ⟨_, _, rfl, Nat.le_refl _, H.out⟩
end Go.Proofs.Ytiaggddpoddbcaa.AllS
