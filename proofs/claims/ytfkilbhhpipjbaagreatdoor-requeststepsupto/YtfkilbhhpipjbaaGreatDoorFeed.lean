/- Feed; a reader that is none, and one that has told its fault. -/
import Derived.Test.YtfkilbhhpipjbaaGreatDoorNext
import Derived.Lib.AppendStr
namespace Go.Proofs.YtfkilbhhpipjbaaGreatDoor.Feed
open Go.RowKit
open Go.Proofs.YtfkilbhhpipjbaaGreatDoor.TextMath
open Go.Proofs.YtfkilbhhpipjbaaGreatDoor.ReqMath
open Go.Proofs.YtfkilbhhpipjbaaGreatDoor.Base
open Go.Proofs.YtfkilbhhpipjbaaGreatDoor.Line
open Go.Proofs.YtfkilbhhpipjbaaGreatDoor.Small
open Go.Proofs.YtfkilbhhpipjbaaGreatDoor.Append
open Go.Proofs.YtfkilbhhpipjbaaGreatDoor.Bulk
open Go.Proofs.YtfkilbhhpipjbaaGreatDoor.Bulk2
open Go.Proofs.YtfkilbhhpipjbaaGreatDoor.BulkAny
open Go.Proofs.YtfkilbhhpipjbaaGreatDoor.Quoted
open Go.Proofs.YtfkilbhhpipjbaaGreatDoor.Grow
open Go.Proofs.YtfkilbhhpipjbaaGreatDoor.Word
open Go.Proofs.YtfkilbhhpipjbaaGreatDoor.SplitC
open Go.Proofs.YtfkilbhhpipjbaaGreatDoor.Typed
open Go.Proofs.YtfkilbhhpipjbaaGreatDoor.Thing
open Go.Proofs.YtfkilbhhpipjbaaGreatDoor.Pend
open Go.Proofs.YtfkilbhhpipjbaaGreatDoor.Req
open Go.Proofs.YtfkilbhhpipjbaaGreatDoor.Next
set_option linter.unusedVariables false

set_option maxRecDepth 100000 in
theorem next_nil (w : World) : Calls Tryz.prog 23 #[.pointer none] w fun e w' => e = .returned (.tuple #[.slice none 0 0, .int .i64 0]) ∧ Below w.heap.size w w' := by
  have hmf : ∀ (fn : Fn) (first cap : Array Value) (w : World), (Instr.makeFunc fn first cap).run Tryz.prog w = .ok (.func fn first cap) w := fun _ _ _ _ => rfl
  go_enter_defers Tryz.func23, Tryz.ntmps23
  go_wp2_with fail
  refine ⟨.tuple #[.slice none 0 0, .int .i64 0], by simp [results, Tryz.results23, go_sem], rfl, (((Below.refl _ w).alloc (Nat.le_refl _) _).alloc (by simp) _).alloc (by simp; omega) _⟩
set_option maxRecDepth 100000 in
theorem next_told (b : Nat) (L : Lim) (lv : Value) (k : Nat) (wv : Value) (wanted read used : Nat) (ft : ByteArray) (hf : ft.toList.isEmpty = false) (w : World) (h : RB b L lv k wv wanted read used ft w) :
    Calls Tryz.prog 23 #[.pointer (some ⟨b, 0, none⟩)] w fun e w' => e = .returned (.tuple #[.slice none 0 0, .int .i64 2]) ∧ Below w.heap.size w w' := by
  have hmf : ∀ (fn : Fn) (first cap : Array Value) (w : World), (Instr.makeFunc fn first cap).run Tryz.prog w = .ok (.func fn first cap) w := fun _ _ _ _ => rfl
  have hft : (((w.alloc (.cells #[.pointer (some ⟨b, 0, none⟩)] 41)).alloc (.cells #[.slice none 0 0] 33)).alloc (.cells #[.int .i64 0] 3)).cell? ⟨b, 9, none⟩ = some (.string ft) := (rb_later h (boxes_below w b)).cell 9
  clear h
  go_enter_defers Tryz.func23, Tryz.ntmps23
  go_wp2_with fail
  refine ⟨.tuple #[.slice none 0 0, .int .i64 2], by simp [results, Tryz.results23, go_sem], rfl, (((Below.refl _ w).alloc (Nat.le_refl _) _).alloc (by simp) _).alloc (by simp; omega) _⟩
set_option maxRecDepth 100000 in
theorem feed_told (b : Nat) (L : Lim) (lv : Value) (k : Nat) (wv : Value) (wanted read used : Nat) (ft : ByteArray) (hf : ft.toList.isEmpty = false) (s : ByteArray) (w : World) (h : RB b L lv k wv wanted read used ft w) :
    Calls Tryz.prog 21 #[.pointer (some ⟨b, 0, none⟩), .string s] w fun e w' => e = .returned (.tuple #[]) ∧ w' = w := by
  have c9 : w.cell? ⟨b, 9, none⟩ = _ := h.cell 9
  clear h
  go_enter Tryz.func21, Tryz.ntmps21
  go_wp2_with fail
  refine bodyPost_ret (results_none rfl _ _ _) rfl ?_
  exact ⟨rfl, rfl⟩
/- what is appended to what is left -/
theorem left_append (w : World) (lv : Value) (t s : ByteArray) (h : BySl w lv t) (hz : t.size + s.size ≤ 1000000000) (h8 : 8 ≤ w.heap.size) :
    ∃ v' w', (Builtin.append_ #[61, 9] 61 #[lv, .string s]).run Tryz.prog w = .ok v' w' ∧ BySl w' v' (t ++ s) ∧ (∀ g, slBlock v' = some g → slBlock lv = some g ∨ w.heap.size ≤ g) ∧ Fr (fun q => slBlock lv = some q) w w' := by
  obtain ⟨a, cap, rfl, hc, ⟨rfl, h0⟩ | ⟨g, o, cs, rfl, hg, ho, hB⟩⟩ := h
  · subst h0
    have e := size0 (Nat.le_zero.1 hc)
    subst e
    obtain ⟨i0, hi0, hz0, hz1, hz2⟩ := info_parts info5
    obtain ⟨v', w', hr, h2, h3, h4⟩ := Lib.run_append_own_string (P := Tryz.prog) w w.heap.size 61 9 61 5 i0 Tryz.underlying61 Tryz.underlying9 hi0 hz0 hz1 hz2 (.slice none 0 0) 0 [] (World.ownsRow_nil _ _ _ _) s (by unfold maxLen; have : (0 : Nat) + s.size ≤ 1000000000 := hz; omega) (by have : (0 : Nat) + s.size ≤ 1000000000 := hz; omega) (Nat.le_refl _)
    refine ⟨v', w', hr, ?_, ?_, ⟨h3.os, h3.tape, h3.output, h3.size, fun k hk _ => h3.block k hk (by intro e; cases e)⟩⟩
    · have es : (⟨#[]⟩ ++ s : ByteArray) = s := of_bs (by rw [app_bs]; rfl)
      rw [es]
      rcases h2.2 with ⟨rfl, hn⟩ | ⟨g, cap, cur, rfl, hbg, hg, hnc, hcm, hcs, htake⟩
      · have : s = ⟨#[]⟩ := size0 (by omega)
        rw [this]
        exact BySl.nil _
      · refine ⟨_, cap, by rw [Nat.zero_add], by omega, Or.inr ⟨g, 0, cur, rfl, hg, by omega, fun k hk => ?_⟩⟩
        have := World.ownsRow.cells h2 (g := g) rfl k (.int .u8 (s[k].toNat : Int)) (by
          rw [List.nil_append]
          exact cells_get s k hk)
        rw [add_off] at this
        exact this
    · intro g hg
      exact Or.inr (h2.lt g hg).1
  · obtain ⟨v', w', hr, h1, h2, h3⟩ := bx_append z0_zero z0_free (Z := Z0) (w := w) (v := .slice (some ⟨g, o, none⟩) t.size cap) (t := t) (u := s) ⟨g, o, cap, cs, (0, 0), rfl, hc, hg, ho, rfl, hB⟩ (.string s) 9 61 (Src.ofString (P := Tryz.prog) w Tryz.underlying9 s) hz
    refine ⟨v', w', hr, bx_by h1, ?_, h3⟩
    intro q hq
    rcases h2 with e | e
    · exact Or.inl (e ▸ hq)
    · rw [e] at hq
      cases hq
      exact Or.inr (Nat.le_refl _)
set_option maxHeartbeats 1000000 in
set_option maxRecDepth 100000 in
theorem feed_call (b : Nat) (L : Lim) (P : List UInt8) (used : Nat) (lv wv : Value) (s : ByteArray) (w : World) (hp : PS b L P used lv wv w) (hz : P.length + s.size ≤ 67108864) (h8 : 8 ≤ w.heap.size) :
    Calls Tryz.prog 21 #[.pointer (some ⟨b, 0, none⟩), .string s] w fun e w' => e = .returned (.tuple #[]) ∧ ∃ lv', PS b L (P ++ bs s) used lv' wv w' ∧ (∀ g, slBlock lv' = some g → slBlock lv = some g ∨ w.heap.size ≤ g) ∧ Fr (fun q => q = b ∨ slBlock lv = some q) w w' := by
  obtain ⟨t, k, ws, wanted, read, h, hrd, ht, hcase, hle⟩ := hp
  have htz : t.size = P.length - read := by rw [← len_bs, ht, List.length_drop]
  obtain ⟨v', w1, hr, h1, h2, h3⟩ := left_append w lv t s h.sl (by omega) h8
  have c9 : w.cell? ⟨b, 9, none⟩ = _ := h.rb.cell 9
  have c3 : w.cell? ⟨b, 3, none⟩ = _ := h.rb.cell 3
  have hbl : slBlock lv ≠ some b := by_ne h.rb h.sl
  have r1 : RB b L lv k wv wanted read used ⟨#[]⟩ w1 := (h3.block b (lt_of h.rb) hbl).trans h.rb
  have d3 : w1.cell? ⟨b, 3, none⟩ = _ := r1.cell 3
  have z3 : w1.frozen? ⟨b, 3, none⟩ = false := r1.frozen 3
  have hf : ∃ a n c, v' = .slice a n c := by
    obtain ⟨a, c, hv, _⟩ := h1
    exact ⟨a, _, c, hv⟩
  obtain ⟨a, n, c, rfl⟩ := hf
  have hws : WS w1 wv ws := ws_later h.wk (fun g hg => h3.block g (by obtain ⟨cc, hc⟩ := owns_kind h.wk g hg; exact lt_of hc) (fun e => by_wsne h.sl h.wk g e hg))
  have F1 : Fr (fun q => q = b) w1 (w1.setCell ⟨b, 3, none⟩ (.slice a n c)) := (Fr.refl _ w1).one _
  have HE : Hid (∃ lv', PS b L (P ++ bs s) used lv' wv (w1.setCell ⟨b, 3, none⟩ (.slice a n c)) ∧ (∀ g, slBlock lv' = some g → slBlock lv = some g ∨ w.heap.size ≤ g) ∧ Fr (fun q => q = b ∨ slBlock lv = some q) w (w1.setCell ⟨b, 3, none⟩ (.slice a n c))) := by
    refine ⟨.slice a n c, ⟨t ++ s, k, ws, wanted, read, ⟨set_at r1 _, by_set h1 r1, owns_set hws (ws_ne r1 hws), by rw [app_size]; have := h.kl; omega, ?_⟩, by rw [List.length_append]; omega, ?_, ?_, hle⟩, h2, (h3.wide fun q hq => Or.inr hq).trans (F1.wide fun q hq => Or.inl hq)⟩
    · rw [app_bs, List.take_append_of_le_length (by rw [len_bs]; exact h.kl)]
      exact h.kn
    · rw [app_bs, ht, List.drop_append_of_le_length hrd]
    · rcases hcase with q | ⟨q1, q2⟩
      · exact Or.inl q
      · refine Or.inr ⟨q1, fun u => ?_⟩
        rw [List.append_assoc, q2 (bs s ++ u), List.drop_append_of_le_length hrd, List.append_assoc]
  have hlvf : ∃ a n c, lv = .slice a n c := by
    obtain ⟨a, c, hv, _⟩ := h.sl
    exact ⟨a, _, c, hv⟩
  obtain ⟨a0, n0, c0, rfl⟩ := hlvf
  clear h r1 h1 h2 h3 hws F1 hcase ht hbl
  go_enter Tryz.func21, Tryz.ntmps21
  go_wp2_with (at_builtin; refine wpl_eq rfl _ _ 61 9 rfl (.slice a0 n0 c0) (.string s) (.slice a n c) w w1 rfl rfl hr ?_)
  go_wp2_with fail
  go_end0
  exact ⟨rfl, HE.out⟩
end Go.Proofs.YtfkilbhhpipjbaaGreatDoor.Feed
