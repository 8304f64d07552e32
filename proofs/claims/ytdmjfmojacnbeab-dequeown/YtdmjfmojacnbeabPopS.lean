/- PopFront, and where what it gives lies. -/
import Derived.Test.YtdmjfmojacnbeabPop
import Derived.Test.YtdmjfmojacnbeabAppF
namespace Go.Proofs.Ytdmjfmojacnbeab.PopS
open Go.RowKit
open Go.Proofs.Ytdmjfmojacnbeab.Base
open Go.Proofs.Ytdmjfmojacnbeab.Held
open Go.Proofs.Ytdmjfmojacnbeab.Lay
open Go.Proofs.Ytdmjfmojacnbeab.Free
open Go.Proofs.Ytdmjfmojacnbeab.Push
open Go.Proofs.Ytdmjfmojacnbeab.Keep
open Go.Proofs.Ytdmjfmojacnbeab.Pop
open Go.Proofs.Ytdmjfmojacnbeab.AppF
set_option linter.unusedVariables false
set_option linter.unusedSimpArgs false
set_option maxHeartbeats 1000000 in
set_option maxRecDepth 100000 in
theorem popFront_sep {F : Nat → Prop} {b : Nat} {l : List El} {w : World} (h : DQ F b l w) (x : Int) (hb : l.length * 8 ≤ 140737488355328) :
    Calls Try.prog 9 #[ptr b, .int .i64 x] w fun e w' => ∃ v B1, e = .returned v ∧ NR w.heap.size w' v (l.take (clamp x l.length)) ∧ Nz (fun k => w.heap.size ≤ k ∧ k < B1) (l.take (clamp x l.length)).length v w' ∧ DQ (fun j => (F j ∧ j < w.heap.size) ∨ B1 ≤ j) b (l.drop (clamp x l.length)) w' ∧ Fr F w w' ∧ w.heap.size ≤ B1 ∧ B1 ≤ w'.heap.size := by
  have HQ := hid_of h.low
  have HN := hid_of (fun m => len_call (h.drewN m))
  have HW := hid_of (fun W => within_call x l.length W)
  have HL0 := hid_of (len_call h)
  have hk := clamp_le x l.length
  obtain ⟨k, HK⟩ : ∃ k, Hid (k = clamp x l.length) := ⟨_, hid_of rfl⟩
  rw [← HK.out] at HW hk ⊢
  obtain ⟨a, n, c, f, xs, h⟩ := h
  have HH := hid_of (fun m => held_call (DK.drewN h m))
  have hcut := cut_hi (ca a c f) l.length (c - f) k (k : Int) rfl (by have := h.fit; have := h.nc; omega)
  have hlk : (l.take k).length = k := by rw [List.length_take]; omega
  have HF := hid_of (fun m => fresh_call (w := w.drewN m) (G := F) (v := .slice (ca a c f) (l.take k).length (c - f)) ⟨_, _, rfl, by have := h.fit; have := h.nc; omega, (DK.drewN h m).rd.take k⟩ (by omega))
  rw [hlk] at HF
  have hlim : l.length ≤ 35184372088832 := by have := h.fit; have := h.lim; omega
  clear h hlk hb
  go_enter Try.func9, Try.ntmps9
  go_wp2_with fail
  refine HL0.out.mono ?_
  rintro e w1 ⟨rfl, m1, rfl⟩
  go_wp2_with fail
  refine (HW.out _).mono ?_
  rintro e w2 ⟨rfl, rfl⟩
  go_wp2_with fail
  refine (HH.out m1).mono ?_
  rintro e w3 ⟨rfl, m3, rfl⟩
  go_wp2_with fail
  refine (HF.out (m1 + m3)).mono ?_
  rintro e w4 ⟨v, rfl, hn, hbl⟩
  have hb4 : Below w.heap.size w w4 := (bel_drewN w (m1 + m3)).trans hbl
  have q4 := HQ.out.below hb4
  have HL4 := hid_of (len_call q4)
  have HKp := hid_of (fun m => keep_call (q4.drewN m) k l.length (k : Int) (l.length : Int) rfl rfl hk (Nat.le_refl _))
  have E4 := hid_of (And.intro (show NR w.heap.size w4 v (l.take k) from hn) hb4)
  clear hn hbl hb4 q4
  go_wp2_with fail
  refine HL4.out.mono ?_
  rintro e w5 ⟨rfl, m5, rfl⟩
  go_wp2_with fail
  refine (HKp.out m5).mono ?_
  rintro e w6 ⟨rfl, q6, f6⟩
  have E6 := hid_of (And.intro q6 f6)
  clear q6 f6
  go_wp2_with fail
  go_ret
  obtain ⟨q6, f6⟩ := E6.out
  obtain ⟨n4, b4⟩ := E4.out
  rw [List.take_of_length_le (by simp)] at q6
  refine ⟨v, w4.heap.size, rfl, (NR.drewN n4 m5).keep fun j hj hB => f6.block j hj fun e => ?_, ((Nz.of n4).below (bel_drewN w4 m5)).fr f6 fun k e c => ?_, q6.mono fun j hj e => ?_, ?_, b4.size, f6.size⟩
  · exact absurd e.2 (by omega)
  · have := c.2; omega
  · rcases e with e | e
    · exact .inl e
    · exact .inr e
  · exact (Fr.of_below b4).trans ⟨f6.os, f6.tape, f6.output, f6.size, fun j hj hn => f6.block j hj fun e => hn (.inl e.1)⟩
end Go.Proofs.Ytdmjfmojacnbeab.PopS
