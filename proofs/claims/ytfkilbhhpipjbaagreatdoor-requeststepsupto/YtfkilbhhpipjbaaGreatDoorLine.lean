/- line: the next line of what is there. -/
import Derived.Test.YtfkilbhhpipjbaaGreatDoorBase
namespace Go.Proofs.YtfkilbhhpipjbaaGreatDoor.Line
open Go.RowKit
open Go.Proofs.YtfkilbhhpipjbaaGreatDoor.ReqMath
open Go.Proofs.YtfkilbhhpipjbaaGreatDoor.Base
set_option linter.unusedVariables false

@[reducible] def gaveUp (l : List UInt8) : Ending := .panicked [{ v := .iface 73 (.string ⟨l.toArray⟩), recovered := false }]
theorem nl_from {l : List UInt8} {k : Nat} (h : nl (l.take k) = none) (hk : k ≤ l.length) : nl l = (nl (l.drop k)).map (· + k) := by
  have := nl_app (l.take k) (l.drop k)
  rw [List.take_append_drop, h] at this
  rw [this]
  simp [Nat.min_eq_left hk]
set_option maxHeartbeats 1000000 in
set_option maxRecDepth 100000 in
theorem line_got (b : Nat) (L : Lim) (lv : Value) (k : Nat) (wv : Value) (wanted read used : Nat) (ft : ByteArray) (t x : ByteArray) (i : Nat) (w : World) (h : RB b L lv k wv wanted read used ft w) (hs : BySl w lv t) (hk : k ≤ t.size) (hn : nl ((bs t).take k) = none) (hz : t.size ≤ 67108864) (hL : L.line ≤ 65536)
    (hi : nl (bs t) = some i) (him : i ≤ L.line) (hx : bs x = Lib.trimSuffix ((bs t).take i) [13]) :
    Calls Tryz.prog 81 #[.pointer (some ⟨b, 0, none⟩)] w fun e w' => e = .returned (.tuple #[.string x, .int .i64 ((i : Int) + 1)]) ∧ ∃ n, w' = w.drewN n := by
  have e1 := nl_from hn (by rw [len_bs]; exact hk)
  obtain ⟨j, hj, hij⟩ : ∃ j, nl ((bs t).drop k) = some j ∧ i = j + k := by
    rw [hi] at e1
    cases hq : nl ((bs t).drop k) with
    | none => rw [hq] at e1; cases e1
    | some j => rw [hq] at e1; cases e1; exact ⟨j, rfl, rfl⟩
  have hit : i < t.size := by have := nl_lt _ _ hi; rwa [len_bs] at this
  obtain ⟨a1, c1, hB1, _, s1⟩ := hs.from k k rfl hk
  obtain ⟨a2, c2, hB2, _, s2⟩ := hs.to i ((k : Int) + (j : Int)) (by omega) (by omega)
  have hbs : bs (t.extract k t.size) = (bs t).drop k := by
    have h2 : bs (t.extract k t.size) = ((bs t).drop k).take (t.size - k) := by unfold bs; simp [List.extract_eq_take_drop]
    rw [h2, List.take_of_length_le (by rw [List.length_drop, len_bs]; omega)]
  have hbs2 : bs (t.extract 0 i) = (bs t).take i := by unfold bs; simp [List.extract_eq_take_drop]
  have H1 := hid_of (fun q => (hB1.later (w' := w.drewN q) (fun g hg => rfl)).index)
  have hidx : Lib.indexByte (bs (t.extract k t.size)) 10 = (j : Int) := by rw [hbs, nl_index, hj]
  rw [hidx] at H1
  have h2 := (fun q => (hB2.later (w' := w.drewN q) (fun g hg => rfl)).conv)
  obtain ⟨a, cap, rfl, _⟩ := id hs
  have c3 : w.cell? ⟨b, 3, none⟩ = _ := h.cell 3
  have c4 : w.cell? ⟨b, 4, none⟩ = _ := h.cell 4
  have c2' : w.cell? ⟨b, 2, none⟩ = _ := h.cell 2
  have HX : Hid (x = ⟨(Lib.trimSuffix (t.extract 0 i).data.toList [13]).toArray⟩) := of_bs (by show _ = Lib.trimSuffix (bs (t.extract 0 i)) [13]; rw [hbs2]; exact hx)
  have HT : Hid ((t.extract 0 i).size ≤ 9223372036854775807) := by show _ ≤ _; rw [ext_size t 0 i (by omega)]; omega
  have g1 : (0 : Int) ≤ (j : Int) := by omega
  have g2 : ¬ ((L.line : Int) < (k : Int) + (j : Int)) := by omega
  have g3 : ¬ ((j : Int) < 0) := by omega
  have e3 : IntKind.i64.wrap ((k : Int) + (j : Int)) = (k : Int) + (j : Int) := IntWalk.i64_in _ (by omega)
  have HE : Hid ((i : Int) + 1 = (k : Int) + (j : Int) + 1) := by show _ = _; omega
  have hkj : k + j ≤ 67108864 := by omega
  clear hs hB1 hB2 h e1 hidx hx hbs hbs2 hn hi hj hij
  go_enter Tryz.func81, Tryz.ntmps81
  go_wp2_with fail
  go_quiet (first | exact (H1.out _).mono fun _ _ h => ⟨h.1, _, h.2⟩)
  go_wp2_with fail
  refine (Tryz.strings_TrimSuffix _ _ _ HT.out).mono ?_
  rintro e w1 ⟨he, rfl⟩
  obtain rfl : e = .returned (.string x) := he.trans (by rw [HX.out])
  have hw : IntKind.i64.wrap ((k : Int) + (j : Int) + 1) = (k : Int) + (j : Int) + 1 := IntWalk.i64_in _ (by omega)
  go_wp2_with fail
  go_ret2
  exact ⟨by rw [HE.out]; rfl, _, rfl⟩
set_option maxHeartbeats 1000000 in
set_option maxRecDepth 100000 in
theorem line_long (b : Nat) (L : Lim) (lv : Value) (k : Nat) (wv : Value) (wanted read used : Nat) (ft : ByteArray) (t : ByteArray) (w : World) (h : RB b L lv k wv wanted read used ft w) (hs : BySl w lv t) (hk : k ≤ t.size) (hn : nl ((bs t).take k) = none) (hz : t.size ≤ 67108864) (hL : L.line ≤ 65536)
    (hl : lineS L.line (bs t) = .long) :
    Calls Tryz.prog 81 #[.pointer (some ⟨b, 0, none⟩)] w fun e w' => e = gaveUp wLine ∧ ∃ n, w' = w.drewN n := by
  have e1 := nl_from hn (by rw [len_bs]; exact hk)
  obtain ⟨a1, c1, hB1, _, s1⟩ := hs.from k k rfl hk
  have hbs : bs (t.extract k t.size) = (bs t).drop k := by
    have h2 : bs (t.extract k t.size) = ((bs t).drop k).take (t.size - k) := by unfold bs; simp [List.extract_eq_take_drop]
    rw [h2, List.take_of_length_le (by rw [List.length_drop, len_bs]; omega)]
  have H1 := hid_of (fun q => (hB1.later (w' := w.drewN q) (fun g hg => rfl)).index)
  obtain ⟨a, cap, rfl, _⟩ := id hs
  have c3 : w.cell? ⟨b, 3, none⟩ = _ := h.cell 3
  have c4 : w.cell? ⟨b, 4, none⟩ = _ := h.cell 4
  have c2' : w.cell? ⟨b, 2, none⟩ = _ := h.cell 2
  rw [hbs, nl_index] at H1
  unfold lineS at hl
  rw [e1] at hl
  unfold gaveUp
  cases hj : nl ((bs t).drop k) with
  | none =>
    rw [hj] at H1 hl
    have g2 : ((L.line : Int) < (t.size : Int)) := by
      by_cases q : L.line < (bs t).length
      · rw [len_bs] at q; omega
      · dsimp only [Option.map] at hl; rw [if_neg q] at hl; cases hl
    clear hs hB1 h e1 hbs hn hj hl
    go_enter Tryz.func81, Tryz.ntmps81
    go_wp2_with fail
    go_quiet (first | exact (H1.out _).mono fun _ _ h => ⟨h.1, _, h.2⟩)
    go_wp2_with fail
    exact ⟨rfl, rfl, _, rfl⟩
  | some j =>
    rw [hj] at H1 hl
    have hjt : j < t.size := by have := nl_lt _ _ hj; rw [List.length_drop, len_bs] at this; omega
    have g1 : (0 : Int) ≤ (j : Int) := by omega
    have g2 : ((L.line : Int) < (k : Int) + (j : Int)) := by
      by_cases q : L.line < j + k
      · omega
      · dsimp only [Option.map] at hl; rw [if_neg q] at hl; cases hl
    have e3 : IntKind.i64.wrap ((k : Int) + (j : Int)) = (k : Int) + (j : Int) := IntWalk.i64_in _ (by omega)
    clear hs hB1 h e1 hbs hn hj hl
    go_enter Tryz.func81, Tryz.ntmps81
    go_wp2_with fail
    go_quiet (first | exact (H1.out _).mono fun _ _ h => ⟨h.1, _, h.2⟩)
    go_wp2_with fail
    exact ⟨rfl, rfl, _, rfl⟩
set_option maxHeartbeats 1000000 in
set_option maxRecDepth 100000 in
theorem line_more (b : Nat) (L : Lim) (lv : Value) (k : Nat) (wv : Value) (wanted read used : Nat) (ft : ByteArray) (t : ByteArray) (w : World) (h : RB b L lv k wv wanted read used ft w) (hs : BySl w lv t) (hk : k ≤ t.size) (hn : nl ((bs t).take k) = none) (hz : t.size ≤ 67108864) (hL : L.line ≤ 65536)
    (hl : nl (bs t) = none) (hm : t.size ≤ L.line) :
    Calls Tryz.prog 81 #[.pointer (some ⟨b, 0, none⟩)] w fun e w' => e = gaveUp [] ∧ ∃ n, w' = (w.setCell ⟨b, 4, none⟩ (.int .i64 t.size)).drewN n := by
  have e1 := nl_from hn (by rw [len_bs]; exact hk)
  obtain ⟨a1, c1, hB1, _, s1⟩ := hs.from k k rfl hk
  have hbs : bs (t.extract k t.size) = (bs t).drop k := by
    have h2 : bs (t.extract k t.size) = ((bs t).drop k).take (t.size - k) := by unfold bs; simp [List.extract_eq_take_drop]
    rw [h2, List.take_of_length_le (by rw [List.length_drop, len_bs]; omega)]
  have H1 := hid_of (fun q => (hB1.later (w' := w.drewN q) (fun g hg => rfl)).index)
  obtain ⟨a, cap, rfl, _⟩ := id hs
  have c3 : w.cell? ⟨b, 3, none⟩ = _ := h.cell 3
  have c4 : w.cell? ⟨b, 4, none⟩ = _ := h.cell 4
  have c2' : w.cell? ⟨b, 2, none⟩ = _ := h.cell 2
  have f4 : w.frozen? ⟨b, 4, none⟩ = false := h.frozen 4
  rw [hbs, nl_index] at H1
  have hj : nl ((bs t).drop k) = none := by
    rw [hl] at e1
    cases hq : nl ((bs t).drop k) with
    | none => rfl
    | some j => rw [hq] at e1; cases e1
  rw [hj] at H1
  unfold gaveUp
  have g2 : ¬ ((L.line : Int) < (t.size : Int)) := by omega
  clear hs hB1 h e1 hbs hn hj hl
  go_enter Tryz.func81, Tryz.ntmps81
  go_wp2_with fail
  go_quiet (first | exact (H1.out _).mono fun _ _ h => ⟨h.1, _, h.2⟩)
  go_wp2_with fail
  exact ⟨rfl, rfl, _, rfl⟩
end Go.Proofs.YtfkilbhhpipjbaaGreatDoor.Line
