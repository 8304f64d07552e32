/- The contract of num.Parse: the number whose one text it is, or none; old memory stands. -/
import Derived.Test.YtighoelipihifabGreatDoorParsedM
import Derived.Test.YtighoelipihifabGreatDoorLaid
import Derived.Lib.AtoiAllCases
import Derived.Lib.ConvBytes
namespace Go.Proofs.YtighoelipihifabGreatDoor.Parse
open Go.RowKit
open Go.Lib (decDigits itoa)
open Go.Proofs.YtighoelipihifabGreatDoor.TextMath
open Go.Proofs.YtighoelipihifabGreatDoor.Print
open Go.Proofs.YtighoelipihifabGreatDoor.ParsedM
set_option linter.unusedVariables false

theorem row_below (w : World) (s : ByteArray) : Below w.heap.size w (Lib.bytesWorld w 5 s) := by
  refine ⟨?_, ?_, ?_, ?_, ?_⟩
  · unfold Lib.bytesWorld World.freeze; rfl
  · unfold Lib.bytesWorld World.freeze; rfl
  · unfold Lib.bytesWorld World.freeze; rfl
  · rw [Lib.bytesWorld_size]; omega
  · intro k hk; exact Lib.bytesWorld_at_old w 5 s k hk
theorem atoi_ok (s : ByteArray) (hs : s.size ≤ 140737488351232) (v : Int) (h : Lib.atoiAll s.data.toList = .ok v) (w : World) :
    Calls Tryz.prog 69 #[.string s] w fun e w' => e = .returned (.tuple #[.int .i64 v, .nilIface]) ∧ Below w.heap.size w w' :=
  (Tryz.strconv_Atoi_ok s (by omega) v h w).mono fun e w' ⟨h1, h2⟩ => ⟨h1, by
    rcases h2 with rfl | ⟨t, rfl⟩
    · exact Below.refl _ _
    · exact row_below w t⟩

/-- what the row's list gives: the table, and the two errors -/
structure Has (w : World) : Prop where
  tab : Tab w
  syn : ∃ tp p, w.var? Tryz.prog "strconv.ErrSyntax" = some #[.iface tp p]
  rng : ∃ tp p, w.var? Tryz.prog "strconv.ErrRange" = some #[.iface tp p]
theorem var_lt {w : World} {n : String} {g : Nat} {cs : Array Value} (hg : Tryz.prog.globalNamed n = some g) (h : w.var? Tryz.prog n = some cs) : g < w.heap.size := by
  unfold World.var? at h
  rw [hg] at h
  simp only [Option.bind_some] at h
  rcases Nat.lt_or_ge g w.heap.size with q | q
  · exact q
  · rw [Array.getElem?_eq_none q] at h; simp at h
theorem Has.later {w w' : World} (h : Has w) (hb : Below w.heap.size w w') : Has w' := by
  obtain ⟨h1, ⟨tp, p, h2⟩, ⟨tq, q, h3⟩⟩ := h
  exact ⟨var?_below hb Laid.gPow (var_lt Laid.gPow h1) h1, ⟨tp, p, var?_below hb Laid.gSyn (var_lt Laid.gSyn h2) h2⟩, ⟨tq, q, var?_below hb Laid.gRng (var_lt Laid.gRng h3) h3⟩⟩

set_option maxHeartbeats 1000000 in
theorem parse_same (s : ByteArray) (v : Int) (w : World) (hs : s.size ≤ 140737488351232) (h : Lib.atoiAll s.data.toList = .ok v) (hv : itoa v = s.data.toList) (hh : Has w) :
    Calls Tryz.prog 43 #[.string s] w fun e w' => e = .returned (.tuple #[.int .i64 v, .int .i64 0]) ∧ Below w.heap.size w w' := by
  have hb := Lib.atoiAll_bounds h
  have H := hid_of h
  have HH := hid_of hh
  have hcmp : (itoa v == s.toList) = true := by rw [Lib.toList_data, beq_iff_eq]; exact hv
  have HB := hid_of hb
  clear h hh hv hb
  go_enter Tryz.func43, Tryz.ntmps43
  go_wp2_with fail
  refine (atoi_ok s hs v H.out _).mono ?_
  rintro e w1 ⟨rfl, b1⟩
  go_wp2_with fail
  refine (print_any v _ HB.out (HH.out.later b1).tab).mono ?_
  rintro e w2 ⟨rfl, b2⟩
  go_wp2
  go_ret2
  exact ⟨rfl, bel b1 b2 (Nat.le_refl _)⟩
set_option maxHeartbeats 1000000 in
theorem parse_other (s : ByteArray) (v : Int) (w : World) (hs : s.size ≤ 140737488351232) (h : Lib.atoiAll s.data.toList = .ok v) (hv : itoa v ≠ s.data.toList) (hh : Has w) :
    Calls Tryz.prog 43 #[.string s] w fun e w' => e = .returned (.tuple #[.int .i64 0, .int .i64 10]) ∧ Below w.heap.size w w' := by
  have hb := Lib.atoiAll_bounds h
  have H := hid_of h
  have HH := hid_of hh
  have hcmp : (itoa v == s.toList) = false := by rw [Lib.toList_data, beq_eq_false_iff_ne]; exact hv
  have HB := hid_of hb
  clear h hh hb hv
  go_enter Tryz.func43, Tryz.ntmps43
  go_wp2_with fail
  refine (atoi_ok s hs v H.out _).mono ?_
  rintro e w1 ⟨rfl, b1⟩
  go_wp2_with fail
  refine (print_any v _ HB.out (HH.out.later b1).tab).mono ?_
  rintro e w2 ⟨rfl, b2⟩
  go_wp2
  go_ret2
  exact ⟨rfl, bel b1 b2 (Nat.le_refl _)⟩
set_option maxHeartbeats 1000000 in
theorem parse_none (s : ByteArray) (w : World) (hs : s.size ≤ 140737488351232) (h : ∀ v, Lib.atoiAll s.data.toList ≠ .ok v) (hh : Has w) :
    Calls Tryz.prog 43 #[.string s] w fun e w' => e = .returned (.tuple #[.int .i64 0, .int .i64 10]) ∧ Below w.heap.size w w' := by
  obtain ⟨_, ⟨tp, p, h2⟩, ⟨tq, q, h3⟩⟩ := hh
  have H := hid_of h
  have H2 := hid_of h2
  have H3 := hid_of h3
  clear h h2 h3
  go_enter Tryz.func43, Tryz.ntmps43
  go_wp2_with fail
  refine (Tryz.strconv_Atoi_no s (by omega) H.out tp tq p q _ H2.out H3.out).mono ?_
  rintro e w1 ⟨n, N, rfl, b1⟩
  go_wp2
  go_ret2
  exact ⟨rfl, b1⟩

theorem parsed_ex (l : List UInt8) : ∃ n e, Parsed l n e := by
  by_cases h : ∃ m, textB m l = true
  · obtain ⟨m, h⟩ := h
    exact ⟨m, 0, .inl ⟨h, rfl⟩⟩
  · refine ⟨0, 10, .inr ⟨fun m => ?_, rfl, rfl⟩⟩
    cases e : textB m l
    · rfl
    · exact absurd ⟨m, e⟩ h
theorem parse_any (s : ByteArray) (w : World) (n e : Int) (hs : s.size ≤ 140737488351232) (HP : Parsed s.data.toList n e) (hh : Has w) :
    Calls Tryz.prog 43 #[.string s] w fun x w' => x = .returned (.tuple #[.int .i64 n, .int .i64 e]) ∧ Below w.heap.size w w' := by
  by_cases h : ∃ v, Lib.atoiAll s.data.toList = .ok v
  · obtain ⟨v, hv⟩ := h
    by_cases hi : itoa v = s.data.toList
    · have hp := some_of HP ((text_iff v _).2 ⟨Lib.atoiAll_bounds hv, hi⟩)
      rw [hp.1, hp.2]
      exact parse_same s v w hs hv hi hh
    · have hp := none_of HP (fun m => by
        cases q : textB m s.data.toList
        · rfl
        · exfalso
          have q' := (text_iff _ _).1 q
          have := atoi_itoa m q'.1
          rw [q'.2, hv] at this
          injection this with this
          subst this
          exact hi q'.2)
      rw [hp.1, hp.2]
      exact parse_other s v w hs hv hi hh
  · have hp := none_of HP (fun m => by
      cases q : textB m s.data.toList
      · rfl
      · exfalso
        have q' := (text_iff _ _).1 q
        have := atoi_itoa m q'.1
        rw [q'.2] at this
        exact h ⟨m, this⟩)
    rw [hp.1, hp.2]
    exact parse_none s w hs (fun v q => h ⟨v, q⟩) hh
end Go.Proofs.YtighoelipihifabGreatDoor.Parse
