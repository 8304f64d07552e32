/-
  NumParses holds at every text: num.Parse gives the number that the document gives, or its error. The library's tables and errors hold what the program's own text lays (the card ties them). No other condition.
-/
import Derived.Test.YtkiejncaleondaaDoorParse
import Derived.Test.YtkiejncaleondaaDoorLaidErr
import Derived.Test.YtkiejncaleondaaDoorTie
import Derived.Test.YtkiejncaleondaaDoorCards
import Derived.ShutString
import Derived.SizedLaws
import Derived.OpenShut
import Derived.SevenTiedAt
namespace Go.Proofs.YtkiejncaleondaaDoor.NumParses
open Go.ChangeShapes Go.WideShapes Go.ChangeAt Go.RowKit
open Go.ChangeMaps (open_string shut_string)
open Go.Proofs.YtkiejncaleondaaDoor.TextMath
open Go.Proofs.YtkiejncaleondaaDoor.Print
open Go.Proofs.YtkiejncaleondaaDoor.RefParse
open Go.Proofs.YtkiejncaleondaaDoor.Parse
set_option linter.unusedVariables false

theorem own : ownKnob Tryd.prog.godebug = none := by kernel_rfl
theorem five : Parsed (⟨#[45, 53]⟩ : ByteArray).data.toList (-5) 0 := by
  refine .inl ⟨(text_iff _ _).2 ⟨⟨by omega, by omega⟩, ?_⟩, rfl⟩
  unfold Lib.itoa
  rw [if_pos (by omega)]
  show 45 :: Lib.decDigits 5 = [45, 53]
  rw [dec_small (by omega)]
  rfl

set_option maxHeartbeats 1000000 in
theorem walk (s : ByteArray) (w : World) (hs : s.size ≤ 140737488351232) (hh : Has w) :
    Calls Tryd.prog 3 #[.string s] w fun e w' => e = .returned (.bool true) ∧ Below w.heap.size w w' := by
  obtain ⟨n, e, hp⟩ := parsed_ex s.data.toList
  have HP := hid_of hp
  have HH := hid_of hh
  have he : 0 ≤ e ∧ e ≤ 10 := by rcases hp with ⟨_, h⟩ | ⟨_, _, h⟩ <;> omega
  obtain ⟨e0, e1⟩ := he
  clear hp hh
  go_enter Tryd.func3, Tryd.ntmps3
  go_wp2_with fail
  refine (parse_any s _ n e hs HP.out HH.out).mono ?_
  rintro x w1 ⟨rfl, b1⟩
  go_wp2_with fail
  refine (rparse_any s _ n e hs HP.out).mono ?_
  rintro x w2 ⟨rfl, rfl⟩
  go_wp2_with fail
  refine (parse_any _ _ (-5) 0 (by decide) five (HH.out.later b1)).mono ?_
  rintro x w3 ⟨rfl, b3⟩
  go_wp2
  go_ret
  exact ⟨rfl, bel b1 b3 (Nat.le_refl _)⟩

/-! ### the listed variables -/
theorem door_met (os : Os) (args : Array Value) : laidMetH Tryd.prog Rows.numParsesRow.laid ((World.doorLaid Tryd.prog 62 os).forCall (fun _ _ => 0) ⟨#[], args, []⟩).memory :=
  laidMetH_of_parts3 (fuel := 8) (laidMet_of_run' 8 (by kernel_rfl) (by kernel_rfl)) (by kernel_rfl) (by kernel_rfl)
theorem has_here {W : World} (h : laidMetH Tryd.prog Rows.numParsesRow.laid W) : Has W := by
  rw [MakeChecks.laidMetH_plain _ _ _ (by kernel_rfl)] at h
  exact ⟨Laid.tab_of h.tail.tail, LaidErr.syn_of h.tail.tail.tail.tail, LaidErr.rng_of h.tail.tail.tail⟩

set_option maxRecDepth 100000 in
theorem lifted (os : Os) (started : os.Started) (H : Type) (enc : TypeId × Value → H) :
    ReturnsInHanded {} Tryd.checked os 3 .any (fun w args => (Rows.numParsesSpec.pre enc Tryd.prog Tryd.f3 [] false w args ∧ laidMetH Tryd.prog Rows.numParsesRow.laid w) ∧ sizedMet enc Tryd.prog Tryd.f3 (OpenSpec.ofChange Rows.numParsesSpec) false w args)
      (Rows.numParsesSpec.post enc Tryd.prog Tryd.f3 false true false false) := by
  refine returnsInHanded_of_change_and (C := Tryd.checked) (X := fun w _ => laidMetH Tryd.prog Rows.numParsesRow.laid w) (fun _ _ _ hh h => h.of_heap hh) own started (by kernel_rfl) Tryd.func3
    (ChangeSpec.witness_shaped (enc := enc) (C := Tryd.checked) (os := os) (X := fun w _ => laidMetH Tryd.prog Rows.numParsesRow.laid w) false (World.doorLaid Tryd.prog 62 os) #[.string ByteArray.empty] 8 rfl (World.shaped_of_RefB (by kernel_rfl) (by kernel_rfl)) (by kernel_rfl) (by kernel_rfl) (by kernel_rfl) (door_met os _)) ?_
  intro W base args ds gs before hval0 hW _ hsz0 hL _
  have hval : ∀ (j : Nat) t v, Tryd.f3.params[j]? = some t → args[j]? = some v → Value.okWide Tryd.prog W .any base t v := hval0
  have hW' := hW
  have hsz : (DataW.weightsEach Tryd.prog (Tryd.f3.params.toList ++ Rows.numParsesSpec.plain.varTypes Tryd.prog) (ds ++ gs)).all (· ≤ reachBytes) = true := hsz0
  obtain ⟨p, q, hA0, hV, rfl, hfz, hnd⟩ := hW
  have hA : DataW.TrodAll enc Tryd.prog W 0 (fun _ => true) true Tryd.f3.params.toList args.toList ds p := hA0
  rw [Tryd.params3] at hA hval hsz
  obtain ⟨v0, d0, rfl, rfl, h0⟩ := trodAll_one hA
  obtain ⟨rfl, rfl⟩ := trodVars_none hV
  obtain ⟨a0, rfl, rfl, rfl, w0⟩ := open_string Tryd.underlying9 (hval 0 9 v0 rfl rfl) h0
  clear hA0 hval0
  have s0 : a0.size ≤ 140737488351232 := by have := sized_string hsz (j := 0) (t := 9) rfl rfl; simpa [reachBytes] using this
  refine (walk a0 W s0 (has_here hL)).mono fun e W' ⟨he, bel⟩ => ?_
  subst he
  exact ⟨_, rfl, _, _, _, [], _, [], hW', trodAll_mk1 (shut_bool Tryd.underlying4 _), trodAll_mk1 (shut_string Tryd.underlying9 w0), rfl, bel.frame _, fun h => by cases h⟩

theorem row_holds : Rows.NumParsesSaid :=
  OpenClaim.holds_of_wide 3 Tryd.f3 rfl rfl rfl rfl rfl rfl rfl ⟨rfl, rfl, rfl, rfl, rfl⟩ rfl rfl rfl rfl rfl (by kernel_rfl) Tryd.func3 (by kernel_rfl)
    (of_decide_eq_true (by kernel_rfl)) (by unfold Func.isWrapper; first | (rw [if_pos (by decide +kernel)]; kernel_rfl) | (rw [if_neg (by decide +kernel)]; exact ⟨rfl, rfl⟩))
    (fun os started H enc _ => lifted os started H enc)
end Go.Proofs.YtkiejncaleondaaDoor.NumParses
namespace Go.Proofs.YtkiejncaleondaaDoor
open Go
theorem numParses_holds : Rows.NumParsesCardSaid :=
  Claim7.holds_tied_plain_at .later [] [.data, .data, .data, .sentinel, .sentinel] true (true, "04ce551c4222db125d30caa949e2edfc6c9823b4ff6f7d875e72c752ebc3fd0a") true
    NumParses.row_holds (fun _ h => by cases h) (by kernel_rfl) (fun _ h => by cases h) numParses_row_tie rfl ⟨rfl, rfl⟩ (by kernel_rfl) rfl
    (fun f fn hf hfn => by
      obtain rfl : f = 3 := Option.some.inj ((show Tryd.prog.funcNamed "covenant/covenantlaw01.NumParses" = some 3 by kernel_rfl).symm.trans hf) |>.symm
      obtain rfl : fn = Tryd.f3 := (Option.some.inj (Tryd.func3.symm.trans hfn)).symm
      exact ⟨by kernel_rfl, fun j t ht => by
        rw [Tryd.params3] at ht
        have h3 : t = 9 := by
          rcases j with _ | j
          · simpa using ht.symm
          · simp at ht
        subst h3
        exact (show Tryd.prog.wantsStandIn 9 = false by kernel_rfl)⟩)
    (by kernel_rfl)
#print axioms numParses_holds
end Go.Proofs.YtkiejncaleondaaDoor
