/-
  BlobOps holds at every operation and list of texts: the code answers as the document does, and the list stays. The library's tables and errors hold what the program's own text lays (the card ties them). No other condition.
-/
import Derived.Test.YtdkdjgpeeglbhaaDoorLawOps
import Derived.Test.YtdkdjgpeeglbhaaDoorLaidErr
import Derived.Test.YtdkdjgpeeglbhaaDoorTie
import Derived.Test.YtdkdjgpeeglbhaaDoorCards
import Derived.ShutString
import Derived.SizedLaws
import Derived.OpenShut
import Derived.SevenTiedAt
import Derived.Carry
import Derived.ProofKit
import Derived.Deep.Slices
namespace Go.Proofs.YtdkdjgpeeglbhaaDoor.BlobOpsAll
open Go.ChangeShapes Go.WideShapes Go.ChangeAt Go.RowKit
open Go.ChangeMaps (open_string shut_string)
open Go.Proofs.YtdkdjgpeeglbhaaDoor.Opp
open Go.Proofs.YtdkdjgpeeglbhaaDoor.Parse
set_option linter.unusedVariables false

theorem own : ownKnob Tryd.prog.godebug = none := by kernel_rfl
theorem bd_i {n : Int} (h : (Lit.int .i64 n).wf = true) : Span.InI n := by
  simp only [Lit.wf, IntKind.min, IntKind.max, IntKind.signed, IntKind.bits, Bool.and_eq_true] at h
  simp at h
  unfold Span.InI
  omega
theorem laidOut : laidOutB Tryd.prog = true := by kernel_rfl
theorem cells9 : Tryd.prog.cellsOf 9 = 1 := by kernel_rfl
theorem bytes9 : Tryd.prog.bytesOf 9 = 16 := by kernel_rfl
theorem spot_none {w : World} {a : Addr} {v : Value} (h : w.cell? a = some v) : a.spot = none := by
  unfold World.cell? at h
  rcases hh : w.heap[a.block]? with _ | o
  · rw [hh] at h; cases h
  · rw [hh] at h
    cases o with
    | cells c ty fz =>
      cases hs : a.spot with
      | none => rfl
      | some s => simp [hs] at h
    | _ => cases h
theorem cells_one {w : World} {a : Addr} {cs : List Value} (h : w.cells? 0 a 1 = some cs) : ∃ v, cs = [v] ∧ w.cell? a = some v := by
  unfold World.cells? at h
  rw [if_pos (Nat.zero_le _)] at h
  simp only [List.range_succ, List.range_zero, List.nil_append, List.mapM_cons, List.mapM_nil] at h
  have e : a.add 0 = a := by simp [Addr.add]
  rw [e] at h
  cases hc : w.cell? a with
  | none => rw [hc] at h; simp at h
  | some v => rw [hc] at h; simp at h; exact ⟨v, h.symm, rfl⟩
theorem all_mem {H : Type} {e : TypeId} : ∀ (l : List (DataW H)) (i : Nat) (h : i < l.length) (n : Nat), n ∈ l[i].weights Tryd.prog e → n ∈ DataW.weightsAll Tryd.prog e l
  | d :: l, 0, _, n, hn => by rw [DataW.weightsAll]; exact List.mem_append_left _ hn
  | d :: l, i + 1, h, n, hn => by rw [DataW.weightsAll]; exact List.mem_append_right _ (all_mem l i (by simpa using h) n hn)
theorem open_strs {H : Type} {enc : TypeId × Value → H} {w : World} {fuel : Nat} {c : Value} {x : DataW H × List MemPlace} (h : DataW.trod enc Tryd.prog w 0 (fun _ => true) true fuel 45 [c] = some x) (hx : ∀ n ∈ x.1.weights Tryd.prog 45, n ≤ reachBytes) :
    (∃ a cap, c = .slice a 0 cap) ∨ ∃ (L : List ByteArray) (b o cap : Nat), c = .slice (some ⟨b, o, none⟩) L.length cap ∧ 0 < L.length ∧ L.length ≤ 8796093022208 ∧ L.length ≤ cap ∧ SS w b o L ∧ Small L := by
  rcases DataW.trod_slice Tryd.underlying45 h with ⟨e3, rfl⟩ | ⟨a, len, cap, elems, rest, m, rfl, e3, rfl, -, hlc, hcm, hel, hat, -, -⟩
  · cases e3; exact .inl ⟨none, 0, rfl⟩
  · cases e3
    rcases Nat.eq_zero_or_pos len with h0 | hp
    · exact .inl ⟨some a, cap, by rw [h0]⟩
    · right
      have hch : ∀ i, i < len → ∃ t : ByteArray, w.cell? (a.add i) = some (.string t) ∧ t.size ≤ 140737488351232 := by
        intro i hi
        have hi2 : i < elems.length := by omega
        have h1 := hat i hi
        rw [List.getElem?_eq_getElem hi2, cells9, Nat.mul_one] at h1
        obtain ⟨cs', h2, h3⟩ := Option.bind_eq_some_iff.1 h1
        obtain ⟨v, rfl, hv⟩ := cells_one h2
        obtain ⟨t, e1, e2, _⟩ := DataW.trod_string Tryd.underlying9 h3
        refine ⟨t, by rw [hv, (List.cons.inj e1).1], ?_⟩
        have h4 := hx t.data.toList.length (by
          simp only [DataW.weights, Tryd.underlying45]
          refine List.mem_cons_of_mem _ (List.mem_append_left _ (all_mem (elems.map (·.1)) i (by simpa using hi2) _ ?_))
          rw [List.getElem_map, e2]
          simp [DataW.weights])
        rw [show t.data.toList.length = t.size from Array.length_toList] at h4
        simpa [reachBytes] using h4
      obtain ⟨T, hT⟩ := Deep.choose_lt hch
      have hs : a.spot = none := by
        have := spot_none (hT 0 hp).1
        simpa [Addr.add] using this
      obtain ⟨b, o, s⟩ := a
      obtain rfl : s = none := hs
      have hl := hx ((elems.length + rest.length) * 16) (by simp [DataW.weights, Tryd.underlying45, bytes9])
      have hr : reachBytes = 140737488351232 := rfl
      refine ⟨(List.range len).map T, b, o, cap, by simp, by simpa using hp, by simp; omega, by simpa using hlc, ⟨block_lt_of_cell (hT 0 hp).1, fun i hi => ?_⟩, fun s hs => ?_⟩
      · have hi' : i < len := by simpa using hi
        rw [← Longer.add_off, (hT i hi').1]
        simp
      · simp only [List.mem_map, List.mem_range] at hs
        obtain ⟨i, hi, rfl⟩ := hs
        exact (hT i hi).2
theorem door_met (os : Os) (args : Array Value) : laidMetH Tryd.prog Rows.blobOpsRow.laid ((World.doorLaid Tryd.prog 96 os).forCall (fun _ _ => 0) ⟨#[], args, []⟩).memory :=
  laidMetH_of_parts3 (fuel := 8) (laidMet_of_run' 8 (by kernel_rfl) (by kernel_rfl)) (by kernel_rfl) (by kernel_rfl)
theorem has_here {W : World} (h : laidMetH Tryd.prog Rows.blobOpsRow.laid W) : Has W := by
  rw [MakeChecks.laidMetH_plain _ _ _ (by kernel_rfl)] at h
  exact ⟨Laid.tab_of h.tail.tail, LaidErr.syn_of h.tail.tail.tail.tail, LaidErr.rng_of h.tail.tail.tail⟩

set_option maxRecDepth 100000 in
theorem lifted (os : Os) (started : os.Started) (H : Type) (enc : TypeId × Value → H) :
    ReturnsInHanded {} Tryd.checked os 7 .any (fun w args => (Rows.blobOpsSpec.pre enc Tryd.prog Tryd.f7 [] false w args ∧ laidMetH Tryd.prog Rows.blobOpsRow.laid w) ∧ sizedMet enc Tryd.prog Tryd.f7 (OpenSpec.ofChange Rows.blobOpsSpec) false w args)
      (Rows.blobOpsSpec.post enc Tryd.prog Tryd.f7 false true false false) := by
  refine returnsInHanded_of_change_and (C := Tryd.checked) (X := fun w _ => laidMetH Tryd.prog Rows.blobOpsRow.laid w) (fun _ _ _ hh h => h.of_heap hh) own started (by kernel_rfl) Tryd.func7
    (ChangeSpec.witness_shaped (enc := enc) (C := Tryd.checked) (os := os) (X := fun w _ => laidMetH Tryd.prog Rows.blobOpsRow.laid w) false (World.doorLaid Tryd.prog 96 os) #[.int .i64 0, .slice none 0 0] 8 rfl (World.shaped_of_RefB (by kernel_rfl) (by kernel_rfl)) (by kernel_rfl) (by kernel_rfl) (by kernel_rfl) (door_met os _)) ?_
  intro W base args ds gs before hval0 hW _ hsz0 hL _
  have hval : ∀ (j : Nat) t v, Tryd.f7.params[j]? = some t → args[j]? = some v → Value.okWide Tryd.prog W .any base t v := hval0
  have hW' := hW
  have hlt := hW.lt
  have hsz : (DataW.weightsEach Tryd.prog (Tryd.f7.params.toList ++ Rows.blobOpsSpec.plain.varTypes Tryd.prog) (ds ++ gs)).all (· ≤ reachBytes) = true := hsz0
  obtain ⟨p, q, hA0, hV, rfl, hfz, hnd⟩ := hW
  have hA : DataW.TrodAll enc Tryd.prog W 0 (fun _ => true) true Tryd.f7.params.toList args.toList ds p := hA0
  rw [Tryd.params7] at hA hval hsz
  obtain ⟨v0, vs0, d0, ds0, p0, q0, hargs, rfl, rfl, h0, r0⟩ := trodAll_cons hA
  obtain ⟨v1, vs1, d1, ds1, p1, q1, rfl, rfl, rfl, h1, r1⟩ := trodAll_cons r0
  obtain ⟨rfl, rfl, rfl⟩ := trodAll_nil r1
  obtain rfl : args = #[v0, v1] := by cases args; simp_all
  obtain ⟨rfl, rfl⟩ := trodVars_none hV
  obtain ⟨a0, rfl, rfl, rfl, w0⟩ := open_int Tryd.underlying3 (hval 0 3 v0 rfl rfl) h0
  obtain ⟨fuel, hf⟩ := id h1
  have hv1 := hval 1 45 v1 rfl rfl
  obtain ⟨a, n, c, rfl⟩ := okWide_slice Tryd.underlying45 hv1
  have hx1 : ∀ n ∈ d1.weights Tryd.prog 45, n ≤ reachBytes := fun n hn => by
    have := List.all_eq_true.1 hsz n (DataW.weights_mem_each (j := 1) (t := 45) (d := d1) rfl rfl n hn)
    simpa using this
  have hall : Calls Tryd.prog 7 #[.int .i64 a0, .slice a n c] W fun e w' => e = .returned (.bool true) ∧ Below W.heap.size W w' := by
    rcases open_strs hf hx1 with ⟨a', c', e⟩ | ⟨L, b, o, cap, e, hn, hb2, hc, hs, hS⟩
    · rw [e]; exact LawOps.walk_none a0 a' c' W (has_here hL)
    · rw [e]; exact LawOps.walk_some a0 b o cap L W hS hn hb2 hc hs (has_here hL)
  clear hA0 hval0
  refine hall.mono fun e W' ⟨he, bel⟩ => ?_
  subst he
  exact ⟨_, rfl, _, _, _, [], _, [], hW', trodAll_mk1 (shut_bool Tryd.underlying4 _), (trodAll_cons_mk (shut_int Tryd.underlying3 w0) (trodAll_cons_mk (Below.trod laidOut (by kernel_rfl) (of_decide_eq_true (by kernel_rfl)) h1 bel (fun x hx => hlt x (by simp [hx]))) trodAll_mk0)), rfl, bel.frame _, fun h => by cases h⟩

theorem row_holds : Rows.BlobOpsSaid :=
  OpenClaim.holds_of_wide 7 Tryd.f7 rfl rfl rfl rfl rfl rfl rfl ⟨rfl, rfl, rfl, rfl, rfl⟩ rfl rfl rfl rfl rfl (by kernel_rfl) Tryd.func7 (by kernel_rfl)
    (of_decide_eq_true (by kernel_rfl)) (by unfold Func.isWrapper; first | (rw [if_pos (by decide +kernel)]; kernel_rfl) | (rw [if_neg (by decide +kernel)]; exact ⟨rfl, rfl⟩))
    (fun os started H enc _ => lifted os started H enc)
end Go.Proofs.YtdkdjgpeeglbhaaDoor.BlobOpsAll
namespace Go.Proofs.YtdkdjgpeeglbhaaDoor
open Go
theorem blobOpsAll_holds : Rows.BlobOpsCardSaid :=
  Claim7.holds_tied_plain_at .later [] [.data, .data, .data, .sentinel, .sentinel] true (true, "1696425853e5b631dac0e53ff141cf51feecfd47c39ed55bbe5045161589c33e") true
    BlobOpsAll.row_holds (fun _ h => by cases h) (by kernel_rfl) (fun _ h => by cases h) blobOps_row_tie rfl ⟨rfl, rfl⟩ (by kernel_rfl) rfl
    (fun f fn hf hfn => by
      obtain rfl : f = 7 := Option.some.inj ((show Tryd.prog.funcNamed "covenant/covenantlaw08.BlobOps" = some 7 by kernel_rfl).symm.trans hf) |>.symm
      obtain rfl : fn = Tryd.f7 := (Option.some.inj (Tryd.func7.symm.trans hfn)).symm
      exact ⟨by kernel_rfl, fun j t ht => by
        rw [Tryd.params7] at ht
        rcases j with _ | j
        · have h3 : t = 3 := by simpa using ht.symm
          subst h3
          exact (show Tryd.prog.wantsStandIn 3 = false by kernel_rfl)
        · rcases j with _ | j
          · have h3 : t = 45 := by simpa using ht.symm
            subst h3
            exact (show Tryd.prog.wantsStandIn 45 = false by kernel_rfl)
          · simp at ht⟩)
    (by kernel_rfl)
#print axioms blobOpsAll_holds
end Go.Proofs.YtdkdjgpeeglbhaaDoor
