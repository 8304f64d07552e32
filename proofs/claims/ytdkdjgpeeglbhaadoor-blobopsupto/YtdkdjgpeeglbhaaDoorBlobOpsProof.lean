/-
  BlobOps holds at every operation and list of texts of bulk at most 1048576: the code answers as the document does, and the list stays. The condition: the bound of the second form. The library's tables and errors hold what the program's own text lays (the card ties them).
-/
import Derived.Test.YtdkdjgpeeglbhaaDoorLawOps
import Derived.Test.YtdkdjgpeeglbhaaDoorLaidErr
import Derived.Test.YtdkdjgpeeglbhaaDoorTie
import Derived.Test.YtdkdjgpeeglbhaaDoorCards
import Derived.WalkKit
import Derived.ProofKit
import Derived.OpenShut
import Derived.Carry
import Derived.Lay
import Derived.Deep.Slices
import Derived.Deep.DeepHandedRow
import Derived.SevenTiedAt
namespace Go.Proofs.YtdkdjgpeeglbhaaDoor.BlobOps
open Go.ChangeShapes Go.WideShapes Go.ChangeAt Go.RowKit
open Go.Proofs.YtdkdjgpeeglbhaaDoor.Opp
open Go.Proofs.YtdkdjgpeeglbhaaDoor.Parse
set_option linter.unusedVariables false
set_option linter.unusedSimpArgs false

theorem own : ownKnob Tryd.prog.godebug = none := by kernel_rfl
theorem laidOut : laidOutB Tryd.prog = true := by kernel_rfl
theorem cells9 : Tryd.prog.cellsOf 9 = 1 := by kernel_rfl
theorem has_here {W : World} (h : laidMetH Tryd.prog Rows.blobOpsUptoRow.laid W) : Has W := by
  rw [MakeChecks.laidMetH_plain _ _ _ (by kernel_rfl)] at h
  exact ⟨Laid.tab_of h.tail.tail, LaidErr.syn_of h.tail.tail.tail.tail, LaidErr.rng_of h.tail.tail.tail⟩
theorem spot_none {w : World} {a : Addr} {v : Value} (h : w.cell? a = some v) : a.spot = none := by
  unfold World.cell? at h
  rcases hh : w.heap[a.block]? with _ | o
  · rw [hh] at h; cases h
  · rw [hh] at h
    cases o with
    | cells c ty fz =>
      cases hs : a.spot with
      | none => rfl
      | some s => simp [hs] at h
    | _ => cases h
theorem cells_one {w : World} {a : Addr} {cs : List Value} (h : w.cells? 0 a 1 = some cs) : ∃ v, cs = [v] ∧ w.cell? a = some v := by
  unfold World.cells? at h
  rw [if_pos (Nat.zero_le _)] at h
  simp only [List.range_succ, List.range_zero, List.nil_append, List.mapM_cons, List.mapM_nil] at h
  have e : a.add 0 = a := by simp [Addr.add]
  rw [e] at h
  cases hc : w.cell? a with
  | none => rw [hc] at h; simp at h
  | some v => rw [hc] at h; simp at h; exact ⟨v, h.symm, rfl⟩
theorem bulk_pos {H : Type} : ∀ d : DataW H, 1 ≤ Rows.uptoBulk d
  | .lit (.string b) => by simp [Rows.uptoBulk]
  | .lit (.bool _) => by simp [Rows.uptoBulk]
  | .lit (.int _ _) => by simp [Rows.uptoBulk]
  | .lit (.float _ _) => by simp [Rows.uptoBulk]
  | .lit .nil => by simp [Rows.uptoBulk]
  | .nil => by simp [Rows.uptoBulk]
  | .ptr d => by simp [Rows.uptoBulk]
  | .slice a b => by simp [Rows.uptoBulk]
  | .agg a => by simp [Rows.uptoBulk]
  | .iface _ d => by simp [Rows.uptoBulk]
  | .map _ => by simp [Rows.uptoBulk]
  | .held _ => by simp [Rows.uptoBulk]
theorem bulk_len {H : Type} : ∀ l : List (DataW H), l.length ≤ Rows.uptoBulkAll l
  | [] => Nat.zero_le _
  | d :: l => by
    have := bulk_len l
    have := bulk_pos d
    rw [Rows.uptoBulkAll, List.length_cons]; omega
theorem open_row {H : Type} {enc : TypeId × Value → H} {w : World} {fuel : Nat} {t e : TypeId} {c : Value} {x : DataW H × List MemPlace} (ht : Tryd.prog.underlying t = some (.slice e)) (hc : Tryd.prog.cellsOf e = 1) (h : DataW.trod enc Tryd.prog w 0 (fun _ => true) true fuel t [c] = some x) :
    c = .slice none 0 0 ∨ ∃ (a : Addr) (cap : Nat) (elems : List (DataW H × List MemPlace)) (V : Nat → Value) (n : Nat), c = .slice (some a) elems.length cap ∧ elems.length ≤ cap ∧ n < fuel ∧ Rows.uptoBulkAll (elems.map (·.1)) + 1 ≤ Rows.uptoBulk x.1 ∧ ∀ i (hi : i < elems.length), w.cell? (a.add i) = some (V i) ∧ DataW.trod enc Tryd.prog w 0 (fun _ => true) true n e [V i] = some elems[i] := by
  rcases DataW.trod_slice ht h with ⟨e3, rfl⟩ | ⟨a, len, cap, elems, rest, m, rfl, e3, rfl, -, hlc, hcm, hel, hat, -, -⟩
  · cases e3; exact Or.inl rfl
  · cases e3
    right
    have hch : ∀ i, i < len → ∃ v : Value, ∃ hi : i < elems.length, w.cell? (a.add i) = some v ∧ DataW.trod enc Tryd.prog w 0 (fun _ => true) true m e [v] = some elems[i] := by
      intro i hi
      have hi2 : i < elems.length := by omega
      have h1 := hat i hi
      rw [List.getElem?_eq_getElem hi2, hc, Nat.mul_one] at h1
      obtain ⟨cs', h2, h3⟩ := Option.bind_eq_some_iff.1 h1
      obtain ⟨v, rfl, hv⟩ := cells_one h2
      exact ⟨v, hi2, hv, h3⟩
    obtain ⟨V, hV⟩ := Deep.choose_lt hch
    refine ⟨a, cap, elems, V, m, by rw [hel], by omega, by omega, ?_, fun i hi => ?_⟩
    · simp only [Rows.uptoBulk]; omega
    · obtain ⟨_, h1, h2⟩ := hV i (by omega)
      exact ⟨h1, h2⟩
theorem elem_bulk {H : Type} : ∀ (l : List (DataW H)) (i : Nat) (h : i < l.length), Rows.uptoBulk l[i] ≤ Rows.uptoBulkAll l
  | d :: l, 0, _ => by rw [Rows.uptoBulkAll]; exact Nat.le_add_right _ _
  | d :: l, i + 1, h => by
    have := elem_bulk l i (by simpa using h)
    rw [Rows.uptoBulkAll]
    exact Nat.le_trans this (Nat.le_add_left _ _)
theorem open_strs {H : Type} {enc : TypeId × Value → H} {w : World} {fuel : Nat} {c : Value} {x : DataW H × List MemPlace} (h : DataW.trod enc Tryd.prog w 0 (fun _ => true) true fuel 45 [c] = some x) (hx : Rows.uptoBulk x.1 ≤ 1048576) :
    (∃ a cap, c = .slice a 0 cap) ∨ ∃ (L : List ByteArray) (b o cap : Nat), c = .slice (some ⟨b, o, none⟩) L.length cap ∧ 0 < L.length ∧ L.length ≤ 1048576 ∧ L.length ≤ cap ∧ SS w b o L ∧ Small L := by
  rcases open_row Tryd.underlying45 cells9 h with rfl | ⟨a, cap, elems, V, n, rfl, hlc, -, hb, hV⟩
  · exact .inl ⟨none, 0, rfl⟩
  · rcases Nat.eq_zero_or_pos elems.length with h0 | hp
    · exact .inl ⟨some a, cap, by rw [h0]⟩
    · right
      have hch : ∀ i, i < elems.length → ∃ t : ByteArray, V i = .string t ∧ t.size ≤ 1048576 := by
        intro i hi
        obtain ⟨h1, h2⟩ := hV i hi
        obtain ⟨t, e1, e2, _⟩ := DataW.trod_string Tryd.underlying9 h2
        refine ⟨t, (List.cons.inj e1).1, ?_⟩
        have h3 := elem_bulk (elems.map (·.1)) i (by simpa using hi)
        rw [List.getElem_map, e2] at h3
        simp only [Rows.uptoBulk] at h3
        rw [show t.data.toList.length = t.size from Array.length_toList] at h3
        omega
      obtain ⟨T, hT⟩ := Deep.choose_lt hch
      have hs : a.spot = none := by
        have := spot_none (hV 0 hp).1
        simpa [Addr.add] using this
      obtain ⟨b, o, s⟩ := a
      obtain rfl : s = none := hs
      have hl := bulk_len (elems.map (·.1))
      rw [List.length_map] at hl
      refine ⟨(List.range elems.length).map T, b, o, cap, by simp, by simpa using hp, by simp; omega, by simpa using hlc, ⟨block_lt_of_cell (hV 0 hp).1, fun i hi => ?_⟩, fun s hs => ?_⟩
      · have hi' : i < elems.length := by simpa using hi
        rw [← Longer.add_off, (hV i hi').1, (hT i hi').1]
        simp
      · simp only [List.mem_map, List.mem_range] at hs
        obtain ⟨i, hi, rfl⟩ := hs
        have := (hT i hi).2
        omega
theorem witness_zip {H : Type} {enc : TypeId × Value → H} {C : Checked} {os : Os} {f : FuncId} {fn : Func} {s : OpenSpec} {conds : List PathCond} {apart : Bool} {laid : List (String × DataW Unit)} (modest : Bool) (w0 : World) (args : Array Value) (hos : w0.os = os)
    (hs : (w0.forCall (fun _ _ => 0) ⟨#[], args, []⟩).Shaped C.prog)
    (hok : Input.okWideB C.prog (w0.forCall (fun _ _ => 0) ⟨#[], args, []⟩) f ⟨#[], args, []⟩ = true)
    (hrow : s.preRow enc C.prog fn conds apart laid (w0.forCall (fun _ _ => 0) ⟨#[], args, []⟩).memory args) :
    ∃ (w : World) (tape : Tape) (i : Input), w.os = os ∧ (w.forCall tape i).Shaped C.prog ∧ i.vars = [] ∧ Input.okWide C.prog (w.forCall tape i) .any w.heap.size f i ∧
      s.preRow enc C.prog fn conds apart laid (w.forCall tape i).memory i.args ∧ ({ modest := modest } : Assume).holds C.prog (lone (Frame.enter C.prog f i.args .normal) [] (w.forCall tape i)) :=
  ⟨w0, fun _ _ => 0, ⟨#[], args, []⟩, hos, hs, (Input.okWide_of_okWideB (base := 0) hok).1, (Input.okWide_of_okWideB hok).2, hrow, by
    simp only [Assume.holds]
    exact ⟨by simp, by simp, fun _ => Modest.zero, by simp, by simp⟩⟩
set_option maxRecDepth 100000 in
theorem contract (H : Type) (enc : TypeId × Value → H) (W : World) (base : Nat) (args : Array Value) (ds gs : List (DataW H)) (before : List MemPlace)
    (hW : DataW.Whole enc Tryd.prog Tryd.f7.params.toList Rows.blobOpsSpec.vars false W args.toList ds gs before) (hL : laidMetH Tryd.prog Rows.blobOpsUptoRow.laid W) (hk : Rows.uptoSmall H (ds ++ gs) = true) (hval : ∀ (j : Nat) t v, Tryd.f7.params[j]? = some t → args[j]? = some v → Value.okWide Tryd.prog W .any base t v) :
    Calls Tryd.prog 7 args W fun e W' => ∃ v, e = .returned v ∧ Rows.blobOpsSpec.post enc Tryd.prog Tryd.f7 false true false false W args v W' := by
  have hW' := hW
  have hlt := hW.lt
  obtain ⟨p, q, hA0, hV, rfl, hfz, hnd⟩ := hW
  have hA : DataW.TrodAll enc Tryd.prog W 0 (fun _ => true) true Tryd.f7.params.toList args.toList ds p := hA0
  rw [Tryd.params7] at hA hval
  obtain ⟨v0, v1, d0, d1, p0, p1, rfl, rfl, rfl, h0, h1⟩ := trodAll_two hA
  obtain ⟨rfl, rfl⟩ := trodVars_none hV
  obtain ⟨a0, rfl, rfl, rfl, w0⟩ := open_int Tryd.underlying3 (hval 0 3 v0 rfl rfl) h0
  obtain ⟨fuel, hf⟩ := id h1
  have hb : Rows.uptoBulk d1 ≤ 1048576 := by
    have h : Rows.uptoBulkAll [_, d1] ≤ 1048576 := of_decide_eq_true hk
    simp only [Rows.uptoBulkAll] at h
    omega
  clear hA0
  have hv1 := hval 1 45 v1 rfl rfl
  obtain ⟨a, n, c, rfl⟩ := okWide_slice Tryd.underlying45 hv1
  have hall : Calls Tryd.prog 7 #[.int .i64 a0, .slice a n c] W fun e w' => e = .returned (.bool true) ∧ Below W.heap.size W w' := by
    rcases open_strs hf hb with ⟨a', c', e⟩ | ⟨L, b, o, cap, e, hn, hb2, hc, hs, hS⟩
    · rw [e]; exact LawOps.walk_none a0 a' c' W (has_here hL)
    · rw [e]; exact LawOps.walk_some a0 b o cap L W hS hn hb2 hc hs (has_here hL)
  refine hall.mono fun e W' ⟨he, bel⟩ => ?_
  subst he
  exact ⟨_, rfl, _, _, _, [], _, [], hW', trodAll_mk1 (shut_bool Tryd.underlying4 _), trodAll_mk2 (shut_int Tryd.underlying3 w0) (Below.trod laidOut (by kernel_rfl) (of_decide_eq_true (by kernel_rfl)) h1 bel (fun x hx => hlt x (by simp [hx]))), rfl, bel.frame _, fun h => by cases h⟩
noncomputable def laidWorld (os : Os) : World := World.doorLaid Tryd.prog 96 os
theorem laid_met (os : Os) (args : Array Value) : laidMet Tryd.prog Rows.blobOpsUptoRow.laid ((laidWorld os).forCall (fun _ _ => 0) ⟨#[], args, []⟩).memory :=
  laidMet_of_run' 8 (by kernel_rfl) (by kernel_rfl)
theorem reads (os : Os) {H : Type} (enc : TypeId × Value → H) : ∃ places, DataW.whole enc Tryd.prog ((laidWorld os).forCall (fun _ _ => 0) ⟨#[], #[.int .i64 0, .slice none 0 0], []⟩).memory Tryd.f7.params.toList Rows.blobOpsSpec.vars false #[Value.int .i64 0, .slice none 0 0].toList 8 = some ([.lit (.int .i64 0), .nil], [], places) :=
  ⟨[], by kernel_rfl⟩
set_option maxRecDepth 100000 in
theorem lifted (os : Os) (started : os.Started) (H : Type) (enc : TypeId × Value → H) (F : Stop.Interp) :
    ReturnsInHanded {} Tryd.checked os 7 .any ((Rows.OpenSpec.upto Rows.blobOpsSpec).preRow enc Tryd.prog Tryd.f7 Rows.blobOpsUptoRow.domain false Rows.blobOpsUptoRow.laid) (((Rows.OpenSpec.upto Rows.blobOpsSpec).at F).post enc Tryd.prog Tryd.f7 false true false false) := by
  obtain ⟨places, hx⟩ := reads os enc
  refine returnsInHanded_of_row (C := Tryd.checked) (s := Rows.OpenSpec.upto Rows.blobOpsSpec) own started (by kernel_rfl) Tryd.func7
    (witness_zip (enc := enc) (C := Tryd.checked) false (laidWorld os) #[.int .i64 0, .slice none 0 0] rfl (World.shaped_of_RefB (by kernel_rfl) (by kernel_rfl)) (by kernel_rfl)
      (OpenSpec.preRow_of_cond 8 hx (by kernel_rfl) (fun k hk => by cases hk; kernel_rfl) (by kernel_rfl) (laid_met os _))) ?_
  intro W base args ds gs before hval hW _ hcond _ hL _ _
  exact contract H enc W base args ds gs before hW hL (hcond _ rfl) hval
theorem proved : Rows.BlobOpsUptoSaid :=
  OpenClaim.holds_of_cond 7 Tryd.f7 rfl rfl rfl rfl rfl rfl rfl ⟨rfl, rfl, rfl, rfl, rfl⟩ rfl rfl rfl rfl rfl (by kernel_rfl) Tryd.func7 (by kernel_rfl)
    (of_decide_eq_true (by kernel_rfl)) (by unfold Func.isWrapper; first | (rw [if_pos (by decide +kernel)]; kernel_rfl) | (rw [if_neg (by decide +kernel)]; exact ⟨rfl, rfl⟩))
    (fun os started H enc _ F => by rw [OpenClaim.pre_eq_preRow]; exact lifted os started H enc F)
theorem plain (f : FuncId) (fn : Func) (hf : Tryd.pinned.checked.prog.funcNamed "covenant/covenantlaw08.BlobOps" = some f) (hfn : Tryd.pinned.checked.prog.funcs[f]? = some fn) :
    true = Tryd.pinned.checked.prog.looks [] ∧ ∀ (j : Nat) t, fn.params[j]? = some t → Tryd.pinned.checked.prog.wantsStandIn t = false := by
  obtain rfl : f = 7 := Option.some.inj ((show Tryd.prog.funcNamed "covenant/covenantlaw08.BlobOps" = some 7 by kernel_rfl).symm.trans hf) |>.symm
  obtain rfl : fn = Tryd.f7 := (Option.some.inj (Tryd.func7.symm.trans hfn)).symm
  refine ⟨by kernel_rfl, fun j t ht => ?_⟩
  rw [Tryd.params7] at ht
  have hm : t ∈ [3, 45] := by simpa using Array.mem_of_getElem? ht
  have hall : ([3, 45].all fun u => !Tryd.prog.wantsStandIn u) = true := by kernel_rfl
  have h1 : (!Tryd.prog.wantsStandIn t) = true := List.all_eq_true.1 hall t hm
  have h2 : Tryd.prog.wantsStandIn t = false := by simpa using h1
  exact h2
theorem card : Rows.BlobOpsUptoCardSaid :=
  Claim7.holds_tied_plain_at .later [] _ _ _ _ proved (fun _ h => by cases h) (by kernel_rfl) (fun _ h => by cases h) blobOpsUpto_row_tie rfl ⟨rfl, rfl⟩ (by kernel_rfl) rfl plain (by kernel_rfl)
end Go.Proofs.YtdkdjgpeeglbhaaDoor.BlobOps
namespace Go.Proofs.YtdkdjgpeeglbhaaDoor
theorem blobOps_holds : Rows.BlobOpsUptoCardSaid := BlobOps.card
#print axioms blobOps_holds
end Go.Proofs.YtdkdjgpeeglbhaaDoor
