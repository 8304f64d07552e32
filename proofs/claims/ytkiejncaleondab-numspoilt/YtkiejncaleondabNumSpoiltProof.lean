/-
  NumSpoilt holds at every text, place and change: two texts that differ in one byte alone have unlike sums by num.Crc. No condition.
-/
import Derived.Test.YtkiejncaleondabSpoilt
import Derived.WalkKit
import Derived.ProofKit
import Derived.OpenShut
import Derived.ShutString
import Derived.SizedLaws
namespace Go.Proofs.Ytkiejncaleondab.numSpoilt
open Go.ChangeShapes Go.WideShapes Go.ChangeAt Go.RowKit
open Go.ChangeMaps (open_string shut_string)
set_option linter.unusedVariables false      -- a walk need not use every 'w<i>' (that an integer argument fits its kind)

theorem own : ownKnob Try.prog.godebug = none := by kernel_rfl

open Go.Proofs.Ytkiejncaleondab.CrcMath
open Go.Proofs.Ytkiejncaleondab.Spoilt

theorem bd_i {n : Int} (h : (Lit.int .i64 n).wf = true) : -9223372036854775808 ≤ n ∧ n ≤ 9223372036854775807 := by
  simp only [Lit.wf, IntKind.min, IntKind.max, IntKind.signed, IntKind.bits, Bool.and_eq_true, decide_eq_true_eq, if_true] at h
  omega
theorem bd_u {n : Int} (h : (Lit.int .u8 n).wf = true) : 0 ≤ n ∧ n ≤ 255 := by
  simp only [Lit.wf, IntKind.min, IntKind.max, IntKind.signed, IntKind.bits, Bool.and_eq_true] at h
  simp at h; omega
theorem len_eq (s : ByteArray) : s.data.toList.length = s.size := Array.length_toList
/-- the text with another byte at i -/
def spoil (s : ByteArray) (i : Nat) (d : UInt8) : ByteArray := ⟨(s.data.toList.set i d).toArray⟩
theorem spoil_size (s : ByteArray) (i : Nat) (d : UInt8) : (spoil s i d).size = s.size := by
  show (s.data.toList.set i d).toArray.size = _
  rw [List.size_toArray, List.length_set, len_eq]
theorem spoil_list (s : ByteArray) (i : Nat) (d : UInt8) : (spoil s i d).data.toList = s.data.toList.set i d := rfl
theorem getD_get (l : List UInt8) (j : Nat) (h : j < l.length) : l.getD j 0 = l[j] := by simp [List.getD, h]
theorem set_self (l : List UInt8) (i : Nat) (d : UInt8) (h : i < l.length) : (l.set i d).getD i 0 = d := by simp [List.getD, h]
theorem set_ne (l : List UInt8) (i j : Nat) (d : UInt8) (h : i ≠ j) : (l.set i d).getD j 0 = l.getD j 0 := by simp [List.getD, List.getElem?_set_ne h]
theorem get_list (t : ByteArray) (j : Nat) (h : j < t.size) : t[j] = t.data.toList.getD j 0 := by
  have h' : j < t.data.toList.length := by rw [len_eq]; exact h
  rw [getD_get _ _ h']; rfl
theorem set_split (l : List UInt8) (i : Nat) (d : UInt8) (h : i < l.length) : l.set i d = l.take i ++ d :: l.drop (i + 1) := by
  rw [List.set_eq_take_append_cons_drop, if_pos h]
theorem self_split (l : List UInt8) (i : Nat) (h : i < l.length) : l = l.take i ++ l[i] :: l.drop (i + 1) := by
  rw [← List.drop_eq_getElem_cons h, List.take_append_drop]
theorem unlike (s : ByteArray) (i : Nat) (d : UInt8) (h : i < s.size) (hd : s.data.toList.getD i 0 ≠ d) : crcN 0 s.data.toList ≠ crcN 0 (spoil s i d).data.toList := by
  have h' : i < s.data.toList.length := by rw [len_eq]; exact h
  rw [spoil_list, set_split _ _ _ h']
  conv => lhs; rw [self_split _ _ h']
  rw [getD_get _ _ h'] at hd
  exact crcN_spoilt _ _ hd
theorem xor_ne {c n : Nat} (hn : n ≠ 0) : c ^^^ n ≠ c := by
  intro h
  exact hn (CrcMath.xor_cancel' (c := c) (by rw [h, Nat.xor_zero]))
theorem row_free (w : World) (s : ByteArray) (i : Nat) (h : i < s.size) : (Lib.bytesWorld w 5 s).frozen? ⟨w.heap.size, i, none⟩ = false := by
  have hs : s.size ≤ (Lib.bytesCells w 5 s).size := by
    unfold Lib.bytesCells
    rw [Array.size_append, Array.size_map]
    exact Nat.le_add_right _ _
  unfold World.frozen?
  rw [Lib.bytesWorld_at_new]
  simp; omega
theorem row_below (w : World) (s : ByteArray) : Below w.heap.size w (Lib.bytesWorld w 5 s) := by
  refine ⟨?_, ?_, ?_, ?_, ?_⟩
  · unfold Lib.bytesWorld World.freeze; rfl
  · unfold Lib.bytesWorld World.freeze; rfl
  · unfold Lib.bytesWorld World.freeze; rfl
  · rw [Lib.bytesWorld_size]; omega
  · intro k hk; exact Lib.bytesWorld_at_old w 5 s k hk
theorem spoilt_inv (w : World) (s : ByteArray) (i n : Nat) (h : i < s.size) (hn : n < 256) :
    Inv w w.heap.size (spoil s i (UInt8.ofNat ((s.data.toList.getD i 0).toNat ^^^ n))) ((Lib.bytesWorld w 5 s).setCell ⟨w.heap.size, i, none⟩ (.int .u8 (bits .xor .u8 ((s.data.toList.getD i 0).toNat : Int) (n : Int)))) := by
  have hc := Lib.bytesWorld_cell w 5 s i h
  have hb : (s.data.toList.getD i 0).toNat < 256 := UInt8.toNat_lt _
  have hx : (s.data.toList.getD i 0).toNat ^^^ n < 2 ^ 8 := Nat.xor_lt_two_pow hb hn
  refine ⟨(row_below w s).setCell (Nat.le_refl _) _, by simp [Lib.bytesWorld_size], ?_⟩
  intro j hj
  rw [spoil_size] at hj
  rw [Nat.zero_add, get_list, spoil_list]
  by_cases e : i = j
  · subst e
    rw [World.cell?_setCell_same _ _ _ hc, u8_xor_nat _ _ hb hn]
    congr 2
    rw [set_self _ _ _ (by rw [len_eq]; exact h), UInt8.toNat_ofNat', Nat.mod_eq_of_lt hx]
  · have ne : (⟨w.heap.size, i, none⟩ : Addr) ≠ ⟨w.heap.size, j, none⟩ := fun q => e (congrArg Addr.off q)
    rw [World.cell?_setCell_other _ _ _ _ ne, Lib.bytesWorld_cell w 5 s j hj]
    congr 3
    rw [set_ne _ _ _ _ e]

theorem walk (a0 : ByteArray) (a1 : Int) (a2 : Int) (w0 : a0.size ≤ 140737488351232) (w1 : (Lit.int .i64 a1).wf = true) (w2 : (Lit.int .u8 a2).wf = true) (w : World) :
    Calls Try.prog 5 #[.string a0, .int .i64 a1, .int .u8 a2] w fun e w' => e = .returned (.bool true) ∧ Below w.heap.size w w' := by
  have b1 := bd_i w1
  have b2 := bd_u w2
  have hl : a0.size ≤ maxLen := by unfold maxLen; omega
  by_cases hp : 1 ≤ a0.size ∧ 1 ≤ a2 ∧ 0 ≤ a1
  · obtain ⟨p1, p2, p3⟩ := hp
    obtain ⟨n, rfl⟩ := Int.eq_ofNat_of_zero_le b2.1
    have hm0 := Int.emod_nonneg a1 (show (a0.size : Int) ≠ 0 from by omega)
    have hm1 := Int.emod_lt_of_pos a1 (show (0 : Int) < (a0.size : Int) from by omega)
    obtain ⟨i, hi⟩ := Int.eq_ofNat_of_zero_le hm0
    have hlt : i < a0.size := by omega
    have hb : (a0.data.toList.getD i 0).toNat < 256 := UInt8.toNat_lt _
    have hx : (a0.data.toList.getD i 0).toNat ^^^ n < 2 ^ 8 := Nat.xor_lt_two_pow hb (show n < 2 ^ 8 from by omega)
    have hd : a0.data.toList.getD i 0 ≠ UInt8.ofNat ((a0.data.toList.getD i 0).toNat ^^^ n) := by
      intro e
      have := congrArg UInt8.toNat e
      rw [UInt8.toNat_ofNat', Nat.mod_eq_of_lt hx] at this
      exact xor_ne (show n ≠ 0 from by omega) this.symm
    have hu := unlike a0 i _ hlt hd
    refine spoilt_walk a0 (spoil a0 i (UInt8.ofNat ((a0.data.toList.getD i 0).toNat ^^^ n))) a1 n i w.heap.size (grownCap w a0.size 0 5) (crcN 0 a0.data.toList : Nat) (crcN 0 (spoil a0 i (UInt8.ofNat ((a0.data.toList.getD i 0).toNat ^^^ n))).data.toList : Nat)
      ((a0.data.toList.getD i 0).toNat : Int) w (Lib.bytesWorld w 5 a0) p1 w0 p3 b1.2 p2 b2.2 hi hlt (by rw [bne_iff_ne]; exact fun h => hu (by omega)) (spoil_size _ _ _)
      (Lib.run_convert_string_bytes w 9 30 5 a0 Try.underlying9 Try.underlying30 Try.underlying5) (Lib.bytesWorld_cell w 5 a0 i hlt) (row_free w a0 i hlt) (spoilt_inv w a0 i n hlt (by omega)) ?_ ?_
    · intro W hW
      exact (More.crc_any a0 W hl).mono fun e w' h => ⟨h.1, hW.next h.2⟩
    · intro W hW
      exact (More.crc_any _ W (by rw [spoil_size]; exact hl)).mono fun e w' h => ⟨h.1, hW.next h.2⟩
  · refine plain_walk a0 a1 a2 w w0 (by omega) (crcN 0 [97] : Nat) 0 ?_ (fun W => More.crc_any ⟨#[97]⟩ W (by decide)) (fun W => Crc.rcrc_any ⟨#[97]⟩ W (by decide))
    intro W
    have h := More.crc_any ⟨#[]⟩ W (by decide)
    have e : crcN 0 (⟨#[]⟩ : ByteArray).data.toList = 0 := crc_nil
    rw [e] at h
    exact h

/-! ### THE ROW's STEP: WRITTEN OUT: LEAVE IT -/
set_option maxRecDepth 100000 in
theorem lifted (os : Os) (started : os.Started) (H : Type) (enc : TypeId × Value → H) :
    ReturnsInHanded {} Try.checked os 5 .any (Rows.numSpoiltSpec.pre6 enc Try.prog Try.f5 Rows.numSpoiltRow.domain false) (Rows.numSpoiltSpec.post enc Try.prog Try.f5 false true false false) := by
  refine returnsInHanded_of_change_sized (C := Try.checked) own started (by kernel_rfl) Try.func5
    (ChangeSpec.witness6 (enc := enc) (C := Try.checked) false ⟨#[], #[.string ByteArray.empty, .int .i64 0, .int .u8 0], []⟩ 8 (by kernel_rfl) (by kernel_rfl) (by kernel_rfl) (by kernel_rfl)) ?_
  intro W base args ds gs before hval0 hW hcnd hsz0 _
  have hsz : (DataW.weightsEach Try.prog (Try.f5.params.toList ++ Rows.numSpoiltSpec.plain.varTypes Try.prog) (ds ++ gs)).all (· ≤ reachBytes) = true := hsz0
  have hval : ∀ (j : Nat) t v, Try.f5.params[j]? = some t → args[j]? = some v → Value.okWide Try.prog W .any base t v := hval0
  have hW' := hW
  obtain ⟨p, q, hA0, hV, rfl, hfz, hnd⟩ := hW
  have hA : DataW.TrodAll enc Try.prog W 0 (fun _ => true) true Try.f5.params.toList args.toList ds p := hA0
  rw [Try.params5] at hA hval hsz
  obtain ⟨v0, vs0, d0, ds0, p0, q0, hargs, rfl, rfl, h0, r0⟩ := trodAll_cons hA
  obtain ⟨v1, vs1, d1, ds1, p1, q1, rfl, rfl, rfl, h1, r1⟩ := trodAll_cons r0
  obtain ⟨v2, vs2, d2, ds2, p2, q2, rfl, rfl, rfl, h2, r2⟩ := trodAll_cons r1
  obtain ⟨rfl, rfl, rfl⟩ := trodAll_nil r2
  obtain rfl : args = #[v0, v1, v2] := by cases args; simp_all
  obtain ⟨rfl, rfl⟩ := trodVars_none hV
  obtain ⟨a0, rfl, rfl, rfl, w0⟩ := open_string Try.underlying9 (hval 0 9 v0 rfl rfl) h0
  obtain ⟨a1, rfl, rfl, rfl, w1⟩ := open_int Try.underlying3 (hval 1 3 v1 rfl rfl) h1
  obtain ⟨a2, rfl, rfl, rfl, w2⟩ := open_int Try.underlying5 (hval 2 5 v2 rfl rfl) h2
  clear hA0 hval0
  have s0 : a0.size ≤ 140737488351232 := by have := sized_string hsz (j := 0) (t := 9) rfl rfl; simpa [reachBytes] using this
  refine (walk a0 a1 a2 s0 w1 w2 W).mono fun e W' ⟨he, bel⟩ => ?_
  subst he
  exact ⟨_, rfl, _, _, _, [], _, [], hW', trodAll_mk1 (shut_bool Try.underlying4 _), (trodAll_cons_mk (shut_string Try.underlying9 w0) (trodAll_cons_mk (shut_int Try.underlying3 w1) (trodAll_cons_mk (shut_int Try.underlying5 w2) trodAll_mk0))), rfl, bel.frame _, fun h => by cases h⟩

theorem over : Rows.numSpoiltRow.holds Try.pinned (OpenSpec.ofChange Rows.numSpoiltSpec) :=
  OpenClaim.holds_of_wide 5 Try.f5 rfl rfl rfl rfl rfl rfl rfl ⟨rfl, rfl, rfl, rfl, rfl⟩ rfl rfl rfl rfl rfl (by kernel_rfl) Try.func5 (by kernel_rfl)
    (of_decide_eq_true (by kernel_rfl)) (by unfold Func.isWrapper; first | (rw [if_pos (by decide +kernel)]; kernel_rfl) | (rw [if_neg (by decide +kernel)]; exact ⟨rfl, rfl⟩))
    (fun os started H enc _ => lifted os started H enc)

/-- ████ THE STATEMENT ████ -/
theorem proved : Rows.NumSpoiltSaid :=
  over
#print axioms proved
end Go.Proofs.Ytkiejncaleondab.numSpoilt
namespace Go.Proofs.Ytkiejncaleondab
theorem numSpoilt_holds : Rows.NumSpoiltSaid := numSpoilt.proved
end Go.Proofs.Ytkiejncaleondab
