/- Zeros behind a text; bits that are set and set back. -/
import Derived.Test.YtdkdjgpeeglbhabDoorSure
namespace Go.Proofs.YtdkdjgpeeglbhabDoor.Zeros
open Go.RowKit
open Go.Proofs.YtdkdjgpeeglbhabDoor.BlobMath
open Go.Proofs.YtdkdjgpeeglbhabDoor.Span
open Go.Proofs.YtdkdjgpeeglbhabDoor.Bits
open Go.Proofs.YtdkdjgpeeglbhabDoor.Reads
open Go.Proofs.YtdkdjgpeeglbhabDoor.Mem
open Go.Proofs.YtdkdjgpeeglbhabDoor.Splice
open Go.Proofs.YtdkdjgpeeglbhabDoor.Opp
open Go.Proofs.YtdkdjgpeeglbhabDoor.Parse
set_option linter.unusedVariables false
set_option linter.unusedSimpArgs false

theorem txt_mk (l : List UInt8) : txt (mkB l) = l := by simp [txt, mkB]
theorem mk_txt (s : ByteArray) : mkB (txt s) = s := by
  apply ByteArray.ext; simp [txt, mkB]
theorem txt_inj {s t : ByteArray} (h : txt s = txt t) : s = t := by rw [← mk_txt s, ← mk_txt t, h]
theorem txt_extract (s : ByteArray) (a b : Nat) : txt (s.extract a b) = ((txt s).take b).drop a := by
  unfold txt
  rw [Lib.extract_data, List.drop_take]
theorem head_run (A : ByteArray) (n : Nat) (x : Int) (hx : x = n) (h : n ≤ A.size) (w : World) : (Instr.slice 9 (.string A) none (some (.int .i64 x)) none).run Tryd.prog w = .ok (.string (A.extract 0 n)) w := by
  subst hx
  rw [run_slice_string_h (P := Tryd.prog) w 9 A Tryd.underlying9 .i64 n (by omega) (by omega)]
  simp
theorem tail_run (A : ByteArray) (n : Nat) (x : Int) (hx : x = n) (h : n ≤ A.size) (w : World) : (Instr.slice 9 (.string A) (some (.int .i64 x)) none none).run Tryd.prog w = .ok (.string (A.extract n A.size)) w := by
  subst hx
  rw [run_slice_string_from_if (P := Tryd.prog) (w := w) 9 A .i64 n Tryd.underlying9, if_pos ⟨by omega, by omega⟩]
  rfl
theorem zeros_yes (A B : ByteArray) (n : Nat) (w : World) (hA : A.size ≤ 140737488351232) (hp : txt A = pad (txt B) n) :
    Calls Tryd.prog 8 #[.string A, .string B] w fun e w' => e = .returned (.bool true) ∧ w' = w := by
  have hl : A.size = max B.size n := by rw [← txt_len A, hp, pad_len, txt_len]
  have hle : B.size ≤ A.size := by omega
  have he : A.extract 0 B.size = B := by
    apply txt_inj
    rw [txt_extract, hp, List.drop_zero]
    unfold pad
    rw [← txt_len B, List.take_left]
  have hsl := head_run A B.size B.size rfl hle
  rw [he] at hsl
  have HZ := hid_of (fun i (hi : i < A.size) (hb : B.size ≤ i) => (show A[i].toNat = 0 by rw [txt_at hi, hp, pad_at, at8_out (by rw [txt_len]; exact hb)]))
  clear hp hl he
  go_enter Tryd.func8, Tryd.ntmps8
  go_wp2_with fail
  go_loop [5] (fun x => ∃ i : Nat, B.size ≤ i ∧ i ≤ A.size ∧ x = .int .i64 (i : Int)) (fun x => A.size - (intOf x).toNat)
  case atStart => exact ⟨B.size, Nat.le_refl _, hle, rfl⟩
  case round =>
    obtain ⟨i, h1, h2, rfl⟩ := hrel
    by_cases hlt : i < A.size
    · have hz : ((A[i].toNat : Int) != 0) = false := by rw [HZ.out i hlt h1]; rfl
      go_wp2
      exact ⟨⟨i + 1, by omega, by omega, by go_num⟩, by simp [intOf]; omega⟩
    · go_wp2
      go_ret
      exact ⟨rfl, rfl⟩

/-! ### bits set -/
def setQ (c j v i : Nat) : Bool := decide (bitB (setN c j v) i = if i = j then v else bitB c i)
def backQ (c j v : Nat) : Bool := decide (setN (setN c j v) j (bitB c j) = c)
theorem set_all : ∀ c, c < 256 → ∀ j, j < 8 → ∀ v, v < 2 → (backQ c j v = true ∧ ∀ i, i < 8 → setQ c j v i = true) := by decide +kernel
theorem set_bit {c j v i : Nat} (hc : c < 256) (hj : j < 8) (hv : v < 2) (hi : i < 8) : bitB (setN c j v) i = if i = j then v else bitB c i := of_decide_eq_true ((set_all c hc j hj v hv).2 i hi)
theorem set_back {c j v : Nat} (hc : c < 256) (hj : j < 8) (hv : v < 2) : setN (setN c j v) j (bitB c j) = c := of_decide_eq_true (set_all c hc j hj v hv).1
theorem setS_len (l : List UInt8) (a v : Nat) : (setS l a v).length = max l.length (a / 8 + 1) := by unfold setS; rw [List.length_set, pad_len]
theorem setS_at (l : List UInt8) (a v k : Nat) (hv : v < 2) : at8 (setS l a v) k = if k = a / 8 then setN (at8 l (a / 8)) (a % 8) v else at8 l k := by
  unfold setS
  have := setN_lt (at8_lt l (a / 8)) (show a % 8 < 8 by omega) hv
  rw [at8_set (by rw [pad_len]; omega), UInt8.toNat_ofNat', Nat.mod_eq_of_lt this, pad_at]
theorem bit_set (l : List UInt8) (a v b : Nat) (hv : v < 2) : bitAt (setS l a v) b = if b = a then v else bitAt l b := by
  unfold bitAt
  rw [setS_at l a v _ hv]
  by_cases h : b / 8 = a / 8
  · rw [if_pos h, set_bit (at8_lt _ _) (by omega) hv (by omega), ← h]
    by_cases q : b % 8 = a % 8
    · rw [if_pos q, if_pos (by omega)]
    · rw [if_neg q, if_neg (by omega)]
  · rw [if_neg h, if_neg (by omega)]
theorem back_eq (l : List UInt8) (a v : Nat) (hv : v < 2) : setS (setS l a v) a (bitAt l a) = pad l (a / 8 + 1) := by
  refine ext8 (by rw [setS_len, setS_len, pad_len]; omega) fun k hk => ?_
  rw [setS_at _ _ _ _ (bitAt_lt _ _), setS_at _ _ _ _ hv, setS_at _ _ _ _ hv, pad_at, if_pos rfl]
  by_cases h : k = a / 8
  · rw [if_pos h, h]
    exact set_back (at8_lt _ _) (by omega) hv
  · rw [if_neg h, if_neg h]
end Go.Proofs.YtdkdjgpeeglbhabDoor.Zeros
