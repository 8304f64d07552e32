/- The contracts of num.Print and of the document's own Print: a number's one text; old memory stands. -/
import Derived.Test.YtdkdjgpeeglbhabDoorRows
import Derived.Test.YtdkdjgpeeglbhabDoorTextMath
import Derived.Test.YtdkdjgpeeglbhabDoorShelf
import Derived.Lib.SlBytesRow
import Derived.WalkKit
import Derived.WalkSmall
import Derived.Below
namespace Go.Proofs.YtdkdjgpeeglbhabDoor.Print
open Go.RowKit
open Go.Lib (decDigits itoa)
open Go.Proofs.YtdkdjgpeeglbhabDoor.TextMath
set_option linter.unusedVariables false
set_option linter.unusedSimpArgs false

theorem hid_of {p : Prop} (h : p) : Hid p := h
theorem bel {B : Nat} {a b c : World} (h : Below B a b) (k : Below b.heap.size b c) (hB : B ≤ a.heap.size) : Below B a c := h.trans (k.mono (Nat.le_trans hB h.size))
theorem below_grow (w : World) (k : Nat) (os : Array Obj) : Below w.heap.size w (Sort.grow (w.drewN k) os) :=
  ⟨rfl, rfl, rfl, by simp [Sort.grow], fun j hj => by simp [Sort.grow, Array.getElem?_append, hj]⟩
theorem ret_s {a b : ByteArray} (h : a = b) : Ending.returned (.string a) = .returned (.string b) := by rw [h]

/-- the table of powers is there -/
def Tab (w : World) : Prop := Lib.TabIs Tryd.prog w "internal/strconv.uint64pow10" .u64 Lib.pow10Tab

theorem itoa_call (n : Int) (w : World) (h : InI n) (ht : Tab w) :
    Calls Tryd.prog 25 #[.int .i64 n] w fun e w' => e = .returned (.string ⟨(itoa n).toArray⟩) ∧ Below w.heap.size w w' :=
  (Tryd.strconv_Itoa n h.1 h.2 _ ht).mono fun e w' ⟨h1, k, os, h2⟩ => ⟨h1, by rw [h2]; exact below_grow w k os⟩
/-! ### the document's own -/
theorem conv_one (W : World) (d : Int) (h0 : 0 ≤ d) (h1 : d ≤ 255) :
    (convert 38 9 (.slice (some ⟨W.heap.size, 0, none⟩) 1 1)).run Tryd.prog (W.alloc (.cells #[.int .u8 d] 5)) = .ok (.string ⟨#[UInt8.ofNat d.toNat]⟩) (W.alloc (.cells #[.int .u8 d] 5)) := by
  refine Lib.run_convert_whole (P := Tryd.prog) (W.alloc (.cells #[.int .u8 d] 5)) 38 5 9 Tryd.underlying38 Tryd.underlying5 Tryd.underlying9 W.heap.size 0 ⟨#[UInt8.ofNat d.toNat]⟩ ?_ 1
  intro i hi
  have hi0 : i = 0 := by
    have : (⟨#[UInt8.ofNat d.toNat]⟩ : ByteArray).size = 1 := rfl
    omega
  subst hi0
  rw [Nat.zero_add, World.cell?_alloc_new]
  have e : ((⟨#[UInt8.ofNat d.toNat]⟩ : ByteArray)[0]) = UInt8.ofNat d.toNat := rfl
  rw [e, UInt8.toNat_ofNat']
  simp
  omega
def rest (v : Nat) : List UInt8 := if v = 0 then [] else decDigits v
theorem rest_step {v : Nat} (h : 0 < v) (l : List UInt8) : rest (v / 10) ++ (UInt8.ofNat (48 + v % 10) :: l) = rest v ++ l := by
  unfold rest
  rw [if_neg (show ¬ v = 0 from by omega)]
  by_cases h1 : v < 10
  · rw [if_pos (by omega), dec_small h1, show v % 10 = v from by omega]; rfl
  · rw [if_neg (by omega), dec_big h1]; simp
theorem app_one (c : UInt8) (l : List UInt8) : ((⟨#[c]⟩ : ByteArray) ++ (⟨l.toArray⟩ : ByteArray)) = ⟨(c :: l).toArray⟩ := by
  apply ByteArray.ext
  simp
theorem wrapu {a : Int} (h1 : -9223372036854775808 ≤ a) (h2 : a < 0) : IntKind.u64.wrap (-IntKind.u64.wrap a) = -a := by
  simp [IntKind.wrap, IntKind.signed, IntKind.bits]; omega

theorem val_u {a b : Int} (h : a = b) : Value.int .u64 a = .int .u64 b := by rw [h]
theorem step_any {y : Int} {l m : List UInt8} (h : 0 < y) (HL : Hid (rest y.toNat ++ l = m)) : Hid (rest (y / 10).toNat ++ (UInt8.ofNat (48 + y % 10).toNat :: l) = m) := by
  show _ = _
  rw [← HL.out, ← rest_step (show 0 < y.toNat from by omega) l, show (y / 10).toNat = y.toNat / 10 from by omega, show (48 + y % 10).toNat = 48 + y.toNat % 10 from by omega]
theorem end_list {y : Int} {l m : List UInt8} (h : y ≤ 0) (HL : Hid (rest y.toNat ++ l = m)) : l = m := by
  rw [← HL.out, show y.toNat = 0 from by omega]; rfl
theorem dec_len {u : Nat} (h : u ≤ 9223372036854775808) : (decDigits u).length ≤ 20 := by
  have := canon_len (canon_dec u) (by rw [val_dec]; exact h)
  omega
theorem len_of {y : Int} {l m : List UInt8} (HL : Hid (rest y.toNat ++ l = m)) (hm : m.length ≤ 20) : l.length ≤ 20 := by
  rw [← HL.out, List.length_append] at hm
  omega
theorem val_s {a b : ByteArray} (h : a = b) : Value.string a = .string b := by rw [h]

end Go.Proofs.YtdkdjgpeeglbhabDoor.Print
