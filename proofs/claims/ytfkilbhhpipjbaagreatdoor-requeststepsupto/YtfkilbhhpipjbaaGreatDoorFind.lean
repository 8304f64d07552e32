/- strings.IndexAny and ContainsAny at the two bytes of a line's end: at every text. -/
import Derived.Test.YtfkilbhhpipjbaaGreatDoorShelf
import Derived.Test.YtfkilbhhpipjbaaGreatDoorBase
import Derived.Laws.RangeString
import Derived.WalkKit
import Derived.BigQuiet
import Derived.Deep.RegionWith
import Derived.Below
import Derived.Deep.LoopGhost
namespace Go.Proofs.YtfkilbhhpipjbaaGreatDoor.Find
open Go.RowKit
open Go.Proofs.YtfkilbhhpipjbaaGreatDoor.Base
set_option linter.unusedVariables false

theorem get_at (s : ByteArray) (i : Nat) (h : i < s.size) : s.get! i = s[i]'h := by
  simp [ByteArray.get!, getElem!_pos, h]
  rfl
theorem dec_high (s : ByteArray) (i : Nat) (hi : i < s.size) (h : 128 ≤ (s[i]'hi).toNat) :
    ∃ r m, Utf8.decode s i = (r, m) ∧ 128 ≤ r ∧ r ≤ 1114111 ∧ (r < 55296 ∨ 57344 ≤ r) ∧ 1 ≤ m ∧ i + m ≤ s.size ∧ ∀ j, j < m → ∀ (hj : i + j < s.size), 128 ≤ (s[i + j]'hj).toNat := by
  have e0 : (s.get! (i + 0)).toNat = (s[i]'hi).toNat := by rw [show i + 0 = i from rfl, get_at s i hi]
  have hone : ∀ j, j < 1 → ∀ (hj : i + j < s.size), 128 ≤ (s[i + j]'hj).toNat := by
    intro j hj hj2
    obtain rfl : j = 0 := by omega
    exact h
  have herr : ∃ r m, (Utf8.runeError, 1) = (r, m) ∧ 128 ≤ r ∧ r ≤ 1114111 ∧ (r < 55296 ∨ 57344 ≤ r) ∧ 1 ≤ m ∧ i + m ≤ s.size ∧ ∀ j, j < m → ∀ (hj : i + j < s.size), 128 ≤ (s[i + j]'hj).toNat :=
    ⟨_, _, rfl, by decide, by decide, by decide, by decide, by omega, hone⟩
  have hb := UInt8.toNat_lt (s[i]'hi)
  have cont : ∀ k, (decide (i + k < s.size) && (s.get! (i + k)).toNat / 64 == 2) = true → ∃ hk : i + k < s.size, 128 ≤ (s[i + k]'hk).toNat := by
    intro k hk
    rw [Bool.and_eq_true, decide_eq_true_eq, beq_iff_eq] at hk
    refine ⟨hk.1, ?_⟩
    rw [get_at s _ hk.1] at hk
    omega
  unfold Utf8.decode
  simp only [e0]
  rw [if_neg (by omega)]
  split
  · rename_i h1
    rw [Bool.and_eq_true] at h1
    obtain ⟨k1, c1⟩ := cont 1 h1.2
    have := UInt8.toNat_lt (s.get! (i + 1))
    have hx := h1.1
    rw [beq_iff_eq] at hx
    split
    · refine ⟨_, _, rfl, by omega, by omega, by omega, by omega, by omega, ?_⟩
      intro j hj hj2
      rcases (show j = 0 ∨ j = 1 from by omega) with rfl | rfl
      · exact h
      · exact c1
    · exact herr
  · split
    · rename_i h1
      rw [Bool.and_eq_true, Bool.and_eq_true] at h1
      obtain ⟨k1, c1⟩ := cont 1 h1.1.2
      obtain ⟨k2, c2⟩ := cont 2 h1.2
      split
      · rename_i h2
        rw [Bool.and_eq_true] at h2
        have hv := h2.2
        have hg := of_decide_eq_true h2.1
        unfold Utf8.valid at hv
        simp only [Bool.or_eq_true, Bool.and_eq_true, decide_eq_true_eq] at hv
        refine ⟨_, _, rfl, by omega, by omega, by omega, by omega, by omega, ?_⟩
        intro j hj hj2
        rcases (show j = 0 ∨ j = 1 ∨ j = 2 from by omega) with rfl | rfl | rfl
        · exact h
        · exact c1
        · exact c2
      · exact herr
    · split
      · rename_i h1
        rw [Bool.and_eq_true, Bool.and_eq_true, Bool.and_eq_true] at h1
        obtain ⟨k1, c1⟩ := cont 1 h1.1.1.2
        obtain ⟨k2, c2⟩ := cont 2 h1.1.2
        obtain ⟨k3, c3⟩ := cont 3 h1.2
        split
        · rename_i h2
          rw [Bool.and_eq_true] at h2
          have hv := h2.2
          have hg := of_decide_eq_true h2.1
          unfold Utf8.valid at hv
          simp only [Bool.or_eq_true, Bool.and_eq_true, decide_eq_true_eq] at hv
          refine ⟨_, _, rfl, by omega, by omega, by omega, by omega, by omega, ?_⟩
          intro j hj hj2
          rcases (show j = 0 ∨ j = 1 ∨ j = 2 ∨ j = 3 from by omega) with rfl | rfl | rfl | rfl
          · exact h
          · exact c1
          · exact c2
          · exact c3
        · exact herr
      · exact herr

def turned (W : World) (N : Nat) (s : ByteArray) (p : Nat) : World := { W with heap := W.heap.setIfInBounds N (.stringIter s p) }
theorem next_any (W : World) (N : Nat) (s : ByteArray) (pos : Nat) (ty : TypeId) (hN : W.heap[N]? = some (.stringIter s pos)) (h : pos < s.size) :
    (Instr.next (.pointer (some ⟨N, 0, none⟩)) true ty).run Tryz.prog W =
      .ok (.tuple #[.bool true, .int .i64 pos, .int .i32 (Utf8.decode s pos).1]) (turned W N s (pos + (Utf8.decode s pos).2)) := by
  simp [Instr.next, getObj, setObj, h, goInt, Sem.run, hN, turned]
theorem next_end (W : World) (N : Nat) (s : ByteArray) (pos : Nat) (ty : TypeId) (hN : W.heap[N]? = some (.stringIter s pos)) (h : ¬ pos < s.size) :
    (Instr.next (.pointer (some ⟨N, 0, none⟩)) true ty).run Tryz.prog W = .ok (.tuple #[.bool false]) W := by
  simp [Instr.next, getObj, Sem.run, hN, h]
theorem turned_at {W : World} {N : Nat} {s : ByteArray} {p q : Nat} (hN : W.heap[N]? = some (.stringIter s q)) : (turned W N s p).heap[N]? = some (.stringIter s p) := by
  have hlt : N < W.heap.size := by
    rcases Nat.lt_or_ge N W.heap.size with h' | h'
    · exact h'
    · simp [Array.getElem?_eq_none h'] at hN
  simp [turned, hlt]
theorem turned_below {B : Nat} {w W : World} (N : Nat) (s : ByteArray) (p : Nat) (h : Below B w W) (hN : B ≤ N) : Below B w (turned W N s p) :=
  ⟨h.os, h.tape, h.output, by have := h.size; simpa [turned] using this, fun k hk => by
    have : N ≠ k := by omega
    simp [turned, this]
    exact h.block k hk⟩
theorem turned_size (W : World) (N : Nat) (s : ByteArray) (p : Nat) : (turned W N s p).heap.size = W.heap.size := by simp [turned]

theorem enc_shape (r : Nat) (h : 128 ≤ r) (h2 : r ≤ 1114111) (h3 : r < 55296 ∨ 57344 ≤ r) :
    (∃ a b : UInt8, Utf8.encode r = ⟨#[a, b]⟩ ∧ 128 ≤ b.toNat) ∨ (∃ a b c : UInt8, Utf8.encode r = ⟨#[a, b, c]⟩ ∧ 128 ≤ c.toNat) ∨ (∃ a b c d : UInt8, Utf8.encode r = ⟨#[a, b, c, d]⟩ ∧ 128 ≤ d.toNat) := by
  have hv : Utf8.valid (r : Int) = true := by
    unfold Utf8.valid
    simp only [Bool.or_eq_true, Bool.and_eq_true, decide_eq_true_eq]
    omega
  unfold Utf8.encode
  simp only [hv, if_true, Int.toNat_natCast]
  rw [if_neg (by omega)]
  split
  · refine Or.inl ⟨_, _, rfl, ?_⟩
    rw [UInt8.toNat_ofNat']; omega
  · split
    · refine Or.inr (Or.inl ⟨_, _, _, rfl, ?_⟩)
      rw [UInt8.toNat_ofNat']; omega
    · refine Or.inr (Or.inr ⟨_, _, _, _, rfl, ?_⟩)
      rw [UInt8.toNat_ofNat']; omega
set_option maxRecDepth 1000000 in
set_option maxHeartbeats 1000000 in
theorem rune_err (w : World) :
    Calls Tryz.prog 62 #[.string ⟨#[9, 10, 13, 32, 34, 39]⟩, .int .i32 65533] w fun e w' => e = .returned (.int .i64 (-1)) ∧ Below w.heap.size w w' := by
  have n0 := fun ty => run_next_ascii (P := Tryz.prog) w ⟨#[9, 10, 13, 32, 34, 39]⟩ 0 ty (by decide) (by decide)
  have n1 := fun ty => run_next_ascii (P := Tryz.prog) w ⟨#[9, 10, 13, 32, 34, 39]⟩ 1 ty (by decide) (by decide)
  have n2 := fun ty => run_next_ascii (P := Tryz.prog) w ⟨#[9, 10, 13, 32, 34, 39]⟩ 2 ty (by decide) (by decide)
  have n3 := fun ty => run_next_ascii (P := Tryz.prog) w ⟨#[9, 10, 13, 32, 34, 39]⟩ 3 ty (by decide) (by decide)
  have n4 := fun ty => run_next_ascii (P := Tryz.prog) w ⟨#[9, 10, 13, 32, 34, 39]⟩ 4 ty (by decide) (by decide)
  have n5 := fun ty => run_next_ascii (P := Tryz.prog) w ⟨#[9, 10, 13, 32, 34, 39]⟩ 5 ty (by decide) (by decide)
  have n6 := fun ty => run_next_end (P := Tryz.prog) w ⟨#[9, 10, 13, 32, 34, 39]⟩ 6 ty (by decide)
  go_enter Tryz.func62, Tryz.ntmps62
  go_wp2_with fail
  go_loopg [5, 6] 6 (fun g _ _ wx => ∃ i : Nat, i + g = 6 ∧ wx = w.iter ⟨#[9, 10, 13, 32, 34, 39]⟩ i)
  case atStart => exact ⟨0, by omega, rfl⟩
  case round =>
    obtain ⟨i, hig, rfl⟩ := hrel
    rcases (show i = 0 ∨ i = 1 ∨ i = 2 ∨ i = 3 ∨ i = 4 ∨ i = 5 ∨ i = 6 from by omega) with rfl | rfl | rfl | rfl | rfl | rfl | rfl
    · obtain rfl : gk = 6 := by omega
      go_wp2_with fail
      go_roundg 5
      case measure => omega
      case rel => exact ⟨1, by omega, rfl⟩
    · obtain rfl : gk = 5 := by omega
      go_wp2_with fail
      go_roundg 4
      case measure => omega
      case rel => exact ⟨2, by omega, rfl⟩
    · obtain rfl : gk = 4 := by omega
      go_wp2_with fail
      go_roundg 3
      case measure => omega
      case rel => exact ⟨3, by omega, rfl⟩
    · obtain rfl : gk = 3 := by omega
      go_wp2_with fail
      go_roundg 2
      case measure => omega
      case rel => exact ⟨4, by omega, rfl⟩
    · obtain rfl : gk = 2 := by omega
      go_wp2_with fail
      go_roundg 1
      case measure => omega
      case rel => exact ⟨5, by omega, rfl⟩
    · obtain rfl : gk = 1 := by omega
      go_wp2_with fail
      go_roundg 0
      case measure => omega
      case rel => exact ⟨6, by omega, rfl⟩
    · go_wp2_with fail
      go_ret
      exact ⟨rfl, (Below.refl _ w).alloc (Nat.le_refl _) _⟩
theorem below_drewN (w : World) (n : Nat) : Below w.heap.size w (w.drewN n) := ⟨rfl, rfl, rfl, Nat.le_refl _, fun _ _ => rfl⟩
theorem byte_none (l : List UInt8) (c : UInt8) (h : c ∉ l) : Lib.indexByte l c = -1 := by
  induction l with
  | nil => rfl
  | cons b l ih =>
    unfold Lib.indexByte
    have h1 : (b == c) = false := by rw [beq_eq_false_iff_ne]; rintro rfl; exact h (List.mem_cons_self ..)
    rw [h1, ih (fun q => h (List.mem_cons_of_mem _ q))]
    rfl
theorem rest_none (l : List UInt8) (c : UInt8) (h : c ∉ l) (w : World) : Calls Tryz.prog 72 #[.string ⟨l.toArray⟩, .int .u8 (c.toNat : Int)] w fun e w' => e = .returned (.int .i64 (-1)) ∧ w' = w := by
  have := Tryz.strings_IndexByte ⟨l.toArray⟩ (c.toNat : Int) w
  rw [show ((c.toNat : Int).toNat.toUInt8) = c from by simp] at this
  rw [show Lib.indexByte (⟨l.toArray⟩ : ByteArray).data.toList c = -1 from byte_none l c h] at this
  exact this
theorem high_not (c : UInt8) (h : 128 ≤ c.toNat) : c ∉ ([9, 10, 13, 32, 34, 39] : List UInt8) := by
  intro hc
  simp only [List.mem_cons, List.not_mem_nil, or_false] at hc
  rcases hc with rfl | rfl | rfl | rfl | rfl | rfl <;> exact absurd h (by decide)
theorem slice_1 (w : World) : (Instr.slice 9 (.string ⟨#[9, 10, 13, 32, 34, 39]⟩) (some (.int .i64 2)) none none).run Tryz.prog w = .ok (.string ⟨([13, 32, 34, 39] : List UInt8).toArray⟩) w := by
  rw [run_slice_string_from_if (P := Tryz.prog) (w := w) 9 ⟨#[9, 10, 13, 32, 34, 39]⟩ .i64 2 Tryz.underlying9, if_pos (by decide)]
  rfl
set_option maxRecDepth 1000000 in
set_option maxHeartbeats 1000000 in
theorem rune_two (r : Nat) (w : World) (a b : UInt8) (HV : Hid (Lib.validRune (r : Int) = true)) (H128 : ¬ ((r : Int) < 128)) (t1 : ((r : Int) == 65533) = false)
    (HS : Utf8.encode r = ⟨#[a, b]⟩) (hb : 128 ≤ b.toNat) :
    Calls Tryz.prog 62 #[.string ⟨#[9, 10, 13, 32, 34, 39]⟩, .int .i32 r] w fun e w' => e = .returned (.int .i64 (-1)) ∧ Below w.heap.size w w' := by
  have hsl := slice_1
  have hne : ((((⟨#[9, 10, 13, 32, 34, 39]⟩ : ByteArray)[1]'(by decide)).toNat : Int) != (((⟨#[a, b]⟩ : ByteArray)[1]'(Nat.lt_succ_self 1)).toNat : Int)) = true := by
    have e1 : ((⟨#[9, 10, 13, 32, 34, 39]⟩ : ByteArray)[1]'(by decide)).toNat = 10 := rfl
    have e2 : (⟨#[a, b]⟩ : ByteArray)[1]'(Nat.lt_succ_self 1) = b := rfl
    rw [e1, e2]
    unfold bne
    rw [show ((10 : Nat) : Int) = 10 from rfl, show ((10 : Int) == (b.toNat : Int)) = false from by rw [beq_eq_false_iff_ne]; omega]
    rfl
  have HI := hid_of (fun w => rest_none [13, 32, 34, 39] b (fun q => high_not b hb (List.mem_of_mem_drop (i := 2) q)) w)
  have hw2 : IntKind.i64.wrap 2 = 2 := by decide
  go_enter Tryz.func62, Tryz.ntmps62
  go_wp2_with (go_at_call 73; refine (Tryz.utf8_ValidRune _ _).mono ?_; rintro e w1 ⟨rfl, rfl⟩; rw [HV.out])
  go_step3
  go_wp2_with fail
  go_loopg [9] 0 (fun g s9 wx => s9 = .int .i64 1 ∧ wx = w1)
  case atStart => exact ⟨rfl, rfl⟩
  case round =>
    obtain ⟨rfl, rfl⟩ := hrel
    go_wp2_with fail
    go_step3
    go_wp2_with fail
    go_region
    go_wp2_with fail
    go_quiet (first | exact (HI.out _).mono fun _ _ h => ⟨h.1, _, h.2⟩)
    go_wp2_with fail
    repeat rw [Exit.noGoto_ret]
    go_wp2_with fail
    repeat rw [Exit.noGoto_ret]
    go_wp2_with fail
    go_ret
    exact ⟨rfl, below_drewN _ _⟩
theorem slice_2 (w : World) : (Instr.slice 9 (.string ⟨#[9, 10, 13, 32, 34, 39]⟩) (some (.int .i64 3)) none none).run Tryz.prog w = .ok (.string ⟨([32, 34, 39] : List UInt8).toArray⟩) w := by
  rw [run_slice_string_from_if (P := Tryz.prog) (w := w) 9 ⟨#[9, 10, 13, 32, 34, 39]⟩ .i64 3 Tryz.underlying9, if_pos (by decide)]
  rfl
set_option maxRecDepth 1000000 in
set_option maxHeartbeats 1000000 in
theorem rune_three (r : Nat) (w : World) (a b c : UInt8) (HV : Hid (Lib.validRune (r : Int) = true)) (H128 : ¬ ((r : Int) < 128)) (t1 : ((r : Int) == 65533) = false)
    (HS : Utf8.encode r = ⟨#[a, b, c]⟩) (hb : 128 ≤ c.toNat) :
    Calls Tryz.prog 62 #[.string ⟨#[9, 10, 13, 32, 34, 39]⟩, .int .i32 r] w fun e w' => e = .returned (.int .i64 (-1)) ∧ Below w.heap.size w w' := by
  have hsl := slice_2
  have hne : ((((⟨#[9, 10, 13, 32, 34, 39]⟩ : ByteArray)[2]'(by decide)).toNat : Int) != (((⟨#[a, b, c]⟩ : ByteArray)[2]'(Nat.lt_succ_self 2)).toNat : Int)) = true := by
    have e1 : ((⟨#[9, 10, 13, 32, 34, 39]⟩ : ByteArray)[2]'(by decide)).toNat = 13 := rfl
    have e2 : (⟨#[a, b, c]⟩ : ByteArray)[2]'(Nat.lt_succ_self 2) = c := rfl
    rw [e1, e2]
    unfold bne
    rw [show ((13 : Nat) : Int) = 13 from rfl, show ((13 : Int) == (c.toNat : Int)) = false from by rw [beq_eq_false_iff_ne]; omega]
    rfl
  have HI := hid_of (fun w => rest_none [32, 34, 39] c (fun q => high_not c hb (List.mem_of_mem_drop (i := 3) q)) w)
  have hw2 : IntKind.i64.wrap 3 = 3 := by decide
  go_enter Tryz.func62, Tryz.ntmps62
  go_wp2_with (go_at_call 73; refine (Tryz.utf8_ValidRune _ _).mono ?_; rintro e w1 ⟨rfl, rfl⟩; rw [HV.out])
  go_step3
  go_wp2_with fail
  go_loopg [9] 0 (fun g s9 wx => s9 = .int .i64 2 ∧ wx = w1)
  case atStart => exact ⟨rfl, rfl⟩
  case round =>
    obtain ⟨rfl, rfl⟩ := hrel
    go_wp2_with fail
    go_step3
    go_wp2_with fail
    go_region
    go_wp2_with fail
    go_quiet (first | exact (HI.out _).mono fun _ _ h => ⟨h.1, _, h.2⟩)
    go_wp2_with fail
    repeat rw [Exit.noGoto_ret]
    go_wp2_with fail
    repeat rw [Exit.noGoto_ret]
    go_wp2_with fail
    go_ret
    exact ⟨rfl, below_drewN _ _⟩
theorem slice_3 (w : World) : (Instr.slice 9 (.string ⟨#[9, 10, 13, 32, 34, 39]⟩) (some (.int .i64 4)) none none).run Tryz.prog w = .ok (.string ⟨([34, 39] : List UInt8).toArray⟩) w := by
  rw [run_slice_string_from_if (P := Tryz.prog) (w := w) 9 ⟨#[9, 10, 13, 32, 34, 39]⟩ .i64 4 Tryz.underlying9, if_pos (by decide)]
  rfl
set_option maxRecDepth 1000000 in
set_option maxHeartbeats 1000000 in
theorem rune_four (r : Nat) (w : World) (a b c d : UInt8) (HV : Hid (Lib.validRune (r : Int) = true)) (H128 : ¬ ((r : Int) < 128)) (t1 : ((r : Int) == 65533) = false)
    (HS : Utf8.encode r = ⟨#[a, b, c, d]⟩) (hb : 128 ≤ d.toNat) :
    Calls Tryz.prog 62 #[.string ⟨#[9, 10, 13, 32, 34, 39]⟩, .int .i32 r] w fun e w' => e = .returned (.int .i64 (-1)) ∧ Below w.heap.size w w' := by
  have hsl := slice_3
  have hne : ((((⟨#[9, 10, 13, 32, 34, 39]⟩ : ByteArray)[3]'(by decide)).toNat : Int) != (((⟨#[a, b, c, d]⟩ : ByteArray)[3]'(Nat.lt_succ_self 3)).toNat : Int)) = true := by
    have e1 : ((⟨#[9, 10, 13, 32, 34, 39]⟩ : ByteArray)[3]'(by decide)).toNat = 32 := rfl
    have e2 : (⟨#[a, b, c, d]⟩ : ByteArray)[3]'(Nat.lt_succ_self 3) = d := rfl
    rw [e1, e2]
    unfold bne
    rw [show ((32 : Nat) : Int) = 32 from rfl, show ((32 : Int) == (d.toNat : Int)) = false from by rw [beq_eq_false_iff_ne]; omega]
    rfl
  have HI := hid_of (fun w => rest_none [34, 39] d (fun q => high_not d hb (List.mem_of_mem_drop (i := 4) q)) w)
  have hw2 : IntKind.i64.wrap 4 = 4 := by decide
  go_enter Tryz.func62, Tryz.ntmps62
  go_wp2_with (go_at_call 73; refine (Tryz.utf8_ValidRune _ _).mono ?_; rintro e w1 ⟨rfl, rfl⟩; rw [HV.out])
  go_step3
  go_wp2_with fail
  go_loopg [9] 0 (fun g s9 wx => s9 = .int .i64 3 ∧ wx = w1)
  case atStart => exact ⟨rfl, rfl⟩
  case round =>
    obtain ⟨rfl, rfl⟩ := hrel
    go_wp2_with fail
    go_step3
    go_wp2_with fail
    go_region
    go_wp2_with fail
    go_quiet (first | exact (HI.out _).mono fun _ _ h => ⟨h.1, _, h.2⟩)
    go_wp2_with fail
    repeat rw [Exit.noGoto_ret]
    go_wp2_with fail
    repeat rw [Exit.noGoto_ret]
    go_wp2_with fail
    go_ret
    exact ⟨rfl, below_drewN _ _⟩
theorem rune_none (r : Nat) (w : World) (h : 128 ≤ r) (h2 : r ≤ 1114111) (h3 : r < 55296 ∨ 57344 ≤ r) :
    Calls Tryz.prog 62 #[.string ⟨#[9, 10, 13, 32, 34, 39]⟩, .int .i32 r] w fun e w' => e = .returned (.int .i64 (-1)) ∧ Below w.heap.size w w' := by
  have HV : Hid (Lib.validRune (r : Int) = true) := by show _ = _; unfold Lib.validRune; simp; omega
  have H128 : ¬ ((r : Int) < 128) := by omega
  by_cases he : r = 65533
  · subst he
    exact rune_err w
  · have t1 : ((r : Int) == 65533) = false := by rw [beq_eq_false_iff_ne]; omega
    rcases enc_shape r h h2 h3 with ⟨a, b, e, hb⟩ | ⟨a, b, c, e, hb⟩ | ⟨a, b, c, d, e, hb⟩
    · exact rune_two r w a b HV H128 t1 e hb
    · exact rune_three r w a b c HV H128 t1 e hb
    · exact rune_four r w a b c d HV H128 t1 e hb

def crlf : ByteArray := ⟨#[9, 10, 13, 32, 34, 39]⟩
theorem high_no (c : UInt8) (h : 128 ≤ c.toNat) : ([9, 10, 13, 32, 34, 39] : List UInt8).contains c = false := by
  rw [← Bool.not_eq_true]
  intro hc
  exact high_not c h (List.contains_iff_mem.1 hc)
theorem no_more {s : ByteArray} {i m : Nat} (h : Lib.NoAny s.data.toList [9, 10, 13, 32, 34, 39] i) (hh : ∀ j, j < m → ∀ (hj : i + j < s.size), 128 ≤ (s[i + j]'hj).toNat) : Lib.NoAny s.data.toList [9, 10, 13, 32, 34, 39] (i + m) := by
  intro j b hj hb
  by_cases hji : j < i
  · exact h j b hji hb
  · have hlt : j < s.size := by
      have := (List.getElem?_eq_some_iff.1 hb).1
      rwa [Array.length_toList] at this
    have h1 := hh (j - i) (by omega) (by omega)
    have e : s[i + (j - i)]'(by omega) = b := by
      have e2 : i + (j - i) = j := by omega
      have := Lib.data_getElem? s j hlt
      rw [hb] at this
      simp only [e2]
      exact (Option.some.inj this).symm
    rw [e] at h1
    exact high_no b h1
set_option maxHeartbeats 4000000 in
set_option maxRecDepth 1000000 in
theorem any_short (s : ByteArray) (w : World) (h8 : s.size ≤ 8) :
    Calls Tryz.prog 48 #[.string s, .string ⟨#[9, 10, 13, 32, 34, 39]⟩] w fun e w' => e = .returned (.int .i64 (Lib.indexAny s.data.toList [9, 10, 13, 32, 34, 39])) ∧ Below w.heap.size w w' := by
  have h8z : decide ((8 : Int) < (s.size : Int)) = false := decide_eq_false (by omega)
  go_enter Tryz.func48, Tryz.ntmps48
  go_wp2_with (go_at_call 63; refine (Tryz.strings_shouldUseASCIISet _ _).mono ?_; rintro e w' ⟨rfl, hw⟩; rw [hw, h8z])
  go_loopg [9, 10] s.size (fun g _ _ wx => ∃ i : Nat, i ≤ s.size ∧ s.size ≤ i + g ∧ Hid (wx.heap[w.heap.size]? = some (.stringIter s i) ∧ Below w.heap.size w wx ∧ Lib.NoAny s.data.toList [9, 10, 13, 32, 34, 39] i))
  case atStart => exact ⟨0, by omega, by omega, World.iter_heap w s 0, (Below.refl _ w).alloc (Nat.le_refl _) _, Lib.NoAny.zero _ _⟩
  case round =>
    obtain ⟨i, hi, hg, HH⟩ := hrel
    by_cases hlt : i < s.size
    · have hnx := fun ty => next_any wr w.heap.size s i ty HH.out.1 hlt
      obtain ⟨g', rfl⟩ : ∃ g', gk = g' + 1 := ⟨gk - 1, by omega⟩
      have Hx := hid_of (Lib.data_getElem? s i hlt)
      by_cases hx : (s[i]'hlt).toNat < 128
      · rw [decode_ascii s i hlt hx] at hnx
        have H1 := hid_of (turned_at (p := i + 1) HH.out.1)
        have H2 := hid_of (turned_below w.heap.size s (i + 1) HH.out.2.1 (Nat.le_refl _))
        have HI := hid_of (Tryz.strings_IndexRune_ascii ⟨#[9, 10, 13, 32, 34, 39]⟩ (s[i]'hlt).toNat (turned wr w.heap.size s (i + 1)) (by omega) (by omega))
        have hback : ((s[i]'hlt).toNat : Int).toNat.toUInt8 = s[i]'hlt := by simp
        rw [hback] at HI
        have hcon := Lib.contains_iff_indexByte [9, 10, 13, 32, 34, 39] (s[i]'hlt)
        generalize turned wr w.heap.size s (i + 1) = wt at hnx H1 H2 HI
        cases hin : ([9, 10, 13, 32, 34, 39] : List UInt8).contains (s[i]'hlt)
        · rw [hin] at hcon
          have hlt2 : ¬ ((0 : Int) ≤ Lib.indexByte [9, 10, 13, 32, 34, 39] (s[i]'hlt)) := of_decide_eq_false hcon.symm
          have HN := hid_of (HH.out.2.2.succ Hx.out hin)
          clear hcon hback hin HH
          go_wp2_with (go_at_call 62; refine HI.out.mono ?_; rintro e w1 ⟨rfl, rfl⟩)
          go_roundg g'
          case measure => omega
          case rel => exact ⟨i + 1, hlt, by omega, H1.out, H2.out, HN.out⟩
        · rw [hin] at hcon
          have hge : (0 : Int) ≤ Lib.indexByte [9, 10, 13, 32, 34, 39] (s[i]'hlt) := of_decide_eq_true hcon.symm
          have HR := hid_of (Lib.indexAny_hit HH.out.2.2 Hx.out hin)
          clear hcon hback hin HH
          go_wp2_with (go_at_call 62; refine HI.out.mono ?_; rintro e w1 ⟨rfl, rfl⟩)
          go_ret
          exact ⟨by rw [HR.out]; rfl, H2.out⟩
      · obtain ⟨r, m, hd, r1, r2, r3, hm, hms, hh⟩ := dec_high s i hlt (by omega)
        rw [hd] at hnx
        have H1 := hid_of (turned_at (p := i + m) HH.out.1)
        have H2 := hid_of (turned_below w.heap.size s (i + m) HH.out.2.1 (Nat.le_refl _))
        have HN := hid_of (no_more HH.out.2.2 hh)
        have HI := hid_of (rune_none r (turned wr w.heap.size s (i + m)) r1 r2 r3)
        have Hm := hid_of hms
        have Hs : Hid (w.heap.size < (turned wr w.heap.size s (i + m)).heap.size) := by
          rcases Nat.lt_or_ge w.heap.size (turned wr w.heap.size s (i + m)).heap.size with h' | h'
          · exact h'
          · have := H1.out
            simp [Array.getElem?_eq_none h'] at this
        generalize turned wr w.heap.size s (i + m) = wt at hnx H1 H2 HI Hs
        clear hd r1 r2 r3 hh HH hx hms
        go_wp2_with (go_at_call 62; refine HI.out.mono ?_; rintro e w1 ⟨rfl, b1⟩)
        go_roundg g'
        case measure => omega
        case rel => exact ⟨i + m, Hm.out, by omega, (b1.block _ Hs.out).trans H1.out, H2.out.trans (b1.mono (Nat.le_of_lt Hs.out)), HN.out⟩
    · have hnx := fun ty => next_end wr w.heap.size s i ty HH.out.1 hlt
      have HR : Hid (Lib.indexAny s.data.toList [9, 10, 13, 32, 34, 39] = -1) := by
        show _ = _
        obtain rfl : i = s.size := by omega
        exact Lib.indexAny_none (by rw [← Lib.size_eq]; exact HH.out.2.2)
      have H2 := hid_of HH.out.2.1
      clear HH
      go_wp2_with fail
      go_ret
      exact ⟨by rw [HR.out]; rfl, H2.out⟩
set_option maxRecDepth 1000000 in
theorem zero83 (w : World) : (zeroValue 83).run Tryz.prog w = .ok (.agg (Array.replicate 256 (.bool false))) w := by kernel_rfl
theorem any_any (s : ByteArray) (w : World) (hs : s.size < 4294967281) :
    Calls Tryz.prog 48 #[.string s, .string ⟨#[9, 10, 13, 32, 34, 39]⟩] w fun e w' => e = .returned (.int .i64 (Lib.indexAny s.data.toList [9, 10, 13, 32, 34, 39])) ∧ Below w.heap.size w w' := by
  by_cases h8 : s.size ≤ 8
  · exact any_short s w h8
  · refine (Tryz.strings_IndexAny_long zero83 s ⟨#[9, 10, 13, 32, 34, 39]⟩ w (by decide) (by omega) hs (by decide) ?_).mono ?_
    · intro j b hb
      have hm := List.mem_of_getElem? hb
      have hm' : b ∈ ([9, 10, 13, 32, 34, 39] : List UInt8) := hm
      simp only [List.mem_cons, List.not_mem_nil, or_false] at hm'
      rcases hm' with rfl | rfl | rfl | rfl | rfl | rfl <;> decide
    · rintro e w' ⟨rfl, rfl⟩
      exact ⟨rfl, ((Below.refl _ w).alloc (Nat.le_refl _) _).alloc (by simp) _⟩
end Go.Proofs.YtfkilbhhpipjbaaGreatDoor.Find
