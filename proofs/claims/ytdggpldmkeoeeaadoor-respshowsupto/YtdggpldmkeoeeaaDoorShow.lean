/- Show: bytes of a bulk, quoted. -/
import Derived.Test.YtdggpldmkeoeeaaDoorBuilder
import Derived.Test.YtdggpldmkeoeeaaDoorCut
import Derived.Test.YtdggpldmkeoeeaaDoorPrint
import Derived.Deep.LoopGhost
namespace Go.Proofs.YtdggpldmkeoeeaaDoor.Show
open Go.RowKit
open Go.Proofs.YtdggpldmkeoeeaaDoor.TextMath
open Go.Proofs.YtdggpldmkeoeeaaDoor.RepMath
open Go.Proofs.YtdggpldmkeoeeaaDoor.Cut
open Go.Proofs.YtdggpldmkeoeeaaDoor.Builder
set_option linter.unusedVariables false

def IsB (B b : Nat) (l : List UInt8) (w : World) : Prop := Lib.IsBuilder 59 5 B b (Lib.byteCells l) w ∧ B ≤ w.heap.size
theorem cells_put (l : List UInt8) (c : UInt8) : Lib.byteCells l ++ [Value.int .u8 c.toNat] = Lib.byteCells (l ++ [c]) := by rw [Lib.byteCells_append]; rfl
theorem cells_str (l : List UInt8) (s : ByteArray) : Lib.byteCells l ++ Lib.strCells s = Lib.byteCells (l ++ bs s) := by rw [Lib.byteCells_append]; rfl
theorem byte_any (B b : Nat) (l : List UInt8) (c : UInt8) (w : World) (h : IsB B b l w) (hl : l.length ≤ 100000000) :
    Calls Tryd.prog 47 #[.pointer (some ⟨b, 0, none⟩), .int .u8 c.toNat] w fun e w' => e = .returned .nilIface ∧ IsB B b (l ++ [c]) w' ∧ Kp B b w w' := by
  refine (put_byte B b _ (c.toNat : Int) w h.1 (by rw [Lib.byteCells_length]; omega) h.2).mono ?_
  rintro e w' ⟨rfl, h1, h2⟩
  refine ⟨rfl, ⟨?_, Nat.le_trans h.2 h2.size⟩, h2⟩
  rw [← cells_put]
  exact Or.inr h1
theorem str_any (B b : Nat) (l : List UInt8) (s : ByteArray) (w : World) (h : IsB B b l w) (hl : l.length ≤ 100000000) (hs : s.size ≤ 100000000) :
    Calls Tryd.prog 37 #[.pointer (some ⟨b, 0, none⟩), .string s] w fun e w' => e = .returned (.tuple #[.int .i64 s.size, .nilIface]) ∧ IsB B b (l ++ bs s) w' ∧ Kp B b w w' := by
  refine (put_string B b _ s w h.1 (by rw [Lib.byteCells_length]; omega) h.2).mono ?_
  rintro e w' ⟨rfl, h1, h2⟩
  refine ⟨rfl, ⟨?_, Nat.le_trans h.2 h2.size⟩, h2⟩
  rw [← cells_str]
  exact Or.inr h1

set_option maxRecDepth 100000 in
theorem and_15 : ∀ n : Nat, n < 256 → bits .and .u8 (n : Int) 15 = ((n % 16 : Nat) : Int) := by decide +kernel
theorem ap_len (l : List UInt8) (s : ByteArray) (N : Nat) (h : l.length + s.size ≤ N) : (l ++ bs s).length ≤ N := by rw [List.length_append, len_bs]; exact h
theorem ap_one (l : List UInt8) (c : UInt8) (N : Nat) (h : l.length + 1 ≤ N) : (l ++ [c]).length ≤ N := by rw [List.length_append]; exact h
def HEX : ByteArray := ⟨#[48, 49, 50, 51, 52, 53, 54, 55, 56, 57, 97, 98, 99, 100, 101, 102]⟩
theorem hex_all : ∀ n, n < 16 → HEX[n]? = some (hexd n) := by decide
theorem hex_at (x : Int) (n : Nat) (hx : x = (n : Int)) (hn : n < 16) (w : World) : (Instr.index 9 (.string ⟨#[48, 49, 50, 51, 52, 53, 54, 55, 56, 57, 97, 98, 99, 100, 101, 102]⟩) (.int .u8 x)).run Tryd.prog w = .ok (.int .u8 (hexd n).toNat) w := by
  subst hx
  have hs : HEX.size = 16 := rfl
  show (Instr.index 9 (.string HEX) (.int .u8 (n : Int))).run Tryd.prog w = _
  rw [run_index_string w 9 HEX .u8 (n : Int) Tryd.underlying9, dif_pos ⟨by omega, by omega⟩]
  have h := hex_all n hn
  rw [getElem?_pos HEX n (by omega)] at h
  have h2 : HEX[n]'(by omega) = hexd n := Option.some.inj h
  simp only [Int.toNat_natCast, h2]
set_option maxRecDepth 100000 in
set_option maxHeartbeats 4000000 in
theorem byte_hex (B b : Nat) (l : List UInt8) (c : UInt8) (w : World) (h : IsB B b l w) (hl : l.length ≤ 90000000)
   (t1 : ((c.toNat : Int) == 34) = false) (t2 : ((c.toNat : Int) == 92) = false) (t3 : ((c.toNat : Int) == 10) = false) (t4 : ((c.toNat : Int) == 13) = false) (t5 : ((c.toNat : Int) == 9) = false)
   (t6 : decide ((c.toNat : Int) < 32) = true ∨ (decide ((c.toNat : Int) < 32) = false ∧ decide (126 < (c.toNat : Int)) = true)) (HQ : Hid (q1 c = [92, 120, hexd (c.toNat / 16), hexd (c.toNat % 16)])) :
    Calls Tryd.prog 58 #[.pointer (some ⟨b, 0, none⟩), .int .u8 c.toNat] w fun e w' => e = .returned (.tuple #[]) ∧ IsB B b (l ++ q1 c) w' ∧ Kp B b w w' := by
  have H := hid_of h
  have hx1 := hex_at ((c.toNat : Int) / 16) (c.toNat / 16) (by omega) (by have := UInt8.toNat_lt c; omega)
  have hx2 := hex_at (bits .and .u8 (c.toNat : Int) 15) (c.toNat % 16) (and_15 _ (UInt8.toNat_lt c)) (by omega)
  clear h
  rcases t6 with t6 | ⟨t6, t7⟩
  all_goals
    go_enter Tryd.func58, Tryd.ntmps58
    go_wp2_with fail
    refine (str_any B b _ _ _ H.out (by omega) (by decide)).mono ?_
    rintro e w1 ⟨rfl, h1, b1⟩
    have H1 := hid_of h1
    have B1 := hid_of b1
    clear h1 b1
    go_wp2_with fail
    refine (byte_any B b _ _ _ H1.out (ap_len _ _ _ (by show l.length + 2 ≤ _; omega))).mono ?_
    rintro e w2 ⟨rfl, h2, b2⟩
    have H2 := hid_of h2
    have B2 := hid_of (B1.out.trans b2)
    clear h2 b2 H1 B1
    go_wp2_with fail
    refine (byte_any B b _ _ _ H2.out (ap_one _ _ _ (Nat.succ_le_succ (ap_len l ⟨#[92, 120]⟩ 99999999 (by show l.length + 2 ≤ _; omega))))).mono ?_
    rintro e w3 ⟨rfl, h3, b3⟩
    go_wp2_with fail
    go_end0
    refine ⟨rfl, ?_, B2.out.trans b3⟩
    rw [HQ.out]
    have e : l ++ [92, 120, hexd (c.toNat / 16), hexd (c.toNat % 16)] = l ++ bs ⟨#[92, 120]⟩ ++ [hexd (c.toNat / 16)] ++ [hexd (c.toNat % 16)] := by rw [List.append_assoc, List.append_assoc]; rfl
    rw [e]
    exact h3
theorem q_esc {c : UInt8} (h : c.toNat = 34 ∨ c.toNat = 92) : q1 c = [92, c] := by unfold q1; rw [if_pos h]
theorem q_nl {c : UInt8} (h : c.toNat = 10) : q1 c = [92, 110] := by unfold q1; rw [if_neg (by omega), if_pos h]
theorem q_cr {c : UInt8} (h : c.toNat = 13) : q1 c = [92, 114] := by unfold q1; rw [if_neg (by omega), if_neg (by omega), if_pos h]
theorem q_tab {c : UInt8} (h : c.toNat = 9) : q1 c = [92, 116] := by unfold q1; rw [if_neg (by omega), if_neg (by omega), if_neg (by omega), if_pos h]
theorem q_hex {c : UInt8} (h1 : ¬ (c.toNat = 34 ∨ c.toNat = 92)) (h2 : c.toNat ≠ 10) (h3 : c.toNat ≠ 13) (h4 : c.toNat ≠ 9) (h : c.toNat < 32 ∨ 126 < c.toNat) : q1 c = [92, 120, hexd (c.toNat / 16), hexd (c.toNat % 16)] := by
  unfold q1; rw [if_neg h1, if_neg h2, if_neg h3, if_neg h4, if_pos h]
theorem q_self {c : UInt8} (h1 : ¬ (c.toNat = 34 ∨ c.toNat = 92)) (h2 : c.toNat ≠ 10) (h3 : c.toNat ≠ 13) (h4 : c.toNat ≠ 9) (h : ¬ (c.toNat < 32 ∨ 126 < c.toNat)) : q1 c = [c] := by
  unfold q1; rw [if_neg h1, if_neg h2, if_neg h3, if_neg h4, if_neg h]
set_option maxRecDepth 100000 in
set_option maxHeartbeats 4000000 in
theorem byte_esc (B b : Nat) (l : List UInt8) (c : UInt8) (w : World) (h : IsB B b l w) (hl : l.length ≤ 90000000) (t : ((c.toNat : Int) == 34) = true ∨ (((c.toNat : Int) == 34) = false ∧ ((c.toNat : Int) == 92) = true)) (HQ : Hid (q1 c = [92, c])) :
    Calls Tryd.prog 58 #[.pointer (some ⟨b, 0, none⟩), .int .u8 c.toNat] w fun e w' => e = .returned (.tuple #[]) ∧ IsB B b (l ++ q1 c) w' ∧ Kp B b w w' := by
  have H := hid_of h
  clear h
  rcases t with t1 | ⟨t1, t2⟩
  all_goals
    go_enter Tryd.func58, Tryd.ntmps58
    go_wp2_with fail
    refine (byte_any B b _ 92 _ H.out (by omega)).mono ?_
    rintro e w1 ⟨rfl, h1, b1⟩
    have H1 := hid_of h1
    have B1 := hid_of b1
    clear h1 b1
    go_wp2_with fail
    refine (byte_any B b _ _ _ H1.out (ap_one _ _ _ (by omega))).mono ?_
    rintro e w2 ⟨rfl, h2, b2⟩
    go_wp2_with fail
    go_end0
    refine ⟨rfl, ?_, B1.out.trans b2⟩
    rw [HQ.out, show l ++ [92, c] = l ++ [92] ++ [c] from by simp]
    exact h2
set_option maxRecDepth 100000 in
set_option maxHeartbeats 4000000 in
theorem byte_sp (B b : Nat) (l : List UInt8) (c : UInt8) (w : World) (h : IsB B b l w) (hl : l.length ≤ 90000000) (k : Nat) (x : UInt8) (hk : (k = 10 ∧ x = 110) ∨ (k = 13 ∧ x = 114) ∨ (k = 9 ∧ x = 116)) (hc : c.toNat = k) (HQ : Hid (q1 c = [92, x])) :
    Calls Tryd.prog 58 #[.pointer (some ⟨b, 0, none⟩), .int .u8 c.toNat] w fun e w' => e = .returned (.tuple #[]) ∧ IsB B b (l ++ q1 c) w' ∧ Kp B b w w' := by
  have H := hid_of h
  clear h
  rw [HQ.out, hc]
  clear HQ hc
  rcases hk with ⟨rfl, rfl⟩ | ⟨rfl, rfl⟩ | ⟨rfl, rfl⟩
  all_goals
    go_enter Tryd.func58, Tryd.ntmps58
    go_wp2_with fail
    refine (str_any B b _ _ _ H.out (by omega) (by decide)).mono ?_
    rintro e w1 ⟨rfl, h1, b1⟩
    go_wp2_with fail
    go_end0
    exact ⟨rfl, h1, b1⟩
set_option maxRecDepth 100000 in
set_option maxHeartbeats 4000000 in
theorem byte_self (B b : Nat) (l : List UInt8) (c : UInt8) (w : World) (h : IsB B b l w) (hl : l.length ≤ 90000000)
   (t1 : ((c.toNat : Int) == 34) = false) (t2 : ((c.toNat : Int) == 92) = false) (t3 : ((c.toNat : Int) == 10) = false) (t4 : ((c.toNat : Int) == 13) = false) (t5 : ((c.toNat : Int) == 9) = false)
   (t6 : decide ((c.toNat : Int) < 32) = false) (t7 : decide (126 < (c.toNat : Int)) = false) (HQ : Hid (q1 c = [c])) :
    Calls Tryd.prog 58 #[.pointer (some ⟨b, 0, none⟩), .int .u8 c.toNat] w fun e w' => e = .returned (.tuple #[]) ∧ IsB B b (l ++ q1 c) w' ∧ Kp B b w w' := by
  have H := hid_of h
  clear h
  rw [HQ.out]
  go_enter Tryd.func58, Tryd.ntmps58
  go_wp2_with fail
  refine (byte_any B b _ _ _ H.out (by omega)).mono ?_
  rintro e w1 ⟨rfl, h1, b1⟩
  go_wp2_with fail
  go_end0
  exact ⟨rfl, h1, b1⟩
theorem byte_one (B b : Nat) (l : List UInt8) (c : UInt8) (w : World) (h : IsB B b l w) (hl : l.length ≤ 90000000) :
    Calls Tryd.prog 58 #[.pointer (some ⟨b, 0, none⟩), .int .u8 c.toNat] w fun e w' => e = .returned (.tuple #[]) ∧ IsB B b (l ++ q1 c) w' ∧ Kp B b w w' := by
  have hne : ∀ k : Nat, c.toNat ≠ k → ((c.toNat : Int) == (k : Int)) = false := fun k hk => by rw [beq_eq_false_iff_ne]; omega
  by_cases h1 : c.toNat = 34 ∨ c.toNat = 92
  · refine byte_esc B b l c w h hl ?_ (q_esc h1)
    rcases h1 with e | e
    · exact Or.inl (by rw [e]; rfl)
    · exact Or.inr ⟨by rw [e]; rfl, by rw [e]; rfl⟩
  · by_cases h2 : c.toNat = 10
    · exact byte_sp B b l c w h hl 10 110 (Or.inl ⟨rfl, rfl⟩) h2 (q_nl h2)
    · by_cases h3 : c.toNat = 13
      · exact byte_sp B b l c w h hl 13 114 (Or.inr (Or.inl ⟨rfl, rfl⟩)) h3 (q_cr h3)
      · by_cases h4 : c.toNat = 9
        · exact byte_sp B b l c w h hl 9 116 (Or.inr (Or.inr ⟨rfl, rfl⟩)) h4 (q_tab h4)
        · by_cases h5 : c.toNat < 32 ∨ 126 < c.toNat
          · refine byte_hex B b l c w h hl (hne 34 (by omega)) (hne 92 (by omega)) (hne 10 h2) (hne 13 h3) (hne 9 h4) ?_ (q_hex h1 h2 h3 h4 h5)
            by_cases h6 : c.toNat < 32
            · exact Or.inl (by simp; omega)
            · exact Or.inr ⟨by simp; omega, by simp; omega⟩
          · exact byte_self B b l c w h hl (hne 34 (by omega)) (hne 92 (by omega)) (hne 10 h2) (hne 13 h3) (hne 9 h4) (by simp; omega) (by simp; omega) (q_self h1 h2 h3 h4 h5)

def shQ (l : List UInt8) : List UInt8 := [34] ++ RepMath.quoted l ++ [34]
theorem q1_len (c : UInt8) : (q1 c).length ≤ 4 := by unfold q1; split <;> (try split) <;> (try split) <;> (try split) <;> (try split) <;> simp
theorem quoted_len : ∀ l : List UInt8, (RepMath.quoted l).length ≤ 4 * l.length
  | [] => Nat.le_refl _
  | c :: l => by
    have := quoted_len l
    have h := q1_len c
    unfold RepMath.quoted at *
    rw [List.flatMap_cons, List.length_append, List.length_cons]
    omega
theorem take_snoc (s : ByteArray) (k : Nat) (h : k < s.size) : (bs s).take (k + 1) = (bs s).take k ++ [s[k]] := by
  have hl : k < (bs s).length := by rw [len_bs]; exact h
  rw [List.take_succ_eq_append_getElem hl]; rfl
set_option maxRecDepth 100000 in
set_option maxHeartbeats 1000000 in
theorem quote_any (B b : Nat) (l : List UInt8) (s : ByteArray) (w : World) (h : IsB B b l w) (hl : l.length ≤ 20000000) (hs : s.size ≤ 1048576) :
    Calls Tryd.prog 45 #[.pointer (some ⟨b, 0, none⟩), .string s] w fun e w' => e = .returned (.tuple #[]) ∧ IsB B b (l ++ shQ (bs s)) w' ∧ Kp B b w w' := by
  have H := hid_of h
  clear h
  go_enter Tryd.func45, Tryd.ntmps45
  go_wp2_with fail
  refine (byte_any B b _ 34 _ H.out (by omega)).mono ?_
  rintro e w1 ⟨rfl, h1, b1⟩
  have H1 := hid_of h1
  have B1 := hid_of b1
  clear h1 b1
  go_wp2_with fail
  go_loopg [9] s.size (fun g s9 wx => ∃ k : Nat, k ≤ s.size ∧ s.size ≤ k + g ∧ s9 = .int .i64 k ∧ Hid (IsB B b (l ++ [34] ++ RepMath.quoted ((bs s).take k)) wx ∧ Kp B b w wx))
  case atStart => exact ⟨0, by omega, by omega, rfl, by rw [List.take_zero]; exact (List.append_nil (l ++ [34])).symm ▸ H1.out, B1.out⟩
  case round =>
    obtain ⟨k, hk, hg, rfl, HH⟩ := hrel
    have HL : Hid ((l ++ [34] ++ RepMath.quoted ((bs s).take k)).length ≤ 30000000) := by
      show _ ≤ _
      have := quoted_len ((bs s).take k)
      rw [List.length_take] at this
      rw [List.length_append, List.length_append]
      have e : ([34] : List UInt8).length = 1 := rfl
      omega
    by_cases hlt : k < s.size
    · obtain ⟨g', rfl⟩ : ∃ g', gk = g' + 1 := ⟨gk - 1, by omega⟩
      have HS := hid_of (take_snoc s k hlt)
      go_wp2_with (go_at_call 58; refine (byte_one B b _ _ _ HH.out.1 (by have := HL.out; omega)).mono ?_; rintro e w2 ⟨rfl, h2, b2⟩)
      go_roundg g'
      case measure => omega
      case rel =>
        refine ⟨k + 1, hlt, by omega, rfl, ?_, HH.out.2.trans b2⟩
        rw [HS.out]
        have e : l ++ [34] ++ RepMath.quoted ((bs s).take k ++ [s[k]]) = l ++ [34] ++ RepMath.quoted ((bs s).take k) ++ q1 s[k] := by
          unfold RepMath.quoted
          rw [List.flatMap_append, List.append_assoc (l ++ [34])]
          simp
        rw [e]
        exact h2
    · go_wp2_with (go_at_call 47; refine (byte_any B b _ 34 _ HH.out.1 (by have := HL.out; omega)).mono ?_; rintro e w2 ⟨rfl, h2, b2⟩)
      go_end0
      refine ⟨rfl, ?_, HH.out.2.trans b2⟩
      rw [List.take_of_length_le (by rw [len_bs]; omega)] at h2
      have e : l ++ shQ (bs s) = l ++ [34] ++ RepMath.quoted (bs s) ++ [34] := by unfold shQ; simp
      rw [e]
      exact h2
end Go.Proofs.YtdggpldmkeoeeaaDoor.Show
