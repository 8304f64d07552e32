/- Write. -/
import Derived.Test.YtfkilbhhpipjbaaGreatDoorBuild
import Derived.Test.YtfkilbhhpipjbaaGreatDoorLists
namespace Go.Proofs.YtfkilbhhpipjbaaGreatDoor.WriteC
open Go.RowKit
open Go.Lib (decDigits itoa)
open Go.Proofs.YtfkilbhhpipjbaaGreatDoor.TextMath
open Go.Proofs.YtfkilbhhpipjbaaGreatDoor.ReqMath
open Go.Proofs.YtfkilbhhpipjbaaGreatDoor.Base
open Go.Proofs.YtfkilbhhpipjbaaGreatDoor.Small
open Go.Proofs.YtfkilbhhpipjbaaGreatDoor.Bulk
open Go.Proofs.YtfkilbhhpipjbaaGreatDoor.Bulk2
open Go.Proofs.YtfkilbhhpipjbaaGreatDoor.Build
open Go.Proofs.YtfkilbhhpipjbaaGreatDoor.Lists
set_option linter.unusedVariables false

theorem ba_below {b : Nat} {l : List UInt8} {v : Value} {w w' : World} (h : BA b l v w) (hb : Below w.heap.size w w') : BA b l v w' := by
  have g : ∀ {b : Nat} {o : Obj}, w.heap[b]? = some o → w'.heap[b]? = some o := fun {b} {o} ho => (hb.block b (lt_of ho)).trans ho
  exact ⟨h.blk.imp g g, owns_below h.own hb, h.nil⟩
theorem ba_lt {b : Nat} {l : List UInt8} {v : Value} {w : World} (h : BA b l v w) : b < w.heap.size := by
  rcases h.blk with x | x
  · exact lt_of x
  · exact lt_of x
theorem has_fbw {b : Nat} {l : List UInt8} {v : Value} {w w' : World} (hh : Has w) (h8 : 8 ≤ b) (h : BA b l v w) (hf : Fr (Fb b v) w w') : Has w' := hh.fr hf (by
  rintro x (hx | hx)
  · omega
  · exact (World.ownsRow.lt h.own x hx).1)
theorem fbw_go {b : Nat} {v v' : Value} {w w1 w2 : World} (h : Fr (Fb b v) w w1) (hw : ∀ g, v'.ownBlock = some g → v.ownBlock = some g ∨ w.heap.size ≤ g) (k : Fr (Fb b v') w1 w2) : Fr (Fb b v) w w2 := h.go k (by
  rintro x (hx | hx)
  · exact Or.inl (Or.inl hx)
  · exact (hw x hx).elim (fun q => Or.inl (Or.inr q)) Or.inr)
def BE (b : Nat) (l : List UInt8) (v : Value) (w w' : World) : Prop := ∃ v', BA b l v' w' ∧ Fr (Fb b v) w w' ∧ (∀ g, v'.ownBlock = some g → v.ownBlock = some g ∨ w.heap.size ≤ g)
theorem be_go {b : Nat} {l l2 : List UInt8} {v v1 : Value} {w w1 w2 : World} (hf : Fr (Fb b v) w w1) (ho : ∀ g, v1.ownBlock = some g → v.ownBlock = some g ∨ w.heap.size ≤ g) (h : BE b l2 v1 w1 w2) : BE b l2 v w w2 := by
  obtain ⟨v2, h1, h2, h3⟩ := h
  refine ⟨v2, h1, fbw_go hf ho h2, fun g hg => ?_⟩
  rcases h3 g hg with q | q
  · exact ho g q
  · exact Or.inr (Nat.le_trans hf.size q)
set_option maxHeartbeats 1000000 in
theorem count_write (b : Nat) (l : List UInt8) (v : Value) (m : ByteArray) (n : Nat) (w : World) (h : BA b l v w) (hh : Has w) (h8 : 8 ≤ b) (hn : n ≤ 1048576) (hl : l.length + m.size + 30 ≤ 1000000000) :
    Calls Tryz.prog 36 #[.pointer (some ⟨b, 0, none⟩), .string m, .int .i64 (n : Int)] w fun e w' => e = .returned (.tuple #[]) ∧ BE b (((l ++ bs m) ++ decDigits n) ++ [13, 10]) v w w' := by
  have H1 := hid_of (put_where b l v m w h hh.size (by omega))
  have HH := hid_of hh
  have H := hid_of h
  have hdl := dec_short hn
  clear h hh
  go_enter Tryz.func36, Tryz.ntmps36
  go_wp2_with fail
  refine H1.out.mono ?_
  rintro e w1 ⟨rfl, v1, q1, q2, q3⟩
  have HH1 : Hid (Has w1) := has_fbw HH.out h8 H.out q2
  have E1 := hid_of (And.intro q1 (And.intro q2 q3))
  clear q1 q2 q3
  go_wp2_with fail
  refine (itoa_any (n : Int) (by omega) (by omega) w1 HH1.out.tab).mono ?_
  rintro e w2 ⟨he, b2⟩
  obtain rfl : e = .returned (.string (mk (decDigits n))) := he.trans (by rw [itoa_nat]; rfl)
  have B2 := hid_of b2
  have H2 := hid_of (put_where b (l ++ bs m) v1 (mk (decDigits n)) w2 (ba_below E1.out.1 b2) (HH1.out.later b2).size (by rw [List.length_append, len_bs, mk_size]; omega))
  generalize hX : mk (decDigits n) = X at H2 ⊢
  have HX := hid_of hX
  clear b2 hX
  go_wp2_with fail
  refine H2.out.mono ?_
  rintro e w3 ⟨rfl, v3, q1, q2, q3⟩
  have E3 : Hid (BA b ((l ++ bs m) ++ decDigits n) v3 w3 ∧ Fr (Fb b v) w w3 ∧ (∀ g, v3.ownBlock = some g → v.ownBlock = some g ∨ w.heap.size ≤ g)) := by
    rw [← HX.out, bs_mk] at q1
    have hw2 : w.heap.size ≤ w2.heap.size := Nat.le_trans E1.out.2.1.size B2.out.size
    refine ⟨q1, fbw_go (E1.out.2.1.trans (Fr.of_below B2.out)) E1.out.2.2 q2, fun g hg => ?_⟩
    rcases q3 g hg with q | q
    · exact E1.out.2.2 g q
    · exact Or.inr (Nat.le_trans hw2 q)
  have H3 := hid_of (put_where b _ v3 ⟨#[13, 10]⟩ w3 E3.out.1 (has_fbw HH.out h8 H.out E3.out.2.1).size (by
    rw [List.length_append, List.length_append, len_bs]
    show _ + 2 ≤ _
    omega))
  clear q1 q2 q3
  go_wp2_with fail
  refine H3.out.mono ?_
  rintro e w4 ⟨rfl, v4, q1, q2, q3⟩
  have E4 : Hid (BE b (((l ++ bs m) ++ decDigits n) ++ [13, 10]) v w w4) := by
    refine ⟨v4, q1, fbw_go E3.out.2.1 E3.out.2.2 q2, fun g hg => ?_⟩
    rcases q3 g hg with q | q
    · exact E3.out.2.2 g q
    · exact Or.inr (Nat.le_trans E3.out.2.1.size q)
  clear q1 q2 q3
  go_wp2_with fail
  go_end0
  exact ⟨rfl, E4.out⟩
theorem zero66 (w : World) : (zeroValue 66).run Tryz.prog w = .ok (.agg #[.pointer none, .slice none 0 0]) w := by kernel_rfl
theorem bulks_snoc : ∀ (l : List (List UInt8)) (a : List UInt8), bulksW (l ++ [a]) = bulksW l ++ bulkW a
  | [], a => by show bulkW a ++ [] = [] ++ bulkW a; simp
  | x :: l, a => by show bulkW x ++ bulksW (l ++ [a]) = (bulkW x ++ bulksW l) ++ bulkW a; rw [bulks_snoc l a, List.append_assoc]
def headW (n : Nat) : List UInt8 := 42 :: (decDigits n ++ [13, 10])
theorem write_parts (args : List (List UInt8)) : writeS args = headW args.length ++ bulksW args := by unfold writeS headW; simp
theorem bulks_take (args : List (List UInt8)) (k : Nat) (h : k < args.length) : bulksW (args.take (k + 1)) = bulksW (args.take k) ++ bulkW (args[k]'h) := by
  rw [List.take_succ_eq_append_getElem h, bulks_snoc]
theorem bulks_le (args : List (List UInt8)) : ∀ k, k ≤ args.length → (bulksW (args.take k)).length ≤ (bulksW args).length := by
  intro k hk
  have h : bulksW args = bulksW (args.take k) ++ bulksW (args.drop k) := by
    have aux : ∀ (a b : List (List UInt8)), bulksW (a ++ b) = bulksW a ++ bulksW b := by
      intro a
      induction a with
      | nil => intro b; rfl
      | cons x a ih => intro b; show bulkW x ++ bulksW (a ++ b) = (bulkW x ++ bulksW a) ++ bulksW b; rw [ih b, List.append_assoc]
    rw [← aux, List.take_append_drop]
  rw [h, List.length_append]
  omega
set_option maxHeartbeats 2000000 in
set_option maxRecDepth 100000 in
theorem write_call (v : Value) (args : List (List UInt8)) (w : World) (hv : SR w v args) (hh : Has w) (hn : args.length ≤ 1048576) (ha : ∀ a, a ∈ args → a.length ≤ 1048576) (hl : (writeS args).length ≤ 500000000) :
    Calls Tryz.prog 18 #[v] w fun e w' => e = .returned (.string (mk (writeS args))) ∧ Below w.heap.size w w' := by
  have hz := zero66
  have HSR := hid_of hv
  obtain ⟨a, c, rfl, hv⟩ := hv
  have HV := hid_of hv
  have HH := hid_of hh
  have HA := hid_of ha
  have hl2 : (headW args.length).length + (bulksW args).length ≤ 500000000 := by rw [write_parts, List.length_append] at hl; exact hl
  have h8 : 8 ≤ w.heap.size := hh.size
  have hB0 : BA w.heap.size [] (.slice none 0 0) (w.alloc (.cells #[.pointer none, .slice none 0 0] 66)) := ⟨Or.inl (heap_alloc_new w _), World.ownsRow_nil _ _ _ _, fun _ => rfl⟩
  have HW0 : Hid (Below w.heap.size w (w.alloc (.cells #[.pointer none, .slice none 0 0] 66))) := (Below.refl _ w).alloc (Nat.le_refl _) _
  have H1 := hid_of (count_write w.heap.size [] (.slice none 0 0) ⟨#[42]⟩ args.length _ hB0 (hh.later HW0.out) h8 hn (by decide))
  clear hv hh ha hB0 hl
  go_enter Tryz.func18, Tryz.ntmps18
  go_wp2_with fail
  refine H1.out.mono ?_
  rintro e w1 ⟨rfl, v1, q1, q2, q3⟩
  have E1 : Hid (BA w.heap.size (headW args.length ++ bulksW (args.take 0)) v1 w1 ∧ Below w.heap.size w w1 ∧ (∀ g, v1.ownBlock = some g → w.heap.size ≤ g)) := by
    have e1 : (([] ++ bs ⟨#[42]⟩) ++ decDigits args.length) ++ [13, 10] = headW args.length ++ bulksW (args.take 0) := by
      unfold headW
      rw [List.take_zero]
      show (([42] : List UInt8) ++ decDigits args.length) ++ [13, 10] = _ ++ []
      simp
    rw [e1] at q1
    refine ⟨q1, ((Fr.of_below (F := fun q => w.heap.size ≤ q) HW0.out).go q2 (by
      rintro x (hx | hx)
      · exact Or.inl (by omega)
      · cases hx)).below (fun x hx => hx), fun g hg => ?_⟩
    rcases q3 g hg with q | q
    · cases q
    · exact Nat.le_trans HW0.out.size q
  clear q1 q2 q3
  go_wp2_with fail
  go_loopg [11, 5] args.length (fun g s11 _ wx => ∃ (k : Nat) (vb : Value), k ≤ args.length ∧ args.length ≤ k + g ∧ s11 = .int .i64 k ∧ Hid (BA w.heap.size (headW args.length ++ bulksW (args.take k)) vb wx ∧ Below w.heap.size w wx ∧ (∀ g, vb.ownBlock = some g → w.heap.size ≤ g)))
  case atStart => exact ⟨0, v1, by omega, by omega, rfl, E1.out⟩
  case round =>
    obtain ⟨k, vb, hk, hg, rfl, HR⟩ := hrel
    by_cases hlt : k < args.length
    · obtain ⟨g', rfl⟩ : ∃ g', gk = g' + 1 := ⟨gk - 1, by omega⟩
      obtain ⟨gv, ov, rfl, hcv⟩ : ∃ g o, a = some ⟨g, o, none⟩ ∧ ∀ k (h : k < args.length), w.cell? ⟨g, o + k, none⟩ = some (.string (mk (args[k]'h))) := by
        rcases HV.out with h | h
        · subst h; exact absurd hlt (by simp)
        · exact h
      have c1 : wr.cell? ⟨gv, ov + k, none⟩ = _ := cell_later HR.out.2.1 (hcv k hlt)
      have ew : IntKind.i64.wrap ((k : Int) + 1) = (k : Int) + 1 := IntWalk.i64_in _ (by omega)
      have gi : ((k : Int)) < (args.length : Int) := by omega
      have hal := HA.out _ (List.getElem_mem hlt)
      have hbk : (bulksW (args.take (k + 1))).length ≤ (bulksW args).length := bulks_le args (k + 1) hlt
      have hbt := bulks_take args k hlt
      have hbl : (bulkW (args[k]'hlt)).length = (decDigits (args[k]'hlt).length).length + (args[k]'hlt).length + 5 := by unfold bulkW; simp; omega
      have hsum : (bulksW (args.take k)).length + (bulkW (args[k]'hlt)).length ≤ (bulksW args).length := by rw [hbt, List.length_append] at hbk; exact hbk
      have HC := hid_of (count_write w.heap.size _ vb ⟨#[36]⟩ (args[k]'hlt).length wr HR.out.1 (HH.out.later HR.out.2.1) h8 (by omega) (by rw [List.length_append]; show _ + 1 + 30 ≤ _; omega))
      have HXX : Hid ((mk (args[k]'hlt)).size = (args[k]'hlt).length) := mk_size _
      have HBT := hid_of hbt
      have HXB : Hid (bs (mk (args[k]'hlt)) = args[k]'hlt) := bs_mk _
      generalize hX : mk (args[k]'hlt) = X at c1 HXX HXB
      generalize hA : (args[k]'hlt) = A at HC HXX HBT hal hbl hsum HXB
      rw [← HXX.out] at HC
      clear hcv hX hA hbt hbk
      go_wp2_with fail
      refine HC.out.mono ?_
      rintro e w2 ⟨rfl, v2, q1, q2, q3⟩
      have hown2 : ∀ g, v2.ownBlock = some g → w.heap.size ≤ g := fun g hg => (q3 g hg).elim (fun q => HR.out.2.2 g q) (fun q => Nat.le_trans HR.out.2.1.size q)
      have B2 : Below w.heap.size w w2 := ((Fr.of_below (F := fun q => w.heap.size ≤ q) HR.out.2.1).go q2 (by
        rintro x (hx | hx)
        · exact Or.inl (by omega)
        · exact Or.inl (HR.out.2.2 x hx))).below (fun x hx => hx)
      have H4 := hid_of (put_where w.heap.size _ v2 X w2 q1 (Nat.le_trans h8 B2.size) (by
        rw [List.length_append, List.length_append, List.length_append, List.length_append, len_bs]
        have := HXX.out
        show _ + _ + 1 + _ + 2 + _ ≤ _
        rw [this]
        have := dec_short (u := A.length) (by omega)
        omega))
      have E2 := hid_of (And.intro B2 hown2)
      clear q1 q2 q3 B2 hown2
      go_wp2_with fail
      refine H4.out.mono ?_
      rintro e w3 ⟨rfl, v3, q1, q2, q3⟩
      have hown3 : ∀ g, v3.ownBlock = some g → w.heap.size ≤ g := fun g hg => (q3 g hg).elim (fun q => E2.out.2 g q) (fun q => Nat.le_trans E2.out.1.size q)
      have B3 : Below w.heap.size w w3 := ((Fr.of_below (F := fun q => w.heap.size ≤ q) E2.out.1).go q2 (by
        rintro x (hx | hx)
        · exact Or.inl (by omega)
        · exact Or.inl (E2.out.2 x hx))).below (fun x hx => hx)
      have H5 := hid_of (put_where w.heap.size _ v3 ⟨#[13, 10]⟩ w3 q1 (Nat.le_trans h8 B3.size) (by
        rw [List.length_append, List.length_append, List.length_append, List.length_append, List.length_append, len_bs, len_bs]
        have := HXX.out
        show _ + _ + 1 + _ + 2 + _ + 2 ≤ _
        rw [this]
        have := dec_short (u := A.length) (by omega)
        omega))
      have E3 := hid_of (And.intro B3 hown3)
      clear q1 q2 q3 B3 hown3
      go_wp2_with fail
      refine H5.out.mono ?_
      rintro e w4 ⟨rfl, v4, q1, q2, q3⟩
      have hown4 : ∀ g, v4.ownBlock = some g → w.heap.size ≤ g := fun g hg => (q3 g hg).elim (fun q => E3.out.2 g q) (fun q => Nat.le_trans E3.out.1.size q)
      have B4 : Below w.heap.size w w4 := ((Fr.of_below (F := fun q => w.heap.size ≤ q) E3.out.1).go q2 (by
        rintro x (hx | hx)
        · exact Or.inl (by omega)
        · exact Or.inl (E3.out.2 x hx))).below (fun x hx => hx)
      have E4 : Hid (BA w.heap.size (headW args.length ++ bulksW (args.take (k + 1))) v4 w4 ∧ Below w.heap.size w w4 ∧ (∀ g, v4.ownBlock = some g → w.heap.size ≤ g)) := by
        refine ⟨?_, B4, hown4⟩
        have e1 : ((((((headW args.length ++ bulksW (args.take k)) ++ bs ⟨#[36]⟩) ++ decDigits X.size) ++ [13, 10]) ++ bs X) ++ bs ⟨#[13, 10]⟩) = headW args.length ++ bulksW (args.take (k + 1)) := by
          rw [HBT.out, HXB.out, HXX.out]
          show ((((((headW args.length ++ bulksW (args.take k)) ++ [36]) ++ decDigits A.length) ++ [13, 10]) ++ A) ++ [13, 10]) = _
          unfold bulkW
          simp
        rw [e1] at q1
        exact q1
      clear q1 q2 q3 B4 hown4
      go_wp2_with fail
      go_roundg g'
      case measure => omega
      case rel => exact ⟨k + 1, v4, by omega, by omega, by rw [show ((k + 1 : Nat) : Int) = (k : Int) + 1 from by omega], E4.out⟩
    · have gi : ¬ ((k : Int)) < (args.length : Int) := by omega
      have hkk : args.take k = args := List.take_of_length_le (by omega)
      have hBA := HR.out.1
      rw [hkk, ← write_parts] at hBA
      have H6 := hid_of (string_where w.heap.size _ vb wr hBA (by rw [write_parts, List.length_append]; omega))
      clear hkk hBA
      go_wp2_with fail
      refine H6.out.mono ?_
      rintro e w2 ⟨he, q2⟩
      obtain rfl : e = .returned (.string (mk (writeS args))) := he
      have B2 : Hid (Below w.heap.size w w2) := ((Fr.of_below (F := fun q => w.heap.size ≤ q) HR.out.2.1).go q2 (by
        rintro x (hx | hx)
        · exact Or.inl (by omega)
        · exact Or.inl (HR.out.2.2 x hx))).below (fun x hx => hx)
      clear q2
      go_wp2_with fail
      go_ret
      exact ⟨rfl, B2.out⟩
end Go.Proofs.YtfkilbhhpipjbaaGreatDoor.WriteC
