/- The document's own Write. -/
import Derived.Test.YtfkilbhhpipjbaaGreatDoorWriteC
namespace Go.Proofs.YtfkilbhhpipjbaaGreatDoor.RefWrite
open Go.RowKit
open Go.Proofs.YtfkilbhhpipjbaaGreatDoor.TextMath
open Go.Proofs.YtfkilbhhpipjbaaGreatDoor.ReqMath
open Go.Proofs.YtfkilbhhpipjbaaGreatDoor.Base
open Go.Proofs.YtfkilbhhpipjbaaGreatDoor.Line
open Go.Proofs.YtfkilbhhpipjbaaGreatDoor.Small
open Go.Proofs.YtfkilbhhpipjbaaGreatDoor.Append
open Go.Proofs.YtfkilbhhpipjbaaGreatDoor.Bulk
open Go.Proofs.YtfkilbhhpipjbaaGreatDoor.Bulk2
open Go.Proofs.YtfkilbhhpipjbaaGreatDoor.Build
open Go.Proofs.YtfkilbhhpipjbaaGreatDoor.Lists
open Go.Proofs.YtfkilbhhpipjbaaGreatDoor.WriteC
set_option linter.unusedVariables false
def dig (n : Nat) : ByteArray := ⟨#[UInt8.ofNat (48 + n)]⟩
theorem dig_get (c : Nat) (hc : c ≤ 9) (i : Nat) (h : i < (dig c).size) : (((dig c)[i]'h).toNat : Int) = 48 + (c : Int) := by
  have h1 : i < 1 := h
  obtain rfl : i = 0 := by omega
  show ((UInt8.ofNat (48 + c)).toNat : Int) = _
  rw [UInt8.toNat_ofNat']
  omega
theorem conv_one (W : World) (c : Nat) (hc : c ≤ 9) : (convert 61 9 (.slice (some ⟨W.heap.size, 0, none⟩) 1 1)).run Tryz.prog (W.alloc (.cells #[.int .u8 (48 + (c : Int))] 5)) = .ok (.string (dig c)) (W.alloc (.cells #[.int .u8 (48 + (c : Int))] 5)) := by
  refine BySl.conv (t := dig c) ⟨some ⟨W.heap.size, 0, none⟩, 1, rfl, Nat.le_refl 1, Or.inr ⟨W.heap.size, 0, _, rfl, heap_alloc_new W _, Nat.le_refl 1, ?_⟩⟩
  intro i hi
  have h1 : i < 1 := hi
  obtain rfl : i = 0 := by omega
  rw [Lib.cell_of_heap (heap_alloc_new W _), dig_get c hc]
  rfl
theorem dec_lt {n : Nat} (h : n < 10) : Lib.decDigits n = bs (dig n) := by
  rw [Lib.decDigits, dif_pos h]; rfl
theorem dec_step {n : Nat} (h : ¬ n < 10) : Lib.decDigits n = Lib.decDigits (n / 10) ++ bs (dig (n % 10)) := by
  rw [Lib.decDigits, dif_neg h]; rfl
set_option maxRecDepth 100000 in
set_option maxHeartbeats 1000000 in
theorem digits_call (N : Nat) (hN : N ≤ 1048576) (w : World) : Calls Tryz.prog 39 #[.int .i64 (N : Int)] w fun e w' => e = .returned (.string (mk (Lib.decDigits N))) ∧ Below w.heap.size w w' := by
  go_enter Tryz.func39, Tryz.ntmps39
  go_wp2_with fail
  go_loopg [0, 3] N (fun g s0 s3 wx => ∃ (n : Nat) (t : ByteArray), n ≤ g ∧ n ≤ 1048576 ∧ s0 = .int .i64 n ∧ s3 = .string t ∧ Hid (Lib.decDigits N = Lib.decDigits n ++ bs t ∧ Below w.heap.size w wx))
  case atStart => exact ⟨N, ⟨#[]⟩, Nat.le_refl _, hN, rfl, rfl, by show _ = _ ++ []; simp, Below.refl _ _⟩
  case round =>
    obtain ⟨n, t, hg, hn, rfl, rfl, HR⟩ := hrel
    have ht : t.size ≤ 20 := by
      have h1 := dec_short hN
      rw [HR.out.1, List.length_append, len_bs] at h1
      omega
    have hd : ∀ m, (dig m).size = 1 := fun _ => rfl
    by_cases h9 : n < 10
    · have HC := conv_one wr n (by omega)
      have HE := hid_of (dec_lt h9)
      have g9 : ¬ (9 < (n : Int)) := by omega
      go_wp2_with fail
      go_ret
      refine ⟨?_, HR.out.2.alloc HR.out.2.size _⟩
      rw [HR.out.1, HE.out, ← Grow.app_bs, mk_bs]
      rfl
    · have HC := conv_one wr (n % 10) (by omega)
      have HE := hid_of (dec_step h9)
      have e10 : (n : Int) % 10 = ((n % 10 : Nat) : Int) := by omega
      have g9 : 9 < (n : Int) := by omega
      have HLT : Hid (n / 10 < n) := by show n / 10 < n; omega
      have HDV : Hid ((n : Int) / 10 = ((n / 10 : Nat) : Int)) := by show _ = _; omega
      have hm9 : n % 10 ≤ 9 := by omega
      clear h9
      generalize n % 10 = m at *
      go_wp2_with fail
      go_roundg (n / 10)
      case measure => have := HLT.out; omega
      case rel =>
        refine ⟨n / 10, dig m ++ t, Nat.le_refl _, by omega, ?_, rfl, ?_, HR.out.2.alloc HR.out.2.size _⟩
        · exact congrArg _ HDV.out
        · rw [HR.out.1, HE.out, Grow.app_bs, List.append_assoc]
def OW (w : World) (l : List UInt8) (v : Value) (wx : World) : Prop := wx.ownsRow 8 5 1 v l.length (Lib.byteCells l) ∧ Below w.heap.size w wx ∧ (∀ g, v.ownBlock = some g → w.heap.size ≤ g)
theorem ow_grew {w W W' : World} {l : List UInt8} {t : ByteArray} {v v' : Value} (h : OW w l v W) (hg : Grew l t v v' W W') : OW w (l ++ bs t) v' W' := by
  obtain ⟨q1, q2, q3, -⟩ := hg
  refine ⟨q1, ?_, fun g hg => (q3 g hg).elim (h.2.2 g) (fun e => Nat.le_trans h.2.1.size e)⟩
  exact ((Fr.of_below (F := fun q => w.heap.size ≤ q) h.2.1).trans (fr_grown q2 (fun g hg => h.2.2 g hg))).below (fun x hx => hx)
theorem ow_below {w W W' : World} {l : List UInt8} {v : Value} (h : OW w l v W) (hb : Below W.heap.size W W') : OW w l v W' :=
  ⟨owns_below h.1 hb, h.2.1.trans (hb.mono h.2.1.size), h.2.2⟩
theorem ow_conv {w W : World} {l : List UInt8} {v : Value} (h : OW w l v W) : (convert 61 9 v).run Tryz.prog W = .ok (.string (mk l)) W := by
  refine BySl.conv (t := mk l) ?_
  rcases h.1.2 with ⟨rfl, hn⟩ | ⟨g, cap, cur, rfl, hbg, hg, hnc, hcm, hcs, htake⟩
  · have hl : l = [] := List.length_eq_zero_iff.1 hn
    subst hl
    exact BySl.nil _
  · refine ⟨some ⟨g, 0, none⟩, cap, by rw [mk_size], by rw [mk_size]; exact hnc, Or.inr ⟨g, 0, cur, rfl, hg, by omega, ?_⟩⟩
    intro i hi
    have hi' : i < l.length := by rw [mk_size] at hi; exact hi
    have hc := World.ownsRow.cells h.1 (g := g) rfl i (.int .u8 ((l[i]'hi').toNat : Int)) (by
      unfold Lib.byteCells
      rw [List.getElem?_map, List.getElem?_eq_getElem hi']
      rfl)
    rw [add_off] at hc
    rw [hc]
    rfl
theorem nil_row (w : World) : w.ownsRow 8 5 1 (.slice none 0 0) ([] : List UInt8).length (Lib.byteCells []) := World.ownsRow_nil _ _ _ _
set_option maxRecDepth 100000 in
set_option maxHeartbeats 4000000 in
theorem rwrite_call (v : Value) (args : List (List UInt8)) (w : World) (hv : SR w v args) (h8 : 8 ≤ w.heap.size) (hn : args.length ≤ 1048576) (ha : ∀ a, a ∈ args → a.length ≤ 1048576) (hl : (writeS args).length ≤ 500000000) :
    Calls Tryz.prog 19 #[v] w fun e w' => e = .returned (.string (mk (writeS args))) ∧ Below w.heap.size w w' := by
  obtain ⟨a, c, rfl, hv⟩ := hv
  have HV := hid_of hv
  have HD := hid_of (fun N hN w1 => digits_call N hN w1)
  have HA := hid_of ha
  have HL := hid_of hl
  clear hv ha hl
  go_enter Tryz.func19, Tryz.ntmps19
  go_wp2_with fail
  refine (HD.out _ hn _).mono ?_
  rintro e w1 ⟨rfl, b1⟩
  have B1 := hid_of b1
  have hsz : (mk (Lib.decDigits args.length)).size ≤ 20 := by rw [mk_size]; exact dec_short hn
  have hw8 : 8 ≤ w1.heap.size := Nat.le_trans h8 b1.size
  have HT : Hid (bs (⟨#[42]⟩ ++ mk (Lib.decDigits args.length) ++ ⟨#[13, 10]⟩) = headW args.length) := by
    show _ = _
    rw [Grow.app_bs, Grow.app_bs, bs_mk]
    unfold headW
    show ([42] ++ Lib.decDigits args.length) ++ [13, 10] = _
    simp
  clear b1
  generalize mk (Lib.decDigits args.length) = D at *
  go_wp2_with (at_builtin; refine wpl_str3 rfl _ _ rfl (.slice none 0 0) [] (⟨#[42]⟩ ++ D ++ ⟨#[13, 10]⟩) w1 (nil_row _) hw8 rfl rfl (by rw [Grow.app_size, Grow.app_size]; show 0 + (1 + D.size + 2) ≤ _; omega) ?_)
  rintro v1 w2 hG
  have E1 : Hid (OW w (headW args.length) v1 w2) := by
    have h0 : OW w [] (.slice none 0 0) w1 := ⟨nil_row _, B1.out, fun g hg => by cases hg⟩
    have := ow_grew h0 hG
    rw [List.nil_append, HT.out] at this
    exact this
  clear hG HT hw8 hsz
  go_wp2_with fail
  go_loopg [3, 4] args.length (fun g s3 s4 wx => ∃ k : Nat, k ≤ args.length ∧ args.length ≤ k + g ∧ s4 = .int .i64 k ∧ Hid (OW w (headW args.length ++ bulksW (args.take k)) s3 wx))
  case atStart => exact ⟨0, by omega, by omega, rfl, by rw [show bulksW (args.take 0) = [] from rfl, List.append_nil]; exact E1.out⟩
  case round =>
    obtain ⟨k, hk, hg, rfl, HR⟩ := hrel
    by_cases hlt : k < args.length
    · obtain ⟨g', rfl⟩ : ∃ g', gk = g' + 1 := ⟨gk - 1, by omega⟩
      obtain ⟨gv, ov, rfl, hcv⟩ : ∃ g o, a = some ⟨g, o, none⟩ ∧ ∀ k (h : k < args.length), w.cell? ⟨g, o + k, none⟩ = some (.string (mk (args[k]'h))) := by
        rcases HV.out with h | h
        · subst h; exact absurd hlt (by simp)
        · exact h
      have hal : (args[k]'hlt).length ≤ 1048576 := HA.out _ (List.getElem_mem hlt)
      have c1 : wr.cell? ⟨gv, ov + k, none⟩ = some (.string (mk (args[k]'hlt))) := cell_later HR.out.2.1 (hcv k hlt)
      have hXs : (mk (args[k]'hlt)).size = (args[k]'hlt).length := mk_size _
      have HXB : Hid (bs (mk (args[k]'hlt)) = args[k]'hlt) := bs_mk _
      have HCV4 : Hid (∀ w4, Below w.heap.size w w4 → w4.cell? ⟨gv, ov + k, none⟩ = some (.string (mk (args[k]'hlt)))) := fun w4 h4 => cell_later h4 (hcv k hlt)
      have HBT := hid_of (bulks_take args k hlt)
      have hlen : (headW args.length ++ bulksW (args.take (k + 1))).length ≤ 500000000 := by
        have h1 := bulks_le args (k + 1) (by omega)
        have h2 := HL.out
        rw [write_parts, List.length_append] at h2
        rw [List.length_append]; omega
      have hlL : (headW args.length ++ bulksW (args.take k)).length ≤ 500000000 := by
        rw [HBT.out, ← List.append_assoc, List.length_append] at hlen
        omega
      have hX20 : (mk (args[k]'hlt)).size ≤ 1048576 := by rw [hXs]; exact hal
      have hD20 : (mk (Lib.decDigits (args[k]'hlt).length)).size ≤ 20 := by rw [mk_size]; exact dec_short hal
      have ew : IntKind.i64.wrap ((k : Int) + 1) = (k : Int) + 1 := IntWalk.i64_in _ (by omega)
      have gi : ((k : Int)) < (args.length : Int) := by omega
      have HDD : Hid (∀ w1, Calls Tryz.prog 39 #[.int .i64 ((mk (args[k]'hlt)).size : Int)] w1 fun e w' => e = .returned (.string (mk (Lib.decDigits (args[k]'hlt).length))) ∧ Below w1.heap.size w1 w') := by
        intro w1
        rw [hXs]
        exact HD.out (args[k]'hlt).length hal w1
      have HBW : Hid (bulkW (args[k]'hlt) = (([36] ++ Lib.decDigits (args[k]'hlt).length) ++ [13, 10]) ++ (args[k]'hlt) ++ [13, 10]) := by
        show _ = _; unfold bulkW; simp
      have HDB : Hid (bs (mk (Lib.decDigits (args[k]'hlt).length)) = Lib.decDigits (args[k]'hlt).length) := bs_mk _
      clear hcv hlen hXs hal
      generalize mk (Lib.decDigits (args[k]'hlt).length) = D2 at *
      generalize Lib.decDigits (args[k]'hlt).length = DL at *
      generalize mk (args[k]'hlt) = X at *
      generalize args[k]'hlt = AK at *
      go_wp2_with fail
      refine (HDD.out _).mono ?_
      rintro e w3 ⟨rfl, b3⟩
      have E3 := hid_of (ow_below HR.out b3)
      have h38 : 8 ≤ w3.heap.size := Nat.le_trans h8 E3.out.2.1.size
      have c3 : w3.cell? ⟨gv, ov + k, none⟩ = some (.string X) := HCV4.out w3 E3.out.2.1
      clear b3
      go_wp2_with (at_builtin; refine wpl_str3 rfl _ _ rfl u3 (headW args.length ++ bulksW (args.take k)) (⟨#[36]⟩ ++ D2 ++ ⟨#[13, 10]⟩) w3 E3.out.1 h38 rfl rfl (by rw [Grow.app_size, Grow.app_size]; show _ + (1 + D2.size + 2) ≤ _; omega) ?_)
      rintro v4 w4 hG4
      obtain ⟨L4, hL4⟩ : ∃ L4, L4 = (headW args.length ++ bulksW (args.take k)) ++ bs (⟨#[36]⟩ ++ D2 ++ ⟨#[13, 10]⟩) := ⟨_, rfl⟩
      have E4 : Hid (OW w L4 v4 w4) := by rw [hL4]; exact ow_grew E3.out hG4
      have hl4 : L4.length ≤ 500000100 := by
        rw [hL4, List.length_append, len_bs, Grow.app_size, Grow.app_size]
        show _ + (1 + D2.size + 2) ≤ _
        omega
      have HL4 := hid_of hL4
      clear hL4
      have h48 : 8 ≤ w4.heap.size := Nat.le_trans h8 E4.out.2.1.size
      have c4 : w4.cell? ⟨gv, ov + k, none⟩ = some (.string X) := HCV4.out w4 E4.out.2.1
      clear hG4 E3 c3 h38
      go_wp2_with (at_builtin; refine wpl_str3 rfl _ _ rfl v4 L4 X w4 E4.out.1 h48 rfl rfl (by omega) ?_)
      rintro v5 w5 hG5
      obtain ⟨L5, hL5⟩ : ∃ L5, L5 = L4 ++ bs X := ⟨_, rfl⟩
      have E5 : Hid (OW w L5 v5 w5) := by rw [hL5]; exact ow_grew E4.out hG5
      have hl5 : L5.length ≤ 502000100 := by rw [hL5, List.length_append, len_bs]; omega
      have HL5 := hid_of hL5
      clear hL5
      have h58 : 8 ≤ w5.heap.size := Nat.le_trans h8 E5.out.2.1.size
      clear hG5 E4 c4 h48
      go_wp2_with (at_builtin; refine wpl_str3 rfl _ _ rfl v5 L5 ⟨#[13, 10]⟩ w5 E5.out.1 h58 rfl rfl (by show _ + 2 ≤ _; omega) ?_)
      rintro v6 w6 hG6
      have E6 : Hid (OW w (headW args.length ++ bulksW (args.take (k + 1))) v6 w6) := by
        have := ow_grew E5.out hG6
        have e : L5 ++ bs ⟨#[13, 10]⟩ = headW args.length ++ bulksW (args.take (k + 1)) := by
          rw [HL5.out, HL4.out, HBT.out, HBW.out, HXB.out, Grow.app_bs, Grow.app_bs, HDB.out]
          show ((((headW args.length ++ bulksW (args.take k)) ++ (([36] ++ DL) ++ [13, 10])) ++ AK) ++ [13, 10]) = _
          simp
        rw [e] at this
        exact this
      clear hG6 E5 h58
      go_wp2_with fail
      go_roundg g'
      case measure => omega
      case rel => exact ⟨k + 1, by omega, by omega, by rw [show ((k + 1 : Nat) : Int) = (k : Int) + 1 from by omega], E6.out⟩
    · have gi : ¬ ((k : Int)) < (args.length : Int) := by omega
      have hkk : args.take k = args := List.take_of_length_le (by omega)
      rw [hkk, ← write_parts] at HR
      have hcv := ow_conv HR.out
      have HRS := hid_of (show mk (writeS args) = mk (writeS args) from rfl)
      clear hkk
      go_wp2_with fail
      go_ret
      exact ⟨rfl, HR.out.2.1⟩
end Go.Proofs.YtfkilbhhpipjbaaGreatDoor.RefWrite
