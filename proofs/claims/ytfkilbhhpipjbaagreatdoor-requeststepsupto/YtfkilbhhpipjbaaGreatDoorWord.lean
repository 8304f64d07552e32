/- The first word of a text. -/
import Derived.Test.YtfkilbhhpipjbaaGreatDoorGrow
import Derived.Test.YtfkilbhhpipjbaaGreatDoorFind
namespace Go.Proofs.YtfkilbhhpipjbaaGreatDoor.Word
open Go.RowKit
open Go.Proofs.YtfkilbhhpipjbaaGreatDoor.ReqMath
open Go.Proofs.YtfkilbhhpipjbaaGreatDoor.Base
open Go.Proofs.YtfkilbhhpipjbaaGreatDoor.Small
open Go.Proofs.YtfkilbhhpipjbaaGreatDoor.Append
open Go.Proofs.YtfkilbhhpipjbaaGreatDoor.Bulk
open Go.Proofs.YtfkilbhhpipjbaaGreatDoor.Bulk2
open Go.Proofs.YtfkilbhhpipjbaaGreatDoor.Quoted
open Go.Proofs.YtfkilbhhpipjbaaGreatDoor.Grow
set_option linter.unusedVariables false

def CH : List UInt8 := [9, 10, 13, 32, 34, 39]
theorem plain_ch (c : UInt8) : plainC c = !(CH.contains c) := by
  unfold plainC isBlank CH
  congr 1
  simp [List.contains, List.elem, Bool.or_assoc]
  cases h1 : c == 9 <;> cases h2 : c == 10 <;> cases h3 : c == 13 <;> cases h4 : c == 32 <;> cases h5 : c == 34 <;> cases h6 : c == 39 <;> rfl
theorem plain_none : ∀ l : List UInt8, Lib.indexAny l CH < 0 → l.takeWhile plainC = l
  | [], h => rfl
  | c :: l, h => by
    unfold Lib.indexAny at h
    have h1 := Lib.indexAny_ge CH l
    by_cases hc : CH.contains c = true
    · rw [if_pos hc] at h; omega
    · rw [if_neg hc] at h
      have h2 : Lib.indexAny l CH < 0 := by
        split at h
        · rename_i q; rw [beq_iff_eq] at q; omega
        · omega
      have hp : plainC c = true := by rw [plain_ch, Bool.eq_false_iff.2 hc]; rfl
      rw [List.takeWhile_cons, if_pos hp, plain_none l h2]
theorem plain_some : ∀ (l : List UInt8) (i : Nat), Lib.indexAny l CH = (i : Int) → l.takeWhile plainC = l.take i ∧ i < l.length ∧ ∃ c r, l.drop i = c :: r ∧ CH.contains c = true
  | [], i, h => by unfold Lib.indexAny at h; omega
  | c :: l, i, h => by
    unfold Lib.indexAny at h
    by_cases hc : CH.contains c = true
    · rw [if_pos hc] at h
      obtain rfl : i = 0 := by omega
      have hp : plainC c = false := by rw [plain_ch, hc]; rfl
      refine ⟨?_, by simp, c, l, rfl, hc⟩
      rw [List.takeWhile_cons, if_neg (by rw [hp]; decide)]
      rfl
    · rw [if_neg hc] at h
      have h1 := Lib.indexAny_ge CH l
      split at h
      · omega
      · rename_i q
        rw [beq_iff_eq] at q
        obtain ⟨j, hj⟩ : ∃ j : Nat, Lib.indexAny l CH = (j : Int) := ⟨(Lib.indexAny l CH).toNat, by omega⟩
        obtain ⟨h3, h4, c2, r, h5, h6⟩ := plain_some l j hj
        obtain rfl : i = j + 1 := by omega
        have hp : plainC c = true := by rw [plain_ch, Bool.eq_false_iff.2 hc]; rfl
        refine ⟨?_, by rw [List.length_cons]; omega, c2, r, by rw [List.drop_succ_cons]; exact h5, h6⟩
        rw [List.takeWhile_cons, if_pos hp, h3, List.take_succ_cons]
theorem bc (a b : UInt8) : (a == b) = (b == a) := by
  rw [Bool.eq_iff_iff, beq_iff_eq, beq_iff_eq]
  exact ⟨Eq.symm, Eq.symm⟩
theorem blank_index (c : UInt8) : decide (0 ≤ Lib.indexByte [9, 10, 13, 32] c) = isBlank c := by
  unfold isBlank
  unfold Lib.indexByte Lib.indexByte Lib.indexByte Lib.indexByte Lib.indexByte
  rw [bc 9 c, bc 10 c, bc 13 c, bc 32 c]
  cases h1 : c == 9 <;> cases h2 : c == 10 <;> cases h3 : c == 13 <;> cases h4 : c == 32 <;> rfl
theorem blank_call (c : UInt8) (w : World) : Calls Tryz.prog 49 #[.string ⟨#[9, 10, 13, 32]⟩, .string ⟨#[c]⟩] w fun e w' => e = .returned (.bool (isBlank c)) ∧ w' = w := by
  have := Tryz.strings_Contains_one ⟨#[9, 10, 13, 32]⟩ c w
  rw [show decide (0 ≤ Lib.indexByte (⟨#[9, 10, 13, 32]⟩ : ByteArray).data.toList c) = isBlank c from blank_index c] at this
  exact this
theorem str_to (s : ByteArray) (n : Nat) (x : Int) (hx : x = (n : Int)) (h : n ≤ s.size) : ∃ t : ByteArray, bs t = (bs s).take n ∧ t.size = n ∧ ∀ w, (Instr.slice 9 (.string s) none (some (.int .i64 x)) none).run Tryz.prog w = .ok (.string t) w := by
  subst hx
  refine ⟨s.extract 0 n, ext_to s n, by rw [ext_size _ _ _ h]; omega, fun w => ?_⟩
  rw [run_slice_string_to_if (P := Tryz.prog) (w := w) 9 s .i64 (n : Int) Tryz.underlying9, if_pos ⟨by omega, by omega⟩]
  rfl
theorem str_from (s : ByteArray) (n : Nat) (x : Int) (hx : x = (n : Int)) (h : n ≤ s.size) : ∃ t : ByteArray, bs t = (bs s).drop n ∧ t.size = s.size - n ∧ ∀ w, (Instr.slice 9 (.string s) (some (.int .i64 x)) none none).run Tryz.prog w = .ok (.string t) w := by
  subst hx
  refine ⟨s.extract n s.size, ext_from s n, ext_size _ _ _ (Nat.le_refl _), fun w => ?_⟩
  rw [run_slice_string_from_if (P := Tryz.prog) (w := w) 9 s .i64 (n : Int) Tryz.underlying9, if_pos ⟨by omega, by omega⟩]
  rfl
section
variable {ops : Array Oper} {rest : List Oper} {o : Oper} {a : Act} {Q : Exit → Act → World → Prop}
theorem wpl_eq (hgd : o.guard = none) (s x : Operand) (t tx : TypeId) (ho : o.op = .call { callee := .builtin .append, args := #[s, x], argTypes := #[t, tx] }) (v u v' : Value) (W W' : World) (hs : a.eval s = v) (hx : a.eval x = u)
    (hr : (Builtin.append_ #[t, tx] o.type #[v, u]).run Tryz.prog W = .ok v' W') (hK : wpList Tryz.prog ops Q rest (a.put o.dst v') W') : wpList Tryz.prog ops Q (o :: rest) a W := by
  refine wpList_plain hgd fun K hK2 => ?_
  unfold Oper.wp execOp
  simp only [ho, resolve, invoke, builtin, Sem.run_bind, Sem.run_pure, Result.andThen_ok, List.map_toArray, List.map_cons, List.map_nil, hs, hx, hr]
  exact hK2 _ _ hK
end
@[reducible] def wd (x : ByteArray) (n : Int) (b : Bool) : Ending := .returned (.tuple #[.string x, .int .i64 n, .bool b])
set_option maxHeartbeats 2000000 in
set_option maxRecDepth 100000 in
theorem word_all (s : ByteArray) (hz : s.size ≤ 67108864) (w : World) (hi : Lib.indexAny (bs s) CH < 0) :
    Calls Tryz.prog 32 #[.string s] w fun e w' => e = wd s (s.size : Int) true ∧ Below w.heap.size w w' := by
  have H1 := hid_of (Find.any_any s w (by omega))
  have hlt : decide (Lib.indexAny s.data.toList [9, 10, 13, 32, 34, 39] < 0) = true := decide_eq_true hi
  have hlt' : Lib.indexAny s.data.toList [9, 10, 13, 32, 34, 39] < 0 := hi
  clear hi
  generalize Lib.indexAny s.data.toList [9, 10, 13, 32, 34, 39] = ix at H1 hlt hlt'
  obtain ⟨p, ep, zp, sp⟩ := str_to s s.size (s.size : Int) rfl (Nat.le_refl _)
  obtain rfl : p = s := of_bs (by rw [ep, List.take_of_length_le (by rw [len_bs]; omega)])
  obtain ⟨r, er, zr, sr⟩ := str_from p p.size (p.size : Int) rfl (Nat.le_refl _)
  obtain rfl : r = ⟨#[]⟩ := size0 (by omega)
  unfold wd
  clear ep er zp zr
  go_enter Tryz.func32, Tryz.ntmps32
  go_wp2_with fail
  refine H1.out.mono ?_
  rintro e w1 ⟨rfl, b1⟩
  obtain ⟨v, w2, hcv, hBX, hbk, b2⟩ := bytes_of w1 p
  have B2 : Hid (Below w.heap.size w w2) := b1.trans (b2.mono b1.size)
  have hcv2 := bx_conv hBX
  obtain ⟨g, o, cap, cs, fz, rfl, _⟩ := hBX
  clear b1 b2 hbk
  go_wp2_with fail
  go_ret3
  exact ⟨rfl, B2.out⟩
set_option maxHeartbeats 2000000 in
set_option maxRecDepth 100000 in
theorem word_blank (s p : ByteArray) (i : Nat) (hz : s.size ≤ 67108864) (w : World) (hi : Lib.indexAny (bs s) CH = (i : Int)) (his : i < s.size) (c : UInt8) (hc : (bs s)[i]? = some c) (hb : isBlank c = true) (hp : bs p = (bs s).take i) :
    Calls Tryz.prog 32 #[.string s] w fun e w' => e = wd p (i : Int) true ∧ Below w.heap.size w w' := by
  have H1 := hid_of (Find.any_any s w (by omega))
  rw [show Lib.indexAny s.data.toList [9, 10, 13, 32, 34, 39] = (i : Int) from hi] at H1
  obtain ⟨p', ep, zp, sp⟩ := str_to s i (i : Int) rfl (by omega)
  obtain rfl : p' = p := of_bs (ep.trans hp.symm)
  obtain ⟨r, er, zr, sr⟩ := str_from s i (i : Int) rfl (by omega)
  have hne : r.toList.isEmpty = false := by
    rw [Lib.toList_data]
    show (bs r).isEmpty = false
    cases hq : bs r with
    | nil => have := len_bs r; rw [hq] at this; simp at this; omega
    | cons a b => rfl
  obtain ⟨d, ed, zd, sd⟩ := str_to r 1 1 rfl (by omega)
  obtain rfl : d = ⟨#[c]⟩ := of_bs (by
    rw [ed, er]
    obtain ⟨h2, h3⟩ := List.getElem?_eq_some_iff.1 hc
    rw [List.drop_eq_getElem_cons h2, h3]
    rfl)
  have H2 := hid_of (fun w => blank_call c w)
  rw [hb] at H2
  have g1 : ¬ ((i : Int) < 0) := by omega
  unfold wd
  clear ep er zp zr hi hp hc hb ed zd
  go_enter Tryz.func32, Tryz.ntmps32
  go_wp2_with fail
  refine H1.out.mono ?_
  rintro e w1 ⟨rfl, b1⟩
  obtain ⟨v, w2, hcv, hBX, hbk, b2⟩ := bytes_of w1 p'
  have B2 : Hid (Below w.heap.size w w2) := b1.trans (b2.mono b1.size)
  have hcv2 := bx_conv hBX
  obtain ⟨g, o, cap, cs, fz, rfl, _⟩ := hBX
  clear b1 b2 hbk
  go_wp2_with fail
  refine (H2.out _).mono ?_
  rintro e w3 ⟨rfl, rfl⟩
  go_wp2_with fail
  go_ret3
  exact ⟨rfl, B2.out⟩
def WEnd (e : Ending) : Option (ByteArray × Nat) → Prop
  | none => e = wd ⟨#[]⟩ 0 false
  | some (y, m) => e = wd y (m : Int) true
theorem below5 {w w1 w3 w4 w5 : World} {v : Value} (b1 : Below w.heap.size w w1) (b2 : Below w1.heap.size w1 w3) (b4 : Below w3.heap.size w3 w4) (hv : slBlock v = some w1.heap.size) (fr : Fr (fun q => slBlock v = some q) w4 w5) : Below w.heap.size w w5 := by
  have h3 : Below w.heap.size w w3 := b1.trans (b2.mono b1.size)
  have h4 : Below w.heap.size w w4 := h3.trans (b4.mono h3.size)
  have f : Fr (fun q => q = w1.heap.size) w4 w5 := fr.wide (fun q hq => by rw [hv] at hq; exact (Option.some.inj hq).symm)
  exact ((Fr.of_below (F := fun q => q = w1.heap.size) h4).trans f).below (fun x hx => by rw [hx]; exact b1.size)
theorem bx_later {Z : Nat × Nat → Nat → Prop} {w w4 : World} {v : Value} {t : ByteArray} (h : BX Z w v t) (b4 : Below w.heap.size w w4) : BX Z w4 v t := by
  obtain ⟨g', o', c', cs', fz', hv, u1, hg', u2, u3, u4⟩ := h
  have hl := lt_of hg'
  refine ⟨g', o', c', cs', fz', hv, u1, (b4.block g' hl).trans hg', u2, u3, fun k hk => ?_⟩
  rw [← u4 k hk, Lib.cell_of_heap hg', Lib.cell_of_heap ((b4.block g' hl).trans hg')]
/- a quoted part follows -/
structure Qt (s : ByteArray) (i : Nat) (q : UInt8) (p r : ByteArray) : Prop where
  hi : Lib.indexAny (bs s) CH = (i : Int)
  his : i < s.size
  hq : (bs s)[i]? = some q
  hb : isBlank q = false
  hp : bs p = (bs s).take i
  hr : bs r = (bs s).drop i
set_option maxHeartbeats 4000000 in
set_option maxRecDepth 100000 in
theorem word_quoted (s : ByteArray) (i : Nat) (q : UInt8) (p r : ByteArray) (hz : s.size ≤ 67108864) (w : World) (hh : Has w) (h : Qt s i q p r) (pe : Option (List UInt8 × Nat)) (res : Option (ByteArray × Nat))
    (HQ : Hid (∀ w, Has w → Calls Tryz.prog 50 #[.string r] w fun e w' => PartEnd w e w' pe))
    (hres : match pe with
      | none => res = none
      | some (x, n) => x.length ≤ r.size ∧ n ≤ r.size ∧ ((n = r.size ∧ res = some (mk (bs p ++ x), i + n)) ∨ ∃ c, (bs r)[n]? = some c ∧ ((isBlank c = true ∧ res = some (mk (bs p ++ x), i + n)) ∨ (isBlank c = false ∧ res = none)))) :
    Calls Tryz.prog 32 #[.string s] w fun e w' => WEnd e res ∧ Below w.heap.size w w' := by
  obtain ⟨hi, his, hq, hb, hp, hr⟩ := h
  have H1 := hid_of (Find.any_any s w (by omega))
  rw [show Lib.indexAny s.data.toList [9, 10, 13, 32, 34, 39] = (i : Int) from hi] at H1
  obtain ⟨p', ep, zp, sp⟩ := str_to s i (i : Int) rfl (by omega)
  obtain rfl : p' = p := of_bs (ep.trans hp.symm)
  obtain ⟨r', er, zr, sr⟩ := str_from s i (i : Int) rfl (by omega)
  obtain rfl : r' = r := of_bs (er.trans hr.symm)
  have hne : r'.toList.isEmpty = false := by
    rw [Lib.toList_data]
    show (bs r').isEmpty = false
    cases hq : bs r' with
    | nil => have := len_bs r'; rw [hq] at this; simp at this; omega
    | cons a b => rfl
  obtain ⟨d, ed, zd, sd⟩ := str_to r' 1 1 rfl (by omega)
  obtain rfl : d = ⟨#[q]⟩ := of_bs (by
    rw [ed, er]
    obtain ⟨h2, h3⟩ := List.getElem?_eq_some_iff.1 hq
    rw [List.drop_eq_getElem_cons h2, h3]
    rfl)
  have H2 := hid_of (fun w => blank_call q w)
  rw [hb] at H2
  have g1 : ¬ ((i : Int) < 0) := by omega
  have HH := hid_of hh
  clear ep er hi hp hb ed zd hq hr hh
  cases pe with
  | none =>
    dsimp only at hres
    subst hres
    show Calls Tryz.prog 32 #[.string s] w fun e w' => e = .returned (.tuple #[.string ⟨#[]⟩, .int .i64 0, .bool false]) ∧ Below w.heap.size w w'
    go_enter Tryz.func32, Tryz.ntmps32
    go_wp2_with fail
    refine H1.out.mono ?_
    rintro e w1 ⟨rfl, b1⟩
    obtain ⟨v, w2, hcv, hBX, hbk, b2⟩ := bytes_of w1 p'
    have B2 : Hid (Below w.heap.size w w2) := b1.trans (b2.mono b1.size)
    obtain ⟨g, o, cap, cs, fz, rfl, _⟩ := hBX
    clear b1 b2 hbk
    go_wp2_with fail
    refine (H2.out _).mono ?_
    rintro e w3 ⟨rfl, rfl⟩
    go_wp2_with fail
    refine (HQ.out _ (HH.out.later B2.out)).mono ?_
    rintro e w4 ⟨rfl, b4⟩
    have B4 : Hid (Below w.heap.size w w4) := B2.out.trans (b4.mono B2.out.size)
    clear b4
    go_wp2_with fail
    go_ret3
    exact ⟨rfl, B4.out⟩
  | some xn =>
    obtain ⟨x, n⟩ := xn
    dsimp only at hres
    obtain ⟨hxl, hnl, hres⟩ := hres
    have e1 : IntKind.i64.wrap ((n : Int) + 1) = (n : Int) + 1 := IntWalk.i64_in _ (by omega)
    have e2 : IntKind.i64.wrap ((i : Int) + (n : Int)) = (i : Int) + (n : Int) := IntWalk.i64_in _ (by omega)
    have HXL : Hid (p'.size + (mk x).size ≤ 1000000000) := by show _ ≤ _; rw [mk_size]; omega
    have HAB : Hid (p' ++ mk x = mk (bs p' ++ x)) := of_bs (by rw [app_bs, bs_mk, bs_mk])
    have HIN : Hid (((i + n : Nat) : Int) = (i : Int) + (n : Int)) := by show _ = _; omega
    rcases hres with ⟨hn, rfl⟩ | ⟨c, hc, ⟨hbc, rfl⟩ | ⟨hbc, rfl⟩⟩
    · have g2 : ¬ ((n : Int) < (r'.size : Int)) := by omega
      show Calls Tryz.prog 32 #[.string s] w fun e w' => e = .returned (.tuple #[.string (mk (bs p' ++ x)), .int .i64 ((i + n : Nat) : Int), .bool true]) ∧ Below w.heap.size w w'
      clear hn
      clear zp zr
      go_enter Tryz.func32, Tryz.ntmps32
      go_wp2_with fail
      refine H1.out.mono ?_
      rintro e w1 ⟨rfl, b1⟩
      obtain ⟨v, w2, hcv, hBX, hbk, b2⟩ := bytes_of w1 p'
      have B2 : Hid (Below w.heap.size w w2) := b1.trans (b2.mono b1.size)
      have HB1 := hid_of (And.intro b1 b2)
      have hv : ∃ g o cap, v = .slice (some ⟨g, o, none⟩) p'.size cap := by
        obtain ⟨g, o, cap, cs, fz, hv, _⟩ := hBX
        exact ⟨g, o, cap, hv⟩
      obtain ⟨g, o, cap, rfl⟩ := hv
      have HBX := hid_of (And.intro hBX hbk)
      clear b1 b2 hbk hBX
      go_wp2_with fail
      refine (H2.out _).mono ?_
      rintro e w3 ⟨rfl, rfl⟩
      go_wp2_with fail
      refine (HQ.out _ (HH.out.later B2.out)).mono ?_
      rintro e w4 ⟨pv, rfl, ob, obk, b4⟩
      obtain ⟨v', w5, hr5, bx5, blk5, fr5⟩ := bx_append z1_zero z1_free (bx_later HBX.out.1 b4) pv 61 61 (src_ob ob) HXL.out
      have hcv5 := bx_conv bx5
      rw [HAB.out] at hcv5
      have B5 : Hid (Below w.heap.size w w5) := below5 HB1.out.1 HB1.out.2 b4 HBX.out.2 fr5
      have hv5 : ∃ g o n cap, v' = .slice (some ⟨g, o, none⟩) n cap := by
        obtain ⟨g5, o5, cap5, cs5, fz5, hv5, _⟩ := bx5
        exact ⟨g5, o5, _, cap5, hv5⟩
      obtain ⟨g5, o5, n5, cap5, rfl⟩ := hv5
      clear bx5 blk5 fr5 ob obk b4
      go_wp2_with (at_builtin; refine wpl_eq rfl _ _ 61 61 rfl (.slice (some ⟨g, o, none⟩) p'.size cap) pv (.slice (some ⟨g5, o5, none⟩) n5 cap5) w4 w5 rfl rfl hr5 ?_)
      go_wp2_with fail
      go_ret3
      exact ⟨by rw [HIN.out]; rfl, B5.out⟩
    ·
      have hns : n < r'.size := by have := (List.getElem?_eq_some_iff.1 hc).1; rwa [len_bs] at this
      have g2 : ((n : Int) < (r'.size : Int)) := by omega
      have hsl : ∀ w, (Instr.slice 9 (.string r') (some (.int .i64 (n : Int))) (some (.int .i64 ((n : Int) + 1))) none).run Tryz.prog w = .ok (.string ⟨#[c]⟩) w := by
        intro w
        rw [run_slice_string_if (P := Tryz.prog) (w := w) 9 r' .i64 .i64 (n : Int) ((n : Int) + 1) Tryz.underlying9, if_pos ⟨by omega, by omega⟩, if_pos ⟨by omega, by omega⟩]
        congr 2
        apply of_bs
        rw [show ((n : Int).toNat) = n from rfl, show (((n : Int) + 1).toNat) = n + 1 from by omega, ext_bs]
        obtain ⟨h2, h3⟩ := List.getElem?_eq_some_iff.1 hc
        rw [List.drop_eq_getElem_cons h2, h3, show n + 1 - n = 1 from by omega]
        rfl
      have H3 := hid_of (fun w => blank_call c w)
      rw [hbc] at H3
      clear hc hbc
      show Calls Tryz.prog 32 #[.string s] w fun e w' => e = .returned (.tuple #[.string (mk (bs p' ++ x)), .int .i64 ((i + n : Nat) : Int), .bool true]) ∧ Below w.heap.size w w'
      clear zp zr
      go_enter Tryz.func32, Tryz.ntmps32
      go_wp2_with fail
      refine H1.out.mono ?_
      rintro e w1 ⟨rfl, b1⟩
      obtain ⟨v, w2, hcv, hBX, hbk, b2⟩ := bytes_of w1 p'
      have B2 : Hid (Below w.heap.size w w2) := b1.trans (b2.mono b1.size)
      have HB1 := hid_of (And.intro b1 b2)
      have hv : ∃ g o cap, v = .slice (some ⟨g, o, none⟩) p'.size cap := by
        obtain ⟨g, o, cap, cs, fz, hv, _⟩ := hBX
        exact ⟨g, o, cap, hv⟩
      obtain ⟨g, o, cap, rfl⟩ := hv
      have HBX := hid_of (And.intro hBX hbk)
      clear b1 b2 hbk hBX
      go_wp2_with fail
      refine (H2.out _).mono ?_
      rintro e w3 ⟨rfl, rfl⟩
      go_wp2_with fail
      refine (HQ.out _ (HH.out.later B2.out)).mono ?_
      rintro e w4 ⟨pv, rfl, ob, obk, b4⟩
      obtain ⟨v', w5, hr5, bx5, blk5, fr5⟩ := bx_append z1_zero z1_free (bx_later HBX.out.1 b4) pv 61 61 (src_ob ob) HXL.out
      have hcv5 := bx_conv bx5
      rw [HAB.out] at hcv5
      have B5 : Hid (Below w.heap.size w w5) := below5 HB1.out.1 HB1.out.2 b4 HBX.out.2 fr5
      have hv5 : ∃ g o n cap, v' = .slice (some ⟨g, o, none⟩) n cap := by
        obtain ⟨g5, o5, cap5, cs5, fz5, hv5, _⟩ := bx5
        exact ⟨g5, o5, _, cap5, hv5⟩
      obtain ⟨g5, o5, n5, cap5, rfl⟩ := hv5
      clear bx5 blk5 fr5 ob obk b4
      go_wp2_with fail
      refine (H3.out _).mono ?_
      rintro e w6 ⟨rfl, hw6⟩
      subst hw6
      go_wp2_with (at_builtin; refine wpl_eq rfl _ _ 61 61 rfl (.slice (some ⟨g, o, none⟩) p'.size cap) pv (.slice (some ⟨g5, o5, none⟩) n5 cap5) w6 w5 rfl rfl hr5 ?_)
      go_wp2_with fail
      go_ret3
      exact ⟨by rw [HIN.out]; rfl, B5.out⟩
    ·
      have hns : n < r'.size := by have := (List.getElem?_eq_some_iff.1 hc).1; rwa [len_bs] at this
      have g2 : ((n : Int) < (r'.size : Int)) := by omega
      have hsl : ∀ w, (Instr.slice 9 (.string r') (some (.int .i64 (n : Int))) (some (.int .i64 ((n : Int) + 1))) none).run Tryz.prog w = .ok (.string ⟨#[c]⟩) w := by
        intro w
        rw [run_slice_string_if (P := Tryz.prog) (w := w) 9 r' .i64 .i64 (n : Int) ((n : Int) + 1) Tryz.underlying9, if_pos ⟨by omega, by omega⟩, if_pos ⟨by omega, by omega⟩]
        congr 2
        apply of_bs
        rw [show ((n : Int).toNat) = n from rfl, show (((n : Int) + 1).toNat) = n + 1 from by omega, ext_bs]
        obtain ⟨h2, h3⟩ := List.getElem?_eq_some_iff.1 hc
        rw [List.drop_eq_getElem_cons h2, h3, show n + 1 - n = 1 from by omega]
        rfl
      have H3 := hid_of (fun w => blank_call c w)
      rw [hbc] at H3
      clear hc hbc
      show Calls Tryz.prog 32 #[.string s] w fun e w' => e = .returned (.tuple #[.string ⟨#[]⟩, .int .i64 0, .bool false]) ∧ Below w.heap.size w w'
      clear zp zr
      go_enter Tryz.func32, Tryz.ntmps32
      go_wp2_with fail
      refine H1.out.mono ?_
      rintro e w1 ⟨rfl, b1⟩
      obtain ⟨v, w2, hcv, hBX, hbk, b2⟩ := bytes_of w1 p'
      have B2 : Hid (Below w.heap.size w w2) := b1.trans (b2.mono b1.size)
      have HB1 := hid_of (And.intro b1 b2)
      have hv : ∃ g o cap, v = .slice (some ⟨g, o, none⟩) p'.size cap := by
        obtain ⟨g, o, cap, cs, fz, hv, _⟩ := hBX
        exact ⟨g, o, cap, hv⟩
      obtain ⟨g, o, cap, rfl⟩ := hv
      have HBX := hid_of (And.intro hBX hbk)
      clear b1 b2 hbk hBX
      go_wp2_with fail
      refine (H2.out _).mono ?_
      rintro e w3 ⟨rfl, rfl⟩
      go_wp2_with fail
      refine (HQ.out _ (HH.out.later B2.out)).mono ?_
      rintro e w4 ⟨pv, rfl, ob, obk, b4⟩
      have B4 : Hid (Below w.heap.size w w4) := B2.out.trans (b4.mono B2.out.size)
      have hvp : ∃ a n c, pv = .slice a n c := by
        rcases ob.2 with ⟨h, _⟩ | ⟨g6, c6, u6, h, _⟩
        · exact ⟨_, _, _, h⟩
        · exact ⟨_, _, _, h⟩
      obtain ⟨a6, n6, c6, rfl⟩ := hvp
      clear b4 ob obk
      go_wp2_with fail
      refine (H3.out _).mono ?_
      rintro e w6 ⟨rfl, hw6⟩
      subst hw6
      go_wp2_with fail
      go_ret3
      exact ⟨rfl, B4.out⟩
end Go.Proofs.YtfkilbhhpipjbaaGreatDoor.Word
