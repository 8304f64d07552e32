/- What a space tells of a key: Get and Due; replies. Numbers and their one text, as plain functions on lists of bytes: what strconv.Atoi and Itoa come to, what the document's own Parse and Print come to, and that they are one: no program is met here. What is read of a text is one alone. The contracts of num.Print and of the document's own Print: a number's one text; old memory stands. From what the rows list of the library's tables and errors to what the contracts ask. -/
import Derived.Test.YtminfpkigenahaaGreatDoorDecM
import Derived.Lib.ItoaNum
import Derived.Lib.AtoiAll
import Derived.Test.YtminfpkigenahaaGreatDoorRows
import Derived.Test.YtminfpkigenahaaGreatDoorShelfM
import Derived.Lib.SlBytesRow
import Derived.WalkKit
import Derived.WalkSmall
import Derived.Below
import Derived.ProofKit
import Derived.LaidMore
import Derived.Stop.Joined
import Derived.Stop.LaidErr
import Derived.Lib.LaidTab
section
namespace Go.Proofs.YtminfpkigenahaaGreatDoor.QBase
open Go.RowKit Go.Maps
open Go.Proofs.YtminfpkigenahaaGreatDoor.SpaceMath (wout withL lkp keys Ris toD)
open Go.Proofs.YtminfpkigenahaaGreatDoor.ValueMath (Vl chk small)
open Go.Proofs.YtminfpkigenahaaGreatDoor.Base (mk mk_list mk_size Gr hid_of)
open Go.Proofs.YtminfpkigenahaaGreatDoor.Turn
open Go.Proofs.YtminfpkigenahaaGreatDoor.Vals
open Go.Proofs.YtminfpkigenahaaGreatDoor.Check0 (Wel)
open Go.Proofs.YtminfpkigenahaaGreatDoor.SBase
open Go.Proofs.YtminfpkigenahaaGreatDoor.SFind
open Go.Proofs.YtminfpkigenahaaGreatDoor.SSet (box8)
open Go.Proofs.YtminfpkigenahaaGreatDoor.SPut (vO)
open Go.Proofs.YtminfpkigenahaaGreatDoor.SDrop (eO en_cells)
set_option linter.unusedVariables false
set_option linter.unusedSimpArgs false
def gt (S : Sp) (now : Int) (k : Bs) : Option En := (lkp S.l k).filter fun e => seenB e.due e.ver now
theorem gt_none {S : Sp} {now : Int} {k : Bs} (h : gt S now k = none) : seenB (((lkp S.l k).map (·.due)).getD 0) (((lkp S.l k).map (·.ver)).getD 0) now = false := by
  unfold gt at h
  cases e : lkp S.l k with
  | none => simp [seenB]
  | some x =>
    rw [e] at h
    cases q : seenB x.due x.ver now with
    | false => exact q
    | true => simp [Option.filter, q] at h
theorem gt_some {S : Sp} {now : Int} {k : Bs} {e : En} (h : gt S now k = some e) : lkp S.l k = some e ∧ seenB e.due e.ver now = true := by
  unfold gt at h
  cases q : lkp S.l k with
  | none => rw [q] at h; cases h
  | some x =>
    rw [q] at h
    cases r : seenB x.due x.ver now with
    | false => simp [Option.filter, r] at h
    | true =>
      simp [Option.filter, r] at h
      subst h
      exact ⟨rfl, r⟩
abbrev zVb : Obj := vO 0 ⟨#[]⟩ (.slice none 0 0) (.slice none 0 0) (.slice none 0 0)
abbrev zVv : Value := .agg #[.int .i64 0, .string ⟨#[]⟩, .slice none 0 0, .slice none 0 0, .slice none 0 0]
set_option maxHeartbeats 1000000 in
set_option maxRecDepth 100000 in
theorem due_no {F X : Nat → Prop} {b : Nat} {w : World} {S : Sp} (h : SP F X b w S) (k : Bs) (hk : k.length ≤ 281474976710656) (now : Int) (hg : gt S now k = none) :
    Calls Tryz.prog 83 #[ptr b, .string (mk k), .int .i64 now] w fun r w' => r = .returned (.tuple #[.int .i64 0, .bool false]) ∧ Below w.heap.size w w' := by
  have H1 := hid_of (find_call h k hk)
  have HS := hid_of (gt_none hg)
  clear h hg
  go_enter Tryz.func83, Tryz.ntmps83
  go_wp2_with fail
  refine H1.out.mono ?_
  rintro r w1 ⟨v, rfl, hv, hb1⟩
  obtain ⟨K, T, kd, d, a1, n1, c1, a2, n2, c2, a3, n3, c3, n, rfl, hd, hn⟩ := HeldAt.shape hv
  obtain ⟨W, hW⟩ : ∃ W, W = w1.alloc (eO K T kd (.slice a1 n1 c1) (.slice a2 n2 c2) (.slice a3 n3 c3) d (n : Int)) := ⟨_, rfl⟩
  have H2 := hid_of (seen_call K T kd d now a1 a2 a3 n1 c1 n2 c2 n3 c3 n W)
  rw [hd, hn, HS.out, ← hd, ← hn] at H2
  have HB1 := hid_of (show Below w.heap.size w W by rw [hW]; exact hb1.trans ((alb w1 _).mono hb1.size))
  have HW := hid_of hW
  clear hb1 hv H1 hW hd hn
  go_wp2_with fail
  rw [← HW.out]
  refine H2.out.mono ?_
  rintro r w2 ⟨rfl, hb2⟩
  have HB2 := hid_of (HB1.out.trans (hb2.mono HB1.out.size))
  clear hb2 H2
  go_wp2_with fail
  go_ret2
  exact ⟨rfl, HB2.out⟩
/-- the deadline, and whether the key is there -/
def dueV (S : Sp) (now : Int) (k : Bs) : Int := ((gt S now k).map (·.due)).getD 0
theorem due_call {F X : Nat → Prop} {b : Nat} {w : World} {S : Sp} (h : SP F X b w S) (k : Bs) (hk : k.length ≤ 281474976710656) (now : Int) :
    Calls Tryz.prog 83 #[ptr b, .string (mk k), .int .i64 now] w fun r w' => r = .returned (.tuple #[.int .i64 (dueV S now k), .bool (gt S now k).isSome]) ∧ Below w.heap.size w w' := by
  unfold dueV
  cases hg : gt S now k with
  | none => exact due_no h k hk now hg
  | some e => exact SDrop.due_yes h k hk now (gt_some hg).1 (gt_some hg).2
set_option maxHeartbeats 2000000 in
set_option maxRecDepth 100000 in
theorem get_no {F X : Nat → Prop} {b : Nat} {w : World} {S : Sp} (h : SP F X b w S) (k : Bs) (hk : k.length ≤ 281474976710656) (now : Int) (hg : gt S now k = none) :
    Calls Tryz.prog 73 #[ptr b, .string (mk k), .int .i64 now] w fun r w' => r = .returned (.tuple #[zVv, .bool false]) ∧ Below w.heap.size w w' := by
  obtain ⟨W0, hW0⟩ : ∃ W0, W0 = w.alloc zVb := ⟨_, rfl⟩
  have b0 : Below w.heap.size w W0 := by rw [hW0]; exact alb _ _
  have X0 := hid_of (show W0.heap[w.heap.size]? = some zVb by rw [hW0]; exact heap_alloc_new w _)
  have B0 := hid_of b0
  have HW0 := hid_of hW0
  have H1 := hid_of (find_call (h.below b0) k hk)
  have HS := hid_of (gt_none hg)
  clear h hg hW0 b0
  go_enter Tryz.func73, Tryz.ntmps73
  go_wp2_with fail
  rw [← HW0.out]
  refine H1.out.mono ?_
  rintro r w1 ⟨v, rfl, hv, hb1⟩
  obtain ⟨K, T, kd, d, a1, n1, c1, a2, n2, c2, a3, n3, c3, n, rfl, hd, hn⟩ := HeldAt.shape hv
  obtain ⟨W, hW⟩ : ∃ W, W = w1.alloc (eO K T kd (.slice a1 n1 c1) (.slice a2 n2 c2) (.slice a3 n3 c3) d (n : Int)) := ⟨_, rfl⟩
  have bW : Below w1.heap.size w1 W := by rw [hW]; exact alb w1 _
  have H2 := hid_of (seen_call K T kd d now a1 a2 a3 n1 c1 n2 c2 n3 c3 n W)
  rw [hd, hn, HS.out, ← hd, ← hn] at H2
  have b1 := FRow.bel hb1 bW (Nat.le_refl _)
  have X1 := hid_of ((b1.block _ (lt_of X0.out)).trans X0.out)
  have HB1 := hid_of (FRow.bel B0.out b1 (Nat.le_refl _))
  have HW := hid_of hW
  clear hb1 hv H1 hW hd hn bW b1
  go_wp2_with fail
  rw [← HW.out]
  refine H2.out.mono ?_
  rintro r w2 ⟨rfl, hb2⟩
  have HB2 := hid_of (FRow.bel HB1.out hb2 (Nat.le_refl _))
  have x2 := (hb2.block _ (lt_of X1.out)).trans X1.out
  obtain ⟨⟨y0, y1, y2, y3, y4⟩, fy⟩ := box5 x2
  have fy0 := fy 0
  have fy1 := fy 1
  have fy2 := fy 2
  have fy3 := fy 3
  have fy4 := fy 4
  have z := Copy.set5 x2 (.int .i64 0) (.string ⟨#[]⟩) (.slice none 0 0) (.slice none 0 0) (.slice none 0 0)
  have hbf := Dec.f5_b (y0 := .int .i64 0) (y1 := .string ⟨#[]⟩) (y2 := .slice none 0 0) (y3 := .slice none 0 0) (y4 := .slice none 0 0) HB2.out (Nat.le_refl _)
  unfold Dec.fin5 at hbf
  clear hb2 H2 fy x2
  go_wp2_with fail
  obtain ⟨⟨g0, g1, g2, g3, g4⟩, -⟩ := box5 z
  exact bodyPost_ret (v := .tuple #[zVv, .bool false]) (by simp [results, Tryz.results73, go_sem, g0, g1, g2, g3, g4]) rfl ⟨rfl, hbf⟩
set_option maxHeartbeats 2000000 in
set_option maxRecDepth 100000 in
theorem get_yes {F X : Nat → Prop} {b : Nat} {w : World} {S : Sp} (h : SP F X b w S) (k : Bs) (hk : k.length ≤ 281474976710656) (now : Int) {en : En} (hg : gt S now k = some en) :
    Calls Tryz.prog 73 #[ptr b, .string (mk k), .int .i64 now] w fun r w' => ∃ u, r = .returned (.tuple #[u, .bool true]) ∧ VN w.heap.size w' u en.val ∧ Below w.heap.size w w' := by
  obtain ⟨W0, hW0⟩ : ∃ W0, W0 = w.alloc zVb := ⟨_, rfl⟩
  have b0 : Below w.heap.size w W0 := by rw [hW0]; exact alb _ _
  have X0 := hid_of (show W0.heap[w.heap.size]? = some zVb by rw [hW0]; exact heap_alloc_new w _)
  have B0 := hid_of b0
  have HW0 := hid_of hW0
  have H1 := hid_of (find_call (h.below b0) k hk)
  obtain ⟨hlk, hsn⟩ := gt_some hg
  rw [hlk] at H1
  have HS := hid_of hsn
  have HX := hid_of h.xl
  clear h hg hW0 b0 hlk hsn
  go_enter Tryz.func73, Tryz.ntmps73
  go_wp2_with fail
  rw [← HW0.out]
  refine H1.out.mono ?_
  rintro r w1 ⟨v, rfl, hv, hb1⟩
  have hgd := EnAt.gd hv
  obtain ⟨a1, c1, a2, c2, a3, c3, rfl, hvs⟩ := EnAt.shape hv
  unfold eV
  unfold vV at hvs
  obtain ⟨W, hW⟩ : ∃ W, W = w1.alloc (eO (mk k) (mk en.val.text) en.val.kind (.slice a1 en.val.list.length c1) (.slice a2 en.val.fields.length c2) (.slice a3 en.val.ranked.length c3) en.due (en.ver : Int)) := ⟨_, rfl⟩
  have bW : Below w1.heap.size w1 W := by rw [hW]; exact alb w1 _
  have H2 := hid_of (seen_call (mk k) (mk en.val.text) en.val.kind en.due now a1 a2 a3 en.val.list.length c1 (List.length en.val.fields) c2 (List.length en.val.ranked) c3 en.ver W)
  rw [HS.out] at H2
  have b1 := FRow.bel hb1 bW (Nat.le_refl _)
  have X1 := hid_of ((b1.block _ (lt_of X0.out)).trans X0.out)
  have XE := hid_of (show W.heap[w1.heap.size]? = some (eO (mk k) (mk en.val.text) en.val.kind (.slice a1 en.val.list.length c1) (.slice a2 en.val.fields.length c2) (.slice a3 en.val.ranked.length c3) en.due (en.ver : Int)) by rw [hW]; exact heap_alloc_new w1 _)
  have HB1 := hid_of (FRow.bel B0.out b1 (Nat.le_refl _))
  have HVA := hid_of (hvs.va.below b1)
  have HW := hid_of hW
  have hlt : w.heap.size < w1.heap.size := Nat.lt_of_lt_of_le (lt_of X0.out) hb1.size
  have HLT := hid_of hlt
  have HFT := hid_of hgd.wel.toFit
  clear hb1 hv H1 hW bW b1 hvs hgd hlt
  go_wp2_with fail
  rw [← HW.out]
  refine H2.out.mono ?_
  rintro r w2 ⟨rfl, hb2⟩
  have HB2 := hid_of (FRow.bel HB1.out hb2 (Nat.le_refl _))
  have X2 := hid_of ((hb2.block _ (lt_of X1.out)).trans X1.out)
  obtain ⟨⟨y0, y1, y2, y3, y4, y5, y6, y7⟩, -⟩ := box8 ((hb2.block _ (lt_of XE.out)).trans XE.out)
  have H3 := hid_of (Copy.copy_call (HVA.out.below hb2) HFT.out)
  clear hb2 H2
  go_wp2_with fail
  refine H3.out.mono ?_
  rintro r w3 ⟨u, rfl, hu, hb3⟩
  have x3 := (hb3.block _ (lt_of X2.out)).trans X2.out
  have HB3 := FRow.bel HB2.out hb3 (Nat.le_refl _)
  have hl2 : w.heap.size < w2.heap.size := lt_of X2.out
  obtain ⟨j, U, e1, m1, f1, e2, m2, f2, e3, m3, f3, rfl⟩ := Dec.vn_shape hu
  obtain ⟨⟨z0, z1, z2, z3, z4⟩, fy⟩ := box5 x3
  have fy0 := fy 0
  have fy1 := fy 1
  have fy2 := fy 2
  have fy3 := fy 3
  have fy4 := fy 4
  have z := Copy.set5 x3 (.int .i64 j) (.string U) (.slice e1 m1 f1) (.slice e2 m2 f2) (.slice e3 m3 f3)
  have hbf := Dec.f5_b (y0 := .int .i64 j) (y1 := .string U) (y2 := .slice e1 m1 f1) (y3 := .slice e2 m2 f2) (y4 := .slice e3 m3 f3) HB3 (Nat.le_refl _)
  have hvf := (Dec.f5_vn (y0 := .int .i64 j) (y1 := .string U) (y2 := .slice e1 m1 f1) (y3 := .slice e2 m2 f2) (y4 := .slice e3 m3 f3) hu hl2).mono (Nat.le_of_lt hl2)
  unfold Dec.fin5 at hbf hvf
  clear hb3 H3 fy x3 y0 y1 y2 y3 y4 y5 y6 y7
  go_wp2_with fail
  obtain ⟨⟨g0, g1, g2, g3, g4⟩, -⟩ := box5 z
  exact bodyPost_ret (v := .tuple #[.agg #[.int .i64 j, .string U, .slice e1 m1 f1, .slice e2 m2 f2, .slice e3 m3 f3], .bool true]) (by simp [results, Tryz.results73, go_sem, g0, g1, g2, g3, g4]) rfl ⟨_, rfl, hvf, hbf⟩
end Go.Proofs.YtminfpkigenahaaGreatDoor.QBase
end
section
namespace Go.Proofs.YtminfpkigenahaaGreatDoor.TextMath
open Go.Lib (decDigits itoa atoiAll parseUint10 parseMag NumEnd)

def InI (n : Int) : Prop := -9223372036854775808 ≤ n ∧ n ≤ 9223372036854775807
def digB (c : UInt8) : Bool := decide (48 ≤ c.toNat ∧ c.toNat ≤ 57)
theorem digB_iff (c : UInt8) : digB c = true ↔ 48 ≤ c.toNat ∧ c.toNat ≤ 57 := by simp [digB]

theorem dec_small {u : Nat} (h : u < 10) : decDigits u = [UInt8.ofNat (48 + u)] := by rw [decDigits, dif_pos h]
theorem dec_big {u : Nat} (h : ¬ u < 10) : decDigits u = decDigits (u / 10) ++ [UInt8.ofNat (48 + u % 10)] := by rw [decDigits, dif_neg h]
theorem dig_toNat {d : Nat} (h : d < 10) : (UInt8.ofNat (48 + d)).toNat = 48 + d := by rw [UInt8.toNat_ofNat']; omega
theorem digB_of {d : Nat} (h : d < 10) : digB (UInt8.ofNat (48 + d)) = true := by rw [digB_iff, dig_toNat h]; omega
theorem dec_ne (u : Nat) : decDigits u ≠ [] := by
  by_cases h : u < 10
  · rw [dec_small h]; simp
  · rw [dec_big h]; simp
theorem dec_all (u : Nat) : (decDigits u).all digB = true := by
  induction u using Nat.strongRecOn with
  | _ u ih =>
    by_cases h : u < 10
    · rw [dec_small h, List.all_cons, digB_of h]; rfl
    · rw [dec_big h, List.all_append, ih (u / 10) (by omega), List.all_cons, digB_of (show u % 10 < 10 from by omega)]; rfl
/-- the number that digits spell, on from a -/
def valOn (a : Nat) (l : List UInt8) : Nat := l.foldl (fun x c => 10 * x + (c.toNat - 48)) a
theorem valOn_snoc (a : Nat) (l : List UInt8) (c : UInt8) : valOn a (l ++ [c]) = 10 * valOn a l + (c.toNat - 48) := by simp [valOn]
theorem val_dec (u : Nat) : valOn 0 (decDigits u) = u := by
  induction u using Nat.strongRecOn with
  | _ u ih =>
    by_cases h : u < 10
    · have e := valOn_snoc 0 [] (UInt8.ofNat (48 + u))
      rw [List.nil_append, dig_toNat h] at e
      rw [dec_small h, e]
      have : valOn 0 [] = 0 := rfl
      omega
    · rw [dec_big h, valOn_snoc, ih (u / 10) (by omega), dig_toNat (show u % 10 < 10 from by omega)]; omega
theorem val_lt (l : List UInt8) (h : l.all digB = true) : ∀ a, valOn a l < (a + 1) * 10 ^ l.length := by
  induction l with
  | nil => intro a; simp [valOn]
  | cons c t ih =>
    intro a
    rw [List.all_cons, Bool.and_eq_true] at h
    have hc := (digB_iff c).1 h.1
    have := ih h.2 (10 * a + (c.toNat - 48))
    have e : valOn a (c :: t) = valOn (10 * a + (c.toNat - 48)) t := rfl
    rw [e, List.length_cons, Nat.pow_succ]
    refine Nat.lt_of_lt_of_le this ?_
    rw [Nat.mul_comm (10 ^ t.length) 10, ← Nat.mul_assoc]
    exact Nat.mul_le_mul_right _ (by omega)
theorem val_ge (l : List UInt8) : ∀ a, a * 10 ^ l.length ≤ valOn a l := by
  induction l with
  | nil => intro a; simp [valOn]
  | cons c t ih =>
    intro a
    have := ih (10 * a + (c.toNat - 48))
    have e : valOn a (c :: t) = valOn (10 * a + (c.toNat - 48)) t := rfl
    rw [e, List.length_cons, Nat.pow_succ]
    refine Nat.le_trans ?_ this
    rw [Nat.mul_comm (10 ^ t.length) 10, ← Nat.mul_assoc]
    exact Nat.mul_le_mul_right _ (by omega)
/-- no nought ahead, unless it is the one digit -/
def Canon (l : List UInt8) : Prop := l ≠ [] ∧ l.all digB = true ∧ (l.headD 0 = 48 → l.length = 1)
theorem canon_dec (u : Nat) : Canon (decDigits u) := by
  refine ⟨dec_ne u, dec_all u, ?_⟩
  induction u using Nat.strongRecOn with
  | _ u ih =>
    by_cases h : u < 10
    · rw [dec_small h]; simp
    · rw [dec_big h]
      intro hh
      have hne := dec_ne (u / 10)
      have e : (decDigits (u / 10) ++ [UInt8.ofNat (48 + u % 10)]).headD 0 = (decDigits (u / 10)).headD 0 := by
        cases q : decDigits (u / 10) with
        | nil => exact absurd q hne
        | cons a b => rfl
      rw [e] at hh
      have h1 := ih (u / 10) (by omega) hh
      exfalso
      by_cases h2 : u / 10 < 10
      · rw [dec_small h2] at hh
        have q := congrArg UInt8.toNat hh
        simp only [List.headD_cons] at q
        rw [dig_toNat h2] at q
        have q2 : (48 : UInt8).toNat = 48 := rfl
        omega
      · rw [dec_big h2] at h1
        have := List.length_pos_iff.2 (dec_ne (u / 10 / 10))
        rw [List.length_append] at h1
        simp only [List.length_cons, List.length_nil] at h1
        omega
theorem dec_val (n : Nat) : ∀ l : List UInt8, l.length = n → Canon l → decDigits (valOn 0 l) = l := by
  induction n with
  | zero => intro l hl hc; exact absurd (List.length_eq_zero_iff.1 hl) hc.1
  | succ n ih =>
    intro l hl hc
    obtain ⟨t, c, rfl⟩ : ∃ t c, l = t ++ [c] := ⟨l.dropLast, l.getLast hc.1, (List.dropLast_concat_getLast hc.1).symm⟩
    have ht : t.length = n := by simpa using hl
    have hall := hc.2.1
    rw [List.all_append, Bool.and_eq_true] at hall
    have hcd : digB c = true := by simpa using hall.2
    have hcr := (digB_iff c).1 hcd
    have back : UInt8.ofNat (48 + (c.toNat - 48)) = c := by
      rw [show 48 + (c.toNat - 48) = c.toNat from by omega]; simp
    rw [valOn_snoc]
    cases t with
    | nil =>
      have : valOn 0 [] = 0 := rfl
      rw [this, dec_small (by omega), show 10 * 0 + (c.toNat - 48) = c.toNat - 48 from by omega, back]; rfl
    | cons a r =>
      have ha : a ≠ 48 := by
        intro e
        have := hc.2.2 (by simpa using e)
        simp at this
      have had : digB a = true := by
        have := hall.1; rw [List.all_cons, Bool.and_eq_true] at this; exact this.1
      have har := (digB_iff a).1 had
      have ha48 : a.toNat ≠ 48 := fun e => ha (UInt8.toNat_inj.1 (by rw [e]; rfl))
      have hpos : 1 ≤ valOn 0 (a :: r) := by
        have := val_ge r (10 * 0 + (a.toNat - 48))
        have e : valOn 0 (a :: r) = valOn (10 * 0 + (a.toNat - 48)) r := rfl
        rw [e]
        have hp : 1 ≤ 10 ^ r.length := Nat.one_le_pow _ _ (by omega)
        have : 1 * 1 ≤ (10 * 0 + (a.toNat - 48)) * 10 ^ r.length := Nat.mul_le_mul (by omega) hp
        omega
      have hcan : Canon (a :: r) := ⟨by simp, hall.1, fun e => absurd (by simpa using e) ha⟩
      have := ih (a :: r) ht hcan
      rw [dec_big (by omega), show (10 * valOn 0 (a :: r) + (c.toNat - 48)) / 10 = valOn 0 (a :: r) from by omega,
        show (10 * valOn 0 (a :: r) + (c.toNat - 48)) % 10 = c.toNat - 48 from by omega, back, this]

/-! ### strconv -/
theorem parse_append (l : List UInt8) (c : UInt8) (a : Nat) : ∀ acc, parseUint10 acc l = .ok a → parseUint10 acc (l ++ [c]) = parseUint10 a [c] := by
  induction l with
  | nil => intro acc h; injection h with h; subst h; rfl
  | cons d t ih =>
    intro acc h
    rw [List.cons_append, parseUint10]
    rw [parseUint10] at h
    by_cases h1 : 48 ≤ d.toNat ∧ d.toNat ≤ 57
    · rw [if_pos h1] at h ⊢
      by_cases h2 : 1844674407370955162 ≤ acc
      · rw [if_pos h2] at h; cases h
      · rw [if_neg h2] at h ⊢
        by_cases h3 : 18446744073709551616 ≤ acc * 10 + (d.toNat - 48)
        · rw [if_pos h3] at h; cases h
        · rw [if_neg h3] at h ⊢
          exact ih _ h
    · rw [if_neg h1] at h; cases h
theorem parse_dec (u : Nat) (h : u < 18446744073709551616) : parseUint10 0 (decDigits u) = .ok u := by
  induction u using Nat.strongRecOn with
  | _ u ih =>
    by_cases h1 : u < 10
    · rw [dec_small h1]
      simp only [parseUint10, dig_toNat h1]
      rw [if_pos (by omega), if_neg (by omega), if_neg (by omega)]
      simp
    · rw [dec_big h1, parse_append _ _ _ _ (ih (u / 10) (by omega) (by omega))]
      simp only [parseUint10, dig_toNat (show u % 10 < 10 from by omega)]
      rw [if_pos (by omega), if_neg (by omega), if_neg (by omega)]
      congr 1
      omega
theorem head_dec (u : Nat) : ∃ c t, decDigits u = c :: t ∧ 48 ≤ c.toNat ∧ c.toNat ≤ 57 := by
  cases e : decDigits u with
  | nil => exact absurd e (dec_ne u)
  | cons c t =>
    have := dec_all u
    rw [e, List.all_cons, Bool.and_eq_true] at this
    exact ⟨c, t, rfl, (digB_iff c).1 this.1⟩
theorem atoi_cons (c : UInt8) (t : List UInt8) (u : Nat) (hp : parseMag (if c.toNat = 43 ∨ c.toNat = 45 then t else c :: t) = .ok u) :
    atoiAll (c :: t) = if ¬ c.toNat = 45 ∧ 9223372036854775808 ≤ u then .range else if c.toNat = 45 ∧ 9223372036854775808 < u then .range else .ok (if c.toNat = 45 then -(u : Int) else u) := by
  simp only [atoiAll]
  rw [hp]
theorem atoi_neg (t : List UInt8) (u : Nat) (hp : parseMag t = .ok u) (h : u ≤ 9223372036854775808) : atoiAll (45 :: t) = .ok (-(u : Int)) := by
  have e45 : (45 : UInt8).toNat = 45 := rfl
  rw [atoi_cons 45 t u (by rw [if_pos (Or.inr e45)]; exact hp)]
  rw [if_neg (by omega), if_neg (by omega), if_pos e45]
theorem atoi_pos (c : UInt8) (t : List UInt8) (u : Nat) (hc1 : 48 ≤ c.toNat) (hp : parseMag (c :: t) = .ok u) (h : u ≤ 9223372036854775807) : atoiAll (c :: t) = .ok (u : Int) := by
  rw [atoi_cons c t u (by rw [if_neg (by omega)]; exact hp)]
  rw [if_neg (by omega), if_neg (by omega), if_neg (by omega)]
theorem mag_dec (u : Nat) (h : u < 18446744073709551616) : parseMag (decDigits u) = .ok u := by
  unfold parseMag
  rw [if_neg (dec_ne _), parse_dec _ h]
theorem atoi_itoa (n : Int) (h : InI n) : atoiAll (itoa n) = .ok n := by
  obtain ⟨h1, h2⟩ := h
  unfold itoa
  by_cases hn : n < 0
  · rw [if_pos hn, atoi_neg _ n.natAbs (mag_dec _ (by omega)) (by omega)]
    congr 1; omega
  · rw [if_neg hn]
    obtain ⟨c, t, e, hc1, hc2⟩ := head_dec n.toNat
    have hp := mag_dec n.toNat (by omega)
    rw [e] at hp ⊢
    rw [atoi_pos c t n.toNat hc1 hp (by omega)]
    congr 1; omega

/-! ### the document's Parse -/
/-- the number whose one text l is -/
def textB (n : Int) (l : List UInt8) : Bool := decide (-9223372036854775808 ≤ n ∧ n ≤ 9223372036854775807) && itoa n == l
theorem text_iff (n : Int) (l : List UInt8) : textB n l = true ↔ InI n ∧ itoa n = l := by simp [textB, InI]
/-- digits behind no sign -/
theorem text_pos {t : List UInt8} (hc : Canon t) (h : valOn 0 t ≤ 9223372036854775807) : textB (valOn 0 t : Nat) t = true := by
  rw [text_iff]
  refine ⟨⟨by omega, by omega⟩, ?_⟩
  unfold itoa
  rw [if_neg (by omega), Int.toNat_natCast]
  exact dec_val _ t rfl hc
/-- digits behind a sign -/
theorem text_neg {t : List UInt8} (hc : Canon t) (h0 : t.headD 0 ≠ 48) (h : valOn 0 t ≤ 9223372036854775808) : textB (-((valOn 0 t : Nat) : Int)) (45 :: t) = true := by
  have hd := dec_val _ t rfl hc
  have hpos : valOn 0 t ≠ 0 := by
    intro e
    rw [e, dec_small (by omega)] at hd
    rw [← hd] at h0
    exact h0 rfl
  rw [text_iff]
  refine ⟨⟨by omega, by omega⟩, ?_⟩
  unfold itoa
  rw [if_pos (by omega)]
  congr 1
  rw [show (-((valOn 0 t : Nat) : Int)).natAbs = valOn 0 t from by omega]
  exact hd
/-- what a text of a number looks like -/
theorem text_shape {n : Int} {l : List UInt8} (h : textB n l = true) :
    (∃ t, l = 45 :: t ∧ Canon t ∧ t.headD 0 ≠ 48 ∧ n = -((valOn 0 t : Nat) : Int) ∧ valOn 0 t ≤ 9223372036854775808) ∨ (Canon l ∧ n = (valOn 0 l : Nat) ∧ valOn 0 l ≤ 9223372036854775807) := by
  rw [text_iff] at h
  obtain ⟨⟨h1, h2⟩, h3⟩ := h
  unfold itoa at h3
  by_cases hn : n < 0
  · rw [if_pos hn] at h3
    refine .inl ⟨decDigits n.natAbs, h3.symm, canon_dec _, ?_, ?_, ?_⟩
    · intro e
      have hl := (canon_dec n.natAbs).2.2 e
      have hv := val_dec n.natAbs
      cases q : decDigits n.natAbs with
      | nil => exact absurd q (dec_ne _)
      | cons c t =>
        rw [q] at e hl hv
        have : t = [] := by simpa using hl
        subst this
        simp only [List.headD_cons] at e
        subst e
        have : valOn 0 [48] = 0 := rfl
        omega
    · rw [val_dec]; omega
    · rw [val_dec]; omega
  · rw [if_neg hn] at h3
    rw [← h3]
    exact .inr ⟨canon_dec _, by rw [val_dec]; omega, by rw [val_dec]; omega⟩
theorem canon_len {t : List UInt8} (hc : Canon t) (h : valOn 0 t ≤ 9223372036854775808) : t.length ≤ 19 := by
  have hd := dec_val _ t rfl hc
  have hl := Lib.decDigits_length (valOn 0 t)
  rw [hd] at hl
  rw [hl]
  by_cases h1 : Lib.nDigits (valOn 0 t) ≤ 19
  · exact h1
  · exfalso
    obtain ⟨k, hk⟩ : ∃ k, Lib.nDigits (valOn 0 t) = k + 20 := ⟨Lib.nDigits (valOn 0 t) - 20, by omega⟩
    have : ∀ (j u : Nat), Lib.nDigits u = j + 1 → 1 ≤ j → 10 ^ j ≤ u := by
      intro j
      induction j with
      | zero => intro u _ h; omega
      | succ j ih =>
        intro u hu _
        by_cases hs : u < 10
        · rw [Lib.nDigits_small hs] at hu; omega
        · rw [Lib.nDigits_big hs] at hu
          by_cases hj : 1 ≤ j
          · have := ih (u / 10) (by omega) hj
            rw [Nat.pow_succ]; omega
          · have : j = 0 := by omega
            subst this; simp; omega
    have h2 := this (k + 19) _ hk (by omega)
    have h3 : 10 ^ 19 ≤ 10 ^ (k + 19) := Nat.pow_le_pow_right (by omega) (by omega)
    have h4 : (10 : Nat) ^ 19 = 10000000000000000000 := by decide
    omega
theorem text_unique {m n : Int} {l : List UInt8} (h1 : textB m l = true) (h2 : textB n l = true) : m = n := by
  rw [text_iff] at h1 h2
  have := atoi_itoa m h1.1
  rw [h1.2, ← h2.2, atoi_itoa n h2.1] at this
  injection this with this
  exact this.symm
/-- what Parse comes to -/
def Parsed (l : List UInt8) (n e : Int) : Prop := (textB n l = true ∧ e = 0) ∨ ((∀ m, textB m l = false) ∧ n = 0 ∧ e = 10)
theorem parsed_unique {l : List UInt8} {n e m f : Int} (h1 : Parsed l n e) (h2 : Parsed l m f) : n = m ∧ e = f := by
  rcases h1 with ⟨a, b⟩ | ⟨a, b, c⟩ <;> rcases h2 with ⟨p, q⟩ | ⟨p, q, r⟩
  · exact ⟨text_unique a p, by omega⟩
  · rw [p n] at a; cases a
  · rw [a m] at p; cases p
  · exact ⟨by omega, by omega⟩
end Go.Proofs.YtminfpkigenahaaGreatDoor.TextMath
end
section
namespace Go.Proofs.YtminfpkigenahaaGreatDoor.ParsedM
open Go.Proofs.YtminfpkigenahaaGreatDoor.TextMath
theorem none_of {l : List UInt8} {n e : Int} (h : Parsed l n e) (hn : ∀ m, textB m l = false) : n = 0 ∧ e = 10 := parsed_unique h (.inr ⟨hn, rfl, rfl⟩)
theorem some_of {l : List UInt8} {n e v : Int} (h : Parsed l n e) (hv : textB v l = true) : n = v ∧ e = 0 := parsed_unique h (.inl ⟨hv, rfl⟩)
end Go.Proofs.YtminfpkigenahaaGreatDoor.ParsedM
end
section
namespace Go.Proofs.YtminfpkigenahaaGreatDoor.Print
open Go.RowKit
open Go.Lib (decDigits itoa)
open Go.Proofs.YtminfpkigenahaaGreatDoor.TextMath
set_option linter.unusedVariables false
set_option linter.unusedSimpArgs false

theorem hid_of {p : Prop} (h : p) : Hid p := h
theorem bel {B : Nat} {a b c : World} (h : Below B a b) (k : Below b.heap.size b c) (hB : B ≤ a.heap.size) : Below B a c := h.trans (k.mono (Nat.le_trans hB h.size))
theorem below_grow (w : World) (k : Nat) (os : Array Obj) : Below w.heap.size w (Sort.grow (w.drewN k) os) :=
  ⟨rfl, rfl, rfl, by simp [Sort.grow], fun j hj => by simp [Sort.grow, Array.getElem?_append, hj]⟩
theorem ret_s {a b : ByteArray} (h : a = b) : Ending.returned (.string a) = .returned (.string b) := by rw [h]

/-- the table of powers is there -/
def Tab (w : World) : Prop := Lib.TabIs Tryz.prog w "internal/strconv.uint64pow10" .u64 Lib.pow10Tab

set_option maxHeartbeats 400000 in
theorem print_any (n : Int) (w : World) (h : InI n) (ht : Tab w) :
    Calls Tryz.prog 130 #[.int .i64 n] w fun e w' => e = .returned (.string ⟨(itoa n).toArray⟩) ∧ Below w.heap.size w w' := by
  have HT := hid_of ht
  have H := hid_of h
  clear ht h
  go_enter Tryz.func130, Tryz.ntmps130
  go_wp2_with fail
  refine (Tryz.strconv_Itoa n H.out.1 H.out.2 _ HT.out).mono ?_
  rintro e w' ⟨rfl, k, os, rfl⟩
  have hb := below_grow w k os
  generalize Sort.grow (w.drewN k) os = w' at *
  go_wp2
  go_ret
  exact ⟨rfl, hb⟩

end Go.Proofs.YtminfpkigenahaaGreatDoor.Print
end
section
namespace Go.Proofs.YtminfpkigenahaaGreatDoor.Laid
open Go.RowKit
open Go.Proofs.YtminfpkigenahaaGreatDoor.Print

theorem gPow : Tryz.prog.globalNamed "internal/strconv.uint64pow10" = some 3 := by kernel_rfl
theorem tPow : (Tryz.prog.globals[3]?).map (·.type) = some 259 := by kernel_rfl
theorem gSyn : Tryz.prog.globalNamed "strconv.ErrSyntax" = some 1 := by kernel_rfl
theorem tSyn : (Tryz.prog.globals[1]?).map (·.type) = some 167 := by kernel_rfl
theorem gRng : Tryz.prog.globalNamed "strconv.ErrRange" = some 2 := by kernel_rfl
theorem tRng : (Tryz.prog.globals[2]?).map (·.type) = some 167 := by kernel_rfl
theorem cells76 : Tryz.prog.cellsOf 41 = 1 := by kernel_rfl
theorem cells122 : Tryz.prog.cellsOf 259 = 20 := by kernel_rfl
theorem cells131 : Tryz.prog.cellsOf 253 = 1 := by kernel_rfl
theorem cells9 : Tryz.prog.cellsOf 9 = 1 := by kernel_rfl
theorem pow_data : (Rows.laid_internal_strconv_uint64pow10 : DataW Unit) = Lib.tabData .u64 Lib.pow10Tab := by kernel_rfl
theorem tab_of {W : World} {r : List (String × DataW Unit)} (h : laidMet Tryz.prog (("internal/strconv.uint64pow10", Rows.laid_internal_strconv_uint64pow10) :: r) W) : Tab W := by
  rw [pow_data] at h
  exact Lib.tabIs_of_head gPow tPow Tryz.underlying259 Tryz.underlying41 cells76 cells122 h
end Go.Proofs.YtminfpkigenahaaGreatDoor.Laid
end
