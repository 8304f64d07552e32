/- The quoted parts of typed lines. -/
import Derived.Test.YtfkilbhhpipjbaaGreatDoorBulkAny
namespace Go.Proofs.YtfkilbhhpipjbaaGreatDoor.Quoted
open Go.RowKit
open Go.Proofs.YtfkilbhhpipjbaaGreatDoor.ReqMath
open Go.Proofs.YtfkilbhhpipjbaaGreatDoor.Base
open Go.Proofs.YtfkilbhhpipjbaaGreatDoor.Small
open Go.Proofs.YtfkilbhhpipjbaaGreatDoor.Append
open Go.Proofs.YtfkilbhhpipjbaaGreatDoor.Bulk
open Go.Proofs.YtfkilbhhpipjbaaGreatDoor.Bulk2
set_option linter.unusedVariables false

theorem get_bs (s : ByteArray) (i : Nat) (h : i < s.size) : (bs s)[i]? = some (s[i]'h) := Lib.data_getElem? s i h
theorem index_at (s : ByteArray) (i : Nat) (c : UInt8) (h : (bs s)[i]? = some c) (x : Int) (hx : x = (i : Int)) (w : World) : (Instr.index 9 (.string s) (.int .i64 x)).run Tryz.prog w = .ok (.int .u8 (c.toNat : Int)) w := by
  subst hx
  have hi : i < s.size := by have := (List.getElem?_eq_some_iff.1 h).1; rwa [len_bs] at this
  rw [get_bs s i hi] at h
  cases h
  rw [run_index_string w 9 s .i64 (i : Int) Tryz.underlying9, dif_pos ⟨by omega, by omega⟩]
  rfl
/- what a beginning means -/
@[reducible] def two (p : UInt8 × Nat) : Ending := .returned (.tuple #[.int .u8 (p.1.toNat : Int), .int .i64 (p.2 : Int)])
def Means (K : Nat) (m : List UInt8 → UInt8 × Nat) (u : ByteArray) : Prop := ∀ w, Has w → Calls Tryz.prog K #[.string u] w fun e w' => e = two (m (bs u)) ∧ Below w.heap.size w w'
set_option maxRecDepth 100000 in
theorem single_means (u : ByteArray) (hu : 1 ≤ u.size) : Means 65 meantS u := by
  intro w hh
  clear hh
  obtain ⟨c, r, hc⟩ : ∃ c r, bs u = c :: r := by
    cases h : bs u with
    | nil => have := len_bs u; rw [h] at this; simp at this; omega
    | cons c r => exact ⟨c, r, rfl⟩
  have H1 := hid_of (Tryz.strings_HasPrefix u ⟨#[92, 39]⟩ w)
  have hx := index_at u 0 c (by rw [hc]; rfl) 0 rfl
  have hp : Lib.hasPrefix u.data.toList (⟨#[92, 39]⟩ : ByteArray).data.toList = decide ((c :: r).headD 0 = 92 ∧ (c :: r).tail.headD 0 = 39) := by
    show Lib.hasPrefix (bs u) [92, 39] = _
    rw [hc]
    unfold Lib.hasPrefix
    cases r with
    | nil =>
      have : decide (([c] : List UInt8).headD 0 = 92 ∧ ([c] : List UInt8).tail.headD 0 = 39) = false := by
        rw [decide_eq_false_iff_not]
        rintro ⟨_, h⟩
        have h' : (0 : UInt8) = 39 := h
        exact absurd h' (by decide)
      rw [this]
      show ((92 : UInt8) == c && false) = false
      rw [Bool.and_false]
    | cons d r =>
      show ((92 : UInt8) == c && ((39 : UInt8) == d && true)) = decide (c = 92 ∧ d = 39)
      rw [Bool.and_true, Bool.eq_iff_iff, decide_eq_true_iff, Bool.and_eq_true, beq_iff_eq, beq_iff_eq]
      constructor
      · rintro ⟨h1, h2⟩; exact ⟨h1.symm, h2.symm⟩
      · rintro ⟨h1, h2⟩; exact ⟨h1.symm, h2.symm⟩
  rw [hp] at H1
  rw [hc]
  unfold two meantS
  by_cases q : (c :: r).headD 0 = 92 ∧ (c :: r).tail.headD 0 = 39
  · rw [if_pos q]
    have hq : decide ((c :: r).headD 0 = 92 ∧ (c :: r).tail.headD 0 = 39) = true := decide_eq_true q
    rw [hq] at H1
    clear q hq hp hc
    go_enter Tryz.func65, Tryz.ntmps65
    go_wp2_with fail
    refine H1.out.mono ?_
    rintro e w1 ⟨rfl, rfl⟩
    go_wp2_with fail
    go_ret2
    exact ⟨rfl, Below.refl _ _⟩
  · rw [if_neg q]
    have hq : decide ((c :: r).headD 0 = 92 ∧ (c :: r).tail.headD 0 = 39) = false := decide_eq_false q
    rw [hq] at H1
    clear q hq hp hc
    go_enter Tryz.func65, Tryz.ntmps65
    go_wp2_with fail
    refine H1.out.mono ?_
    rintro e w1 ⟨rfl, rfl⟩
    go_wp2_with fail
    go_ret2
    exact ⟨rfl, Below.refl _ _⟩
/- the part, from a place on -/
theorem part_step {q : UInt8} {m : List UInt8 → UInt8 × Nat} {c : UInt8} {t : List UInt8} (h : c ≠ q) (hm : 0 < (m (c :: t)).2) : partS q m (c :: t) = match partS q m ((c :: t).drop (m (c :: t)).2) with | none => none | some (x, n) => some ((m (c :: t)).1 :: x, n + (m (c :: t)).2) := by
  rw [partS, if_neg h]
  obtain ⟨j, hj⟩ : ∃ j, (m (c :: t)).2 = j + 1 := ⟨(m (c :: t)).2 - 1, by omega⟩
  rw [hj, List.drop_succ_cons, Nat.add_sub_cancel]
  cases partS q m (t.drop j) with
  | none => rfl
  | some p => rfl
theorem part_here {q : UInt8} {m : List UInt8 → UInt8 × Nat} {t : List UInt8} : partS q m (q :: t) = some ([], 1) := by rw [partS, if_pos rfl]
theorem part_none {q : UInt8} {m : List UInt8 → UInt8 × Nat} : partS q m [] = none := by rw [partS]
/- bytes of the call's own -/
def OB (w : World) (v : Value) (l : List UInt8) : Prop := w.ownsRow 8 5 1 v l.length (Lib.byteCells l)
def Rel (q : UInt8) (m : List UInt8 → UInt8 × Nat) (s : ByteArray) (at_ : Nat) (x : List UInt8) (r : Option (List UInt8 × Nat)) : Prop :=
  r = match partS q m ((bs s).drop at_) with | none => none | some (y, n) => some (x ++ y, n + at_)
@[reducible] def ret3 (a : Value) (n : Int) (b : Bool) : Ending := .returned (.tuple #[a, .int .i64 n, .bool b])
def PartEnd (w : World) (e : Ending) (w' : World) : Option (List UInt8 × Nat) → Prop
  | none => e = ret3 (.slice none 0 0) 0 false ∧ Below w.heap.size w w'
  | some (x, n) => ∃ v, e = ret3 v n true ∧ OB w' v x ∧ (∀ g, v.ownBlock = some g → w.heap.size ≤ g) ∧ Below w.heap.size w w'
theorem cells_snoc (l : List UInt8) (c : UInt8) : Lib.byteCells l ++ [.int .u8 (c.toNat : Int)] = Lib.byteCells (l ++ [c]) := by rw [Lib.byteCells_append]; rfl
theorem below_grown {w wx W w' : World} {v : Value} (h : Below w.heap.size w W) (hg : W.grownBy w' v.ownBlock) (hv : ∀ g, v.ownBlock = some g → w.heap.size ≤ g) : Below w.heap.size w w' := h.grown hg h.size hv
set_option maxHeartbeats 4000000 in
set_option maxRecDepth 100000 in
theorem quoted_call (s : ByteArray) (q : UInt8) (K : Nat) (m : List UInt8 → UInt8 × Nat) (hq : (bs s)[0]? = some q) (hK : (q = 34 ∧ K = 66 ∧ m = meantD) ∨ (q = 39 ∧ K = 65 ∧ m = meantS)) (hm : ∀ u : ByteArray, 1 ≤ u.size → (∃ p, bs s = p ++ bs u) → Means K m u)
    (hpos : ∀ c t, 0 < (m (c :: t)).2 ∧ (m (c :: t)).2 ≤ (c :: t).length) (hz : s.size ≤ 67108864) (w : World) (hh : Has w) :
    Calls Tryz.prog 50 #[.string s] w fun e w' => ∀ r, Rel q m s 1 [] r → PartEnd w e w' r := by
  have hx := index_at s 0 q hq 0 rfl
  have h1 : 1 ≤ s.size := by have := (List.getElem?_eq_some_iff.1 hq).1; rw [len_bs] at this; omega
  have HM := hid_of hm
  have HP := hid_of hpos
  have HH := hid_of hh
  rcases hK with ⟨rfl, rfl, rfl⟩ | ⟨rfl, rfl, rfl⟩
  · clear hm hpos hh hq
    go_enter Tryz.func50, Tryz.ntmps50
    go_wp2_with fail
    go_loopg [7, 8, 2, 3, 4] s.size (fun g s7 s8 _ _ _ wx => ∃ (k : Nat) (x : List UInt8), 1 ≤ k ∧ k ≤ s.size ∧ s.size ≤ k + g ∧ s8 = .int .i64 k ∧ Hid (OB wx s7 x ∧ x.length ≤ k ∧ (∀ r, Rel 34 meantD s 1 [] r → Rel 34 meantD s k x r) ∧ (∀ g, s7.ownBlock = some g → w.heap.size ≤ g) ∧ Below w.heap.size w wx))
    case atStart => exact ⟨1, [], by omega, by omega, by omega, rfl, ⟨World.ownsRow_nil _ _ _ _, by simp, fun r h => h, fun g h => (by cases h), Below.refl _ _⟩⟩
    case round =>
      obtain ⟨k, x, hk1, hk, hg, rfl, HR⟩ := hrel
      by_cases hlt : k < s.size
      · obtain ⟨g', rfl⟩ : ∃ g', gk = g' + 1 := ⟨gk - 1, by omega⟩
        obtain ⟨c, hc⟩ : ∃ c, (bs s)[k]? = some c := ⟨_, get_bs s k hlt⟩
        have hix := index_at s k c hc (k : Int) rfl
        have hdr : (bs s).drop k = c :: (bs s).drop (k + 1) := by
          obtain ⟨h2, h3⟩ := List.getElem?_eq_some_iff.1 hc
          rw [List.drop_eq_getElem_cons h2, h3]
        by_cases hcq : c = 34
        · subst hcq
          have ew : IntKind.i64.wrap ((k : Int) + 1) = (k : Int) + 1 := IntWalk.i64_in _ (by omega)
          have HD := hid_of hdr
          clear hdr hc
          go_wp2_with fail
          go_ret3
          intro r hr
          have hq := HR.out.2.2.1 r hr
          unfold Rel at hq
          rw [HD.out, part_here] at hq
          subst hq
          refine ⟨u7, ?_, ?_, HR.out.2.2.2.1, HR.out.2.2.2.2⟩
          · show _ = ret3 u7 ((1 + k : Nat) : Int) true
            rw [show ((1 + k : Nat) : Int) = (k : Int) + 1 from by omega]
            rfl
          · rw [List.append_nil]; exact HR.out.1
        · have htest : ((c.toNat : Int) == 34) = false := by
            rw [beq_eq_false_iff_ne]
            intro h
            exact hcq (UInt8.toNat_inj.1 (show c.toNat = 34 from by omega))
          obtain ⟨u, hu, hus, hsl⟩ : ∃ u : ByteArray, bs u = (bs s).drop k ∧ u.size = s.size - k ∧ ∀ w, (Instr.slice 9 (.string s) (some (.int .i64 (k : Int))) none none).run Tryz.prog w = .ok (.string u) w := by
            refine ⟨s.extract k s.size, ext_from s k, ext_size _ _ _ (Nat.le_refl _), fun w => ?_⟩
            rw [run_slice_string_from_if (P := Tryz.prog) (w := w) 9 s .i64 (k : Int) Tryz.underlying9, if_pos ⟨by omega, by omega⟩]
            rfl
          have HC := hid_of (HM.out u (by omega) ⟨(bs s).take k, by rw [hu, List.take_append_drop]⟩ wr (HH.out.later HR.out.2.2.2.2))
          obtain ⟨hp1, hp2⟩ := HP.out c ((bs s).drop (k + 1))
          rw [← hdr, ← hu] at hp1 hp2
          have hmu : meantD (bs u) = meantD (c :: (bs s).drop (k + 1)) := by rw [hu, hdr]
          have HS : Hid (∀ r, Rel 34 meantD s k x r → Rel 34 meantD s (k + (meantD (bs u)).2) (x ++ [(meantD (bs u)).1]) r) := by
            intro r hr
            unfold Rel at hr ⊢
            rw [hdr, part_step hcq (by rw [← hdr, ← hu]; exact hp1), ← hdr, ← hu] at hr
            rw [hr, ← List.drop_drop, ← hu]
            cases partS 34 meantD ((bs u).drop (meantD (bs u)).2) with
            | none => rfl
            | some p =>
              show some _ = some _
              congr 1
              simp only [List.append_assoc, List.singleton_append, Prod.mk.injEq, true_and]
              omega
          rw [len_bs] at hp2
          generalize hpp : meantD (bs u) = p at HC hp1 hp2 HS
          obtain ⟨c2, n2⟩ := p
          clear hmu hpp hdr hc
          dsimp only at hp1 hp2 HS
          unfold two at HC
          dsimp only at HC
          have ew : IntKind.i64.wrap ((k : Int) + (n2 : Int)) = (k : Int) + (n2 : Int) := IntWalk.i64_in _ (by omega)
          go_wp2_with fail
          refine HC.out.mono ?_
          rintro e w1 ⟨rfl, b1⟩
          have B1 : Hid (Below w.heap.size w w1) := HR.out.2.2.2.2.trans (b1.mono HR.out.2.2.2.2.size)
          have HO : Hid ((w1.alloc (.cells #[.int .u8 (c2.toNat : Int)] 5)).ownsRow 8 5 1 u7 x.length (Lib.byteCells x)) := (owns_below HR.out.1 b1).alloc _
          have HZ : Hid (8 ≤ (w1.alloc (.cells #[.int .u8 (c2.toNat : Int)] 5)).heap.size) := Nat.le_trans HH.out.size (Nat.le_trans B1.out.size (by simp))
          have HU : Hid ((w1.alloc (.cells #[.int .u8 (c2.toNat : Int)] 5)).cell? ⟨w1.heap.size, 0, none⟩ = some (.int .u8 (c2.toNat : Int))) := World.cell?_alloc_new w1 #[.int .u8 (c2.toNat : Int)] 5 0
          have HXL : Hid (x.length + 1 ≤ 1000000000) := by show _ ≤ _; have := HR.out.2.1; omega
          clear b1
          go_wp2_with (at_builtin; refine wpl_one el61 rfl _ _ rfl u7 x.length (Lib.byteCells x) (w1.alloc (.cells #[.int .u8 (c2.toNat : Int)] 5)) ⟨w1.heap.size, 0, none⟩ 1 (.int .u8 (c2.toNat : Int)) HO.out HZ.out rfl rfl HU.out rfl HXL.out ?_)
          intro v' w2 hap
          have HAP : Hid (Apd 5 u7 x.length 1 (Lib.byteCells x ++ [.int .u8 (c2.toNat : Int)]) v' (w1.alloc (.cells #[.int .u8 (c2.toNat : Int)] 5)) w2) := hap
          clear hap
          go_wp2_with fail
          go_roundg (g' + 1 - n2)
          case measure => omega
          case rel =>
            refine ⟨k + n2, x ++ [c2], by omega, by omega, by omega, by rw [show ((k + n2 : Nat) : Int) = (k : Int) + (n2 : Int) from by omega], ⟨?_, ?_, fun r hr => HS.out r (HR.out.2.2.1 r hr), ?_, ?_⟩⟩
            · unfold OB
              rw [← cells_snoc, List.length_append]
              exact HAP.out.1
            · have := HR.out.2.1
              rw [List.length_append, List.length_singleton]
              omega
            · intro g hg
              rcases HAP.out.2.2.1 g hg with q | q
              · exact HR.out.2.2.2.1 g q
              · exact Nat.le_trans (B1.out.alloc B1.out.size (.cells #[.int .u8 (c2.toNat : Int)] 5)).size q
            · exact (B1.out.alloc B1.out.size (.cells #[.int .u8 (c2.toNat : Int)] 5)).grown HAP.out.2.1 (B1.out.alloc B1.out.size _).size HR.out.2.2.2.1
      · go_wp2_with fail
        go_ret3
        intro r hr
        have hq := HR.out.2.2.1 r hr
        unfold Rel at hq
        rw [List.drop_of_length_le (by rw [len_bs]; omega), part_none] at hq
        subst hq
        exact ⟨rfl, HR.out.2.2.2.2⟩
  · clear hm hpos hh hq
    go_enter Tryz.func50, Tryz.ntmps50
    go_wp2_with fail
    go_loopg [7, 8, 2, 3, 4] s.size (fun g s7 s8 _ _ _ wx => ∃ (k : Nat) (x : List UInt8), 1 ≤ k ∧ k ≤ s.size ∧ s.size ≤ k + g ∧ s8 = .int .i64 k ∧ Hid (OB wx s7 x ∧ x.length ≤ k ∧ (∀ r, Rel 39 meantS s 1 [] r → Rel 39 meantS s k x r) ∧ (∀ g, s7.ownBlock = some g → w.heap.size ≤ g) ∧ Below w.heap.size w wx))
    case atStart => exact ⟨1, [], by omega, by omega, by omega, rfl, ⟨World.ownsRow_nil _ _ _ _, by simp, fun r h => h, fun g h => (by cases h), Below.refl _ _⟩⟩
    case round =>
      obtain ⟨k, x, hk1, hk, hg, rfl, HR⟩ := hrel
      by_cases hlt : k < s.size
      · obtain ⟨g', rfl⟩ : ∃ g', gk = g' + 1 := ⟨gk - 1, by omega⟩
        obtain ⟨c, hc⟩ : ∃ c, (bs s)[k]? = some c := ⟨_, get_bs s k hlt⟩
        have hix := index_at s k c hc (k : Int) rfl
        have hdr : (bs s).drop k = c :: (bs s).drop (k + 1) := by
          obtain ⟨h2, h3⟩ := List.getElem?_eq_some_iff.1 hc
          rw [List.drop_eq_getElem_cons h2, h3]
        by_cases hcq : c = 39
        · subst hcq
          have ew : IntKind.i64.wrap ((k : Int) + 1) = (k : Int) + 1 := IntWalk.i64_in _ (by omega)
          have HD := hid_of hdr
          clear hdr hc
          go_wp2_with fail
          go_ret3
          intro r hr
          have hq := HR.out.2.2.1 r hr
          unfold Rel at hq
          rw [HD.out, part_here] at hq
          subst hq
          refine ⟨u7, ?_, ?_, HR.out.2.2.2.1, HR.out.2.2.2.2⟩
          · show _ = ret3 u7 ((1 + k : Nat) : Int) true
            rw [show ((1 + k : Nat) : Int) = (k : Int) + 1 from by omega]
            rfl
          · rw [List.append_nil]; exact HR.out.1
        · have htest : ((c.toNat : Int) == 39) = false := by
            rw [beq_eq_false_iff_ne]
            intro h
            exact hcq (UInt8.toNat_inj.1 (show c.toNat = 39 from by omega))
          obtain ⟨u, hu, hus, hsl⟩ : ∃ u : ByteArray, bs u = (bs s).drop k ∧ u.size = s.size - k ∧ ∀ w, (Instr.slice 9 (.string s) (some (.int .i64 (k : Int))) none none).run Tryz.prog w = .ok (.string u) w := by
            refine ⟨s.extract k s.size, ext_from s k, ext_size _ _ _ (Nat.le_refl _), fun w => ?_⟩
            rw [run_slice_string_from_if (P := Tryz.prog) (w := w) 9 s .i64 (k : Int) Tryz.underlying9, if_pos ⟨by omega, by omega⟩]
            rfl
          have HC := hid_of (HM.out u (by omega) ⟨(bs s).take k, by rw [hu, List.take_append_drop]⟩ wr (HH.out.later HR.out.2.2.2.2))
          obtain ⟨hp1, hp2⟩ := HP.out c ((bs s).drop (k + 1))
          rw [← hdr, ← hu] at hp1 hp2
          have hmu : meantS (bs u) = meantS (c :: (bs s).drop (k + 1)) := by rw [hu, hdr]
          have HS : Hid (∀ r, Rel 39 meantS s k x r → Rel 39 meantS s (k + (meantS (bs u)).2) (x ++ [(meantS (bs u)).1]) r) := by
            intro r hr
            unfold Rel at hr ⊢
            rw [hdr, part_step hcq (by rw [← hdr, ← hu]; exact hp1), ← hdr, ← hu] at hr
            rw [hr, ← List.drop_drop, ← hu]
            cases partS 39 meantS ((bs u).drop (meantS (bs u)).2) with
            | none => rfl
            | some p =>
              show some _ = some _
              congr 1
              simp only [List.append_assoc, List.singleton_append, Prod.mk.injEq, true_and]
              omega
          rw [len_bs] at hp2
          generalize hpp : meantS (bs u) = p at HC hp1 hp2 HS
          obtain ⟨c2, n2⟩ := p
          clear hmu hpp hdr hc
          dsimp only at hp1 hp2 HS
          unfold two at HC
          dsimp only at HC
          have ew : IntKind.i64.wrap ((k : Int) + (n2 : Int)) = (k : Int) + (n2 : Int) := IntWalk.i64_in _ (by omega)
          go_wp2_with fail
          refine HC.out.mono ?_
          rintro e w1 ⟨rfl, b1⟩
          have B1 : Hid (Below w.heap.size w w1) := HR.out.2.2.2.2.trans (b1.mono HR.out.2.2.2.2.size)
          have HO : Hid ((w1.alloc (.cells #[.int .u8 (c2.toNat : Int)] 5)).ownsRow 8 5 1 u7 x.length (Lib.byteCells x)) := (owns_below HR.out.1 b1).alloc _
          have HZ : Hid (8 ≤ (w1.alloc (.cells #[.int .u8 (c2.toNat : Int)] 5)).heap.size) := Nat.le_trans HH.out.size (Nat.le_trans B1.out.size (by simp))
          have HU : Hid ((w1.alloc (.cells #[.int .u8 (c2.toNat : Int)] 5)).cell? ⟨w1.heap.size, 0, none⟩ = some (.int .u8 (c2.toNat : Int))) := World.cell?_alloc_new w1 #[.int .u8 (c2.toNat : Int)] 5 0
          have HXL : Hid (x.length + 1 ≤ 1000000000) := by show _ ≤ _; have := HR.out.2.1; omega
          clear b1
          go_wp2_with (at_builtin; refine wpl_one el61 rfl _ _ rfl u7 x.length (Lib.byteCells x) (w1.alloc (.cells #[.int .u8 (c2.toNat : Int)] 5)) ⟨w1.heap.size, 0, none⟩ 1 (.int .u8 (c2.toNat : Int)) HO.out HZ.out rfl rfl HU.out rfl HXL.out ?_)
          intro v' w2 hap
          have HAP : Hid (Apd 5 u7 x.length 1 (Lib.byteCells x ++ [.int .u8 (c2.toNat : Int)]) v' (w1.alloc (.cells #[.int .u8 (c2.toNat : Int)] 5)) w2) := hap
          clear hap
          go_wp2_with fail
          go_roundg (g' + 1 - n2)
          case measure => omega
          case rel =>
            refine ⟨k + n2, x ++ [c2], by omega, by omega, by omega, by rw [show ((k + n2 : Nat) : Int) = (k : Int) + (n2 : Int) from by omega], ⟨?_, ?_, fun r hr => HS.out r (HR.out.2.2.1 r hr), ?_, ?_⟩⟩
            · unfold OB
              rw [← cells_snoc, List.length_append]
              exact HAP.out.1
            · have := HR.out.2.1
              rw [List.length_append, List.length_singleton]
              omega
            · intro g hg
              rcases HAP.out.2.2.1 g hg with q | q
              · exact HR.out.2.2.2.1 g q
              · exact Nat.le_trans (B1.out.alloc B1.out.size (.cells #[.int .u8 (c2.toNat : Int)] 5)).size q
            · exact (B1.out.alloc B1.out.size (.cells #[.int .u8 (c2.toNat : Int)] 5)).grown HAP.out.2.1 (B1.out.alloc B1.out.size _).size HR.out.2.2.2.1
      · go_wp2_with fail
        go_ret3
        intro r hr
        have hq := HR.out.2.2.1 r hr
        unfold Rel at hq
        rw [List.drop_of_length_le (by rw [len_bs]; omega), part_none] at hq
        subst hq
        exact ⟨rfl, HR.out.2.2.2.2⟩
end Go.Proofs.YtfkilbhhpipjbaaGreatDoor.Quoted
