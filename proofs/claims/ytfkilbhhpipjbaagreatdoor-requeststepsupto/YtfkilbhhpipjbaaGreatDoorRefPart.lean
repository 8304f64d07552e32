/- The document's own parts of typed lines: blank, single. -/
import Derived.Test.YtfkilbhhpipjbaaGreatDoorRefWrite
import Derived.Test.YtfkilbhhpipjbaaGreatDoorSplitC
namespace Go.Proofs.YtfkilbhhpipjbaaGreatDoor.RefPart
open Go.RowKit
open Go.Proofs.YtfkilbhhpipjbaaGreatDoor.TextMath
open Go.Proofs.YtfkilbhhpipjbaaGreatDoor.ReqMath
open Go.Proofs.YtfkilbhhpipjbaaGreatDoor.Base
open Go.Proofs.YtfkilbhhpipjbaaGreatDoor.Small
open Go.Proofs.YtfkilbhhpipjbaaGreatDoor.Append
open Go.Proofs.YtfkilbhhpipjbaaGreatDoor.Bulk2
open Go.Proofs.YtfkilbhhpipjbaaGreatDoor.Quoted
open Go.Proofs.YtfkilbhhpipjbaaGreatDoor.RefWrite
open Go.Proofs.YtfkilbhhpipjbaaGreatDoor.SplitC
set_option linter.unusedVariables false
theorem ne_int {c d : UInt8} (h : c ≠ d) : ((c.toNat : Int) == (d.toNat : Int)) = false := by
  have : c.toNat ≠ d.toNat := fun e => h (UInt8.toNat_inj.1 e)
  rw [beq_eq_false_iff_ne]; omega
set_option maxRecDepth 100000 in
theorem rblank_call (c : UInt8) (w : World) : Calls Tryz.prog 33 #[.int .u8 (c.toNat : Int)] w fun e w' => e = .returned (.bool (isBlank c)) ∧ w' = w := by
  by_cases h1 : c = 9
  · subst h1
    go_enter Tryz.func33, Tryz.ntmps33
    go_wp2_with fail
    go_ret
    exact ⟨rfl, rfl⟩
  by_cases h2 : c = 10
  · subst h2
    go_enter Tryz.func33, Tryz.ntmps33
    go_wp2_with fail
    go_ret
    exact ⟨rfl, rfl⟩
  by_cases h3 : c = 13
  · subst h3
    go_enter Tryz.func33, Tryz.ntmps33
    go_wp2_with fail
    go_ret
    exact ⟨rfl, rfl⟩
  by_cases h4 : c = 32
  · subst h4
    go_enter Tryz.func33, Tryz.ntmps33
    go_wp2_with fail
    go_ret
    exact ⟨rfl, rfl⟩
  have hb : isBlank c = false := by unfold isBlank; simp [h1, h2, h3, h4]
  rw [hb]
  have e1 : ((c.toNat : Int) == 9) = false := ne_int (d := 9) h1
  have e2 : ((c.toNat : Int) == 10) = false := ne_int (d := 10) h2
  have e3 : ((c.toNat : Int) == 13) = false := ne_int (d := 13) h3
  have e4 : ((c.toNat : Int) == 32) = false := ne_int (d := 32) h4
  clear hb h1 h2 h3 h4
  go_enter Tryz.func33, Tryz.ntmps33
  go_wp2_with fail
  go_ret
  exact ⟨rfl, rfl⟩
theorem ow_one {w W W' : World} {l : List UInt8} {c : UInt8} {v v' : Value} {o : Obj} (h : OW w l v W) (hg : Apd 5 v l.length 1 (Lib.byteCells l ++ [.int .u8 (c.toNat : Int)]) v' (W.alloc o) W') : OW w (l ++ [c]) v' W' := by
  obtain ⟨q1, q2, q3, -⟩ := hg
  have hb : Below w.heap.size w (W.alloc o) := h.2.1.alloc h.2.1.size o
  refine ⟨?_, ?_, fun g hg => (q3 g hg).elim (h.2.2 g) (fun e => Nat.le_trans hb.size e)⟩
  · rw [← cells_snoc, List.length_append]; exact q1
  · exact ((Fr.of_below (F := fun q => w.heap.size ≤ q) hb).trans (fr_grown q2 (fun g hg => h.2.2 g hg))).below (fun x hx => hx)
theorem ow_alloc {w W : World} {l : List UInt8} {v : Value} (h : OW w l v W) (o : Obj) : (W.alloc o).ownsRow 8 5 1 v l.length (Lib.byteCells l) := (h.1).alloc o
@[reducible] def ret2 (a : Value) (n : Int) : Ending := .returned (.tuple #[a, .int .i64 n])
def REnd (w : World) (e : Ending) (w' : World) : Option (List UInt8 × Nat) → Prop
  | none => e = ret2 (.slice none 0 0) (-1) ∧ Below w.heap.size w w'
  | some (x, n) => ∃ v, e = ret2 v n ∧ OW w x v w'
theorem rel_step {q : UInt8} {m : List UInt8 → UInt8 × Nat} {s : ByteArray} {k : Nat} {x : List UInt8} {r : Option (List UInt8 × Nat)} {c c2 : UInt8} {t : List UInt8} {n2 : Nat} (hd : (bs s).drop k = c :: t) (hcq : c ≠ q) (hm : m (c :: t) = (c2, n2)) (hp : 0 < n2) (hr : Rel q m s k x r) : Rel q m s (k + n2) (x ++ [c2]) r := by
  unfold Rel at hr ⊢
  rw [hd, part_step hcq (by rw [hm]; exact hp), hm] at hr
  rw [hr, ← List.drop_drop, hd]
  dsimp only
  cases partS q m ((c :: t).drop n2) with
  | none => rfl
  | some p =>
    show some _ = some _
    congr 1
    simp only [List.append_assoc, List.singleton_append, Prod.mk.injEq, true_and]
    omega
set_option maxHeartbeats 4000000 in
set_option maxRecDepth 100000 in
theorem single_call (s : ByteArray) (i0 : Nat) (hi0 : i0 ≤ s.size) (hz : s.size ≤ 67108864) (w : World) (h8 : 8 ≤ w.heap.size) :
    Calls Tryz.prog 35 #[.string s, .int .i64 (i0 : Int)] w fun e w' => ∀ r, Rel 39 meantS s i0 [] r → REnd w e w' r := by
  go_enter Tryz.func35, Tryz.ntmps35
  go_wp2_with fail
  go_loopg [1, 6, 4, 5] s.size (fun g s1 s6 _ _ wx => ∃ (k : Nat) (x : List UInt8), i0 ≤ k ∧ k ≤ s.size ∧ s.size ≤ k + g ∧ s1 = .int .i64 k ∧ Hid (OW w x s6 wx ∧ x.length ≤ k ∧ (∀ r, Rel 39 meantS s i0 [] r → Rel 39 meantS s k x r)))
  case atStart => exact ⟨i0, [], by omega, hi0, by omega, rfl, ⟨⟨nil_row _, Below.refl _ _, fun g h => (by cases h)⟩, Nat.zero_le _, fun r h => h⟩⟩
  case round =>
    obtain ⟨k, x, hk1, hk, hg, rfl, HR⟩ := hrel
    by_cases hlt : k < s.size
    · obtain ⟨g', rfl⟩ : ∃ g', gk = g' + 1 := ⟨gk - 1, by omega⟩
      obtain ⟨c, hc⟩ : ∃ c, (bs s)[k]? = some c := ⟨_, get_bs s k hlt⟩
      have hix := index_at s k c hc (k : Int) rfl
      have hdr : (bs s).drop k = c :: (bs s).drop (k + 1) := by
        obtain ⟨h2, h3⟩ := List.getElem?_eq_some_iff.1 hc
        rw [List.drop_eq_getElem_cons h2, h3]
      have ew : IntKind.i64.wrap ((k : Int) + 1) = (k : Int) + 1 := IntWalk.i64_in _ (by omega)
      have ew2 : IntKind.i64.wrap ((k : Int) + 2) = (k : Int) + 2 := IntWalk.i64_in _ (by omega)
      have HXL : Hid (x.length + 1 ≤ 1000000000) := by show _ ≤ _; have := HR.out.2.1; omega
      have HD := hid_of hdr
      by_cases hcq : c = 39
      · subst hcq
        clear hdr hc
        go_wp2_with fail
        go_ret2
        intro r hr
        have hq := HR.out.2.2 r hr
        unfold Rel at hq
        rw [HD.out, part_here] at hq
        subst hq
        refine ⟨u6, ?_, ?_⟩
        · show _ = ret2 u6 ((1 + k : Nat) : Int)
          rw [show ((1 + k : Nat) : Int) = (k : Int) + 1 from by omega]
          rfl
        · rw [List.append_nil]; exact HR.out.1
      · have HCQ := hid_of hcq
        have e39 : ((c.toNat : Int) == 39) = false := ne_int (d := 39) hcq
        by_cases h92 : c = 92
        · subst h92
          by_cases hl2 : k + 1 < s.size
          · obtain ⟨d, hd⟩ : ∃ d, (bs s)[k + 1]? = some d := ⟨_, get_bs s (k + 1) hl2⟩
            have hix2 := index_at s (k + 1) d hd ((k : Int) + 1) (by omega)
            have hdr2 : (bs s).drop (k + 1) = d :: (bs s).drop (k + 2) := by
              obtain ⟨h2, h3⟩ := List.getElem?_eq_some_iff.1 hd
              rw [List.drop_eq_getElem_cons h2, h3]
            have gl : (k : Int) + 1 < (s.size : Int) := by omega
            by_cases hd39 : d = 39
            · subst hd39
              have HM : Hid (meantS (92 :: (bs s).drop (k + 1)) = (39, 2)) := by show _ = _; rw [hdr2]; rfl
              clear hdr2 hd
              have HO : Hid ((wr.alloc (.cells #[.int .u8 39] 5)).ownsRow 8 5 1 u6 x.length (Lib.byteCells x)) := ow_alloc HR.out.1 _
              have HZ : Hid (8 ≤ (wr.alloc (.cells #[.int .u8 39] 5)).heap.size) := Nat.le_trans h8 (Nat.le_trans HR.out.1.2.1.size (by simp))
              have HU : Hid ((wr.alloc (.cells #[.int .u8 39] 5)).cell? ⟨wr.heap.size, 0, none⟩ = some (.int .u8 39)) := World.cell?_alloc_new wr #[.int .u8 39] 5 0
              clear hc hdr
              go_wp2_with (at_builtin; refine wpl_one el61 rfl _ _ rfl u6 x.length (Lib.byteCells x) (wr.alloc (.cells #[.int .u8 39] 5)) ⟨wr.heap.size, 0, none⟩ 1 (.int .u8 39) HO.out HZ.out rfl rfl HU.out rfl HXL.out ?_)
              intro v' w2 hap
              have HAP : Hid (Apd 5 u6 x.length 1 (Lib.byteCells x ++ [.int .u8 ((39 : UInt8).toNat : Int)]) v' (wr.alloc (.cells #[.int .u8 39] 5)) w2) := hap
              clear hap
              go_wp2_with fail
              go_roundg (g' + 1 - 2)
              case measure => omega
              case rel => exact ⟨k + 2, x ++ [(39 : UInt8)], by omega, by omega, by omega, by rw [show ((k + 2 : Nat) : Int) = (k : Int) + 2 from by omega], ⟨ow_one HR.out.1 HAP.out, by have := HR.out.2.1; rw [List.length_append, List.length_singleton]; omega, fun r hr => rel_step HD.out HCQ.out HM.out (by decide) (HR.out.2.2 r hr)⟩⟩
            · have ed : ((d.toNat : Int) == 39) = false := ne_int (d := 39) hd39
              have HM : Hid (meantS (92 :: (bs s).drop (k + 1)) = (92, 1)) := by
                show _ = _
                rw [hdr2]
                unfold meantS
                rw [if_neg (fun q => hd39 q.2)]
                rfl
              clear hdr2 hd hd39
              have HO : Hid ((wr.alloc (.cells #[.int .u8 92] 5)).ownsRow 8 5 1 u6 x.length (Lib.byteCells x)) := ow_alloc HR.out.1 _
              have HZ : Hid (8 ≤ (wr.alloc (.cells #[.int .u8 92] 5)).heap.size) := Nat.le_trans h8 (Nat.le_trans HR.out.1.2.1.size (by simp))
              have HU : Hid ((wr.alloc (.cells #[.int .u8 92] 5)).cell? ⟨wr.heap.size, 0, none⟩ = some (.int .u8 92)) := World.cell?_alloc_new wr #[.int .u8 92] 5 0
              clear hc hdr
              go_wp2_with (at_builtin; refine wpl_one el61 rfl _ _ rfl u6 x.length (Lib.byteCells x) (wr.alloc (.cells #[.int .u8 92] 5)) ⟨wr.heap.size, 0, none⟩ 1 (.int .u8 92) HO.out HZ.out rfl rfl HU.out rfl HXL.out ?_)
              intro v' w2 hap
              have HAP : Hid (Apd 5 u6 x.length 1 (Lib.byteCells x ++ [.int .u8 ((92 : UInt8).toNat : Int)]) v' (wr.alloc (.cells #[.int .u8 92] 5)) w2) := hap
              clear hap
              go_wp2_with fail
              go_roundg (g' + 1 - 1)
              case measure => omega
              case rel => exact ⟨k + 1, x ++ [(92 : UInt8)], by omega, by omega, by omega, by rw [show ((k + 1 : Nat) : Int) = (k : Int) + 1 from by omega], ⟨ow_one HR.out.1 HAP.out, by have := HR.out.2.1; rw [List.length_append, List.length_singleton]; omega, fun r hr => rel_step HD.out HCQ.out HM.out (by decide) (HR.out.2.2 r hr)⟩⟩
          · have gl : ¬ (k : Int) + 1 < (s.size : Int) := by omega
            have HM : Hid (meantS (92 :: (bs s).drop (k + 1)) = (92, 1)) := by
              show _ = _
              rw [List.drop_of_length_le (by rw [len_bs]; omega)]
              rfl
            have HO : Hid ((wr.alloc (.cells #[.int .u8 92] 5)).ownsRow 8 5 1 u6 x.length (Lib.byteCells x)) := ow_alloc HR.out.1 _
            have HZ : Hid (8 ≤ (wr.alloc (.cells #[.int .u8 92] 5)).heap.size) := Nat.le_trans h8 (Nat.le_trans HR.out.1.2.1.size (by simp))
            have HU : Hid ((wr.alloc (.cells #[.int .u8 92] 5)).cell? ⟨wr.heap.size, 0, none⟩ = some (.int .u8 92)) := World.cell?_alloc_new wr #[.int .u8 92] 5 0
            clear hc hdr
            go_wp2_with (at_builtin; refine wpl_one el61 rfl _ _ rfl u6 x.length (Lib.byteCells x) (wr.alloc (.cells #[.int .u8 92] 5)) ⟨wr.heap.size, 0, none⟩ 1 (.int .u8 92) HO.out HZ.out rfl rfl HU.out rfl HXL.out ?_)
            intro v' w2 hap
            have HAP : Hid (Apd 5 u6 x.length 1 (Lib.byteCells x ++ [.int .u8 ((92 : UInt8).toNat : Int)]) v' (wr.alloc (.cells #[.int .u8 92] 5)) w2) := hap
            clear hap
            go_wp2_with fail
            go_roundg (g' + 1 - 1)
            case measure => omega
            case rel => exact ⟨k + 1, x ++ [(92 : UInt8)], by omega, by omega, by omega, by rw [show ((k + 1 : Nat) : Int) = (k : Int) + 1 from by omega], ⟨ow_one HR.out.1 HAP.out, by have := HR.out.2.1; rw [List.length_append, List.length_singleton]; omega, fun r hr => rel_step HD.out HCQ.out HM.out (by decide) (HR.out.2.2 r hr)⟩⟩
        · have e92 : ((c.toNat : Int) == 92) = false := ne_int (d := 92) h92
          have HM : Hid (meantS (c :: (bs s).drop (k + 1)) = (c, 1)) := by
            show _ = _
            unfold meantS
            rw [if_neg (fun q => h92 q.1)]
            rfl
          clear hcq h92
          have HO : Hid ((wr.alloc (.cells #[.int .u8 (c.toNat : Int)] 5)).ownsRow 8 5 1 u6 x.length (Lib.byteCells x)) := ow_alloc HR.out.1 _
          have HZ : Hid (8 ≤ (wr.alloc (.cells #[.int .u8 (c.toNat : Int)] 5)).heap.size) := Nat.le_trans h8 (Nat.le_trans HR.out.1.2.1.size (by simp))
          have HU : Hid ((wr.alloc (.cells #[.int .u8 (c.toNat : Int)] 5)).cell? ⟨wr.heap.size, 0, none⟩ = some (.int .u8 (c.toNat : Int))) := World.cell?_alloc_new wr #[.int .u8 (c.toNat : Int)] 5 0
          clear hc hdr
          go_wp2_with (at_builtin; refine wpl_one el61 rfl _ _ rfl u6 x.length (Lib.byteCells x) (wr.alloc (.cells #[.int .u8 (c.toNat : Int)] 5)) ⟨wr.heap.size, 0, none⟩ 1 (.int .u8 (c.toNat : Int)) HO.out HZ.out rfl rfl HU.out rfl HXL.out ?_)
          intro v' w2 hap
          have HAP : Hid (Apd 5 u6 x.length 1 (Lib.byteCells x ++ [.int .u8 (c.toNat : Int)]) v' (wr.alloc (.cells #[.int .u8 (c.toNat : Int)] 5)) w2) := hap
          clear hap
          go_wp2_with fail
          go_roundg (g' + 1 - 1)
          case measure => omega
          case rel => exact ⟨k + 1, x ++ [c], by omega, by omega, by omega, by rw [show ((k + 1 : Nat) : Int) = (k : Int) + 1 from by omega], ⟨ow_one HR.out.1 HAP.out, by have := HR.out.2.1; rw [List.length_append, List.length_singleton]; omega, fun r hr => rel_step HD.out HCQ.out HM.out (by decide) (HR.out.2.2 r hr)⟩⟩
    · have gl : ¬ (k : Int) < (s.size : Int) := by omega
      go_wp2_with fail
      go_ret2
      intro r hr
      have hq := HR.out.2.2 r hr
      unfold Rel at hq
      rw [List.drop_of_length_le (by rw [len_bs]; omega), part_none] at hq
      subst hq
      exact ⟨rfl, HR.out.1.2.1⟩
end Go.Proofs.YtfkilbhhpipjbaaGreatDoor.RefPart
