/- RequestWrites, walked. -/
import Derived.Test.YtfkilbhhpipjbaaGreatDoorRefWrite
import Derived.Test.YtfkilbhhpipjbaaGreatDoorSure
namespace Go.Proofs.YtfkilbhhpipjbaaGreatDoor.Writes
open Go.RowKit
open Go.Proofs.YtfkilbhhpipjbaaGreatDoor.TextMath
open Go.Proofs.YtfkilbhhpipjbaaGreatDoor.ReqMath
open Go.Proofs.YtfkilbhhpipjbaaGreatDoor.Base
open Go.Proofs.YtfkilbhhpipjbaaGreatDoor.Small
open Go.Proofs.YtfkilbhhpipjbaaGreatDoor.Append
open Go.Proofs.YtfkilbhhpipjbaaGreatDoor.Bulk2
open Go.Proofs.YtfkilbhhpipjbaaGreatDoor.Lists
open Go.Proofs.YtfkilbhhpipjbaaGreatDoor.WriteC
open Go.Proofs.YtfkilbhhpipjbaaGreatDoor.RefWrite
open Go.Proofs.YtfkilbhhpipjbaaGreatDoor.Word
open Go.Proofs.YtfkilbhhpipjbaaGreatDoor.Sure
set_option linter.unusedVariables false
/- a row of texts copied into a new one -/
theorem copy_strs (v : Value) (l : List (List UInt8)) (w : World) (hv : SR w v l) (h8 : 8 ≤ w.heap.size) (hl : l.length ≤ 1048576) :
    ∃ v' w', (Builtin.append_ #[33, 33] 33 #[.slice none 0 0, v]).run Tryz.prog w = .ok v' w' ∧ SR w' v' l ∧ Below w.heap.size w w' := by
  obtain ⟨a, c, rfl, h⟩ := hv
  cases a with
  | none =>
    have hl0 : l = [] := by
      rcases h with h | ⟨g, o, h1, _⟩
      · exact h
      · cases h1
    subst hl0
    refine ⟨.slice none 0 0, w, ?_, ⟨none, 0, rfl, Or.inl rfl⟩, Below.refl _ _⟩
    kernel_rfl
  | some ad =>
    obtain ⟨v', w', hr, h1, h2, h3, h4⟩ := append_where el33 33 w (.slice none 0 0) 0 [] (World.ownsRow_nil _ _ _ _) h8 ad l.length c (strC l) (by unfold strC; simp) (by
      intro j u hu
      unfold strC at hu
      rw [List.getElem?_map] at hu
      rcases h with h | ⟨g, o, hq, h5⟩
      · subst h; cases hu
      · cases hq
        rw [add_off]
        cases hj : l[j]? with
        | none => rw [hj] at hu; cases hu
        | some x =>
          rw [hj] at hu
          cases hu
          obtain ⟨hlt, rfl⟩ := List.getElem?_eq_some_iff.1 hj
          exact h5 j hlt) (by
      intro u hu
      obtain ⟨_, _, rfl⟩ := List.mem_map.1 hu
      rfl) (by omega)
    refine ⟨v', w', hr, ?_, (fr_grown (F := fun _ => False) h2 (fun g hg => by cases hg)).below (fun x hx => hx.elim)⟩
    rw [Nat.zero_add, List.nil_append] at h1
    exact sr_ws h1
def wsum (l : List (List UInt8)) : Nat := (l.map (fun x => x.length + 1)).sum
theorem bulks_bound : ∀ l : List (List UInt8), (∀ a, a ∈ l → a.length ≤ 1048576) → (bulksW l).length ≤ 30 * wsum l
  | [], _ => Nat.zero_le _
  | a :: l, h => by
    have ih := bulks_bound l (fun x hx => h x (List.mem_cons_of_mem _ hx))
    have hd := dec_short (h a (List.mem_cons_self ..))
    have e : bulksW (a :: l) = bulkW a ++ bulksW l := rfl
    have ew : wsum (a :: l) = (a.length + 1) + wsum l := rfl
    rw [e, ew, List.length_append]
    have : (bulkW a).length = 1 + (Lib.decDigits a.length).length + 2 + a.length + 2 := by unfold bulkW; simp; omega
    omega
theorem write_bound (l : List (List UInt8)) (hn : l.length ≤ 1048576) (h : ∀ a, a ∈ l → a.length ≤ 1048576) : (writeS l).length ≤ 30 + 30 * wsum l := by
  have := bulks_bound l h
  have hd := dec_short hn
  rw [write_parts, List.length_append]
  have : (headW l.length).length = 1 + (Lib.decDigits l.length).length + 2 := by unfold headW; simp; omega
  omega
theorem wsum_len : ∀ l : List (List UInt8), l.length ≤ wsum l
  | [] => Nat.zero_le _
  | a :: l => by
    have := wsum_len l
    have ew : wsum (a :: l) = (a.length + 1) + wsum l := rfl
    rw [ew, List.length_cons]; omega
theorem wsum_mem : ∀ (l : List (List UInt8)) (a : List UInt8), a ∈ l → a.length ≤ wsum l
  | x :: l, a, h => by
    have ew : wsum (x :: l) = (x.length + 1) + wsum l := rfl
    rcases List.mem_cons.1 h with rfl | h
    · omega
    · have := wsum_mem l a h; omega
set_option maxRecDepth 100000 in
set_option maxHeartbeats 2000000 in
theorem writes_walk (v : Value) (l : List (List UInt8)) (w : World) (hv : SR w v l) (hh : Has w) (hb : wsum l ≤ 1048576) :
    Calls Tryz.prog 5 #[v] w fun e w' => e = .returned (.bool true) ∧ Below w.heap.size w w' := by
  have hn : l.length ≤ 1048576 := Nat.le_trans (wsum_len l) hb
  have ha : ∀ a, a ∈ l → a.length ≤ 1048576 := fun a h => Nat.le_trans (wsum_mem l a h) hb
  have hwb : (writeS l).length ≤ 500000000 := by have := write_bound l hn ha; omega
  obtain ⟨v1, w1, hr, s1, b1⟩ := copy_strs v l w hv hh.size hn
  have B1 := hid_of b1
  have HH1 := hid_of (hh.later b1)
  have H18 := hid_of (write_call v1 l w1 s1 (hh.later b1) hn ha hwb)
  have H19 := hid_of (fun w2 (h2 : Below w1.heap.size w1 w2) => rwrite_call v l w2 (sr_below (sr_below hv b1) h2) (Nat.le_trans (hh.later b1).size h2.size) hn ha hwb)
  have H17 := hid_of (fun w2 (h2 : Below w1.heap.size w1 w2) => same_call v1 v l l w2 (sr_below s1 h2) (sr_below (sr_below hv b1) h2) (by omega))
  have H14 := hid_of (fun w2 (h2 : Has w2) => sure_call w2 h2)
  obtain ⟨a, c, rfl, -⟩ := hv
  obtain ⟨a1, c1, rfl, -⟩ := s1
  have hdec : decide (l = l) = true := decide_eq_true rfl
  rw [hdec] at H17
  clear hb hn ha hwb b1 hh hdec
  have hself : ((mk (writeS l)).toList == (mk (writeS l)).toList) = true := by simp
  generalize mk (writeS l) = T at *
  go_enter Tryz.func5, Tryz.ntmps5
  go_wp2_with (at_builtin; refine wpl_eq rfl _ _ 33 33 rfl (.slice none 0 0) (.slice a l.length c) (.slice a1 l.length c1) w w1 rfl rfl hr ?_)
  refine H18.out.mono ?_
  rintro e w2 ⟨rfl, b2⟩
  have B2 := hid_of b2
  clear b2
  go_wp2_with fail
  refine (H19.out _ B2.out).mono ?_
  rintro e w3 ⟨rfl, b3⟩
  have B3 := hid_of (B2.out.trans (b3.mono B2.out.size))
  clear b3
  go_wp2_with fail
  refine (H17.out _ B3.out).mono ?_
  rintro e w4 ⟨rfl, n, hw⟩
  have B4 : Hid (Below w1.heap.size w1 w4) := by rw [hw]; exact B3.out.trans ((Bulk.bdN _ n).mono B3.out.size)
  clear hw
  go_wp2_with fail
  refine (H14.out _ (HH1.out.later B4.out)).mono ?_
  rintro e w5 ⟨rfl, b5⟩
  have B5 := hid_of (B1.out.trans ((B4.out.trans (b5.mono B4.out.size)).mono B1.out.size))
  clear b5
  go_wp2_with fail
  go_ret
  exact ⟨rfl, B5.out⟩
end Go.Proofs.YtfkilbhhpipjbaaGreatDoor.Writes
