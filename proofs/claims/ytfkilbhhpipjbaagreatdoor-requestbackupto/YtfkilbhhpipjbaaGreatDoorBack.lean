/- RequestBack, walked. -/
import Derived.Test.YtfkilbhhpipjbaaGreatDoorWrites
import Derived.Test.YtfkilbhhpipjbaaGreatDoorRight
import Derived.Test.YtfkilbhhpipjbaaGreatDoorDouble2
namespace Go.Proofs.YtfkilbhhpipjbaaGreatDoor.Back
open Go.RowKit
open Go.Proofs.YtfkilbhhpipjbaaGreatDoor.TextMath
open Go.Proofs.YtfkilbhhpipjbaaGreatDoor.ReqMath
open Go.Proofs.YtfkilbhhpipjbaaGreatDoor.Base
open Go.Proofs.YtfkilbhhpipjbaaGreatDoor.Small
open Go.Proofs.YtfkilbhhpipjbaaGreatDoor.BulkAny
open Go.Proofs.YtfkilbhhpipjbaaGreatDoor.SplitC
open Go.Proofs.YtfkilbhhpipjbaaGreatDoor.Lists
open Go.Proofs.YtfkilbhhpipjbaaGreatDoor.WriteC
open Go.Proofs.YtfkilbhhpipjbaaGreatDoor.Whole
open Go.Proofs.YtfkilbhhpipjbaaGreatDoor.Writes
open Go.Proofs.YtfkilbhhpipjbaaGreatDoor.Right
open Go.Proofs.YtfkilbhhpipjbaaGreatDoor.Sure
set_option linter.unusedVariables false
def allW (rs : List (List (List UInt8))) : List UInt8 := rs.flatMap writeS
def wsum2 (l : List (List (List UInt8))) : Nat := (l.map (fun x => wsum x)).sum
theorem allW_snoc (rs : List (List (List UInt8))) (k : Nat) (h : k < rs.length) : allW (rs.take (k + 1)) = allW (rs.take k) ++ writeS (rs[k]'h) := by
  unfold allW
  rw [List.take_succ_eq_append_getElem h, List.flatMap_append]
  simp
theorem wsum2_mem : ∀ (l : List (List (List UInt8))) (r : List (List UInt8)), r ∈ l → wsum r ≤ wsum2 l
  | x :: l, r, h => by
    have ew : wsum2 (x :: l) = wsum x + wsum2 l := rfl
    rcases List.mem_cons.1 h with rfl | h
    · omega
    · have := wsum2_mem l r h; omega
theorem allW_bound : ∀ l : List (List (List UInt8)), wsum2 l ≤ 1048576 → (∀ r, r ∈ l → r ≠ []) → (allW l).length ≤ 60 * wsum2 l
  | [], _, _ => Nat.zero_le _
  | r :: l, hs, hne => by
    have ew : wsum2 (r :: l) = wsum r + wsum2 l := rfl
    have ih := allW_bound l (by omega) (fun x hx => hne x (List.mem_cons_of_mem _ hx))
    have hr : wsum r ≤ 1048576 := by omega
    have hb := write_bound r (Nat.le_trans (wsum_len r) hr) (fun a ha => Nat.le_trans (wsum_mem r a ha) hr)
    have h1 : 1 ≤ wsum r := by
      have h2 := wsum_len r
      have h3 : r.length ≠ 0 := fun e => hne r (List.mem_cons_self ..) (List.length_eq_zero_iff.1 e)
      omega
    have e : allW (r :: l) = writeS r ++ allW l := rfl
    rw [e, List.length_append]
    omega
theorem allW_le (l : List (List (List UInt8))) (k : Nat) : (allW (l.take k)).length ≤ (allW l).length := by
  have : l = l.take k ++ l.drop k := (List.take_append_drop k l).symm
  have e : allW l = allW (l.take k) ++ allW (l.drop k) := by
    conv => lhs; rw [this]
    unfold allW
    rw [List.flatMap_append]
  rw [e, List.length_append]
  omega
set_option maxRecDepth 100000 in
set_option maxHeartbeats 2000000 in
theorem back_no (x y z : Int) (h : okB x y z = false) (a : Option Addr) (n c : Nat) (w : World) (hh : Has w) :
    Calls Tryz.prog 8 #[.agg #[.int .i64 x, .int .i64 y, .int .i64 z], .slice a n c] w fun e w' => e = .returned (.bool true) ∧ Below w.heap.size w w' := by
  have H13 := hid_of (rcheck_no x y z h)
  have H14 := hid_of (fun w2 (h2 : Has w2) => sure_call w2 h2)
  have HH := hid_of hh
  clear h hh
  go_enter Tryz.func8, Tryz.ntmps8
  go_wp2_with fail
  refine (H13.out _).mono ?_
  rintro e w1 ⟨rfl, b1⟩
  have B1 : Hid (Below w.heap.size w w1) := (alloc_b w _).trans (b1.mono (by simp))
  clear b1
  go_wp2_with fail
  refine (H14.out _ (HH.out.later B1.out)).mono ?_
  rintro e w2 ⟨rfl, b2⟩
  have B2 := hid_of (B1.out.trans (b2.mono B1.out.size))
  clear b2
  go_wp2_with fail
  go_ret
  exact ⟨rfl, B2.out⟩
set_option maxRecDepth 100000 in
set_option maxHeartbeats 4000000 in
theorem back_yes (L : Lim) (h : okB L.bulk L.args L.line = true) (v : Value) (rs : List (List (List UInt8))) (w : World) (hv : AR w v rs) (hh : Has w) (hs : wsum2 rs ≤ 1048576) (hn : rs.length ≤ 1048576) :
    Calls Tryz.prog 8 #[limV L, v] w fun e w' => e = .returned (.bool true) ∧ Below w.heap.size w w' := by
  have hL := lok_of h
  have hrl : ∀ r, r ∈ rs → r.length ≤ 1048576 := fun r hr => Nat.le_trans (wsum_len r) (Nat.le_trans (wsum2_mem rs r hr) hs)
  have hal : ∀ r, r ∈ rs → ∀ a, a ∈ r → a.length ≤ 1048576 := fun r hr a ha => Nat.le_trans (wsum_mem r a ha) (Nat.le_trans (wsum2_mem rs r hr) hs)
  have H13 := hid_of (fun w1 => rcheck_ok L.bulk L.args L.line h w1)
  have H29 := hid_of (fun w1 (h1 : Below w.heap.size w w1) => right_call L hL v rs w1 (ar_below hv h1) (by omega) (fun r hr => Nat.le_trans (hrl r hr) (by decide)) (fun r hr a ha => Nat.le_trans (hal r hr a ha) (by decide)))
  have H14 := hid_of (fun w2 (h2 : Has w2) => sure_call w2 h2)
  have H9 := hid_of (fun (s : ByteArray) (hz : s.size ≤ 67108864) w1 (h1 : Has w1) => whole_call L h s hz w1 h1 (Or.inr Double2.double_means))
  have H11 := hid_of (fun u w1 (hu : AR w1 u rs) (h1 : Below w.heap.size w w1) => all_call u v rs rs w1 hu (ar_below hv h1) (by omega) (fun r hr => Nat.le_trans (hrl r hr) (by decide)))
  have hdec : decide (rs = rs) = true := decide_eq_true rfl
  rw [hdec] at H11
  have HH := hid_of hh
  have HRL := hid_of (And.intro hrl hal)
  have HS := hid_of hs
  have HLK := hid_of hL
  obtain ⟨a, c, rfl, hv⟩ := hv
  have HV := hid_of hv
  clear h hh hrl hal hdec hv hs hL
  unfold limV wh at *
  have hnot : ∀ (x : Bool) (w : World), (Op.unary .not (.bool x)).run Tryz.prog w = .ok (.bool (!x)) w := fun _ _ => rfl
  obtain ⟨wa, hwa⟩ : ∃ wa, wa = w.alloc (.cells #[.int .i64 L.bulk, .int .i64 L.args, .int .i64 L.line] 23) := ⟨_, rfl⟩
  have HB : Hid (∀ w', Below wa.heap.size wa w' → Below w.heap.size w w' ∧ w'.cell? ⟨w.heap.size, 0, none⟩ = some (.int .i64 L.bulk) ∧ w'.cell? ⟨w.heap.size, 1, none⟩ = some (.int .i64 L.args) ∧ w'.cell? ⟨w.heap.size, 2, none⟩ = some (.int .i64 L.line)) := by
    intro w' hb
    have hz0 : wa.heap[w.heap.size]? = some (.cells #[.int .i64 L.bulk, .int .i64 L.args, .int .i64 L.line] 23 (0, 0)) := by rw [hwa]; exact heap_alloc_new w _
    have hz1 : w'.heap[w.heap.size]? = some (.cells #[.int .i64 L.bulk, .int .i64 L.args, .int .i64 L.line] 23 (0, 0)) := (hb.block _ (lt_of hz0)).trans hz0
    refine ⟨?_, by rw [Lib.cell_of_heap hz1]; rfl, by rw [Lib.cell_of_heap hz1]; rfl, by rw [Lib.cell_of_heap hz1]; rfl⟩
    have h0 : Below w.heap.size w wa := by rw [hwa]; exact alloc_b w _
    exact h0.trans (hb.mono h0.size)
  go_enter Tryz.func8, Tryz.ntmps8
  go_wp2_with fail
  rw [← hwa]
  clear hwa
  refine (H13.out _).mono ?_
  rintro e w1 ⟨rfl, b1⟩
  have B1 := hid_of b1
  obtain ⟨-, p0, p1, p2⟩ := HB.out _ b1
  clear b1
  go_wp2_with fail
  refine (H29.out _ (HB.out _ B1.out).1).mono ?_
  rintro e w2 ⟨b, rfl, hg, b2⟩
  have B2 := hid_of (B1.out.trans (b2.mono B1.out.size))
  have HG := hid_of hg
  clear b2 hg p0 p1 p2
  cases b with
  | false =>
    go_wp2_with fail
    refine (H14.out _ (HH.out.later (HB.out _ B2.out).1)).mono ?_
    rintro e w3 ⟨rfl, b3⟩
    have B3 := hid_of ((HB.out _ B2.out).1.trans (b3.mono (HB.out _ B2.out).1.size))
    clear b3
    go_wp2_with fail
    go_ret
    exact ⟨rfl, B3.out⟩
  | true =>
    have HGD := hid_of (HG.out rfl)
    have HZ : Hid ((allW rs).length ≤ 67108864) := by
      have := allW_bound rs HS.out (fun r hr => (HGD.out r hr).1)
      have h2 := HS.out
      show _ ≤ _
      omega
    clear HG
    go_wp2_with fail
    go_loopg [5, 6] rs.length (fun g s5 s6 wx => ∃ (k : Nat) (t : ByteArray), k ≤ rs.length ∧ rs.length ≤ k + g ∧ s5 = .string t ∧ s6 = .int .i64 k ∧ Hid (bs t = allW (rs.take k) ∧ Below wa.heap.size wa wx))
    case atStart => exact ⟨0, ⟨#[]⟩, by omega, by omega, rfl, rfl, rfl, B2.out⟩
    case round =>
      obtain ⟨k, t, hk, hg, rfl, rfl, HR⟩ := hrel
      by_cases hlt : k < rs.length
      · obtain ⟨g', rfl⟩ : ∃ g', gk = g' + 1 := ⟨gk - 1, by omega⟩
        obtain ⟨gv, ov, rfl, hcv⟩ : ∃ g o, a = some ⟨g, o, none⟩ ∧ ∀ k (h : k < rs.length), ∃ u, w.cell? ⟨g, o + k, none⟩ = some u ∧ SR w u (rs[k]'h) := by
          rcases HV.out with h | h
          · subst h; exact absurd hlt (by simp)
          · exact h
        obtain ⟨X, c1w, s1w⟩ := hcv k hlt
        have bw := (HB.out _ HR.out.2).1
        have c1 : wr.cell? ⟨gv, ov + k, none⟩ = some X := cell_below bw _ _ c1w
        have hm := List.getElem_mem hlt
        have hwl : (writeS (rs[k]'hlt)).length ≤ 67108864 ∧ t.size ≤ 67108864 := by
          have h1 := allW_le rs (k + 1)
          have h2 := HZ.out
          rw [allW_snoc rs k hlt, List.length_append] at h1
          have h3 : t.size = (allW (rs.take k)).length := by rw [← HR.out.1, len_bs]
          omega
        have H18 := hid_of (fun w3 (h3 : Below w.heap.size w w3) => write_call X (rs[k]'hlt) w3 (sr_below s1w h3) (HH.out.later h3) (HRL.out.1 _ hm) (HRL.out.2 _ hm) (by omega))
        have HSN := hid_of (allW_snoc rs k hlt)
        have hsz : (mk (writeS (rs[k]'hlt))).size ≤ 67108864 := by rw [mk_size]; exact hwl.1
        have hts := hwl.2
        have HTB : Hid (bs (mk (writeS (rs[k]'hlt))) = writeS (rs[k]'hlt)) := bs_mk _
        obtain ⟨aa, cc, rfl, -⟩ := s1w
        have ew : IntKind.i64.wrap ((k : Int) + 1) = (k : Int) + 1 := IntWalk.i64_in _ (by omega)
        have gi : ((k : Int)) < (rs.length : Int) := by omega
        clear hcv c1w hwl hm bw
        generalize mk (writeS (rs[k]'hlt)) = T at *
        generalize writeS (rs[k]'hlt) = WL at *
        go_wp2_with fail
        refine (H18.out _ (HB.out _ HR.out.2).1).mono ?_
        rintro e w3 ⟨rfl, b3⟩
        have B3 := hid_of (HR.out.2.trans (b3.mono HR.out.2.size))
        clear b3 c1
        go_wp2_with fail
        go_roundg g'
        case measure => omega
        case rel => exact ⟨k + 1, t ++ T, by omega, by omega, rfl, by rw [show ((k + 1 : Nat) : Int) = (k : Int) + 1 from by omega], by rw [Grow.app_bs, HR.out.1, HTB.out, HSN.out], B3.out⟩
      · have gi : ¬ ((k : Int)) < (rs.length : Int) := by omega
        have hkk : rs.take k = rs := List.take_of_length_le (by omega)
        have ht : bs t = allW rs := by rw [HR.out.1, hkk]
        have htz : t.size ≤ 67108864 := by rw [← len_bs, ht]; exact HZ.out
        have H9t : Hid (Calls Tryz.prog 9 #[.agg #[.int .i64 L.bulk, .int .i64 L.args, .int .i64 L.line], .string t] wr fun e w' => ∃ v, e = .returned (.tuple #[v, .string ⟨#[]⟩, .int .i64 (t.size : Int)]) ∧ WA w' v rs ∧ Below wr.heap.size wr w') := by
          have h1 := H9.out t htz wr (HH.out.later (HB.out _ HR.out.2).1)
          have h2 : wholeS L (bs t) = ⟨rs, [], t.size⟩ := by
            rw [← len_bs, ht]
            exact whole_write L HLK.out.line.1 HLK.out.bulk.2 (Nat.le_trans HLK.out.args.2 (by decide)) rs HGD.out
          rw [h2] at h1
          exact h1
        obtain ⟨-, p0, p1, p2⟩ := HB.out _ HR.out.2
        have heq : ((t.size : Int) == (t.size : Int)) = true := by simp
        clear hkk ht
        go_wp2_with fail
        refine H9t.out.mono ?_
        rintro e w3 ⟨v3, rfl, a3, b3⟩
        have B3 := hid_of (HR.out.2.trans (b3.mono HR.out.2.size))
        have A3 := hid_of (ar_wa a3)
        clear b3 a3 p0 p1 p2
        obtain ⟨a4, c4, rfl, -⟩ := A3.out
        go_wp2_with fail
        refine (H11.out _ _ A3.out (HB.out _ B3.out).1).mono ?_
        rintro e w4 ⟨rfl, n, hw⟩
        have B4 : Hid (Below w.heap.size w w4) := by rw [hw]; exact (HB.out _ B3.out).1.trans ((Bulk.bdN _ n).mono (HB.out _ B3.out).1.size)
        clear hw
        go_wp2_with fail
        refine (H14.out _ (HH.out.later B4.out)).mono ?_
        rintro e w5 ⟨rfl, b5⟩
        have B5 := hid_of (B4.out.trans (b5.mono B4.out.size))
        clear b5
        go_wp2_with fail
        go_ret
        exact ⟨rfl, B5.out⟩
end Go.Proofs.YtfkilbhhpipjbaaGreatDoor.Back
