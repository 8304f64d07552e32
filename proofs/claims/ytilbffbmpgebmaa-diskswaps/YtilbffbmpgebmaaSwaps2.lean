/- swaps, walked. -/
import Derived.Test.YtilbffbmpgebmaaSwaps
namespace Go.Proofs.Ytilbffbmpgebmaa.Swaps2
open Go.RowKit Go.Maps Go.Sort
open Go.Proofs.Ytilbffbmpgebmaa.DiskMath
open Go.Proofs.Ytilbffbmpgebmaa.Base
open Go.Proofs.Ytilbffbmpgebmaa.Small
open Go.Proofs.Ytilbffbmpgebmaa.File2
open Go.Proofs.Ytilbffbmpgebmaa.Crash
open Go.Proofs.Ytilbffbmpgebmaa.Swaps
set_option linter.unusedVariables false

theorem str_eq (s t : ByteArray) (h : s = t) : (s.toList == t.toList) = true := by rw [h]; simp
/- the numbers of an argument stand -/
theorem int_later {w wk : World} {base : Nat} {v : Value} {bytes : List Int} (h : IntSl w v bytes) (hb : Below w.heap.size w wk) (hbase : base = wk.heap.size ∨ w.heap.size ≤ base) (hle : w.heap.size ≤ base) : ∀ W, Ev DT base wk W → IntSl W v bytes := by
  intro W hW
  obtain ⟨a, c, rfl, h⟩ := h
  refine ⟨a, c, rfl, h.imp id ?_⟩
  rintro ⟨g, o, rfl, hc⟩
  refine ⟨g, o, rfl, fun j hj => ?_⟩
  have h1 := hc j hj
  have hg : g < w.heap.size := by
    unfold World.cell? at h1
    by_cases hh : g < w.heap.size
    · exact hh
    · rw [show w.heap[({ block := g, off := o + j, spot := none } : Addr).block]? = none from Array.getElem?_eq_none (Nat.le_of_not_lt hh)] at h1
      simp at h1
  have e : W.heap[g]? = w.heap[g]? := (hW.block g (Nat.lt_of_lt_of_le hg hb.size) (Or.inl (by omega))).trans (hb.block g hg)
  rw [← h1]
  unfold World.cell?
  rw [e]
def sA : ByteArray := ⟨#[97]⟩
def sB : ByteArray := ⟨#[98]⟩
set_option maxHeartbeats 4000000 in
set_option maxRecDepth 100000 in
theorem swaps_call (o f : ByteArray) (cn : Int) (a0 : Option Addr) (n0 c0 : Nat) (bytes : List Int) (sy : Bool) (w : World) (ho : o.size ≤ 140737488355328) (hf : f.size ≤ 140737488355328) (hbl : bytes.length ≤ 9223372036854775807) (hI : IntSl w (.slice a0 n0 c0) bytes) :
    Calls Try.prog 21 #[.string o, .string f, .agg #[.int .i64 cn, .slice a0 n0 c0], .bool sy] w fun e w' => e = .returned (.bool true) ∧ Below w.heap.size w w' := by
  have HN := hid_of (new_call (w.alloc (.cells #[.int .i64 cn, .slice a0 n0 c0] 36)))
  have BX : Hid ((w.alloc (.cells #[.int .i64 cn, .slice a0 n0 c0] 36)).heap[w.heap.size]? = some (.cells #[.int .i64 cn, .slice a0 n0 c0] 36 (0, 0))) := heap_alloc_new w _
  have B0 : Hid (Below w.heap.size w (w.alloc (.cells #[.int .i64 cn, .slice a0 n0 c0] 36))) := (Below.refl _ w).alloc (Nat.le_refl _) _
  have s1 : (w.alloc (.cells #[.int .i64 cn, .slice a0 n0 c0] 36)).heap.size = w.heap.size + 1 := by simp
  have HI := hid_of hI
  have HO := hid_of (And.intro ho (And.intro hf hbl))
  have hfe := str_eq f f rfl
  have hoe := str_eq o o rfl
  have HS1 := hid_of s1
  obtain ⟨base, hbase⟩ : ∃ base, base = (w.alloc (.cells #[.int .i64 cn, .slice a0 n0 c0] 36)).heap.size := ⟨_, rfl⟩
  rw [← hbase] at HN
  have HBS := hid_of hbase
  obtain ⟨b, hbd⟩ : ∃ b, b = base + 2 := ⟨_, rfl⟩
  rw [← hbd] at HN
  unfold ptr at HN
  clear hI ho hf hbl s1 hbase hbd
  go_enter Try.func21, Try.ntmps21
  go_wp2_with fail
  refine HN.out.mono ?_
  rintro e w1 ⟨rfl, k1, e1⟩
  have K1 := hid_of (show Has base b new w1 from k1)
  have V1 : Hid (Below base (w.alloc (.cells #[.int .i64 cn, .slice a0 n0 c0] 36)) w1) := e1
  clear k1 e1
  have C1 := hid_of (op_create (s := ⟨#[97]⟩) t1 K1.out rfl (by decide) (by decide))
  go_wp2_with fail
  refine C1.out.mono ?_
  rintro e w2 ⟨rfl, k2, e2⟩
  have K2 := hid_of k2
  have E2 := hid_of e2
  clear k2 e2 C1
  have C2 := hid_of (op_append (s := ⟨#[97]⟩) (t := o) (t2 (bs o)) K2.out rfl (by decide) (by decide) (fun x hx => by cases hx; show 0 + o.size ≤ _; have := HO.out.1; omega) (by have := HO.out.1; omega))
  go_wp2_with fail
  refine C2.out.mono ?_
  rintro e w3 ⟨rfl, k3, e3⟩
  have K3 := hid_of k3
  have E3 := hid_of (E2.out.trans e3)
  clear k3 e3 C2
  have C3 := hid_of (op_sync (s := ⟨#[97]⟩) (t3 (bs o)) K3.out rfl (by decide) (show (2 : Nat) + 1 < 1099511627776 by decide))
  go_wp2_with fail
  refine C3.out.mono ?_
  rintro e w4 ⟨rfl, k4, e4⟩
  have K4 := hid_of k4
  have E4 := hid_of (E3.out.trans e4)
  clear k4 e4 C3
  have C4 := hid_of (op_names (t4 (bs o)) K4.out rfl (show (3 : Nat) + 1 < 1099511627776 by decide))
  go_wp2_with fail
  refine C4.out.mono ?_
  rintro e w5 ⟨rfl, k5, e5⟩
  have K5 := hid_of k5
  have E5 := hid_of (E4.out.trans e5)
  clear k5 e5 C4
  have C5 := hid_of (op_create (s := ⟨#[98]⟩) (t5 (bs o)) K5.out rfl (by decide) (show (4 : Nat) + 1 < 1099511627776 by decide))
  go_wp2_with fail
  refine C5.out.mono ?_
  rintro e w6 ⟨rfl, k6, e6⟩
  have K6 := hid_of k6
  have E6 := hid_of (E5.out.trans e6)
  clear k6 e6 C5
  have C6 := hid_of (op_append (s := ⟨#[98]⟩) (t := f) (t6 (bs o) (bs f)) K6.out rfl (by decide) (show (5 : Nat) + 1 < 1099511627776 by decide) (fun x hx => by cases hx; show 0 + f.size ≤ _; have := HO.out.2.1; omega) (by have := HO.out.2.1; omega))
  go_wp2_with fail
  refine C6.out.mono ?_
  rintro e w7 ⟨rfl, k7, e7⟩
  have K7 := hid_of k7
  have E7 := hid_of (E6.out.trans e7)
  clear k7 e7 C6
  have C7 := hid_of (op_sync (s := ⟨#[98]⟩) (t7 (bs o) (bs f)) K7.out rfl (by decide) (show (6 : Nat) + 1 < 1099511627776 by decide))
  go_wp2_with fail
  refine C7.out.mono ?_
  rintro e w8 ⟨rfl, k8, e8⟩
  have K8 := hid_of k8
  have E8 := hid_of (E7.out.trans e8)
  clear k8 e8 C7
  have C8 := hid_of (op_rename (s := ⟨#[98]⟩) (t := ⟨#[97]⟩) (t8 (bs o) (bs f)) K8.out rfl (by decide) (by decide) (show (7 : Nat) + 1 < 1099511627776 by decide))
  go_wp2_with fail
  refine C8.out.mono ?_
  rintro e w9 ⟨rfl, k9, e9⟩
  have K9 := hid_of k9
  have E9 := hid_of (E8.out.trans e9)
  clear k9 e9 C8
  -- the box and the numbers stand in every world that this one comes to
  have HX : Hid (∀ W, Ev DT base w1 W → W.heap[w.heap.size]? = some (.cells #[.int .i64 cn, .slice a0 n0 c0] 36 (0, 0)) ∧ IntSl W (.slice a0 n0 c0) bytes ∧ Below w.heap.size w W) := by
    intro W hW
    have hb : base = w.heap.size + 1 := HBS.out.trans HS1.out
    have hlt : w.heap.size < base := by omega
    have h1 : w1.heap[w.heap.size]? = _ := (V1.out.block w.heap.size hlt).trans BX.out
    have hB1 : Below w.heap.size w w1 := B0.out.trans (V1.out.mono (by omega))
    have hsz := lt_of h1
    refine ⟨(hW.block _ hsz (Or.inl hlt)).trans h1, int_later HI.out hB1 (Or.inr (by omega)) (by omega) W hW, hB1.trans ⟨hW.os, hW.tape, hW.output, hW.size, fun k hk => hW.block k (Nat.lt_of_lt_of_le hk hB1.size) (Or.inl (by omega))⟩⟩
  cases sy with
  | false =>
    have C9 := hid_of (op_read (s := ⟨#[97]⟩) (t := f) (r8 (bs o) (bs f)) K9.out (by decide))
    go_wp2_with fail
    refine C9.out.mono ?_
    rintro e w10 ⟨rfl, k10, e10⟩
    have K10 := hid_of k10
    have E10 := hid_of (E9.out.trans e10)
    clear k10 e10 C9
    have bx := (HX.out w10 E10.out).1
    have x0 : w10.cell? ⟨w.heap.size, 0, none⟩ = some (.int .i64 cn) := Lib.cell_of_heap bx 0
    have x1 : w10.cell? ⟨w.heap.size, 1, none⟩ = some (.slice a0 n0 c0) := Lib.cell_of_heap bx 1
    have C10 := hid_of (op_crash (cn := cn) (bytes := bytes) rfl K10.out (show (8 : Nat) < 1099511627776 by decide) HO.out.2.2 (fun W hW => (HX.out W (E10.out.trans hW)).2.1) (sy8 (bs o) (bs f) cn))
    clear bx
    go_wp2_with fail
    refine C10.out.mono ?_
    rintro e w11 ⟨rfl, k11, e11⟩
    have K11 := hid_of k11
    have E11 := hid_of (E10.out.trans e11)
    clear k11 e11 C10 x0 x1
    by_cases h2 : 2 ≤ cn
    · have hr := c8 (bs o) (bs f) cn bytes
      rw [if_pos h2] at hr
      have C11 := hid_of (op_read (s := ⟨#[97]⟩) (t := f) hr K11.out (by decide))
      clear hr
      go_wp2_with fail
      refine C11.out.mono ?_
      rintro e w12 ⟨rfl, k12, e12⟩
      have E12 := hid_of (E11.out.trans e12)
      clear k12 e12 C11
      have x0 : w12.cell? ⟨w.heap.size, 0, none⟩ = some (.int .i64 cn) := Lib.cell_of_heap (HX.out w12 E12.out).1 0
      go_wp2_with fail
      go_ret
      exact ⟨rfl, (HX.out w12 E12.out).2.2⟩
    · have hr := c8 (bs o) (bs f) cn bytes
      rw [if_neg h2] at hr
      have C11 := hid_of (op_read (s := ⟨#[97]⟩) (t := o) hr K11.out (by decide))
      clear hr
      go_wp2_with fail
      refine C11.out.mono ?_
      rintro e w12 ⟨rfl, k12, e12⟩
      have E12 := hid_of (E11.out.trans e12)
      clear k12 e12 C11
      have x0 : w12.cell? ⟨w.heap.size, 0, none⟩ = some (.int .i64 cn) := Lib.cell_of_heap (HX.out w12 E12.out).1 0
      go_wp2_with fail
      go_ret
      exact ⟨rfl, (HX.out w12 E12.out).2.2⟩
  | true =>
    have CN := hid_of (op_names (t9 (bs o) (bs f)) K9.out rfl (show (8 : Nat) + 1 < 1099511627776 by decide))
    go_wp2_with fail
    refine CN.out.mono ?_
    rintro e wn ⟨rfl, kn, en⟩
    have KN := hid_of kn
    have EN := hid_of (E9.out.trans en)
    clear kn en CN
    have C9 := hid_of (op_read (s := ⟨#[97]⟩) (t := f) (r9 (bs o) (bs f)) KN.out (by decide))
    go_wp2_with fail
    refine C9.out.mono ?_
    rintro e w10 ⟨rfl, k10, e10⟩
    have K10 := hid_of k10
    have E10 := hid_of (EN.out.trans e10)
    clear k10 e10 C9
    have bx := (HX.out w10 E10.out).1
    have x0 : w10.cell? ⟨w.heap.size, 0, none⟩ = some (.int .i64 cn) := Lib.cell_of_heap bx 0
    have x1 : w10.cell? ⟨w.heap.size, 1, none⟩ = some (.slice a0 n0 c0) := Lib.cell_of_heap bx 1
    have C10 := hid_of (op_crash (cn := cn) (bytes := bytes) rfl K10.out (show (9 : Nat) < 1099511627776 by decide) HO.out.2.2 (fun W hW => (HX.out W (E10.out.trans hW)).2.1) (sy9 (bs o) (bs f) cn))
    clear bx
    go_wp2_with fail
    refine C10.out.mono ?_
    rintro e w11 ⟨rfl, k11, e11⟩
    have K11 := hid_of k11
    have E11 := hid_of (E10.out.trans e11)
    clear k11 e11 C10 x0 x1
    have C11 := hid_of (op_read (s := ⟨#[97]⟩) (t := f) (c9 (bs o) (bs f) cn bytes) K11.out (by decide))
    go_wp2_with fail
    refine C11.out.mono ?_
    rintro e w12 ⟨rfl, k12, e12⟩
    have E12 := hid_of (E11.out.trans e12)
    clear k12 e12 C11
    go_wp2_with fail
    go_ret
    exact ⟨rfl, (HX.out w12 E12.out).2.2⟩
set_option maxHeartbeats 4000000 in
set_option maxRecDepth 100000 in
theorem law_call (o f : ByteArray) (cn : Int) (a0 : Option Addr) (n0 c0 : Nat) (bytes : List Int) (w : World) (ho : o.size ≤ 140737488355328) (hf : f.size ≤ 140737488355328) (hbl : bytes.length ≤ 9223372036854775807) (hI : IntSl w (.slice a0 n0 c0) bytes) :
    Calls Try.prog 5 #[.string o, .string f, .agg #[.int .i64 cn, .slice a0 n0 c0]] w fun e w' => e = .returned (.bool true) ∧ Below w.heap.size w w' := by
  have HL : Hid (∀ W, Below w.heap.size w W → ∀ sy, Calls Try.prog 21 #[.string o, .string f, .agg #[.int .i64 cn, .slice a0 n0 c0], .bool sy] W fun e w' => e = .returned (.bool true) ∧ Below w.heap.size w w' ∧ ∀ k, k < W.heap.size → w'.heap[k]? = W.heap[k]?) := by
    intro W hb sy
    refine (swaps_call o f cn a0 n0 c0 bytes sy W ho hf hbl (int_later (base := W.heap.size) hI hb (Or.inl rfl) hb.size W (Ev.refl _ _ _))).mono ?_
    rintro e w' ⟨h1, h2⟩
    exact ⟨h1, hb.trans (h2.mono hb.size), h2.block⟩
  have BX : Hid ((w.alloc (.cells #[.int .i64 cn, .slice a0 n0 c0] 36)).heap[w.heap.size]? = some (.cells #[.int .i64 cn, .slice a0 n0 c0] 36 (0, 0))) := heap_alloc_new w _
  have B0 : Hid (Below w.heap.size w (w.alloc (.cells #[.int .i64 cn, .slice a0 n0 c0] 36))) := (Below.refl _ w).alloc (Nat.le_refl _) _
  clear hI ho hf hbl
  go_enter Try.func5, Try.ntmps5
  go_wp2_with fail
  refine (HL.out _ B0.out false).mono ?_
  rintro e w1 ⟨rfl, b1, k1⟩
  have bx := (k1 _ (lt_of BX.out)).trans BX.out
  have x0 : w1.cell? ⟨w.heap.size, 0, none⟩ = some (.int .i64 cn) := Lib.cell_of_heap bx 0
  have x1 : w1.cell? ⟨w.heap.size, 1, none⟩ = some (.slice a0 n0 c0) := Lib.cell_of_heap bx 1
  have B1 := hid_of b1
  clear b1 k1 bx
  go_wp2_with fail
  refine (HL.out _ B1.out true).mono ?_
  rintro e w2 ⟨rfl, b2, k2⟩
  have B2 := hid_of b2
  clear b2 k2
  go_wp2_with fail
  go_ret
  exact ⟨rfl, B2.out⟩
end Go.Proofs.Ytilbffbmpgebmaa.Swaps2
