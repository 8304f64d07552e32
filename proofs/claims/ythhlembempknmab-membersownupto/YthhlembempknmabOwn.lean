/- MembersOwn, walked. -/
import Derived.Test.YthhlembempknmabSets
import Derived.Test.YthhlembempknmabOwnM
import Derived.OrdersHeld
import Derived.RegionTactic
namespace Go.Proofs.Ythhlembempknmab.Own
open Go.RowKit Go.Sort
open Go.Proofs.Ythhlembempknmab.SetMath
open Go.Proofs.Ythhlembempknmab.Base
open Go.Proofs.Ythhlembempknmab.Small
open Go.Proofs.Ythhlembempknmab.Of
open Go.Proofs.Ythhlembempknmab.Lists
open Go.Proofs.Ythhlembempknmab.ROf
open Go.Proofs.Ythhlembempknmab.Code
open Go.Proofs.Ythhlembempknmab.After
open Go.Proofs.Ythhlembempknmab.Awake
open Go.Proofs.Ythhlembempknmab.RefK
open Go.Proofs.Ythhlembempknmab.Twins
open Go.Proofs.Ythhlembempknmab.Kept
open Go.Proofs.Ythhlembempknmab.Sets
open Go.Proofs.Ythhlembempknmab.AppF
open Go.Proofs.Ythhlembempknmab.RegO
open Go.Proofs.Ythhlembempknmab.OwnM (ll_at spt Al Zs Al.cell Al.next Al.below Al.spoil Zs.grow grow9 row_keep)
set_option linter.unusedVariables false
set_option linter.unusedSimpArgs false
set_option maxHeartbeats 4000000 in
set_option maxRecDepth 100000 in
theorem own_call {G G' : Nat → Prop} {w : World} {u v : Value} {l m : List El} (h : SL G w u l) (h' : SL G' w v m) (hb : l.length + m.length ≤ 1048576) :
    Calls Try.prog 3 #[u, v] w fun e w' => e = .returned (.bool true) ∧ Below w.heap.size w w' := by
  have HA := hid_of (awake_call w)
  have HS := hid_of fun (W : World) (o : On w W) => h.below o.bl
  have HS' := hid_of fun (W : World) (o : On w W) => h'.below o.bl
  have HTW := hid_of fun (W : World) (o : On w W) => twins_call (c := 2) (ll_two (h.below o.bl) (h'.below o.bl)) (by simp) (by simp) (by rw [tot_cons, tot_cons]; simp [tot]; omega)
  have e1 : [l, m].length = 2 := rfl
  rw [e1] at HTW
  obtain ⟨a, c, rfl, _⟩ := SL.len h
  obtain ⟨a', c', rfl, _⟩ := SL.len h'
  obtain ⟨n, HN⟩ : ∃ n, Hid (n = l.length) := ⟨_, hid_of rfl⟩
  obtain ⟨p, HP⟩ : ∃ p, Hid (p = m.length) := ⟨_, hid_of rfl⟩
  have HB := hid_of hb
  rw [← HN.out, ← HP.out] at hb HTW ⊢
  rw [← HN.out] at HS
  rw [← HP.out] at HS'
  clear h h' e1
  go_enter Try.func3, Try.ntmps3
  go_wp2_with fail
  refine HA.out.mono ?_
  rintro e w1 ⟨rfl, k1⟩
  have O1 := hid_of (⟨k1⟩ : On w w1)
  have HT := hid_of (HTW.out w1 O1.out)
  clear k1 HA HTW
  go_wp2_with fail
  refine HT.out.mono ?_
  rintro e w2 ⟨r1, us, rfl, tl, k1⟩
  have O2 := hid_of ((O1.out.alloc (.cells #[.slice a n c, .slice a' p c'] 22)).go k1)
  obtain ⟨ra, rc, rfl, hrc, ll⟩ := tl.ll
  obtain ⟨g1, o1, u1, rfl, c1, sl1⟩ := ll.get (j := 0) rfl
  rw [Nat.add_zero] at c1
  have T1 := hid_of fun (W : World) (o : On w2 W) => tl.below o.bl
  have L1 := hid_of fun (W : World) (o : On w2 W) => ll.below o.bl
  have C1 := hid_of fun (W : World) (o : On w2 W) => (World.cell?_of_block (w := w2) (o.bl.block g1 (cell_lt c1))).trans c1
  have S1 := hid_of fun (W : World) (o : On w2 W) => sl1.below o.bl
  obtain ⟨ua, uc, rfl, _⟩ := SL.len sl1
  have e1 : [l, m].length = 2 := rfl
  rw [e1] at T1 hrc ⊢
  rw [← HN.out] at c1 C1 S1
  have HRC := hid_of hrc
  clear tl k1 ll sl1 HT e1 hrc
  have hsub : ∀ x : List El, (∀ y ∈ x, y ∈ l) → x.length ≤ l.length → (∀ y ∈ x, y ∈ l ∨ y ∈ m) ∧ x.length ≤ 1048576 := fun x h1 h2 => ⟨fun y hy => .inl (h1 y hy), by have := HB.out; omega⟩
  have hb16 : l.length * 16 ≤ 140737488355328 := by have := HB.out; omega
  have ht1 : tot [l] * 16 ≤ 140737488355328 := by simp [tot]; have := HB.out; omega
  have ht2 : tot [l, m] * 16 ≤ 140737488355328 := by simp [tot]; have := HB.out; omega
  have SB : (S l).length ≤ l.length := len_S l
  have K6 : Hid (∀ W, On w2 W → Calls Try.prog 6 #[.slice ua n uc] W (Gives (fun x => (∀ y ∈ x, y ∈ l ∨ y ∈ m) ∧ x.length ≤ 1048576) W)) := hid_of fun W o => (of_call (S1.out W o) hb16).mono fun e w' ⟨r, e1, q, b⟩ => ⟨r, S l, e1, q, hsub _ (fun y hy => mem_S.1 hy) SB, b⟩
  have K7 : Hid (∀ W q, On w2 W → W.heap[q]? = some (.cells #[.slice ua n uc] 22 (0, 0)) → Calls Try.prog 7 #[.slice (some ⟨q, 0, none⟩) 1 1] W (Gives (fun x => (∀ y ∈ x, y ∈ l ∨ y ∈ m) ∧ x.length ≤ 1048576) W)) := hid_of fun W q o hq => (union_call (c := 1) (ll_at hq (S1.out W o)) (by simp) (by simp) ht1).mono fun e w' ⟨r, e1, q, b⟩ => ⟨r, uni [l], e1, q, by rw [uni_one]; exact hsub _ (fun y hy => mem_S.1 hy) SB, b⟩
  have K8 : Hid (∀ W q, On w2 W → W.heap[q]? = some (.cells #[.slice ua n uc] 22 (0, 0)) → Calls Try.prog 8 #[.slice (some ⟨q, 0, none⟩) 1 1] W (Gives (fun x => (∀ y ∈ x, y ∈ l ∨ y ∈ m) ∧ x.length ≤ 1048576) W)) := hid_of fun W q o hq => (inter_call (c := 1) (ll_at hq (S1.out W o)) (by simp) (by simp) ht1).mono fun e w' ⟨r, e1, q, b⟩ => ⟨r, inter [l], e1, q, by rw [inter_one]; exact hsub _ (fun y hy => mem_S.1 hy) SB, b⟩
  have K9 : Hid (∀ W q, On w2 W → W.heap[q]? = some (.cells #[.slice ua n uc] 22 (0, 0)) → Calls Try.prog 9 #[.slice (some ⟨q, 0, none⟩) 1 1] W (Gives (fun x => (∀ y ∈ x, y ∈ l ∨ y ∈ m) ∧ x.length ≤ 1048576) W)) := hid_of fun W q o hq => (diff_call (c := 1) (ll_at hq (S1.out W o)) (by simp) (by simp) ht1).mono fun e w' ⟨r, e1, q, b⟩ => ⟨r, diff [l], e1, q, hsub _ (fun y hy => (mem_diff.1 hy).1) (len_diff l []), b⟩
  have K10 : Hid (∀ W, On w2 W → Calls Try.prog 10 #[.slice ua n uc, .string ⟨#[]⟩, .int .i64 1099511627776] W (Gives (fun x => (∀ y ∈ x, y ∈ l ∨ y ∈ m) ∧ x.length ≤ 1048576) W)) := hid_of fun W o => (after_call [] 1099511627776 (S1.out W o) hb16).mono fun e w' ⟨r, e1, q, b⟩ => ⟨r, _, e1, q, hsub _ (fun y hy => by unfold aft SetMath.beh at hy; exact mem_S.1 (List.mem_filter.1 (List.mem_of_mem_take hy)).1) (len_aft _ _ _), b⟩
  have KG : Hid (∀ W, On w2 W → Calls Try.prog 7 #[.slice (some ⟨g1, o1, none⟩) 2 rc] W (Gives (fun x => (∀ y ∈ x, y ∈ l ∨ y ∈ m) ∧ x.length ≤ 1048576) W)) := hid_of fun W o => (union_call (L1.out W o) HRC.out (by simp) ht2).mono fun e w' ⟨r, e1, q, b⟩ => ⟨r, uni [l, m], e1, q, ⟨fun y hy => by
      obtain ⟨t, ht, hy2⟩ := mem_uni.1 hy
      rcases List.mem_cons.1 ht with e | ht
      · rw [e] at hy2; exact .inl hy2
      · rw [List.mem_singleton.1 ht] at hy2; exact .inr hy2, by
      have := len_uni [l, m]
      simp at this
      have := HB.out
      omega⟩, b⟩
  clear hsub ht1 ht2 SB
  go_wp2_with fail
  refine wp_region_held (S := fun V => V.cell? ⟨g1, o1, none⟩ = some (.slice ua n uc)) (by kernel_rfl) ?_
  refine wpAnyH_take (i := 0) (v := .slice (some ⟨g1, o1, none⟩) 2 rc) rfl (by kernel_rfl) (by kernel_rfl) (by kernel_rfl) (fun _ _ _ h => h) (Or.inl ⟨by kernel_rfl, ?_⟩) c1 ?_
  · intro Wx hSW
    go_simp
  simp only [Act.put, List.setIfInBounds_toArray, List.set_cons_zero, List.set_cons_succ]
  refine wpAnyH_take (i := 1) (v := .pointer (some ⟨g1, o1, none⟩)) rfl (by kernel_rfl) (by kernel_rfl) (by kernel_rfl) (fun _ _ _ h => h) (Or.inl ⟨by kernel_rfl, ?_⟩) c1 ?_
  · intro Wx hSW
    go_simp
  simp only [Act.put, List.setIfInBounds_toArray, List.set_cons_zero, List.set_cons_succ]
  refine wpAnyH_take (i := 2) (v := .slice ua n uc) rfl (by kernel_rfl) (by kernel_rfl) (by kernel_rfl) (fun _ _ _ h => h) (Or.inl ⟨by kernel_rfl, ?_⟩) c1 ?_
  · intro Wx hSW
    go_simp
  simp only [Act.put, List.setIfInBounds_toArray, List.set_cons_zero, List.set_cons_succ]
  refine wpAnyH_take (i := 4) (v := .slice (some ⟨g1, o1, none⟩) 2 rc) rfl (by kernel_rfl) (by kernel_rfl) (by kernel_rfl) (fun _ _ _ h => h) (Or.inl ⟨by kernel_rfl, ?_⟩) c1 ?_
  · intro Wx hSW
    go_simp
  simp only [Act.put, List.setIfInBounds_toArray, List.set_cons_zero, List.set_cons_succ]
  refine wpAnyH_take (i := 5) (v := .pointer (some ⟨g1, o1, none⟩)) rfl (by kernel_rfl) (by kernel_rfl) (by kernel_rfl) (fun _ _ _ h => h) (Or.inl ⟨by kernel_rfl, ?_⟩) c1 ?_
  · intro Wx hSW
    go_simp
  simp only [Act.put, List.setIfInBounds_toArray, List.set_cons_zero, List.set_cons_succ]
  refine wpAnyH_take (i := 6) (v := .slice ua n uc) rfl (by kernel_rfl) (by kernel_rfl) (by kernel_rfl) (fun _ _ _ h => h) (Or.inl ⟨by kernel_rfl, ?_⟩) c1 ?_
  · intro Wx hSW
    go_simp
  simp only [Act.put, List.setIfInBounds_toArray, List.set_cons_zero, List.set_cons_succ]
  refine wpAnyH_take (i := 9) (v := .slice (some ⟨g1, o1, none⟩) 2 rc) rfl (by kernel_rfl) (by kernel_rfl) (by kernel_rfl) (fun _ _ _ h => h) (Or.inl ⟨by kernel_rfl, ?_⟩) c1 ?_
  · intro Wx hSW
    go_simp
  simp only [Act.put, List.setIfInBounds_toArray, List.set_cons_zero, List.set_cons_succ]
  refine wpAnyH_take (i := 10) (v := .pointer (some ⟨g1, o1, none⟩)) rfl (by kernel_rfl) (by kernel_rfl) (by kernel_rfl) (fun _ _ _ h => h) (Or.inl ⟨by kernel_rfl, ?_⟩) c1 ?_
  · intro Wx hSW
    go_simp
  simp only [Act.put, List.setIfInBounds_toArray, List.set_cons_zero, List.set_cons_succ]
  refine wpAnyH_take (i := 11) (v := .slice ua n uc) rfl (by kernel_rfl) (by kernel_rfl) (by kernel_rfl) (fun _ _ _ h => h) (Or.inl ⟨by kernel_rfl, ?_⟩) c1 ?_
  · intro Wx hSW
    go_simp
  simp only [Act.put, List.setIfInBounds_toArray, List.set_cons_zero, List.set_cons_succ]
  refine wpAnyH_take (i := 14) (v := .slice (some ⟨g1, o1, none⟩) 2 rc) rfl (by kernel_rfl) (by kernel_rfl) (by kernel_rfl) (fun _ _ _ h => h) (Or.inl ⟨by kernel_rfl, ?_⟩) c1 ?_
  · intro Wx hSW
    go_simp
  simp only [Act.put, List.setIfInBounds_toArray, List.set_cons_zero, List.set_cons_succ]
  refine wpAnyH_take (i := 15) (v := .pointer (some ⟨g1, o1, none⟩)) rfl (by kernel_rfl) (by kernel_rfl) (by kernel_rfl) (fun _ _ _ h => h) (Or.inl ⟨by kernel_rfl, ?_⟩) c1 ?_
  · intro Wx hSW
    go_simp
  simp only [Act.put, List.setIfInBounds_toArray, List.set_cons_zero, List.set_cons_succ]
  refine wpAnyH_take (i := 16) (v := .slice ua n uc) rfl (by kernel_rfl) (by kernel_rfl) (by kernel_rfl) (fun _ _ _ h => h) (Or.inl ⟨by kernel_rfl, ?_⟩) c1 ?_
  · intro Wx hSW
    go_simp
  simp only [Act.put, List.setIfInBounds_toArray, List.set_cons_zero, List.set_cons_succ]
  refine wpAnyH_take (i := 19) (v := .slice (some ⟨g1, o1, none⟩) 2 rc) rfl (by kernel_rfl) (by kernel_rfl) (by kernel_rfl) (fun _ _ _ h => h) (Or.inl ⟨by kernel_rfl, ?_⟩) c1 ?_
  · intro Wx hSW
    go_simp
  simp only [Act.put, List.setIfInBounds_toArray, List.set_cons_zero, List.set_cons_succ]
  refine wpAnyH_take (i := 20) (v := .pointer (some ⟨g1, o1, none⟩)) rfl (by kernel_rfl) (by kernel_rfl) (by kernel_rfl) (fun _ _ _ h => h) (Or.inl ⟨by kernel_rfl, ?_⟩) c1 ?_
  · intro Wx hSW
    go_simp
  simp only [Act.put, List.setIfInBounds_toArray, List.set_cons_zero, List.set_cons_succ]
  refine wpAnyH_take (i := 21) (v := .slice ua n uc) rfl (by kernel_rfl) (by kernel_rfl) (by kernel_rfl) (fun _ _ _ h => h) (Or.inl ⟨by kernel_rfl, ?_⟩) c1 ?_
  · intro Wx hSW
    go_simp
  simp only [Act.put, List.setIfInBounds_toArray, List.set_cons_zero, List.set_cons_succ]
  refine wpAnyH_take (i := 25) (v := .slice (some ⟨g1, o1, none⟩) 2 rc) rfl (by kernel_rfl) (by kernel_rfl) (by kernel_rfl) (fun _ _ _ h => h) (Or.inl ⟨by kernel_rfl, ?_⟩) c1 ?_
  · intro Wx hSW
    go_simp
  simp only [Act.put, List.setIfInBounds_toArray, List.set_cons_zero, List.set_cons_succ]
  refine wpAnyH_take (i := 26) (v := .pointer (some ⟨g1, o1, none⟩)) rfl (by kernel_rfl) (by kernel_rfl) (by kernel_rfl) (fun _ _ _ h => h) (Or.inl ⟨by kernel_rfl, ?_⟩) c1 ?_
  · intro Wx hSW
    go_simp
  simp only [Act.put, List.setIfInBounds_toArray, List.set_cons_zero, List.set_cons_succ]
  refine wpAnyH_take (i := 27) (v := .slice ua n uc) rfl (by kernel_rfl) (by kernel_rfl) (by kernel_rfl) (fun _ _ _ h => h) (Or.inl ⟨by kernel_rfl, ?_⟩) c1 ?_
  · intro Wx hSW
    go_simp
  simp only [Act.put, List.setIfInBounds_toArray, List.set_cons_zero, List.set_cons_succ]
  refine wpAnyH_take (i := 23) (v := .slice (some ⟨g1, o1, none⟩) 2 rc) rfl (by kernel_rfl) (by kernel_rfl) (by kernel_rfl) (fun _ _ _ h => h) (Or.inl ⟨by kernel_rfl, ?_⟩) c1 ?_
  · intro Wx hSW
    go_simp
  simp only [Act.put, List.setIfInBounds_toArray, List.set_cons_zero, List.set_cons_succ]
  refine region_any (Sub := fun x => (∀ y ∈ x, y ∈ l ∨ y ∈ m) ∧ x.length ≤ 1048576) (w2 := w2) (x := ua) (n := n) (c := uc) (giv := .slice (some ⟨g1, o1, none⟩) 2 rc) (F := fun f => { tmps := #[.slice a n c, .slice a' p c', undef, undef, .bool false, .slice (some ⟨g1, o1, none⟩) 2 rc, f 6, undef, undef, undef, undef, undef, undef, undef, undef, undef, undef, .bool true, .bool false, .slice a n c, .slice a' p c', .slice (some ⟨w1.heap.size, 0, none⟩) 2 2, .slice (some ⟨g1, o1, none⟩) 2 rc, .slice (some ⟨g1, o1, none⟩) 2 rc, .pointer (some ⟨g1, o1, none⟩), .slice ua n uc, f 26, .slice (some ⟨g1, o1, none⟩) 2 rc, .pointer (some ⟨g1, o1, none⟩), .slice ua n uc, f 30, f 31, .slice (some ⟨g1, o1, none⟩) 2 rc, .pointer (some ⟨g1, o1, none⟩), .slice ua n uc, f 35, f 36, .slice (some ⟨g1, o1, none⟩) 2 rc, .pointer (some ⟨g1, o1, none⟩), .slice ua n uc, f 40, f 41, .slice (some ⟨g1, o1, none⟩) 2 rc, .pointer (some ⟨g1, o1, none⟩), .slice ua n uc, f 45, .slice (some ⟨g1, o1, none⟩) 2 rc, f 47, .slice (some ⟨g1, o1, none⟩) 2 rc, .pointer (some ⟨g1, o1, none⟩), .slice ua n uc, f 51, f 52, undef, undef, undef, undef, undef, undef, undef, undef, undef, undef, undef, undef, undef, undef, undef, undef, undef, undef, undef, undef, undef, undef, undef, undef, undef, undef, undef, undef, undef, undef, undef, undef, undef, undef, undef, undef, undef, undef, undef, undef, undef, undef, undef, undef, undef, undef, undef, undef, undef, undef, undef, undef, undef, undef, undef, undef, undef, undef, undef, undef, undef, undef, undef, undef, undef, undef, undef, undef, undef, undef, undef, undef, undef, undef, undef, undef, undef, undef, undef, undef, undef, undef, undef, undef, undef, undef, undef, undef, undef, undef, undef, undef, undef, undef, undef, undef, undef, undef, undef, undef], defers := [] }) (by kernel_rfl) (by kernel_rfl) (by kernel_rfl)
    ⟨_, rfl, rfl, rfl, rfl, by kernel_rfl⟩ ⟨_, rfl, rfl, rfl, rfl, by kernel_rfl⟩ ⟨_, rfl, rfl, rfl, rfl, by kernel_rfl⟩ ⟨_, rfl, rfl, rfl, rfl, by kernel_rfl⟩ ⟨_, rfl, rfl, rfl, rfl, by kernel_rfl⟩ ⟨_, rfl, rfl, rfl, rfl, by kernel_rfl⟩ ⟨_, rfl, rfl, rfl, rfl, by kernel_rfl⟩ ⟨_, rfl, rfl, rfl, rfl, by kernel_rfl⟩ ⟨_, rfl, rfl, rfl, rfl, by kernel_rfl⟩ ⟨_, rfl, rfl, rfl, rfl, by kernel_rfl⟩ ⟨_, rfl, rfl, rfl, rfl, by kernel_rfl⟩ ⟨_, rfl, rfl, rfl, rfl, by kernel_rfl⟩
    (by kernel_rfl) (by kernel_rfl) (by kernel_rfl) (by kernel_rfl) (by kernel_rfl) (by kernel_rfl) (by kernel_rfl) (fun W o => C1.out W o) K6.out K7.out K8.out K9.out K10.out KG.out (by kernel_rfl) (by decide +kernel) (by decide +kernel) (by decide +kernel) ((On.refl w2).drewN 1) (fun f => by kernel_rfl) ?_
  intro f W D
  clear K7 K8 K9 K10 KG
  obtain ⟨q, e6, hqB, hq⟩ := D.all
  have HD := hid_of D
  have HQ := hid_of hq
  have OW := hid_of D.onw
  rw [e6]
  have cW := C1.out W D.onw
  have HAd := hid_of (add_call (S1.out W D.onw) (SL.nil (fun _ => True) W) (by have := HB.out; simp; omega))
  clear D e6 hqB hq c1
  go_wp2_with fail
  refine HAd.out.mono ?_
  rintro e w4 ⟨rx, rfl, n4, b4⟩
  have N4 := hid_of (And.intro n4 b4)
  have O4 := hid_of (OW.out.go b4)
  have c4 := C1.out w4 O4.out
  have HRm := hid_of (remove_call (S1.out w4 O4.out) (SL.nil (fun _ => True) w4) (by have := HB.out; simp; omega))
  obtain ⟨xa, xc, rfl, _⟩ := n4.shape
  generalize hxn : (S (l ++ [])).length = xn at *
  clear n4 b4 HAd cW
  go_wp2_with fail
  refine HRm.out.mono ?_
  rintro e w5 ⟨ry, rfl, n5, b5⟩
  have O5 := hid_of (O4.out.go b5)
  obtain ⟨ya, yc, rfl, _⟩ := n5.shape
  generalize hyn : (dif l []).length = yn at *
  obtain ⟨cap, w6, hrun, hd6, b6⟩ := grow9 (w := w5) (q := q) (us := [f 26, f 31, f 36, f 41, f 45, f 47, f 51]) rfl ((b5.block q (lt_of ((N4.out.2.block q (lt_of HQ.out)).trans HQ.out))).trans ((N4.out.2.block q (lt_of HQ.out)).trans HQ.out)) (.slice xa xn xc) (.slice ya yn yc) rfl rfl 24
  have O6 := hid_of (O5.out.go b6)
  obtain ⟨vs, hvs⟩ : ∃ vs, OwnM.nine f (.slice xa xn xc) (.slice ya yn yc) = vs := ⟨_, rfl⟩
  have AL : Hid (Al (fun x => (∀ y ∈ x, y ∈ l ∨ y ∈ m) ∧ x.length ≤ 1048576) w2.heap.size (w5.heap.size + 1) vs 0 w6) := hid_of (by
    rw [← hvs]
    exact OwnM.al_nine HD.out N4.out.1 ⟨fun y hy => .inl (by have := mem_S.1 hy; simpa using this), by rw [hxn]; have := len_S (l ++ []); rw [hxn] at this; simp at this; have := HB.out; omega⟩ N4.out.2 n5 ⟨fun y hy => .inl (mem_S.1 (List.mem_filter.1 hy).1), by rw [hyn]; have h1 : (dif l []).length ≤ (S l).length := List.length_filter_le _ _; have h2 := len_S l; rw [hyn] at h1; have := HB.out; omega⟩ b5 hd6 b6)
  have HV : Hid (∀ i, i < 9 → ∃ v, vs[i]? = some v) := hid_of fun i hi => ⟨vs[i]'(by rw [← hvs]; exact hi), List.getElem?_eq_getElem _⟩
  obtain ⟨gh, hgh⟩ : ∃ gh, w5.heap.size + 1 = gh := ⟨_, rfl⟩
  rw [hgh] at hrun AL
  clear n5 b5 b6 hd6 HRm c4 HD HQ N4 O4 hvs hgh hxn hyn
  go_wp2_with (at_builtin; refine wpl_eq rfl _ _ 24 24 rfl (.slice (some ⟨q, 0, none⟩) 7 7) (.slice (some ⟨w5.heap.size, 0, none⟩) 2 2) (.slice (some ⟨gh, 0, none⟩) 9 cap) _ w6 rfl rfl hrun ?_; clear hrun)
  go_loopg [11] 9 (fun g s11 wx => ∃ i : Nat, i ≤ 9 ∧ 9 ≤ i + g ∧ s11 = .int .i64 (i : Int) ∧ Hid (Al (fun x => (∀ y ∈ x, y ∈ l ∨ y ∈ m) ∧ x.length ≤ 1048576) w2.heap.size gh vs i wx ∧ On w2 wx))
  case atStart => exact ⟨0, by omega, by omega, rfl, hid_of ⟨AL.out, O6.out⟩⟩
  case round =>
    clear AL O6
    obtain ⟨i, hi, hg, rfl, R⟩ := hrel
    by_cases hlt : i < 9
    · obtain ⟨gO, rfl⟩ : ∃ g', gk = g' + 1 := ⟨gk - 1, by omega⟩
      obtain ⟨W1, rfl⟩ : ∃ W1, W1 = wr := ⟨_, rfl⟩
      obtain ⟨al0, on0⟩ := R.out
      obtain ⟨vi, hvi⟩ := HV.out i hlt
      have HVI := hid_of hvi
      obtain ⟨lst0, nr0, sb0⟩ := al0.rows i vi hvi (Nat.le_refl _)
      obtain ⟨va, vc, rfl, hvc⟩ := nr0.shape
      obtain ⟨vn, hvn⟩ : ∃ vn, lst0.length = vn := ⟨_, rfl⟩
      have hvb : vn ≤ 1048576 := by rw [← hvn]; exact sb0.2
      rw [hvn] at nr0 hvi HVI hvc
      have dI : decide ((i : Int) < 9) = true := decide_eq_true (by omega)
      have dI2 : (i : Int) < 9 := by omega
      have wi : IntKind.i64.wrap ((i : Int) + 1) = (i : Int) + 1 := IntWalk.i64_in _ (by omega)
      have R1 : Hid ((∃ lst, NR w2.heap.size W1 (.slice va vn vc) lst ∧ lst.length = vn) ∧ Al (fun x => (∀ y ∈ x, y ∈ l ∨ y ∈ m) ∧ x.length ≤ 1048576) w2.heap.size gh vs (i + 1) W1 ∧ On w2 W1) := hid_of ⟨⟨lst0, nr0, hvn⟩, al0.next, on0⟩
      clear R al0 on0 hvi nr0 sb0 hvn
      go_wp2_with fail
      go_loopg [12] vn (fun g s12 wx => ∃ k : Nat, k ≤ vn ∧ vn ≤ k + g ∧ s12 = .int .i64 (k : Int) ∧ Hid ((∃ lst, NR w2.heap.size wx (.slice va vn vc) lst ∧ lst.length = vn) ∧ Al (fun x => (∀ y ∈ x, y ∈ l ∨ y ∈ m) ∧ x.length ≤ 1048576) w2.heap.size gh vs (i + 1) wx ∧ On w2 wx))
      case atStart => exact ⟨0, by omega, by omega, rfl, R1⟩
      case round =>
        clear R1
        obtain ⟨k, hk, hgk, rfl, R⟩ := hrel
        obtain ⟨nrk, alk, onk⟩ := R.out
        have ch := alk.cell HVI.out
        by_cases hkt : k < vn
        · obtain ⟨g', rfl⟩ : ∃ g', gk = g' + 1 := ⟨gk - 1, by omega⟩
          obtain ⟨lst, nr1, hl1⟩ := nrk
          obtain ⟨gv, cv, e0, rw0⟩ := NR.row nr1 (by omega)
          rw [hl1] at e0
          cases e0
          have u2 : wr.frozen? ⟨gv, k, none⟩ = false := rw0.frozen k
          obtain ⟨u4, hu4⟩ : ∃ u4, wr.cell? ⟨gv, k, none⟩ = some u4 := ⟨_, rw0.cell (List.getElem?_eq_getElem (by omega))⟩
          have K : Hid ((∃ lst, NR w2.heap.size (wr.setCell ⟨gv, k, none⟩ (.string ⟨#[115, 112, 111, 105, 108, 116]⟩)) (.slice (some ⟨gv, 0, none⟩) vn vc) lst ∧ lst.length = vn) ∧ Al (fun x => (∀ y ∈ x, y ∈ l ∨ y ∈ m) ∧ x.length ≤ 1048576) w2.heap.size gh vs (i + 1) (wr.setCell ⟨gv, k, none⟩ (.string ⟨#[115, 112, 111, 105, 108, 116]⟩)) ∧ On w2 (wr.setCell ⟨gv, k, none⟩ (.string ⟨#[115, 112, 111, 105, 108, 116]⟩))) := hid_of (by
            obtain ⟨hB, cur, hh, _⟩ := id rw0
            refine ⟨⟨lst.set k spt, ?_, by rw [List.length_set]; exact hl1⟩, alk.spoil HVI.out rfl hh _, ⟨onk.bl.trans ((Below.refl _ wr).setCell hB _)⟩⟩
            have q1 := (rw0.set k spt).nr
            rw [List.length_set, hl1] at q1
            exact q1)
          have wk : IntKind.i64.wrap ((k : Int) + 1) = (k : Int) + 1 := IntWalk.i64_in _ (by omega)
          clear nr1 rw0 alk onk R
          go_wp2_with fail
          go_roundg g'
          case measure => omega
          case rel => exact ⟨k + 1, by omega, by omega, by simp, K⟩
        · have R2 : Hid (Zs w2.heap.size i vs wr (.slice va vn vc) vn ∧ Al (fun x => (∀ y ∈ x, y ∈ l ∨ y ∈ m) ∧ x.length ≤ 1048576) w2.heap.size gh vs (i + 1) wr ∧ On w2 wr) := hid_of ⟨⟨nrk, fun j v hj hij => alk.apart i j _ v HVI.out hj (by omega)⟩, alk, onk⟩
          clear nrk alk onk R
          obtain rfl : vn = k := by omega
          clear hkt hk hgk
          go_wp2_with fail
          go_loopg [13, 14] 9 (fun g s13 s14 wx => ∃ (t : Nat) (za : Option Addr) (zc : Nat), t ≤ 9 ∧ 9 ≤ t + g ∧ s13 = .slice za (vn + t) zc ∧ s14 = .int .i64 (t : Int) ∧ Hid (Zs w2.heap.size i vs wx (.slice za (vn + t) zc) (vn + t) ∧ Al (fun x => (∀ y ∈ x, y ∈ l ∨ y ∈ m) ∧ x.length ≤ 1048576) w2.heap.size gh vs (i + 1) wx ∧ On w2 wx))
          case atStart => exact ⟨0, va, vc, by omega, by omega, rfl, rfl, R2⟩
          case round =>
            clear R2
            obtain ⟨t, za, zc, ht, hgt, rfl, rfl, R⟩ := hrel
            obtain ⟨zsk, alk, onk⟩ := R.out
            by_cases htt : t < 9
            · obtain ⟨g', rfl⟩ : ∃ g', gk = g' + 1 := ⟨gk - 1, by omega⟩
              obtain ⟨z', w7, hrun, zs7, al7, b7⟩ := Zs.grow alk zsk OwnM.beh (by omega) onk.bl.size 22
              obtain ⟨za7, zc7, rfl⟩ : ∃ a c, z' = .slice a (vn + t + 1) c := by
                obtain ⟨lst, q1, q2⟩ := zs7.nr
                obtain ⟨a1, c1, e1, _⟩ := q1.shape
                rw [q2] at e1
                exact ⟨a1, c1, e1⟩
              have hV : mk OwnM.beh = ⟨#[98, 101, 104, 105, 110, 100]⟩ := rfl
              simp only [V, hV] at hrun
              have K : Hid (Zs w2.heap.size i vs w7 (.slice za7 (vn + (t + 1)) zc7) (vn + (t + 1)) ∧ Al (fun x => (∀ y ∈ x, y ∈ l ∨ y ∈ m) ∧ x.length ≤ 1048576) w2.heap.size gh vs (i + 1) w7 ∧ On w2 w7) := hid_of ⟨zs7, al7, ⟨onk.bl.trans b7⟩⟩
              have wt : IntKind.i64.wrap ((t : Int) + 1) = (t : Int) + 1 := IntWalk.i64_in _ (by omega)
              obtain ⟨zn, hzn⟩ : ∃ zn, vn + t = zn := ⟨_, rfl⟩
              obtain ⟨zn1, hzn1⟩ : ∃ zn, vn + (t + 1) = zn := ⟨_, rfl⟩
              rw [show vn + t + 1 = zn1 by omega] at hrun
              rw [hzn] at hrun ⊢
              rw [hzn1] at K
              have HZ := hid_of hzn1
              clear zsk alk onk zs7 al7 b7 hV R hzn hzn1
              go_wp2_with (at_builtin; refine wpl_eq rfl _ _ 22 22 rfl (.slice za zn zc) (.slice (some ⟨wr.heap.size, 0, none⟩) 1 1) (.slice za7 zn1 zc7) _ w7 rfl rfl hrun ?_; clear hrun)
              go_roundg g'
              case measure => omega
              case rel => exact ⟨t + 1, za7, zc7, by omega, by omega, by rw [HZ.out], by simp, by rw [HZ.out]; exact K⟩
            · obtain ⟨W3, rfl⟩ : ∃ W3, W3 = wr := ⟨_, rfl⟩
              have AL3 := hid_of alk
              have ON3 := hid_of onk
              clear zsk alk onk R
              have dT : decide ((t : Int) < 9) = false := decide_eq_false (by omega)
              have dT2 : ¬ (t : Int) < 9 := by omega
              clear htt ht hgt
              go_wp2_with fail
              go_loopg [15] 9 (fun g s15 wx => ∃ j : Nat, i + 1 ≤ j ∧ j ≤ 9 ∧ 9 ≤ j + g ∧ s15 = .int .i64 (j : Int) ∧ wx = W3)
              case atStart => exact ⟨i + 1, by omega, by omega, by omega, by simp, rfl⟩
              case round =>
                obtain ⟨j, hj1, hj2, hgj, rfl, rfl⟩ := hrel
                by_cases hjt : j < 9
                · obtain ⟨gJ, rfl⟩ : ∃ g', gk = g' + 1 := ⟨gk - 1, by omega⟩
                  obtain ⟨vj, hvj⟩ := HV.out j hjt
                  have chj := AL3.out.cell hvj
                  obtain ⟨lj, nrj, sbj⟩ := AL3.out.rows j vj hvj hj1
                  have SLJ := hid_of nrj.sl
                  obtain ⟨ja, jc, rfl, _⟩ := nrj.shape
                  obtain ⟨jn, hjn⟩ : ∃ jn, lj.length = jn := ⟨_, rfl⟩
                  rw [hjn] at chj SLJ
                  have HJN := hid_of hjn
                  have HSJ := hid_of sbj
                  have hjb : jn ≤ 1048576 := by rw [← hjn]; exact sbj.2
                  have dJ : decide ((j : Int) < 9) = true := decide_eq_true (by omega)
                  have dJ2 : (j : Int) < 9 := by omega
                  have wj : IntKind.i64.wrap ((j : Int) + 1) = (j : Int) + 1 := IntWalk.i64_in _ (by omega)
                  clear hvj nrj sbj hjn
                  go_wp2_with fail
                  go_loopg [16] jn (fun g s16 wx => ∃ k : Nat, k ≤ jn ∧ jn ≤ k + g ∧ s16 = .int .i64 (k : Int) ∧ wx = wr)
                  case atStart => exact ⟨0, by omega, by omega, rfl, rfl⟩
                  case round =>
                    obtain ⟨k, hk, hgk, rfl, rfl⟩ := hrel
                    by_cases hkt : k < jn
                    · obtain ⟨g', rfl⟩ : ∃ g', gk = g' + 1 := ⟨gk - 1, by omega⟩
                      have hkl : k < lj.length := by rw [HJN.out]; exact hkt
                      obtain ⟨a1, c1, e1, _, rd⟩ := SLJ.out
                      rw [HJN.out] at e1
                      cases e1
                      obtain ⟨gj, oj, rfl, _, qc⟩ := Rd.get rd (by omega)
                      have ck : wr.cell? ⟨gj, oj + k, none⟩ = some (.string (mk lj[k])) := qc k _ (List.getElem?_eq_getElem hkl)
                      have hmem := HSJ.out.1 lj[k] (List.getElem_mem hkl)
                      have hz : ((mk lj[k]).toList == (⟨#[115, 112, 111, 105, 108, 116]⟩ : ByteArray).toList) = decide (lj[k] = spt) := str_eq lj[k] spt
                      have onw : On w wr := O2.out.go ON3.out.bl
                      have H1 := hid_of (rhas_call spt (HS.out wr onw) (by have := HB.out; omega))
                      have H2 := hid_of (rhas_call spt (HS'.out wr onw) (by have := HB.out; omega))
                      have hsp : V spt = .string ⟨#[115, 112, 111, 105, 108, 116]⟩ := rfl
                      rw [hsp] at H1 H2
                      have wk : IntKind.i64.wrap ((k : Int) + 1) = (k : Int) + 1 := IntWalk.i64_in _ (by omega)
                      by_cases hs : lj[k] = spt
                      · rw [decide_eq_true hs] at hz
                        rw [hs] at hmem
                        have hz2 : (mk lj[k]).toList = ([115, 112, 111, 105, 108, 116] : List UInt8) := by rw [mk_list]; exact hs
                        have hz3 : ((mk lj[k]).toList == ([115, 112, 111, 105, 108, 116] : List UInt8)) = true := by rw [hz2]; rfl
                        clear hs qc rd onw hsp
                        generalize mk lj[k] = Y at *
                        by_cases hl : spt ∈ l
                        · rw [decide_eq_true hl] at H1
                          clear hl hmem
                          go_wp2_with fail
                          refine H1.out.mono ?_
                          rintro e w' ⟨rfl, rfl⟩
                          go_wp2_with fail
                          go_roundg g'
                          case measure => omega
                          case rel => exact ⟨k + 1, by omega, by omega, by simp, rfl⟩
                        · rw [decide_eq_false hl] at H1
                          rw [decide_eq_true (hmem.resolve_left hl)] at H2
                          clear hl hmem
                          go_wp2_with fail
                          refine H1.out.mono ?_
                          rintro e w' ⟨rfl, rfl⟩
                          go_wp2_with fail
                          refine H2.out.mono ?_
                          rintro e w' ⟨rfl, rfl⟩
                          go_wp2_with fail
                          go_roundg g'
                          case measure => omega
                          case rel => exact ⟨k + 1, by omega, by omega, by simp, rfl⟩
                      · rw [decide_eq_false hs] at hz
                        have hz2 : ((mk lj[k]).toList == ([115, 112, 111, 105, 108, 116] : List UInt8)) = false := by rw [mk_list]; exact beq_eq_false_iff_ne.2 hs
                        have hz3 : ¬ (mk lj[k]).toList = ([115, 112, 111, 105, 108, 116] : List UInt8) := by rw [mk_list]; exact hs
                        clear hs qc rd onw hsp hmem H1 H2
                        generalize mk lj[k] = Y at *
                        go_wp2_with fail
                        go_roundg g'
                        case measure => omega
                        case rel => exact ⟨k + 1, by omega, by omega, by simp, rfl⟩
                    · go_wp2_with fail
                      go_roundg gJ
                      case measure => omega
                      case rel => exact ⟨j + 1, by omega, by omega, by omega, by simp, rfl⟩
                · go_wp2_with fail
                  go_roundg gO
                  case measure => omega
                  case rel => exact ⟨i + 1, by omega, by omega, by simp, hid_of ⟨AL3.out, ON3.out⟩⟩
    · have ON := hid_of R.out.2
      have onw : On w wr := O2.out.go ON.out.bl
      have HK := hid_of (kept_call (c' := 2) (T1.out _ (ON.out.alloc (.cells #[.slice a n c, .slice a' p c'] 22))) (ll_two (HS.out wr onw) (HS'.out wr onw)) (by simp) (by
        intro x hx
        have := HB.out
        rcases List.mem_cons.1 hx with rfl | hx
        · omega
        · rw [List.mem_singleton.1 hx]; omega))
      clear R onw
      go_wp2_with fail
      refine HK.out.mono ?_
      rintro e w8 ⟨rfl, m8, hw8⟩
      have O8 : Hid (On w2 w8) := hid_of (by rw [hw8]; exact (ON.out.alloc _).drewN m8)
      have c8 := C1.out w8 O8.out
      have HO := hid_of (of_call (S1.out w8 O8.out) hb16)
      clear hw8 HK
      go_wp2_with fail
      refine HO.out.mono ?_
      rintro e w9 ⟨r9, rfl, q9, k9⟩
      have O9 := hid_of (O8.out.go k9)
      have HR := hid_of (rof_call (HS.out w9 (O2.out.go O9.out.bl)) hb16)
      have Q9 := hid_of q9
      obtain ⟨ra9, rc9, rfl, _⟩ := q9.shape
      clear q9 k9 HO c8
      go_wp2_with fail
      refine HR.out.mono ?_
      rintro e w10 ⟨r10, rfl, q10, k10⟩
      have O10 := hid_of (O9.out.go k10)
      have HM := hid_of (same_true (Q9.out.below k10).sl q10.sl rfl (by have := len_S l; have := HB.out; omega))
      obtain ⟨ra10, rc10, rfl, _⟩ := q10.shape
      generalize hz : (S l).length = zz at *
      clear q10 k10 HR Q9 hz
      go_wp2_with fail
      refine HM.out.mono ?_
      rintro e w11 ⟨rfl, m11, hw11⟩
      have K : Hid (Below w.heap.size w w11) := hid_of (by rw [hw11]; exact bdrew (O2.out.go O10.out.bl).bl m11)
      clear hw11 HM
      go_wp2_with fail
      go_ret
      exact ⟨rfl, K.out⟩
end Go.Proofs.Ythhlembempknmab.Own
