/- DUMP of what is there. container/heap's up and down, moving EdgeS. container/heap's own calls, moving EdgeS. -/
import Derived.Test.YtminfpkigenahaaGreatDoorParseM
import Derived.Test.YtminfpkigenahaaGreatDoorEnc0M
import Derived.Deep.DeepCutAuto
import Derived.OrdersHeld
import Derived.Deep.RegionHeld
import Derived.RegionTactic
import Derived.Test.YtminfpkigenahaaGreatDoorSpaceMathM
import Derived.Test.YtminfpkigenahaaGreatDoorHeap2M
import Derived.OwnWalk
section
namespace Go.Proofs.YtminfpkigenahaaGreatDoor.KDump
open Go.RowKit Go.Maps
open Go.Proofs.YtminfpkigenahaaGreatDoor.SpaceMath (wout withL lkp keys Ris toD)
open Go.Proofs.YtminfpkigenahaaGreatDoor.ValueMath (Vl chk small)
open Go.Proofs.YtminfpkigenahaaGreatDoor.Base (mk mk_list mk_size Gr hid_of SL)
open Go.Proofs.YtminfpkigenahaaGreatDoor.Turn
open Go.Proofs.YtminfpkigenahaaGreatDoor.Vals
open Go.Proofs.YtminfpkigenahaaGreatDoor.Check0 (Wel)
open Go.Proofs.YtminfpkigenahaaGreatDoor.SBase
open Go.Proofs.YtminfpkigenahaaGreatDoor.SFind
open Go.Proofs.YtminfpkigenahaaGreatDoor.SPut (vO)
open Go.Proofs.YtminfpkigenahaaGreatDoor.QBase
open Go.Proofs.YtminfpkigenahaaGreatDoor.KCmd
open Go.Proofs.YtminfpkigenahaaGreatDoor.Parse (Has)
set_option linter.unusedVariables false
set_option linter.unusedSimpArgs false
open Go.Proofs.YtminfpkigenahaaGreatDoor.KEx
open Go.Proofs.YtminfpkigenahaaGreatDoor.ValueMath (enc)
open Go.Proofs.YtminfpkigenahaaGreatDoor.Enc (encode_call encV)
section
variable {P : Program} {ops : Array Oper} {Q : Exit → Act → World → Prop} {md : Region.Mode} {S : World → Prop} {l n : Nat}
theorem op_any {i : Nat} {o : Oper} {a : Act} {w : World} {K : Act → World → Prop} (hi : ops[i]? = some o) (hg : o.guard = none) (h : o.wp P a w K Q) : wpOp P ops Q i K a w := by
  unfold wpOp
  simp only [hi]
  have hw : Region.wanted o (yielded ops a.tmps) = true := by simp [Region.wanted, hg]
  simp only [hw, if_true]
  exact .inl h
theorem op_value {i : Nat} {o : Oper} {a : Act} {w w' : World} {v : Value} {K : Act → World → Prop} (hi : ops[i]? = some o) (hg : o.guard = none) (hx : (execOp a.eval o).run P w = .ok (.value v) w') (hK : K (a.put o.dst v) w') : wpOp P ops Q i K a w := by
  refine op_any hi hg ?_
  unfold Oper.wp
  rw [hx]
  exact hK
theorem op_value_d {i d : Nat} {o : Oper} {a : Act} {w w' : World} {v : Value} {K : Act → World → Prop} (hi : ops[i]? = some o) (hg : o.guard = none) (hd : o.dst = some d) (hx : (execOp a.eval o).run P w = .ok (.value v) w') (hK : K (a.put (some d) v) w') : wpOp P ops Q i K a w :=
  op_value hi hg hx (by rw [hd]; exact hK)
theorem take_d {i d : Nat} {oi : Oper} {v : Value} {fuel : Nat} {listed : Array Bool} {a : Act} {w : World} (hi : ops[i]? = some oi) (hd : oi.dst = some d)
    (hs : Region.noSelect ops = true) (hf : Region.free md ops listed i = true) (hr : (Region.ready md ops listed).contains i = true)
    (hQ : ∀ c a w, Q (.panic c) (a.put oi.dst v) w → Q (.panic c) a w) (hy : YieldsIf P ops S oi v a) (hS : S w)
    (h : wpAnyH P md ops Q S fuel (listed.setIfInBounds i true) (a.put (some d) v) w) : wpAnyH P md ops Q S (fuel + 1) listed a w :=
  wpAnyH_take hi hs hf hr hQ hy hS (by rw [hd]; exact h)
theorem op_skip {i : Nat} {o : Oper} {a : Act} {w w' : World} {K : Act → World → Prop} (hi : ops[i]? = some o) (hg : o.guard = none) (hx : (execOp a.eval o).run P w = .ok .skip w') (hK : K (a.put o.dst undef) w') : wpOp P ops Q i K a w := by
  refine op_any hi hg ?_
  unfold Oper.wp
  rw [hx]
  exact hK
theorem op_call {i : Nat} {o : Oper} {a : Act} {w : World} {f : FuncId} {args : Array Value} {K : Act → World → Prop} (hi : ops[i]? = some o) (hg : o.guard = none) (hx : (execOp a.eval o).run P w = .ok (.enter f args) w)
    (hK : Calls P f args w fun e w' => ∃ v, e = .returned v ∧ K (a.put o.dst v) w') : wpOp P ops Q i K a w := by
  refine op_any hi hg ?_
  unfold Oper.wp
  rw [hx]
  simp only [Oper.upon]
  refine hK.mono ?_
  rintro e w' ⟨v, rfl, hk⟩
  exact hk
end
theorem fa1 {p : Nat → Prop} {i : Nat} (h : p i) : ∀ j ∈ [i], p j := by intro j hj; rw [List.mem_singleton.1 hj]; exact h
theorem fa2 {p : Nat → Prop} {i k : Nat} (h : p i) (h2 : p k) : ∀ j ∈ [i, k], p j := List.forall_mem_cons.2 ⟨h, fa1 h2⟩
theorem exec_store5 {o : Oper} {a : Act} {V : World} {s1 s2 q n3 c3 n4 c4 n5 c5 : Nat} {k : Int} {T : ByteArray} {a3 a4 a5 : Option Addr} (ho : o.op = .store 30 (.tmp s1) (.tmp s2)) (h1 : a.eval (.tmp s1) = .pointer (some ⟨q, 0, none⟩)) (h2 : a.eval (.tmp s2) = .agg #[.int .i64 k, .string T, .slice a3 n3 c3, .slice a4 n4 c4, .slice a5 n5 c5])
    (hg : V.heap[q]? = some zVb) : (execOp a.eval o).run Tryz.prog V = .ok .skip (Dec.fin5 V q (.int .i64 k) (.string T) (.slice a3 n3 c3) (.slice a4 n4 c4) (.slice a5 n5 c5)) := by
  cases o
  simp only at ho
  subst ho
  obtain ⟨⟨d0, d1, d2, d3, d4⟩, fv⟩ := box5 hg
  have f0 := fv 0
  have f1 := fv 1
  have f2 := fv 2
  have f3 := fv 3
  have f4 := fv 4
  clear fv
  unfold Dec.fin5
  simp only [execOp, h1, h2]
  go_simp
theorem f5_va_far {w : World} {v : Value} {x : Vl} {o : Obj} {y0 y1 y2 y3 y4 : Value} (h : VA w v x) : VA (Dec.fin5 (w.alloc o) w.heap.size y0 y1 y2 y3 y4) v x := h.below (Dec.f5_b (alb w o) (Nat.le_refl _))
section
variable {F X : Nat → Prop} {b : Nat} {w : World} {S : Sp}
theorem en_gd2 (h0 : SP F X b w S) (k : Bs) (now : Int) {e : En} (hg : gt S now k = some e) : Gd e.val := by
  obtain ⟨FI, bm, bi, mv, L, s, h⟩ := h0
  have he := h.ent k
  rw [(gt_some hg).1] at he
  cases q : lkp L k with
  | none => rw [q] at he; exact absurd he (by simp [Two])
  | some v =>
    rw [q] at he
    exact EnAt.gd he
set_option maxHeartbeats 40000000 in
set_option maxRecDepth 100000 in
theorem dump_yes (h : SP F X b w S) (now : Int) {G : Nat → Prop} {a : Option Addr} {n c : Nat} {l : List Base.El} (hl : SL G w (.slice a n c) l) (hl0 : 0 < l.length) (hk : l[0].length ≤ 281474976710656) {en : En} (hg : gt S now l[0] = some en) (hlen : (enc en.val).length ≤ 140737488355328) :
    Calls Tryz.prog 40 #[cV b now a n c] w fun e w' => e = .returned (rp 4 (mk (encV en.val)) 0) ∧ Below w.heap.size w w' ∧ Dn F X b w w' S := by
  have hgd := en_gd2 h l[0] now hg
  obtain ⟨rfl, hcs⟩ := sl_get hl
  obtain ⟨ga, oa, rfl, hc0⟩ := hcs 0 (by omega)
  rw [Nat.add_zero] at hc0
  have hga : ga < w.heap.size := Base.cell_lt hc0
  obtain ⟨W, hW⟩ : ∃ W, W = (w.alloc (cO b now (some ⟨ga, oa, none⟩) l.length c)).alloc (rO 0 ⟨#[]⟩ 0 (.slice none 0 0)) := ⟨_, rfl⟩
  obtain ⟨bW, x0, x1, sW⟩ := two_boxes w (cO b now (some ⟨ga, oa, none⟩) l.length c) (rO 0 ⟨#[]⟩ 0 (.slice none 0 0)) ⟨_, _, rfl⟩
  rw [← hW] at bW x0 x1 sW
  have HH := hid_of h
  have HB := hid_of bW
  have HX0 := hid_of x0
  have HX1 := hid_of x1
  have HSW := hid_of sW
  have HW := hid_of hW
  have t0 : KCmd.Tmp w W w.heap.size := ⟨Nat.le_refl _, by rw [HSW.out]; omega⟩
  have t1 : KCmd.Tmp w W (w.heap.size + 1) := ⟨by omega, by rw [HSW.out]; omega⟩
  have H1 := hid_of fun (V : World) (hV : Below W.heap.size W V) => get_yes ((h.below bW).below hV) l[0] hk now hg
  have HE := hid_of fun (V : World) (v : Value) (hv : VA V v en.val) => encode_call hv hgd.wel hgd.sm hlen
  have HBk := hid_of fun (V : World) (T : ByteArray) => bulk_call T V
  obtain ⟨⟨cc0, cc1, cc2⟩, -⟩ := box3 x0
  have hcW := (bW.cell (p := ⟨ga, oa, none⟩) hga).trans hc0
  have hgW : ga < W.heap.size := Base.cell_lt hcW
  have hlb0 : (0 : Int) < (l.length : Int) := by omega
  have hlw : w.heap.size < W.heap.size := lt_of HX0.out
  have HC0 := hid_of fun (V : World) (hV : Below W.heap.size W V) => (hV.cell (p := ⟨w.heap.size, 0, none⟩) hlw).trans cc0
  have HC1 := hid_of fun (V : World) (hV : Below W.heap.size W V) => (hV.cell (p := ⟨w.heap.size, 1, none⟩) hlw).trans cc1
  have HC2 := hid_of fun (V : World) (hV : Below W.heap.size W V) => (hV.cell (p := ⟨w.heap.size, 2, none⟩) hlw).trans cc2
  have HCG := hid_of fun (V : World) (hV : Below W.heap.size W V) => (hV.cell (p := ⟨ga, oa, none⟩) hgW).trans hcW
  generalize hEV : mk (encV en.val) = EV at *
  have hchk : (chk en.val : Int) = 0 := by rw [hgd.chk]
  clear hW bW x0 x1 sW h hg hgd hlen hcs hl hc0
  generalize mk l[0] = KK at *
  go_enter Tryz.func40, Tryz.ntmps40
  go_wp2_with fail
  rw [← HW.out]
  go_cut [3, 4] (fun s3 s4 wx => ∃ (q : Nat) (A B C : Value), s3 = .pointer (some ⟨q, 0, none⟩) ∧ s4 = .bool true ∧ Hid (wx.heap[q]? = some (vO en.val.kind (mk en.val.text) A B C) ∧ VA wx (.agg #[.int .i64 en.val.kind, .string (mk en.val.text), A, B, C]) en.val ∧ Below W.heap.size W wx))
  case first =>
    have HS := hid_of ((Below.refl W.heap.size W).drew)
    refine wp_region_held_drew (S := fun V => Below W.heap.size W V) (by kernel_rfl) HS.out (fun _ => ?_)
    refine take_d (i := 0) (d := 8) (v := .pointer (some ⟨w.heap.size, 0, none⟩)) rfl rfl (by kernel_rfl) (by kernel_rfl) (by kernel_rfl) (fun _ _ _ h => h) (Or.inl ⟨by kernel_rfl, fun Wx _ => by kernel_rfl⟩) HS.out ?_
    try simp only [Act.put, List.setIfInBounds_toArray, List.set_cons_zero, List.set_cons_succ]
    refine take_d (i := 1) (d := 9) (v := ptr b) rfl rfl (by kernel_rfl) (by kernel_rfl) (by kernel_rfl) (fun _ _ _ h => h) (Or.inl ⟨by kernel_rfl, fun Wx hWx => by have hWc := HC0.out Wx hWx; go_simp⟩) HS.out ?_
    try simp only [Act.put, List.setIfInBounds_toArray, List.set_cons_zero, List.set_cons_succ]
    refine take_d (i := 2) (d := 10) (v := .pointer (some ⟨w.heap.size, 2, none⟩)) rfl rfl (by kernel_rfl) (by kernel_rfl) (by kernel_rfl) (fun _ _ _ h => h) (Or.inl ⟨by kernel_rfl, fun Wx _ => by kernel_rfl⟩) HS.out ?_
    try simp only [Act.put, List.setIfInBounds_toArray, List.set_cons_zero, List.set_cons_succ]
    refine take_d (i := 3) (d := 11) (v := .slice (some ⟨ga, oa, none⟩) l.length c) rfl rfl (by kernel_rfl) (by kernel_rfl) (by kernel_rfl) (fun _ _ _ h => h) (Or.inl ⟨by kernel_rfl, fun Wx hWx => by have hWc := HC2.out Wx hWx; go_simp⟩) HS.out ?_
    try simp only [Act.put, List.setIfInBounds_toArray, List.set_cons_zero, List.set_cons_succ]
    refine take_d (i := 4) (d := 12) (v := .pointer (some ⟨ga, oa, none⟩)) rfl rfl (by kernel_rfl) (by kernel_rfl) (by kernel_rfl) (fun _ _ _ h => h) (Or.inl ⟨by kernel_rfl, fun Wx _ => by go_simp⟩) HS.out ?_
    try simp only [Act.put, List.setIfInBounds_toArray, List.set_cons_zero, List.set_cons_succ]
    refine take_d (i := 5) (d := 13) (v := .string KK) rfl rfl (by kernel_rfl) (by kernel_rfl) (by kernel_rfl) (fun _ _ _ h => h) (Or.inl ⟨by kernel_rfl, fun Wx hWx => by have hWc := HCG.out Wx hWx; go_simp⟩) HS.out ?_
    try simp only [Act.put, List.setIfInBounds_toArray, List.set_cons_zero, List.set_cons_succ]
    refine take_d (i := 6) (d := 14) (v := .pointer (some ⟨w.heap.size, 1, none⟩)) rfl rfl (by kernel_rfl) (by kernel_rfl) (by kernel_rfl) (fun _ _ _ h => h) (Or.inl ⟨by kernel_rfl, fun Wx _ => by kernel_rfl⟩) HS.out ?_
    try simp only [Act.put, List.setIfInBounds_toArray, List.set_cons_zero, List.set_cons_succ]
    refine take_d (i := 7) (d := 15) (v := .int .i64 now) rfl rfl (by kernel_rfl) (by kernel_rfl) (by kernel_rfl) (fun _ _ _ h => h) (Or.inl ⟨by kernel_rfl, fun Wx hWx => by have hWc := HC1.out Wx hWx; go_simp⟩) HS.out ?_
    try simp only [Act.put, List.setIfInBounds_toArray, List.set_cons_zero, List.set_cons_succ]
    refine wpAnyH_all (rs := [8, 12]) (by kernel_rfl) (by simp) (fa2 ?_ ?_)
    · skip
      refine op_call (f := 73) (args := #[ptr b, .string KK, .int .i64 now]) rfl rfl (by kernel_rfl) ((H1.out _ HS.out).mono ?_)
      rintro e w3 ⟨u, rfl, hu, b3⟩
      obtain ⟨a1, n1, c1, a2, n2, c2, a3, n3, c3, rfl⟩ := vn_form hu
      have B3 := hid_of (FRow.bel HS.out b3 (Nat.le_refl _))
      have HU := hid_of hu
      clear hu
      refine ⟨_, rfl, B3.out, ?_⟩
      try simp only [Act.put, List.setIfInBounds_toArray, List.set_cons_zero, List.set_cons_succ]
      refine take_d (i := 9) (d := 7) (v := .tuple #[.agg #[.int .i64 en.val.kind, .string (mk en.val.text), .slice a1 n1 c1, .slice a2 n2 c2, .slice a3 n3 c3], .bool true]) rfl rfl (by kernel_rfl) (by kernel_rfl) (by kernel_rfl) (fun _ _ _ h => h) (Or.inl ⟨by kernel_rfl, fun Wx _ => by kernel_rfl⟩) B3.out ?_
      try simp only [Act.put, List.setIfInBounds_toArray, List.set_cons_zero, List.set_cons_succ]
      refine take_d (i := 10) (d := 17) (v := .agg #[.int .i64 en.val.kind, .string (mk en.val.text), .slice a1 n1 c1, .slice a2 n2 c2, .slice a3 n3 c3]) rfl rfl (by kernel_rfl) (by kernel_rfl) (by kernel_rfl) (fun _ _ _ h => h) (Or.inl ⟨by kernel_rfl, fun Wx _ => by kernel_rfl⟩) B3.out ?_
      try simp only [Act.put, List.setIfInBounds_toArray, List.set_cons_zero, List.set_cons_succ]
      refine take_d (i := 11) (d := 18) (v := .bool true) rfl rfl (by kernel_rfl) (by kernel_rfl) (by kernel_rfl) (fun _ _ _ h => h) (Or.inl ⟨by kernel_rfl, fun Wx _ => by kernel_rfl⟩) B3.out ?_
      try simp only [Act.put, List.setIfInBounds_toArray, List.set_cons_zero, List.set_cons_succ]
      refine wpAnyH_all (rs := [12]) (by kernel_rfl) (by simp) (fa1 ?_)
      refine op_value_d (d := 3) (v := .pointer (some ⟨w3.heap.size, 0, none⟩)) (w' := w3.alloc zVb) rfl rfl rfl (by kernel_rfl) ⟨FRow.bel B3.out (alb w3 _) (Nat.le_refl _), ?_⟩
      try simp only [Act.put, List.setIfInBounds_toArray, List.set_cons_zero, List.set_cons_succ]
      have HX3 := hid_of (show (w3.alloc zVb).heap[w3.heap.size]? = some zVb from heap_alloc_new w3 _)
      have HLq := hid_of (show W.heap.size ≤ w3.heap.size from B3.out.size)
      have HB4 := hid_of (show Below W.heap.size W (w3.alloc zVb) from FRow.bel B3.out (alb w3 _) (Nat.le_refl _))
      refine wpAnyH_all (rs := [13]) (by kernel_rfl) (by simp) (fa1 ?_)
      refine op_skip rfl rfl (exec_store5 (s1 := 3) (s2 := 17) (q := w3.heap.size) (k := en.val.kind) (T := mk en.val.text) (a3 := a1) (n3 := n1) (c3 := c1) (a4 := a2) (n4 := n2) (c4 := c2) (a5 := a3) (n5 := n3) (c5 := c3) rfl (by kernel_rfl) (by kernel_rfl) HX3.out) ⟨Dec.f5_b HB4.out HLq.out, ?_⟩
      try simp only [Act.put, List.setIfInBounds_toArray, List.set_cons_zero, List.set_cons_succ]
      refine take_d (i := 14) (d := 4) (v := .bool true) rfl rfl (by kernel_rfl) (by kernel_rfl) (by kernel_rfl) (fun _ _ _ h => h) (Or.inl ⟨by kernel_rfl, fun Wx _ => by kernel_rfl⟩) (Dec.f5_b HB4.out HLq.out) ?_
      try simp only [Act.put, List.setIfInBounds_toArray, List.set_cons_zero, List.set_cons_succ]
      refine wpAnyH_done (by kernel_rfl) ?_ _
      go_wp2_with fail
      go_meet
      case rel => exact ⟨w3.heap.size, _, _, _, rfl, rfl, hid_of ⟨Copy.set5 HX3.out _ _ _ _ _, f5_va_far HU.out.va, Dec.f5_b HB4.out HLq.out⟩⟩
    · skip
      refine op_value_d (d := 3) (v := .pointer (some ⟨W.heap.size, 0, none⟩)) (w' := W.drew.alloc zVb) rfl rfl rfl (by kernel_rfl) ⟨FRow.bel HS.out (alb W.drew _) (Nat.le_refl _), ?_⟩
      try simp only [Act.put, List.setIfInBounds_toArray, List.set_cons_zero, List.set_cons_succ]
      have HB4 := hid_of (show Below W.heap.size W (W.drew.alloc zVb) from FRow.bel HS.out (alb W.drew _) (Nat.le_refl _))
      have HX4 := hid_of (show (W.drew.alloc zVb).heap[W.heap.size]? = some zVb from heap_alloc_new W.drew _)
      have HZ4 := hid_of (show W.heap.size < (W.drew.alloc zVb).heap.size by simp)
      generalize W.drew.alloc zVb = V4 at *
      refine wpAnyH_all (rs := [8]) (by kernel_rfl) (by simp) (fa1 ?_)
      refine op_call (f := 73) (args := #[ptr b, .string KK, .int .i64 now]) rfl rfl (by kernel_rfl) ((H1.out _ HB4.out).mono ?_)
      rintro e w3 ⟨u, rfl, hu, b3⟩
      obtain ⟨a1, n1, c1, a2, n2, c2, a3, n3, c3, rfl⟩ := vn_form hu
      have B3 := hid_of (FRow.bel HB4.out b3 (Nat.le_refl _))
      have HU := hid_of hu
      clear hu
      refine ⟨_, rfl, B3.out, ?_⟩
      try simp only [Act.put, List.setIfInBounds_toArray, List.set_cons_zero, List.set_cons_succ]
      refine take_d (i := 9) (d := 7) (v := .tuple #[.agg #[.int .i64 en.val.kind, .string (mk en.val.text), .slice a1 n1 c1, .slice a2 n2 c2, .slice a3 n3 c3], .bool true]) rfl rfl (by kernel_rfl) (by kernel_rfl) (by kernel_rfl) (fun _ _ _ h => h) (Or.inl ⟨by kernel_rfl, fun Wx _ => by kernel_rfl⟩) B3.out ?_
      try simp only [Act.put, List.setIfInBounds_toArray, List.set_cons_zero, List.set_cons_succ]
      refine take_d (i := 10) (d := 17) (v := .agg #[.int .i64 en.val.kind, .string (mk en.val.text), .slice a1 n1 c1, .slice a2 n2 c2, .slice a3 n3 c3]) rfl rfl (by kernel_rfl) (by kernel_rfl) (by kernel_rfl) (fun _ _ _ h => h) (Or.inl ⟨by kernel_rfl, fun Wx _ => by kernel_rfl⟩) B3.out ?_
      try simp only [Act.put, List.setIfInBounds_toArray, List.set_cons_zero, List.set_cons_succ]
      refine take_d (i := 11) (d := 18) (v := .bool true) rfl rfl (by kernel_rfl) (by kernel_rfl) (by kernel_rfl) (fun _ _ _ h => h) (Or.inl ⟨by kernel_rfl, fun Wx _ => by kernel_rfl⟩) B3.out ?_
      try simp only [Act.put, List.setIfInBounds_toArray, List.set_cons_zero, List.set_cons_succ]
      have HX3 := hid_of ((b3.block _ HZ4.out).trans HX4.out)
      have HLq := hid_of (Nat.le_refl W.heap.size)
      refine wpAnyH_all (rs := [13]) (by kernel_rfl) (by simp) (fa1 ?_)
      refine op_skip rfl rfl (exec_store5 (s1 := 3) (s2 := 17) (q := W.heap.size) (k := en.val.kind) (T := mk en.val.text) (a3 := a1) (n3 := n1) (c3 := c1) (a4 := a2) (n4 := n2) (c4 := c2) (a5 := a3) (n5 := n3) (c5 := c3) rfl (by kernel_rfl) (by kernel_rfl) HX3.out) ⟨Dec.f5_b B3.out HLq.out, ?_⟩
      try simp only [Act.put, List.setIfInBounds_toArray, List.set_cons_zero, List.set_cons_succ]
      refine take_d (i := 14) (d := 4) (v := .bool true) rfl rfl (by kernel_rfl) (by kernel_rfl) (by kernel_rfl) (fun _ _ _ h => h) (Or.inl ⟨by kernel_rfl, fun Wx _ => by kernel_rfl⟩) (Dec.f5_b B3.out HLq.out) ?_
      try simp only [Act.put, List.setIfInBounds_toArray, List.set_cons_zero, List.set_cons_succ]
      refine wpAnyH_done (by kernel_rfl) ?_ _
      go_wp2_with fail
      go_meet
      case rel => exact ⟨W.heap.size, _, _, _, rfl, rfl, hid_of ⟨Copy.set5 HX3.out _ _ _ _ _, (Dec.f5_vn HU.out HZ4.out).va, Dec.f5_b B3.out HLq.out⟩⟩
  case rest =>
    obtain ⟨q, A, B, C, rfl, rfl, HQ⟩ := hcut
    obtain ⟨⟨p0, p1, p2, p3, p4⟩, -⟩ := box5 HQ.out.1
    have B1 := hid_of HQ.out.2.2
    have HE1 := hid_of (HE.out wc _ HQ.out.2.1)
    rw [hchk] at HE1
    clear HQ HE
    go_wp2_with fail
    refine HE1.out.mono ?_
    rintro e w3 ⟨rfl, b3⟩
    have B3 := hid_of (FRow.bel B1.out b3 (Nat.le_refl _))
    clear b3 p0 p1 p2 p3 p4
    go_wp2_with fail
    refine (HBk.out _ _).mono ?_
    rintro e w4 ⟨rfl, b4⟩
    have D2 := Dn.of (sp_wide HH.out HB.out) (FRow.bel B3.out b4 (Nat.le_refl _))
    have hbl := fin4_b (y0 := .int .i64 4) (y1 := .string EV) (y2 := .int .i64 0) (y3 := .slice none 0 0) (HB.out.trans ((FRow.bel B3.out b4 (Nat.le_refl _)).mono HB.out.size)) (Nat.le_succ w.heap.size)
    unfold fin4 at hbl
    have z2 := (dn_block HH.out HB.out D2 t1).trans HX1.out
    have hz := fin4_at z2 (.int .i64 4) (.string EV) (.int .i64 0) (.slice none 0 0)
    have hdn := dn_tmp HH.out HB.out D2 (ev_fin4 t1 (.int .i64 4) (.string EV) (.int .i64 0) (.slice none 0 0))
    unfold fin4 at hz hdn
    obtain ⟨⟨v0, v1, v2, v3⟩, fv⟩ := box4 z2
    have fv0 := fv 0
    have fv1 := fv 1
    have fv2 := fv 2
    have fv3 := fv 3
    clear fv z2
    go_wp2_with fail
    obtain ⟨⟨g0, g1, g2, g3⟩, -⟩ := box4 hz
    exact bodyPost_ret (v := (rp 4 EV 0)) (by simp [results, Tryz.results40, go_sem, g0, g1, g2, g3]) rfl ⟨rfl, hbl, hdn⟩
end
end Go.Proofs.YtminfpkigenahaaGreatDoor.KDump
end
section
namespace Go.Proofs.YtminfpkigenahaaGreatDoor.Heap
open Go.RowKit
open Go.Proofs.YtminfpkigenahaaGreatDoor.HeapMath
set_option linter.unusedVariables false
set_option linter.unusedSimpArgs false
set_option maxHeartbeats 1000000 in
set_option maxRecDepth 100000 in
theorem upEdgeS {α : Type} [Inhabited α] [DecidableEq α] {lt : α → α → Prop} [DecidableRel lt] (o : STO lt) (pv : Value) {R : World → List α → Prop} {F : World → World → Prop} (M : Moves 251 254 lt pv R F) (w : World) (l : List α) (n j : Nat) (h : R w l) (hn : n ≤ l.length) (hb : l.length ≤ 1099511627776) (hj : j < n) (hu : Up lt l n j) :
    Calls Tryz.prog 61 #[.iface 212 pv, .int .i64 (j : Int)] w fun e w' => e = .returned (.tuple #[]) ∧ (∃ l', R w' l' ∧ Was lt n l l') ∧ F w w' := by
  have HM := hid_of M
  have HO := hid_of o
  have I0 := hid_of (show R w l ∧ Up lt l n j ∧ l.Perm l ∧ (∀ k, n ≤ k → pl l k = pl l k) ∧ F w w from ⟨h, hu, List.Perm.refl _, fun _ _ => rfl, M.refl w⟩)
  have HN := hid_of hn
  clear M o h hu hn
  go_enter Tryz.func61, Tryz.ntmps61
  go_wp2_with fail
  go_loopg [1] j (fun g s1 wx => ∃ (p : Nat) (m : List α), p ≤ g ∧ p < n ∧ s1 = .int .i64 (p : Int) ∧ Hid (R wx m ∧ Up lt m n p ∧ m.Perm l ∧ (∀ k, n ≤ k → pl m k = pl l k) ∧ F w wx))
  case atStart => exact ⟨j, l, Nat.le_refl _, hj, rfl, hid_of ⟨I0.out.1, I0.out.2.1, I0.out.2.2.1, fun _ _ => rfl, I0.out.2.2.2.2⟩⟩
  case round =>
    obtain ⟨p, m, hpg, hpn, rfl, I⟩ := hrel
    have hpb : p ≤ 1099511627776 := by have := HN.out; omega
    have HL := hid_of (I.out.2.2.1.length_eq)
    rcases (show p = 0 ∨ 0 < p by omega) with hp0 | hp0
    · have HF := hid_of (I.out.2.1.fin (.inl hp0))
      subst hp0
      go_wp2_with fail
      go_end0
      exact ⟨rfl, ⟨m, I.out.1, HF.out, I.out.2.2.1, I.out.2.2.2.1⟩, I.out.2.2.2.2⟩
    · obtain ⟨q, HQ⟩ : ∃ q, Hid (q = par p) := ⟨_, hid_of rfl⟩
      have hq : ((p : Int) - 1) / 2 = (q : Int) := by rw [HQ.out]; unfold par; omega
      have hqp : q < p := by rw [HQ.out]; exact par_lt hp0
      have hne : ((q : Int) == (p : Int)) = false := by rw [beq_eq_false_iff_ne]; omega
      have HC := hid_of (HM.out.less wr m p q I.out.1 (by rw [HL.out]; have := HN.out; omega) (by rw [HL.out]; have := HN.out; omega))
      cases hd : decide (lt (pl m p) (pl m q)) with
      | false =>
        have hnl : ¬ lt (pl m p) (pl m (par p)) := by rw [← HQ.out]; exact of_decide_eq_false hd
        have HF := hid_of (I.out.2.1.fin (.inr hnl))
        rw [hd] at HC
        clear hnl hd
        go_wp2_with fail
        refine HC.out.mono ?_
        rintro e w1 ⟨rfl, r1, f1⟩
        have R1 := hid_of (And.intro r1 (HM.out.trans _ _ _ I.out.2.2.2.2 f1))
        clear r1 f1
        go_wp2_with fail
        go_end0
        exact ⟨rfl, ⟨m, R1.out.1, HF.out, I.out.2.2.1, I.out.2.2.2.1⟩, R1.out.2⟩
      | true =>
        obtain ⟨g', rfl⟩ : ∃ g', gk = g' + 1 := ⟨gk - 1, by omega⟩
        have hl : lt (pl m p) (pl m (par p)) := by rw [← HQ.out]; exact of_decide_eq_true hd
        have hml : n ≤ m.length := by rw [HL.out]; exact HN.out
        have HS := hid_of (I.out.2.1.step HO.out hml hp0 hpn hl)
        rw [← HQ.out] at HS
        have HP := hid_of ((swp_perm (l := m) (i := q) (j := p) (by omega) (by omega)).trans I.out.2.2.1)
        have HK := hid_of (fun k (hk : n ≤ k) => (show pl (swp m q p) k = pl l k by rw [swp_at (by omega) (by omega), if_neg (by omega), if_neg (by omega)]; exact I.out.2.2.2.1 k hk))
        rw [hd] at HC
        clear hd hl hml
        go_wp2_with fail
        refine HC.out.mono ?_
        rintro e w1 ⟨rfl, r1, f1⟩
        have HC2 := hid_of (HM.out.swap w1 m q p r1 (by rw [HL.out]; have := HN.out; omega) (by rw [HL.out]; have := HN.out; omega))
        have F1 := hid_of (HM.out.trans _ _ _ I.out.2.2.2.2 f1)
        clear r1 f1 HC
        go_wp2_with fail
        refine HC2.out.mono ?_
        rintro e w2 ⟨rfl, r2, f2⟩
        have I2 := hid_of (show R w2 (swp m q p) ∧ Up lt (swp m q p) n q ∧ (swp m q p).Perm l ∧ (∀ k, n ≤ k → pl (swp m q p) k = pl l k) ∧ F w w2 from ⟨r2, HS.out, HP.out, HK.out, HM.out.trans _ _ _ F1.out f2⟩)
        clear r2 f2 HC2 HS HP HK F1 I
        go_wp2_with fail
        go_roundg g'
        case measure => omega
        case rel => exact ⟨q, swp m q p, by omega, by omega, rfl, I2⟩
set_option maxHeartbeats 4000000 in
set_option maxRecDepth 100000 in
theorem downEdgeS {α : Type} [Inhabited α] [DecidableEq α] {lt : α → α → Prop} [DecidableRel lt] (o : STO lt) (pv : Value) {R : World → List α → Prop} {F : World → World → Prop} (M : Moves 251 254 lt pv R F) (w : World) (l : List α) (n i0 : Nat) (h : R w l) (hn : n ≤ l.length) (hb : l.length ≤ 1099511627776) (hi : i0 < n) (hd : D0 lt l n i0) :
    Calls Tryz.prog 60 #[.iface 212 pv, .int .i64 (i0 : Int), .int .i64 (n : Int)] w fun e w' => DownE lt n i0 l R F w e w' := by
  have HM := hid_of M
  have HO := hid_of o
  have HD := hid_of hd
  have I0 := hid_of (And.intro h (M.refl w))
  have HN := hid_of hn
  clear M o h hd hn
  go_enter Tryz.func60, Tryz.ntmps60
  go_wp2_with fail
  go_loopg [7] n (fun g s7 wx => ∃ (i : Nat) (m : List α), n ≤ i + g ∧ i < n ∧ i0 ≤ i ∧ s7 = .int .i64 (i : Int) ∧ Hid (R wx m ∧ Mid lt n i0 i l m ∧ F w wx))
  case atStart => exact ⟨i0, l, by omega, hi, Nat.le_refl _, rfl, hid_of ⟨I0.out.1, Mid.start HD.out, I0.out.2⟩⟩
  case round =>
    obtain ⟨i, m, hig, hin, hi0, rfl, I⟩ := hrel
    have hib : i ≤ 1099511627776 := by have := HN.out; omega
    have HL := hid_of (I.out.2.1.perm.length_eq)
    have hml : n ≤ m.length := by rw [HL.out]; exact HN.out
    have gt0 : (((i : Int)) > (i0 : Int)) = ((i0 : Int) < (i : Int)) := rfl
    obtain ⟨j1, HJ1⟩ : ∃ j1, Hid (j1 = 2 * i + 1) := ⟨_, hid_of rfl⟩
    have hj1 : 2 * (i : Int) + 1 = (j1 : Int) := by rw [HJ1.out]; omega
    have hj1b : i < j1 := by rw [HJ1.out]; omega
    by_cases hc1 : n ≤ j1
    · have HE := hid_of (I.out.2.1.fin HO.out (fun k hk hkn hkp => absurd hkn (by have := (par_eq hk).1 hkp; have := HJ1.out; omega)))
      have g1 : (n : Int) ≤ (j1 : Int) := by omega
      go_wp2_with fail
      go_ret
      exact ⟨decide (i0 < i), m, rfl, I.out.1, HE.out, I.out.2.2⟩
    · have g1 : (j1 : Int) < (n : Int) := by omega
      have hj1n : j1 < n := by omega
      obtain ⟨j2, HJ2⟩ : ∃ j2, Hid (j2 = j1 + 1) := ⟨_, hid_of rfl⟩
      have hj2 : (j1 : Int) + 1 = (j2 : Int) := by rw [HJ2.out]; omega
      have kid : Hid (∀ k, 0 < k → k < n → par k = i → k = j1 ∨ k = j2) := fun k hk hkn hkp => by have := (par_eq hk).1 hkp; have := HJ1.out; have := HJ2.out; omega
      have HLs := fun (W : World) (hW : R W m) (a b : Nat) (ha : a < n) (hb : b < n) => HM.out.less W m a b hW (by omega) (by omega)
      have HLS := hid_of HLs
      have HSW := hid_of (fun (W : World) (hW : R W m) (a b : Nat) (ha : a < n) (hb : b < n) => HM.out.swap W m a b hW (by omega) (by omega))
      clear HLs
      by_cases hc2 : j2 < n
      · have g2 : (j2 : Int) < (n : Int) := by omega
        have HC0 := hid_of (HLS.out wr I.out.1 j2 j1 hc2 hj1n)
        cases hd1 : decide (lt (pl m j2) (pl m j1)) with
        | true =>
          have hl1 : lt (pl m j2) (pl m j1) := of_decide_eq_true hd1
          rw [hd1] at HC0
          have HLT := hid_of hl1
          clear hl1 hd1
          go_wp2_with fail
          refine HC0.out.mono ?_
          rintro e w4 ⟨rfl, r4, f4⟩
          have RX := hid_of (And.intro r4 (HM.out.trans _ _ _ I.out.2.2 f4))
          clear r4 f4 HC0
          have HLE : Hid (Least lt m n i j2) := ⟨by omega, hc2, by have := HJ1.out; have := HJ2.out; unfold par; omega, fun k hk hkn hkp => by rcases kid.out k hk hkn hkp with rfl | rfl; exact HO.out.asymm HLT.out; exact HO.out.irr _⟩
          have hjn : j2 < n := HLE.out.2.1
          have HC := hid_of (HLS.out w4 RX.out.1 j2 i hjn hin)
          cases hd2 : decide (lt (pl m j2) (pl m i)) with
          | false =>
            have hnl : ¬ lt (pl m j2) (pl m i) := of_decide_eq_false hd2
            have HE := hid_of (I.out.2.1.fin HO.out (fun k hk hkn hkp => HO.out.le_trans hnl (HLE.out.2.2.2 k hk hkn hkp)))
            rw [hd2] at HC
            clear hnl hd2
            go_wp2_with fail
            refine HC.out.mono ?_
            rintro e w5 ⟨rfl, r5, f5⟩
            have R5 := hid_of (And.intro r5 (HM.out.trans _ _ _ RX.out.2 f5))
            clear r5 f5
            go_wp2_with fail
            go_ret
            exact ⟨decide (i0 < i), m, rfl, R5.out.1, HE.out, R5.out.2⟩
          | true =>
            obtain ⟨g', rfl⟩ : ∃ g', gk = g' + 1 := ⟨gk - 1, by omega⟩
            have HS := hid_of (I.out.2.1.step HO.out hml hin hi0 HLE.out (of_decide_eq_true hd2))
            have hij : i < j2 := by have := par_lt HLE.out.1; have := HLE.out.2.2.1; omega
            rw [hd2] at HC
            clear hd2
            go_wp2_with fail
            refine HC.out.mono ?_
            rintro e w5 ⟨rfl, r5, f5⟩
            have R5 := hid_of (And.intro r5 (HM.out.trans _ _ _ RX.out.2 f5))
            have HC3 := hid_of (HSW.out w5 r5 i j2 hin hjn)
            clear r5 f5 HC
            go_wp2_with fail
            refine HC3.out.mono ?_
            rintro e w6 ⟨rfl, r6, f6⟩
            have I6 := hid_of (show R w6 (swp m i j2) ∧ Mid lt n i0 j2 l (swp m i j2) ∧ F w w6 from ⟨r6, HS.out, HM.out.trans _ _ _ R5.out.2 f6⟩)
            clear r6 f6 HC3 HS R5 I RX
            go_wp2_with fail
            go_roundg g'
            case measure => omega
            case rel => exact ⟨j2, swp m i j2, by omega, hjn, by omega, rfl, I6⟩
        | false =>
          have hl1 : ¬ lt (pl m j2) (pl m j1) := of_decide_eq_false hd1
          rw [hd1] at HC0
          have HLT := hid_of hl1
          clear hl1 hd1
          go_wp2_with fail
          refine HC0.out.mono ?_
          rintro e w4 ⟨rfl, r4, f4⟩
          have RX := hid_of (And.intro r4 (HM.out.trans _ _ _ I.out.2.2 f4))
          clear r4 f4 HC0
          have HLE : Hid (Least lt m n i j1) := ⟨by omega, hj1n, by have := HJ1.out; unfold par; omega, fun k hk hkn hkp => by rcases kid.out k hk hkn hkp with rfl | rfl; exact HO.out.irr _; exact HLT.out⟩
          have hjn : j1 < n := HLE.out.2.1
          have HC := hid_of (HLS.out w4 RX.out.1 j1 i hjn hin)
          cases hd2 : decide (lt (pl m j1) (pl m i)) with
          | false =>
            have hnl : ¬ lt (pl m j1) (pl m i) := of_decide_eq_false hd2
            have HE := hid_of (I.out.2.1.fin HO.out (fun k hk hkn hkp => HO.out.le_trans hnl (HLE.out.2.2.2 k hk hkn hkp)))
            rw [hd2] at HC
            clear hnl hd2
            go_wp2_with fail
            refine HC.out.mono ?_
            rintro e w5 ⟨rfl, r5, f5⟩
            have R5 := hid_of (And.intro r5 (HM.out.trans _ _ _ RX.out.2 f5))
            clear r5 f5
            go_wp2_with fail
            go_ret
            exact ⟨decide (i0 < i), m, rfl, R5.out.1, HE.out, R5.out.2⟩
          | true =>
            obtain ⟨g', rfl⟩ : ∃ g', gk = g' + 1 := ⟨gk - 1, by omega⟩
            have HS := hid_of (I.out.2.1.step HO.out hml hin hi0 HLE.out (of_decide_eq_true hd2))
            have hij : i < j1 := by have := par_lt HLE.out.1; have := HLE.out.2.2.1; omega
            rw [hd2] at HC
            clear hd2
            go_wp2_with fail
            refine HC.out.mono ?_
            rintro e w5 ⟨rfl, r5, f5⟩
            have R5 := hid_of (And.intro r5 (HM.out.trans _ _ _ RX.out.2 f5))
            have HC3 := hid_of (HSW.out w5 r5 i j1 hin hjn)
            clear r5 f5 HC
            go_wp2_with fail
            refine HC3.out.mono ?_
            rintro e w6 ⟨rfl, r6, f6⟩
            have I6 := hid_of (show R w6 (swp m i j1) ∧ Mid lt n i0 j1 l (swp m i j1) ∧ F w w6 from ⟨r6, HS.out, HM.out.trans _ _ _ R5.out.2 f6⟩)
            clear r6 f6 HC3 HS R5 I RX
            go_wp2_with fail
            go_roundg g'
            case measure => omega
            case rel => exact ⟨j1, swp m i j1, by omega, hjn, by omega, rfl, I6⟩
      · have g2 : ¬ (j2 : Int) < (n : Int) := by omega
        have RX := hid_of (And.intro I.out.1 I.out.2.2)
        have HLE : Hid (Least lt m n i j1) := ⟨by omega, hj1n, by have := HJ1.out; unfold par; omega, fun k hk hkn hkp => by rcases kid.out k hk hkn hkp with rfl | rfl; exact HO.out.irr _; exact absurd hkn hc2⟩
        have hjn : j1 < n := HLE.out.2.1
        have HC := hid_of (HLS.out wr RX.out.1 j1 i hjn hin)
        cases hd2 : decide (lt (pl m j1) (pl m i)) with
        | false =>
          have hnl : ¬ lt (pl m j1) (pl m i) := of_decide_eq_false hd2
          have HE := hid_of (I.out.2.1.fin HO.out (fun k hk hkn hkp => HO.out.le_trans hnl (HLE.out.2.2.2 k hk hkn hkp)))
          rw [hd2] at HC
          clear hnl hd2
          go_wp2_with fail
          refine HC.out.mono ?_
          rintro e w5 ⟨rfl, r5, f5⟩
          have R5 := hid_of (And.intro r5 (HM.out.trans _ _ _ RX.out.2 f5))
          clear r5 f5
          go_wp2_with fail
          go_ret
          exact ⟨decide (i0 < i), m, rfl, R5.out.1, HE.out, R5.out.2⟩
        | true =>
          obtain ⟨g', rfl⟩ : ∃ g', gk = g' + 1 := ⟨gk - 1, by omega⟩
          have HS := hid_of (I.out.2.1.step HO.out hml hin hi0 HLE.out (of_decide_eq_true hd2))
          have hij : i < j1 := by have := par_lt HLE.out.1; have := HLE.out.2.2.1; omega
          rw [hd2] at HC
          clear hd2
          go_wp2_with fail
          refine HC.out.mono ?_
          rintro e w5 ⟨rfl, r5, f5⟩
          have R5 := hid_of (And.intro r5 (HM.out.trans _ _ _ RX.out.2 f5))
          have HC3 := hid_of (HSW.out w5 r5 i j1 hin hjn)
          clear r5 f5 HC
          go_wp2_with fail
          refine HC3.out.mono ?_
          rintro e w6 ⟨rfl, r6, f6⟩
          have I6 := hid_of (show R w6 (swp m i j1) ∧ Mid lt n i0 j1 l (swp m i j1) ∧ F w w6 from ⟨r6, HS.out, HM.out.trans _ _ _ R5.out.2 f6⟩)
          clear r6 f6 HC3 HS R5 I RX
          go_wp2_with fail
          go_roundg g'
          case measure => omega
          case rel => exact ⟨j1, swp m i j1, by omega, hjn, by omega, rfl, I6⟩
end Go.Proofs.YtminfpkigenahaaGreatDoor.Heap
end
section
namespace Go.Proofs.YtminfpkigenahaaGreatDoor.Heap
open Go.RowKit
open Go.Proofs.YtminfpkigenahaaGreatDoor.HeapMath
set_option linter.unusedVariables false
set_option linter.unusedSimpArgs false
set_option maxHeartbeats 1000000 in
set_option maxRecDepth 100000 in
theorem pushEdgeS {α : Type} [Inhabited α] [DecidableEq α] {lt : α → α → Prop} [DecidableRel lt] (o : STO lt) (pv : Value) {xv : α → Value} {ok : α → List α → Prop} {R : World → List α → Prop} {F : World → World → Prop} (M : Thing 158 251 252 253 254 lt pv xv ok R F) (w : World) (l : List α) (a : α) (h : R w l) (ha : ok a l) (hb : l.length < 1099511627776) (hh : Hp lt l l.length) :
    Calls Tryz.prog 34 #[.iface 212 pv, xv a] w fun e w' => e = .returned (.tuple #[]) ∧ (∃ l', R w' l' ∧ Hp lt l' l'.length ∧ l'.Perm (l ++ [a])) ∧ F w w' := by
  have H1 := hid_of (M.push w l a h ha)
  have HM := hid_of M
  have HU := hid_of (fun W (hW : R W (l ++ [a])) => upEdgeS o pv M.moves W (l ++ [a]) (l.length + 1) l.length hW (by simp) (by simp; omega) (by omega) (up_new hh))
  obtain ⟨n, HN⟩ : ∃ n, Hid (n = l.length) := ⟨_, hid_of rfl⟩
  have hn : n < 1099511627776 := by rw [HN.out]; exact hb
  generalize xv a = X at *
  clear M o h ha hh hb
  go_enter Tryz.func34, Tryz.ntmps34
  go_wp2_with fail
  refine H1.out.mono ?_
  rintro e w1 ⟨rfl, r1, f1⟩
  have H2 := hid_of (HM.out.len w1 _ r1)
  rw [show ((l ++ [a]).length : Int) = (n : Int) + 1 by rw [HN.out]; simp] at H2
  have F1 := hid_of f1
  clear r1 f1
  go_wp2_with fail
  refine H2.out.mono ?_
  rintro e w2 ⟨rfl, r2, f2⟩
  have H3 := hid_of (HU.out w2 r2)
  rw [← HN.out] at H3
  have F2 := hid_of (HM.out.moves.trans _ _ _ F1.out f2)
  clear r2 f2
  go_wp2_with fail
  refine H3.out.mono ?_
  rintro e w3 ⟨rfl, ⟨l', r3, hw⟩, f3⟩
  have HE := hid_of (And.intro r3 (And.intro hw (HM.out.moves.trans _ _ _ F2.out f3)))
  clear r3 hw f3
  go_wp2_with fail
  go_end0
  refine ⟨rfl, ⟨l', HE.out.1, ?_, HE.out.2.1.2.1⟩, HE.out.2.2⟩
  have := HE.out.2.1.1
  rw [HE.out.2.1.2.1.length_eq]
  rw [show (l ++ [a]).length = n + 1 by rw [HN.out]; simp]
  exact this
set_option maxHeartbeats 1000000 in
set_option maxRecDepth 100000 in
/-- down of nothing -/
theorem down0EdgeS (pv : Value) (w : World) : Calls Tryz.prog 60 #[.iface 212 pv, .int .i64 0, .int .i64 0] w fun e w' => e = .returned (.bool false) ∧ w' = w := by
  go_enter Tryz.func60, Tryz.ntmps60
  go_wp2_with fail
  go_loopg [7] 0 (fun g s7 wx => s7 = .int .i64 0 ∧ wx = w)
  case atStart => exact ⟨rfl, rfl⟩
  case round =>
    obtain ⟨rfl, rfl⟩ := hrel
    go_wp2_with fail
    go_ret
    exact ⟨rfl, rfl⟩
set_option maxHeartbeats 1000000 in
set_option maxRecDepth 100000 in
theorem popEdgeS {α : Type} [Inhabited α] [DecidableEq α] {lt : α → α → Prop} [DecidableRel lt] (o : STO lt) (pv : Value) {xv : α → Value} {ok : α → List α → Prop} {R : World → List α → Prop} {F : World → World → Prop} (M : Thing 158 251 252 253 254 lt pv xv ok R F) (w : World) (l : List α) (h : R w l) (h0 : 0 < l.length) (hb : l.length < 1099511627776) (hh : Hp lt l l.length) :
    Calls Tryz.prog 159 #[.iface 212 pv] w fun e w' => e = .returned (xv (pl l 0)) ∧ (∃ l', R w' l' ∧ Hp lt l' l'.length ∧ (l' ++ [pl l 0]).Perm l) ∧ F w w' := by
  have H1 := hid_of (M.len w l h)
  have HM := hid_of M
  obtain ⟨n, HN⟩ : ∃ n, Hid (l.length = n + 1) := ⟨l.length - 1, by have : l.length = l.length - 1 + 1 := (by omega); exact this⟩
  have hn : n < 1099511627776 := by have := HN.out; omega
  have HSw := hid_of (fun W (hW : R W l) => M.moves.swap W l 0 n hW h0 (by have := HN.out; omega))
  have HDn := hid_of (fun W (hW : R W (swp l 0 n)) (h1 : 0 < n) => downEdgeS o pv M.moves W (swp l 0 n) n 0 hW (by rw [swp_len, HN.out]; omega) (by rw [swp_len]; omega) h1 (by have := brought o hh (i := 0) (by rw [HN.out]; omega); rw [HN.out] at this; exact this))
  have HQ := hid_of (fun (l' : List α) (h1 : l'.Perm (swp l 0 n)) (h2 : pl l' n = pl (swp l 0 n) n) => (show l'.length = n + 1 ∧ pl l' (l'.length - 1) = pl l 0 ∧ (l'.take (l'.length - 1) ++ [pl l 0]).Perm l from by
    have e1 : l'.length = n + 1 := by rw [h1.length_eq, swp_len]; exact HN.out
    have e2 : pl l' n = pl l 0 := by rw [h2, swp_at h0 (by have := HN.out; omega), if_pos rfl]
    refine ⟨e1, by rw [e1]; exact e2, ?_⟩
    exact left_perm h0 (h1.trans (swp_perm h0 (by have := HN.out; omega))) (by rw [HN.out]; exact e2)))
  rw [HN.out] at H1
  have e0 : ((n + 1 : Nat) : Int) = (n : Int) + 1 := by omega
  rw [e0] at H1
  have HB := hid_of hb
  have HH := hid_of hh
  clear M o h hh hb e0
  go_enter Tryz.func159, Tryz.ntmps159
  go_wp2_with fail
  refine H1.out.mono ?_
  rintro e w1 ⟨rfl, r1, f1⟩
  have H2 := hid_of (HSw.out w1 r1)
  have F1 := hid_of f1
  clear r1 f1
  go_wp2_with fail
  refine H2.out.mono ?_
  rintro e w2 ⟨rfl, r2, f2⟩
  have R2 := hid_of r2
  have F2 := hid_of (HM.out.moves.trans _ _ _ F1.out f2)
  clear r2 f2
  by_cases hn0 : n = 0
  · subst hn0
    have HP0 := HQ.out (swp l 0 0) (List.Perm.refl _) rfl
    have H3 := hid_of (HM.out.pop w2 _ R2.out (by rw [HP0.1]; omega))
    rw [HP0.2.1] at H3
    have HP := hid_of HP0
    clear HP0
    go_wp2_with fail
    refine (down0EdgeS pv w2).mono ?_
    rintro e w3 ⟨rfl, rfl⟩
    go_wp2_with fail
    refine H3.out.mono ?_
    rintro e w4 ⟨rfl, r4, f4⟩
    have HE := hid_of (And.intro r4 (HM.out.moves.trans _ _ _ F2.out f4))
    clear r4 f4
    go_wp2_with fail
    go_ret
    refine ⟨rfl, ⟨_, HE.out.1, ?_, HP.out.2.2⟩, HE.out.2⟩
    intro k hk hkn
    have := HP.out.1
    rw [List.length_take, this] at hkn
    omega
  · have H3 := hid_of (HDn.out w2 R2.out (by omega))
    go_wp2_with fail
    refine H3.out.mono ?_
    rintro e w3 ⟨b, l', rfl, r3, hd, f3⟩
    have HP0 := HQ.out l' hd.1 (hd.2.1 n (Nat.le_refl _))
    have H4 := hid_of (HM.out.pop w3 _ r3 (by rw [HP0.1]; omega))
    rw [HP0.2.1] at H4
    have HP := hid_of HP0
    have HHp : Hid (Hp lt l' n) := by
      cases b with
      | true => exact hd.2.2.1 rfl
      | false =>
        obtain ⟨q1, q2⟩ := hd.2.2.2 rfl
        rw [q1]
        exact fun k hk hkn => q2.1 k hk hkn (by omega)
    have F3 := hid_of (HM.out.moves.trans _ _ _ F2.out f3)
    clear HP0 hd r3 f3
    go_wp2_with fail
    refine H4.out.mono ?_
    rintro e w4 ⟨rfl, r4, f4⟩
    have HE := hid_of (And.intro r4 (HM.out.moves.trans _ _ _ F3.out f4))
    clear r4 f4
    go_wp2_with fail
    go_ret
    refine ⟨rfl, ⟨_, HE.out.1, ?_, HP.out.2.2⟩, HE.out.2⟩
    have q := HP.out.1
    rw [List.length_take, q, show min (n + 1 - 1) (n + 1) = n by omega, show n + 1 - 1 = n by omega]
    exact hp_take HHp.out
end Go.Proofs.YtminfpkigenahaaGreatDoor.Heap
end
