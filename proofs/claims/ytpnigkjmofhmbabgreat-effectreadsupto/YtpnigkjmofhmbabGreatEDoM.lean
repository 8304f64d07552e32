/- Changes of a space without a mark, as effects do them. Apply and Snapshot. Snapshot. What must come whatever the input is. -/
import Derived.Test.YtpnigkjmofhmbabGreatEDecM
section
namespace Go.Proofs.YtpnigkjmofhmbabGreat.EDo
open Go.RowKit Go.Maps
open Go.Proofs.YtpnigkjmofhmbabGreat.SpaceMath (wout withL lkp keys Ris toD)
open Go.Proofs.YtpnigkjmofhmbabGreat.ValueMath (Vl chk small sm)
open Go.Proofs.YtpnigkjmofhmbabGreat.Base (mk mk_list mk_size Gr hid_of SL)
open Go.Proofs.YtpnigkjmofhmbabGreat.Turn
open Go.Proofs.YtpnigkjmofhmbabGreat.Vals
open Go.Proofs.YtpnigkjmofhmbabGreat.Check0 (Wel)
open Go.Proofs.YtpnigkjmofhmbabGreat.SBase
open Go.Proofs.YtpnigkjmofhmbabGreat.SFind
open Go.Proofs.YtpnigkjmofhmbabGreat.SSet
open Go.Proofs.YtpnigkjmofhmbabGreat.STouch
open Go.Proofs.YtpnigkjmofhmbabGreat.SPut
open Go.Proofs.YtpnigkjmofhmbabGreat.SDrop
open Go.Proofs.YtpnigkjmofhmbabGreat.EMay
open Go.Proofs.YtpnigkjmofhmbabGreat.EAll
open Go.Proofs.YtpnigkjmofhmbabGreat.EEnc
set_option linter.unusedVariables false
set_option linter.unusedSimpArgs false
set_option maxHeartbeats 1000000 in
set_option maxRecDepth 100000 in
theorem setdue_no {F X : Nat → Prop} {b : Nat} {w : World} {S : Sp} (h : SP F X b w S) (k : Bs) (hk : k.length ≤ 281474976710656) (d : Int) (he : lkp S.l k = none) :
    Calls Tryz.prog 73 #[ptr b, .string (mk k), .int .i64 d] w fun r w' => r = .returned (.bool false) ∧ Below w.heap.size w w' := by
  have H1 := hid_of (find_call h k hk)
  rw [he] at H1
  clear h
  go_enter Tryz.func73, Tryz.ntmps73
  go_wp2_with fail
  refine H1.out.mono ?_
  rintro r w1 ⟨v, rfl, hv, hb1⟩
  have hv : v = zE := hv
  subst hv
  unfold zE
  obtain ⟨W, hW⟩ : ∃ W, W = w1.alloc (eO ⟨#[]⟩ ⟨#[]⟩ 0 (.slice none 0 0) (.slice none 0 0) (.slice none 0 0) 0 0) := ⟨_, rfl⟩
  have H2 := hid_of (there_call ⟨#[]⟩ ⟨#[]⟩ 0 0 none none none 0 0 0 0 0 0 0 W)
  rw [decide_eq_false (Nat.lt_irrefl 0)] at H2
  have HB1 := hid_of (show Below w.heap.size w W by rw [hW]; exact hb1.trans ((alb w1 _).mono hb1.size))
  have HW := hid_of hW
  clear hb1 H1 hW
  go_wp2_with fail
  rw [← HW.out]
  refine H2.out.mono ?_
  rintro r w2 ⟨rfl, hb2⟩
  have HB2 := hid_of (HB1.out.trans (hb2.mono HB1.out.size))
  clear hb2 HB1 H2
  go_wp2_with fail
  go_ret
  exact ⟨rfl, HB2.out⟩
abbrev chg (b : Nat) : Value := .agg #[.func (.func 71) #[ptr b] #[], .func (.func 72) #[ptr b] #[], .func (.func 73) #[ptr b] #[], .func (.func 74) #[ptr b] #[]]
abbrev cO (b : Nat) : Obj := .cells #[.func (.func 71) #[ptr b] #[], .func (.func 72) #[ptr b] #[], .func (.func 73) #[ptr b] #[], .func (.func 74) #[ptr b] #[]] 90
theorem store_func (w : World) (a : Addr) (f : Fn) (x c : Array Value) (v : Value) (hc : w.cell? a = some v) (hf : w.frozen? a = false) : (store a (.func f x c)).run Tryz.prog w = .ok () (w.setCell a (.func f x c)) := by
  rw [run_store Tryz.prog w a _ _ rfl]
  simp [stored, hc, hf]
theorem set_new (w : World) (cs : Array Value) (t : TypeId) (i : Nat) (v : Value) : (w.alloc (.cells cs t)).setCell ⟨w.heap.size, i, none⟩ v = w.alloc (.cells (cs.setIfInBounds i v) t) := by
  unfold World.setCell World.alloc
  simp only [World.mk.injEq, true_and, and_true]
  apply Array.ext
  · simp
  · intro k h1 h2
    simp only [Array.getElem_modify, Array.getElem_push]
    by_cases hk : k < w.heap.size
    · have : w.heap.size ≠ k := by omega
      simp [hk, this]
    · have : w.heap.size = k := by simp at h1; omega
      simp [hk, this]
theorem store_new (w : World) (cs : Array Value) (t : TypeId) (i : Nat) (f : Fn) (x c : Array Value) (h : i < cs.size) : (store ⟨w.heap.size, i, none⟩ (.func f x c)).run Tryz.prog (w.alloc (.cells cs t)) = .ok () (w.alloc (.cells (cs.setIfInBounds i (.func f x c)) t)) := by
  rw [store_func _ _ f x c (cs[i]'h) (by rw [Lib.cell_of_heap (heap_alloc_new w _)]; exact Array.getElem?_eq_getElem h) (Lib.frozen_of_heap (heap_alloc_new w _) i), set_new]
set_option maxRecDepth 100000 in
theorem chg_call (b : Nat) (w : World) : Calls Tryz.prog 39 #[ptr b] w fun r w' => r = .returned (chg b) ∧ Below w.heap.size w w' := by
  have q0 := store_new w #[.nilFunc, .nilFunc, .nilFunc, .nilFunc] 90 0 (.func 71) #[ptr b] #[] (by simp)
  have q1 := store_new w #[.func (.func 71) #[ptr b] #[], .nilFunc, .nilFunc, .nilFunc] 90 1 (.func 72) #[ptr b] #[] (by simp)
  have q2 := store_new w #[.func (.func 71) #[ptr b] #[], .func (.func 72) #[ptr b] #[], .nilFunc, .nilFunc] 90 2 (.func 73) #[ptr b] #[] (by simp)
  have q3 := store_new w #[.func (.func 71) #[ptr b] #[], .func (.func 72) #[ptr b] #[], .func (.func 73) #[ptr b] #[], .nilFunc] 90 3 (.func 74) #[ptr b] #[] (by simp)
  simp only [List.setIfInBounds_toArray, List.set_cons_zero, List.set_cons_succ] at q0 q1 q2 q3
  go_enter Tryz.func39, Tryz.ntmps39
  go_wp2_with fail
  exact bodyPost_ret (v := chg b) (by simp [results, Tryz.results39, go_sem]) rfl ⟨rfl, alb _ _⟩
/-- what an effect that may be does, clear aside -/
def doE (S : Sp) (f : Ef) : Sp := if f.kind = 1 then ⟨withL S.l f.key ⟨f.val, f.due, S.cnt + 1⟩, S.cnt + 1, none⟩ else if f.kind = 2 then (if (lkp S.l f.key).isSome then ⟨wout S.l f.key, S.cnt + 1, none⟩ else S) else match lkp S.l f.key with
  | some e => ⟨withL S.l f.key ⟨e.val, f.due, S.cnt + 1⟩, S.cnt + 1, none⟩
  | none => S
theorem do_none {S : Sp} (hm : S.mrk = none) (f : Ef) : (doE S f).mrk = none := by
  unfold doE
  split
  · rfl
  · split
    · split
      · rfl
      · exact hm
    · split
      · rfl
      · exact hm
theorem do_cnt (S : Sp) (f : Ef) : (doE S f).cnt ≤ S.cnt + 1 := by
  unfold doE
  split
  · exact Nat.le_refl _
  · split
    · split
      · exact Nat.le_refl _
      · exact Nat.le_succ _
    · split
      · exact Nat.le_refl _
      · exact Nat.le_succ _
theorem do_len (S : Sp) (f : Ef) : (doE S f).l.length ≤ S.l.length + 1 := by
  unfold doE
  split
  · exact SpaceMath.with_len _ _ _
  · split
    · split
      · exact Nat.le_succ_of_le (SpaceMath.wout_len _ _)
      · exact Nat.le_succ _
    · split
      · exact SpaceMath.with_len _ _ _
      · exact Nat.le_succ _
set_option maxHeartbeats 1000000 in
set_option maxRecDepth 100000 in
theorem do_call {F X : Nat → Prop} {b : Nat} {w : World} {S : Sp} (h : SP F X b w S) (hm : S.mrk = none) (hc : S.cnt + 1 < 18446744073709551616) (hS : S.l.length + 1 < 1099511627776) (f : Ef) (hf : mayE f = true) (h4 : f.kind ≠ 4) (hn : Nice f) {k2 : Int} {T : ByteArray} {a1 a2 a3 : Option Addr} {n1 c1 n2 c2 n3 c3 : Nat}
    (hv : VA w (.agg #[.int .i64 k2, .string T, .slice a1 n1 c1, .slice a2 n2 c2, .slice a3 n3 c3]) f.val) :
    Calls Tryz.prog 40 #[chg b, .agg #[.int .i64 f.kind, .string (mk f.key), .int .i64 k2, .string T, .slice a1 n1 c1, .slice a2 n2 c2, .slice a3 n3 c3, .int .i64 f.due]] w fun r w' => r = .returned (.tuple #[]) ∧ Dn F X b w w' (doE S f) := by
  obtain ⟨p1, p2, p3, p4⟩ := may_parts hf
  have hkl : f.key.length ≤ 281474976710656 := by have := hn.key; omega
  obtain ⟨W, hW⟩ : ∃ W, W = (w.alloc (cO b)).alloc (fO f.kind k2 f.due (mk f.key) T (.slice a1 n1 c1) (.slice a2 n2 c2) (.slice a3 n3 c3)) := ⟨_, rfl⟩
  have bW : Below w.heap.size w W := by rw [hW]; exact (alb w _).trans ((alb _ _).mono (by simp))
  have HSW := h.below bW
  have HVW := hv.below bW
  have HB := hid_of bW
  have HW := hid_of hW
  obtain ⟨kd, key, val, due⟩ := f
  simp only at *
  unfold chg
  have hcs : kd = 1 ∨ kd = 2 ∨ kd = 3 := by
    unfold okK at p1
    simp only [Bool.or_eq_true, decide_eq_true_eq] at p1
    omega
  clear h hv bW hW h4 hf p1
  rcases hcs with rfl | rfl | rfl
  · have hd : 0 ≤ due ∧ due ≤ 9007199254740992 := by
      have p3 : dueOk due = true := p3
      unfold dueOk at p3
      simpa using p3
    have hx : chk val = 0 := of_decide_eq_true (show decide (chk val = 0) = true from p4)
    have HP := hid_of (put_ok HSW hm hc hS key hkl HVW hn.wel hn.sm hx due hd)
    have HE : Hid (doE S ⟨1, key, val, due⟩ = ⟨withL S.l key ⟨val, due, S.cnt + 1⟩, S.cnt + 1, none⟩) := hid_of rfl
    clear HSW HVW
    go_enter Tryz.func40, Tryz.ntmps40
    go_wp2_with fail
    rw [← HW.out]
    refine HP.out.mono ?_
    rintro r w1 ⟨rfl, hd1⟩
    have HD := hid_of (dn_after HB.out hd1)
    clear hd1
    go_wp2_with fail
    go_end0
    exact ⟨rfl, by rw [HE.out]; exact HD.out⟩
  · cases he : lkp S.l key with
    | none =>
      have HP := hid_of (drop_no HSW key hkl he)
      have HE : Hid (doE S ⟨2, key, val, due⟩ = S) := hid_of (by unfold doE; simp [he])
      have HSS := hid_of HSW
      clear HSW HVW he
      go_enter Tryz.func40, Tryz.ntmps40
      go_wp2_with fail
      rw [← HW.out]
      refine HP.out.mono ?_
      rintro r w1 ⟨rfl, hd1⟩
      have HD := hid_of (dn_after HB.out (Dn.of HSS.out hd1))
      clear hd1
      go_wp2_with fail
      go_end0
      exact ⟨rfl, by rw [HE.out]; exact HD.out⟩
    | some e =>
      have HP := hid_of (drop_yes HSW hm hc key hkl he)
      have HE : Hid (doE S ⟨2, key, val, due⟩ = ⟨wout S.l key, S.cnt + 1, none⟩) := hid_of (by unfold doE; simp [he])
      clear HSW HVW he
      go_enter Tryz.func40, Tryz.ntmps40
      go_wp2_with fail
      rw [← HW.out]
      refine HP.out.mono ?_
      rintro r w1 ⟨rfl, hd1⟩
      have HD := hid_of (dn_after HB.out hd1)
      clear hd1
      go_wp2_with fail
      go_end0
      exact ⟨rfl, by rw [HE.out]; exact HD.out⟩
  · have hd : 0 ≤ due ∧ due ≤ 9007199254740992 := by
      have p3 : dueOk due = true := p3
      unfold dueOk at p3
      simpa using p3
    cases he : lkp S.l key with
    | none =>
      have HP := hid_of (setdue_no HSW key hkl due he)
      have HE : Hid (doE S ⟨3, key, val, due⟩ = S) := hid_of (by unfold doE; simp [he])
      have HSS := hid_of HSW
      clear HSW HVW he
      go_enter Tryz.func40, Tryz.ntmps40
      go_wp2_with fail
      rw [← HW.out]
      refine HP.out.mono ?_
      rintro r w1 ⟨rfl, hd1⟩
      have HD := hid_of (dn_after HB.out (Dn.of HSS.out hd1))
      clear hd1
      go_wp2_with fail
      go_end0
      exact ⟨rfl, by rw [HE.out]; exact HD.out⟩
    | some e =>
      have HP := hid_of (setdue_yes HSW hm hc hS key hkl due hd he)
      have HE : Hid (doE S ⟨3, key, val, due⟩ = ⟨withL S.l key ⟨e.val, due, S.cnt + 1⟩, S.cnt + 1, none⟩) := hid_of (by unfold doE; simp [he])
      clear HSW HVW he
      go_enter Tryz.func40, Tryz.ntmps40
      go_wp2_with fail
      rw [← HW.out]
      refine HP.out.mono ?_
      rintro r w1 ⟨rfl, hd1⟩
      have HD := hid_of (dn_after HB.out hd1)
      clear hd1
      go_wp2_with fail
      go_end0
      exact ⟨rfl, by rw [HE.out]; exact HD.out⟩
end Go.Proofs.YtpnigkjmofhmbabGreat.EDo
end
section
namespace Go.Proofs.YtpnigkjmofhmbabGreat.EApp
open Go.RowKit Go.Maps
open Go.Proofs.YtpnigkjmofhmbabGreat.SpaceMath (wout withL lkp keys Ris toD)
open Go.Proofs.YtpnigkjmofhmbabGreat.ValueMath (Vl chk small sm)
open Go.Proofs.YtpnigkjmofhmbabGreat.Base (mk mk_list mk_size Gr hid_of SL)
open Go.Proofs.YtpnigkjmofhmbabGreat.Turn
open Go.Proofs.YtpnigkjmofhmbabGreat.Vals
open Go.Proofs.YtpnigkjmofhmbabGreat.Check0 (Wel)
open Go.Proofs.YtpnigkjmofhmbabGreat.SBase
open Go.Proofs.YtpnigkjmofhmbabGreat.SFind
open Go.Proofs.YtpnigkjmofhmbabGreat.SSet
open Go.Proofs.YtpnigkjmofhmbabGreat.SPut
open Go.Proofs.YtpnigkjmofhmbabGreat.SDrop
open Go.Proofs.YtpnigkjmofhmbabGreat.Chunk
open Go.Proofs.YtpnigkjmofhmbabGreat.SSort
open Go.Proofs.YtpnigkjmofhmbabGreat.SEnts
open Go.Proofs.YtpnigkjmofhmbabGreat.EMay
open Go.Proofs.YtpnigkjmofhmbabGreat.EAll
open Go.Proofs.YtpnigkjmofhmbabGreat.EEnc
open Go.Proofs.YtpnigkjmofhmbabGreat.EDo
set_option linter.unusedVariables false
set_option linter.unusedSimpArgs false
set_option maxRecDepth 100000 in
theorem apply_nil (v : Value) (w : World) : Calls Tryz.prog 16 #[.pointer none, v] w fun r w' => r = .returned (.int .i64 1) ∧ w' = w := by
  go_enter Tryz.func16, Tryz.ntmps16
  go_wp2_with fail
  go_ret
  exact ⟨rfl, rfl⟩
def doL (S : Sp) (l : List Ef) : Sp := l.foldl doE S
theorem doL_snoc (S : Sp) (l : List Ef) (k : Nat) (h : k < l.length) : doL S (l.take (k + 1)) = doE (doL S (l.take k)) (l[k]'h) := by
  unfold doL
  rw [List.take_succ_eq_append_getElem h, List.foldl_append]
  rfl
theorem doL_bounds (S : Sp) (hm : S.mrk = none) : ∀ l : List Ef, (doL S l).mrk = none ∧ (doL S l).cnt ≤ S.cnt + l.length ∧ (doL S l).l.length ≤ S.l.length + l.length
  | [] => ⟨hm, Nat.le_refl _, Nat.le_refl _⟩
  | f :: l => by
    obtain ⟨h1, h2, h3⟩ := doL_bounds (doE S f) (do_none hm f) l
    have := do_cnt S f
    have := do_len S f
    unfold doL at *
    simp only [List.foldl_cons, List.length_cons]
    exact ⟨h1, by omega, by omega⟩
theorem box4f {w : World} {x : Nat} {x0 x1 x2 x3 : Value} {t : TypeId} (h : w.heap[x]? = some (.cells #[x0, x1, x2, x3] t (0, 0))) : w.cell? ⟨x, 0, none⟩ = some x0 ∧ w.cell? ⟨x, 1, none⟩ = some x1 ∧ w.cell? ⟨x, 2, none⟩ = some x2 ∧ w.cell? ⟨x, 3, none⟩ = some x3 := ⟨Lib.cell_of_heap h 0, Lib.cell_of_heap h 1, Lib.cell_of_heap h 2, Lib.cell_of_heap h 3⟩
set_option maxHeartbeats 4000000 in
set_option maxRecDepth 100000 in
theorem apply_call {F X : Nat → Prop} {b : Nat} {w : World} {S : Sp} (h : SP F X b w S) (hm : S.mrk = none) {v : Value} {l : List Ef} (hv : ∀ W, Ev F w W → FSl W v l) (ha : allE l = true) (h4 : ∀ f ∈ l, f.kind ≠ 4) (hn : ∀ f ∈ l, Nice f) (hc : S.cnt + l.length < 18446744073709551615) (hS : S.l.length + l.length < 1099511627775) :
    Calls Tryz.prog 16 #[ptr b, v] w fun r w' => r = .returned (.int .i64 0) ∧ Dn F X b w w' (doL S l) := by
  have HA := hid_of (all_call (hv w (Ev.refl _ _)) (fun f hf => (hn f hf).wel) (by omega))
  rw [ha] at HA
  have HB := hid_of (chg_call b)
  have HV := hid_of hv
  obtain ⟨a, c, rfl, -, -⟩ := hv w (Ev.refl _ _)
  have HM := hid_of (show ∀ f ∈ l, mayE f = true ∧ f.kind ≠ 4 ∧ Nice f from fun f hf => ⟨List.all_eq_true.1 ha f hf, h4 f hf, hn f hf⟩)
  have HH := hid_of h
  have hmm := hm
  clear h hv ha h4 hn
  unfold chg at HB
  go_enter Tryz.func16, Tryz.ntmps16
  go_wp2_with fail
  refine HA.out.mono ?_
  rintro r w1 ⟨rfl, hb1⟩
  have HB1 := hid_of hb1
  clear hb1 HA
  go_wp2_with fail
  refine (HB.out w1).mono ?_
  rintro r w2 ⟨rfl, hb2⟩
  have HB2 := hid_of (HB1.out.trans (hb2.mono HB1.out.size))
  have q0 := store_new w2 #[.nilFunc, .nilFunc, .nilFunc, .nilFunc] 90 0 (.func 71) #[ptr b] #[] (by simp)
  have q1 := store_new w2 #[.func (.func 71) #[ptr b] #[], .nilFunc, .nilFunc, .nilFunc] 90 1 (.func 72) #[ptr b] #[] (by simp)
  have q2 := store_new w2 #[.func (.func 71) #[ptr b] #[], .func (.func 72) #[ptr b] #[], .nilFunc, .nilFunc] 90 2 (.func 73) #[ptr b] #[] (by simp)
  have q3 := store_new w2 #[.func (.func 71) #[ptr b] #[], .func (.func 72) #[ptr b] #[], .func (.func 73) #[ptr b] #[], .nilFunc] 90 3 (.func 74) #[ptr b] #[] (by simp)
  simp only [List.setIfInBounds_toArray, List.set_cons_zero, List.set_cons_succ] at q0 q1 q2 q3
  obtain ⟨W0, hW0⟩ : ∃ W0, W0 = w2.alloc (cO b) := ⟨_, rfl⟩
  have HBW := hid_of (show Below w.heap.size w W0 by rw [hW0]; exact HB2.out.trans ((alb w2 _).mono HB2.out.size))
  have HX0 := hid_of (show W0.heap[w2.heap.size]? = some (cO b) by rw [hW0]; exact heap_alloc_new w2 _)
  have HW0 := hid_of hW0
  clear hb2 HB hW0
  go_wp2_with fail
  rw [← HW0.out]
  clear q0 q1 q2 q3
  obtain ⟨Q, hQ⟩ : ∃ Q, Q = w2.heap.size := ⟨_, rfl⟩
  rw [← hQ] at HX0
  rw [← hQ]
  have hwQ : w.heap.size ≤ Q := by rw [hQ]; exact HB2.out.size
  have hQl : Q < W0.heap.size := lt_of HX0.out
  have nFQ : ¬ F Q := fun q => by have := HH.out.lo Q q; omega
  have HD0 := hid_of (Dn.of (HH.out.below HBW.out) (Below.refl _ _))
  clear hQ HW0
  go_loopg [17] l.length (fun g si wx => ∃ k : Nat, k ≤ l.length ∧ l.length ≤ k + g ∧ si = .int .i64 (k : Int) ∧ Hid (Dn F X b W0 wx (doL S (l.take k))))
  case atStart => exact ⟨0, by omega, by omega, rfl, HD0⟩
  case round =>
    obtain ⟨k, hk, hg, rfl, HD⟩ := hrel
    by_cases hlt : k < l.length
    · obtain ⟨g', rfl⟩ : ∃ g', gk = g' + 1 := ⟨gk - 1, by omega⟩
      obtain ⟨F1, s1, ev1, n1'⟩ := HD.out
      have evw : Ev F w wr := (Ev.of_below HBW.out).trans ev1
      have hfs := HV.out wr evw
      obtain ⟨gb, o, rfl, hcs⟩ : ∃ g o, a = some ⟨g, o, none⟩ ∧ ∀ k (h : k < l.length), FAt wr g (o + k * 8) (l[k]'h) := by
        obtain ⟨a', c', e, _, h⟩ := hfs
        injection e with e1 e2 e3
        subst e1
        rcases h with h | h
        · rw [h] at hlt; simp at hlt
        · exact h
      obtain ⟨a1, n1, c1, a2, n2, c2, a3, n3, c3, k2, T, h0, h1, h2, h3, h4, h5, h6, h7, hva⟩ := hcs k hlt
      obtain ⟨b1, b2, b3⟩ := doL_bounds S hmm (l.take k)
      have htl : (l.take k).length = k := by rw [List.length_take]; omega
      rw [htl] at b2 b3
      have hx := (ev1.block Q hQl nFQ).trans HX0.out
      obtain ⟨z0, z1, z2, z3⟩ := box4f hx
      have hQr : Q < wr.heap.size := Nat.lt_of_lt_of_le hQl ev1.size
      have e2 : IntKind.i64.wrap ((k : Int) + 1) = (k : Int) + 1 := IntWalk.i64_in _ (by omega)
      have g2 : (k : Int) < (l.length : Int) := by omega
      obtain ⟨W, hW⟩ : ∃ W, W = wr.alloc (fO (l[k]'hlt).kind k2 (l[k]'hlt).due (mk (l[k]'hlt).key) T (.slice a1 n1 c1) (.slice a2 n2 c2) (.slice a3 n3 c3)) := ⟨_, rfl⟩
      have bW : Below wr.heap.size wr W := by rw [hW]; exact alb _ _
      obtain ⟨m1, m2, m3⟩ := HM.out _ (List.getElem_mem hlt)
      have HDo := hid_of ((do_call (s1.below bW) b1 (by omega) (by omega) (l[k]'hlt) m1 m2 m3 (hva.below bW)).mono (fun r w' (q : _ ∧ _) => And.intro q.1 (show Dn F X b W0 w' (doL S (l.take (k + 1))) by
        rw [doL_snoc S l k hlt]
        exact Dn.trans (S1 := doL S (l.take k)) ev1 n1' (dn_after bW q.2))))
      unfold chg at HDo
      have HW := hid_of hW
      generalize (l[k]'hlt).kind = kd at *
      generalize (l[k]'hlt).due = d at *
      generalize mk (l[k]'hlt).key = K at *
      clear hcs hva hW bW s1 ev1 evw hfs hx n1' b1 b2 b3 htl
      go_wp2_with fail
      rw [← HW.out]
      refine HDo.out.mono ?_
      rintro r w4 ⟨rfl, hd4⟩
      have HD4 := hid_of hd4
      clear hd4 HDo h0 h1 h2 h3 h4 h5 h6 h7 z0 z1 z2 z3
      go_wp2_with fail
      go_roundg g'
      case measure => omega
      case rel => exact ⟨k + 1, by omega, by omega, by rw [show ((k + 1 : Nat) : Int) = (k : Int) + 1 from by omega], HD4⟩
    · obtain rfl : k = l.length := by omega
      have gi : ¬ (l.length : Int) < (l.length : Int) := by omega
      have hd := HD.out
      rw [List.take_length] at hd
      have HDD := hid_of (dn_after HBW.out hd)
      clear hd
      go_wp2_with fail
      go_ret
      exact ⟨rfl, HDD.out⟩
end Go.Proofs.YtpnigkjmofhmbabGreat.EApp
end
section
namespace Go.Proofs.YtpnigkjmofhmbabGreat.ESnap
open Go.RowKit Go.Maps
open Go.Proofs.YtpnigkjmofhmbabGreat.SpaceMath (wout withL lkp keys Ris toD)
open Go.Proofs.YtpnigkjmofhmbabGreat.ValueMath (Vl chk small sm)
open Go.Proofs.YtpnigkjmofhmbabGreat.Base (mk mk_list mk_size Gr hid_of SL)
open Go.Proofs.YtpnigkjmofhmbabGreat.Turn
open Go.Proofs.YtpnigkjmofhmbabGreat.Vals
open Go.Proofs.YtpnigkjmofhmbabGreat.SBase
open Go.Proofs.YtpnigkjmofhmbabGreat.SFind
open Go.Proofs.YtpnigkjmofhmbabGreat.SSet
open Go.Proofs.YtpnigkjmofhmbabGreat.SPut
open Go.Proofs.YtpnigkjmofhmbabGreat.SDrop
open Go.Proofs.YtpnigkjmofhmbabGreat.Chunk
open Go.Proofs.YtpnigkjmofhmbabGreat.SSort
open Go.Proofs.YtpnigkjmofhmbabGreat.SEnts
open Go.Proofs.YtpnigkjmofhmbabGreat.EMay
open Go.Proofs.YtpnigkjmofhmbabGreat.EAll
open Go.Proofs.YtpnigkjmofhmbabGreat.EDec
set_option linter.unusedVariables false
set_option linter.unusedSimpArgs false
def snapF (p : Bs × En) : Ef := ⟨1, p.1, p.2.val, p.2.due⟩
def SnE (l : KL En) (w : World) (r : Ending) (w' : World) : Prop := ∃ g C, r = .returned (.slice (some ⟨g, 0, none⟩) C.length C.length) ∧ RowC 40 g C w' ∧ w.heap.size ≤ g ∧ C.length = l.length ∧ (∀ i (h : i < C.length) (h' : i < l.length), NF w.heap.size w' (C[i]'h) (snapF (l[i]'h'))) ∧ Below w.heap.size w w'
theorem nf_set8 {B g q : Nat} {w : World} {cs : List Value} {f : Ef} {C : Cs} (h : NF B w cs f) (hr : RowC 40 g C w) {x0 x1 x2 x3 x4 x5 x6 x7 : Value} : NF B ((((((((w.setCell ⟨g, q * 8, none⟩ x0).setCell ⟨g, q * 8 + 1, none⟩ x1).setCell ⟨g, q * 8 + 2, none⟩ x2).setCell ⟨g, q * 8 + 3, none⟩ x3).setCell ⟨g, q * 8 + 4, none⟩ x4).setCell ⟨g, q * 8 + 5, none⟩ x5).setCell ⟨g, q * 8 + 6, none⟩ x6).setCell ⟨g, q * 8 + 7, none⟩ x7) cs f := h.keep fun k c t fz hh _ ht => by
  obtain ⟨cur, h1, _⟩ := hr.blk
  have hne : k ≠ g := fun e => by rw [e, h1] at hh; cases hh; exact ht rfl
  rw [set_ne hne, set_ne hne, set_ne hne, set_ne hne, set_ne hne, set_ne hne, set_ne hne, set_ne hne]
set_option maxRecDepth 100000 in
set_option maxHeartbeats 4000000 in
theorem snap_call {F X : Nat → Prop} {b : Nat} {w : World} {S : Sp} (h : SP F X b w S) (hmax : S.l.length < 1099511627776) : Calls Tryz.prog 22 #[ptr b] w (SnE S.l w) := by
  obtain ⟨i0, hi, hz0, hz1, hz2⟩ := FRow.parts_of infoF
  have H1 := hid_of (entries_call h hmax)
  obtain ⟨l, hl⟩ : ∃ l, l = S.l := ⟨_, rfl⟩
  rw [← hl] at H1 hmax
  rw [← hl]
  clear h hl
  go_enter Tryz.func22, Tryz.ntmps22
  go_wp2_with fail
  refine H1.out.mono ?_
  rintro r w1 ⟨g1, C1, rfl, hr1, hg1, hcl1, hen, hb1⟩
  have HR1 := hid_of hr1
  have HG1 := hid_of hg1
  have HC1 := hid_of hcl1
  have HE1 := hid_of hen
  have HB1 := hid_of hb1
  rw [hcl1]
  clear hr1 hg1 hcl1 hen hb1 H1
  go_wp2_with (at_make; refine wpList_make_full _ rfl _ _ 22 rfl w1.heap.size 40 i0 (.agg #[.int .i64 0, .string ⟨#[]⟩, .int .i64 0, .string ⟨#[]⟩, .slice none 0 0, .slice none 0 0, .slice none 0 0, .int .i64 0]) 8 Tryz.underlying22 hi hz0 hz1 _ _ _ _ l.length rfl rfl rfl rfl ?b2 ?b3 (Nat.le_refl _) ?_)
  case b2 => rw [hz2]; omega
  case b3 => unfold maxLen; omega
  intro w0 hown0 hgrow0
  have HB0 : Hid (Below w1.heap.size w1 w0) := hid_of ((Below.refl _ _).grown hgrow0 (Nat.le_refl _) (fun k h => by cases h))
  obtain ⟨C0, e0, f0, g0⟩ := chunks l.length _ hown0.1
  have HR0 : Hid (RowC 40 w1.heap.size C0 w0) := hid_of (of_own (v := .bool true) (a := none) hown0 C0 e0 f0 g0)
  clear hown0 hgrow0 e0 f0
  go_wp2_with fail
  obtain ⟨G, hG⟩ : ∃ G, G = w1.heap.size := ⟨_, rfl⟩
  rw [← hG] at HB0 HR0
  rw [← hG]
  have HG := hid_of hG
  clear hG
  go_loopg [14] l.length (fun g si wx => ∃ (k : Nat) (C : Cs), k ≤ l.length ∧ l.length ≤ k + g ∧ si = .int .i64 (k : Int) ∧ Hid (C.length = l.length) ∧ Hid (RowC 40 G C wx) ∧ Hid (Below G w1 wx) ∧ Hid (∀ i (h : i < C.length) (h' : i < l.length), i < k → NF w.heap.size wx (C[i]'h) (snapF (l[i]'h'))))
  case atStart => exact ⟨0, C0, by omega, by omega, rfl, hid_of g0, HR0, HB0, hid_of fun i h h' q => by omega⟩
  case round =>
    obtain ⟨k, C, hk, hg, rfl, HCL, HR, HN, HEn⟩ := hrel
    by_cases hlt : k < l.length
    · obtain ⟨g', rfl⟩ : ∃ g', gk = g' + 1 := ⟨gk - 1, by omega⟩
      have bW1 : Below w1.heap.size w1 wr := by rw [← HG.out]; exact HN.out
      have hk1 : k < C1.length := by rw [HC1.out]; exact hlt
      obtain ⟨a, b', c, hcs, hvn⟩ := HE1.out k hk1 hlt
      obtain ⟨a1, c1, a2, c2, a3, c3, hsh⟩ := va_shape hvn.va
      have hR1 := HR1.out.keep (bW1.block _ HR1.out.lt)
      have hvn2 := hvn.below bW1
      have HVN := hid_of (hvn2.mono (show w.heap.size ≤ g1 + 1 by have := HG1.out; omega))
      unfold vV at hsh HVN
      simp only [Value.agg.injEq, Array.mk.injEq, List.cons.injEq, and_true] at hsh
      obtain ⟨_, _, rfl, rfl, rfl⟩ := hsh
      have hc : ∀ j (hj : j < 8), wr.cell? ⟨g1, k * 8 + j, none⟩ = (C1[k]'hk1)[j]? := fun j hj => hR1.cell hk1 hj
      rw [hcs] at hc
      have s0 := hc 0 (by omega)
      have s1 := hc 1 (by omega)
      have s2 := hc 2 (by omega)
      have s3 := hc 3 (by omega)
      have s4 := hc 4 (by omega)
      have s5 := hc 5 (by omega)
      have s6 := hc 6 (by omega)
      have s7 := hc 7 (by omega)
      simp only [List.getElem?_cons_succ, List.getElem?_cons_zero, Nat.add_zero] at s0 s1 s2 s3 s4 s5 s6 s7
      have e2 : IntKind.i64.wrap ((k : Int) + 1) = (k : Int) + 1 := IntWalk.i64_in _ (by omega)
      have g2 : (k : Int) < (l.length : Int) := by omega
      have hkc : k < C.length := by rw [HCL.out]; exact hlt
      have h8 : (C[k]'hkc).length = 8 := HR.out.e8 _ (List.getElem_mem hkc)
      have z := HR.out.frozen
      have z0 := z (k * 8)
      have z1 := z (k * 8 + 1)
      have z2 := z (k * 8 + 2)
      have z3 := z (k * 8 + 3)
      have z4 := z (k * 8 + 4)
      have z5 := z (k * 8 + 5)
      have z6 := z (k * 8 + 6)
      have z7 := z (k * 8 + 7)
      have gc : ∀ j, j < 8 → ∃ u, wr.cell? ⟨G, k * 8 + j, none⟩ = some u := fun j hj => ⟨(C[k]'hkc)[j]'(by omega), by rw [HR.out.cell hkc hj]; exact List.getElem?_eq_getElem (by omega)⟩
      obtain ⟨q0, r0⟩ := gc 0 (by omega)
      obtain ⟨q1, r1⟩ := gc 1 (by omega)
      obtain ⟨q2, r2⟩ := gc 2 (by omega)
      obtain ⟨q3, r3⟩ := gc 3 (by omega)
      obtain ⟨q4, r4⟩ := gc 4 (by omega)
      obtain ⟨q5, r5⟩ := gc 5 (by omega)
      obtain ⟨q6, r6⟩ := gc 6 (by omega)
      obtain ⟨q7, r7⟩ := gc 7 (by omega)
      rw [Nat.add_zero] at r0
      have hGl : G < wr.heap.size := HR.out.lt
      obtain ⟨p, hp⟩ : ∃ p, l[k]'hlt = p := ⟨_, rfl⟩
      rw [hp] at s0 s1 s2 s3 s4 s5 s6 s7 HVN
      have HP := hid_of hp
      obtain ⟨x, hx⟩ : ∃ x, p.2.val = x := ⟨_, rfl⟩
      rw [hx] at HVN s1 s2 s3 s4 s5
      have HX := hid_of hx
      have hst := put8 HR.out hkc (.int .i64 1) (.string (mk p.1)) (.int .i64 x.kind) (.string (mk x.text)) (.slice a1 x.list.length c1) (.slice a2 x.fields.length c2) (.slice a3 x.ranked.length c3) (.int .i64 p.2.due)
      have hnn := bel8 HN.out (q0 := k) (Nat.le_refl G) (.int .i64 1) (.string (mk p.1)) (.int .i64 x.kind) (.string (mk x.text)) (.slice a1 x.list.length c1) (.slice a2 x.fields.length c2) (.slice a3 x.ranked.length c3) (.int .i64 p.2.due)
      have HST := hid_of (show RowC 40 G (C.set k [.int .i64 1, .string (mk p.1), .int .i64 x.kind, .string (mk x.text), .slice a1 x.list.length c1, .slice a2 x.fields.length c2, .slice a3 x.ranked.length c3, .int .i64 p.2.due]) (((((((((wr.setCell ⟨G, k * 8, none⟩ (.int .i64 1)).setCell ⟨G, k * 8 + 1, none⟩ (.string (mk p.1))).setCell ⟨G, k * 8 + 2, none⟩ (.int .i64 x.kind)).setCell ⟨G, k * 8 + 3, none⟩ (.string (mk x.text))).setCell ⟨G, k * 8 + 4, none⟩ (.slice a1 x.list.length c1)).setCell ⟨G, k * 8 + 5, none⟩ (.slice a2 x.fields.length c2)).setCell ⟨G, k * 8 + 6, none⟩ (.slice a3 x.ranked.length c3)).setCell ⟨G, k * 8 + 7, none⟩ (.int .i64 p.2.due)).alloc (eO (mk p.1) (mk x.text) x.kind (.slice a1 x.list.length c1) (.slice a2 x.fields.length c2) (.slice a3 x.ranked.length c3) p.2.due (p.2.ver : Int))) from hst.keep ((alb _ _).block _ hst.lt))
      have HN2 := hid_of (show Below G w1 (((((((((wr.setCell ⟨G, k * 8, none⟩ (.int .i64 1)).setCell ⟨G, k * 8 + 1, none⟩ (.string (mk p.1))).setCell ⟨G, k * 8 + 2, none⟩ (.int .i64 x.kind)).setCell ⟨G, k * 8 + 3, none⟩ (.string (mk x.text))).setCell ⟨G, k * 8 + 4, none⟩ (.slice a1 x.list.length c1)).setCell ⟨G, k * 8 + 5, none⟩ (.slice a2 x.fields.length c2)).setCell ⟨G, k * 8 + 6, none⟩ (.slice a3 x.ranked.length c3)).setCell ⟨G, k * 8 + 7, none⟩ (.int .i64 p.2.due)).alloc (eO (mk p.1) (mk x.text) x.kind (.slice a1 x.list.length c1) (.slice a2 x.fields.length c2) (.slice a3 x.ranked.length c3) p.2.due (p.2.ver : Int))) from hnn.alloc (by have := hst.lt; omega) _)
      have HE2 : Hid (∀ i (h : i < (C.set k [.int .i64 1, .string (mk p.1), .int .i64 x.kind, .string (mk x.text), .slice a1 x.list.length c1, .slice a2 x.fields.length c2, .slice a3 x.ranked.length c3, .int .i64 p.2.due]).length) (h' : i < l.length), i < k + 1 → NF w.heap.size (((((((((wr.setCell ⟨G, k * 8, none⟩ (.int .i64 1)).setCell ⟨G, k * 8 + 1, none⟩ (.string (mk p.1))).setCell ⟨G, k * 8 + 2, none⟩ (.int .i64 x.kind)).setCell ⟨G, k * 8 + 3, none⟩ (.string (mk x.text))).setCell ⟨G, k * 8 + 4, none⟩ (.slice a1 x.list.length c1)).setCell ⟨G, k * 8 + 5, none⟩ (.slice a2 x.fields.length c2)).setCell ⟨G, k * 8 + 6, none⟩ (.slice a3 x.ranked.length c3)).setCell ⟨G, k * 8 + 7, none⟩ (.int .i64 p.2.due)).alloc (eO (mk p.1) (mk x.text) x.kind (.slice a1 x.list.length c1) (.slice a2 x.fields.length c2) (.slice a3 x.ranked.length c3) p.2.due (p.2.ver : Int))) ((C.set k [.int .i64 1, .string (mk p.1), .int .i64 x.kind, .string (mk x.text), .slice a1 x.list.length c1, .slice a2 x.fields.length c2, .slice a3 x.ranked.length c3, .int .i64 p.2.due])[i]'h) (snapF (l[i]'h'))) := hid_of fun i h h' q => by
        refine NF.keep (w := ((((((((wr.setCell ⟨G, k * 8, none⟩ (.int .i64 1)).setCell ⟨G, k * 8 + 1, none⟩ (.string (mk p.1))).setCell ⟨G, k * 8 + 2, none⟩ (.int .i64 x.kind)).setCell ⟨G, k * 8 + 3, none⟩ (.string (mk x.text))).setCell ⟨G, k * 8 + 4, none⟩ (.slice a1 x.list.length c1)).setCell ⟨G, k * 8 + 5, none⟩ (.slice a2 x.fields.length c2)).setCell ⟨G, k * 8 + 6, none⟩ (.slice a3 x.ranked.length c3)).setCell ⟨G, k * 8 + 7, none⟩ (.int .i64 p.2.due))) ?_ (fun k' _ _ _ hh _ _ => (alb _ _).block k' (lt_of hh))
        refine nf_set8 ?_ HR.out
        rw [List.getElem_set]
        by_cases e : k = i
        · subst e
          rw [if_pos rfl, HP.out]
          refine ⟨x.kind, mk x.text, a1, x.list.length, c1, a2, x.fields.length, c2, a3, x.ranked.length, c3, rfl, ?_⟩
          show VN _ _ _ p.2.val
          rw [HX.out]
          exact HVN.out
        · rw [if_neg e]
          exact HEn.out i (by rw [List.length_set] at h; exact h) h' (by omega)
      have hcl : Hid ((C.set k [.int .i64 1, .string (mk p.1), .int .i64 x.kind, .string (mk x.text), .slice a1 x.list.length c1, .slice a2 x.fields.length c2, .slice a3 x.ranked.length c3, .int .i64 p.2.due]).length = l.length) := hid_of (by rw [List.length_set]; exact HCL.out)
      generalize mk x.text = TX at *
      generalize x.kind = KX at *
      generalize x.list.length = N1 at *
      generalize x.fields.length = N2 at *
      generalize x.ranked.length = N3 at *
      generalize mk p.1 = KP at *
      generalize p.2.due = DP at *
      generalize (p.2.ver : Int) = VP at *
      clear hcs hvn hvn2 hR1 hc bW1 z gc h8 hx hp hst hnn
      go_wp2_with fail
      go_roundg g'
      case measure => omega
      case rel => exact ⟨k + 1, _, by omega, by omega, by rw [show ((k + 1 : Nat) : Int) = (k : Int) + 1 from by omega], hcl, HST, HN2, HE2⟩
    · obtain rfl : k = l.length := by omega
      have gi : ¬ (l.length : Int) < (l.length : Int) := by omega
      go_wp2_with fail
      go_ret
      refine ⟨G, C, by rw [show C.length = l.length from HCL.out]; rfl, HR.out, by rw [HG.out]; exact HB1.out.size, HCL.out, fun i h h' => HEn.out i h h' h', ?_⟩
      have q := HN.out
      rw [HG.out] at q
      exact HB1.out.trans (q.mono HB1.out.size)
end Go.Proofs.YtpnigkjmofhmbabGreat.ESnap
end
section
namespace Go.Proofs.YtpnigkjmofhmbabGreat.ESure
open Go.RowKit Go.Maps
open Go.Proofs.YtpnigkjmofhmbabGreat.SpaceMath (wout withL lkp keys Ris toD)
open Go.Proofs.YtpnigkjmofhmbabGreat.ValueMath (Vl chk small sm)
open Go.Proofs.YtpnigkjmofhmbabGreat.Base (mk mk_list mk_size Gr hid_of SL)
open Go.Proofs.YtpnigkjmofhmbabGreat.Turn
open Go.Proofs.YtpnigkjmofhmbabGreat.Vals
open Go.Proofs.YtpnigkjmofhmbabGreat.Check0 (Wel)
open Go.Proofs.YtpnigkjmofhmbabGreat.Dec (zV)
open Go.Proofs.YtpnigkjmofhmbabGreat.SBase
open Go.Proofs.YtpnigkjmofhmbabGreat.SFind
open Go.Proofs.YtpnigkjmofhmbabGreat.STouch
open Go.Proofs.YtpnigkjmofhmbabGreat.SDrop
open Go.Proofs.YtpnigkjmofhmbabGreat.EMay
open Go.Proofs.YtpnigkjmofhmbabGreat.EAll
open Go.Proofs.YtpnigkjmofhmbabGreat.EEnc
open Go.Proofs.YtpnigkjmofhmbabGreat.EDec
open Go.Proofs.YtpnigkjmofhmbabGreat.EDecC
open Go.Proofs.YtpnigkjmofhmbabGreat.EDo
open Go.Proofs.YtpnigkjmofhmbabGreat.EApp
open Go.Proofs.YtpnigkjmofhmbabGreat.ESnap
set_option linter.unusedVariables false
set_option linter.unusedSimpArgs false
def xV : Vl := ⟨1, [120], [], [], []⟩
def l1 : List Ef := [⟨2, [97], zV, 0⟩, ⟨4, [], zV, 0⟩]
def l2 : List Ef := [⟨1, [97], xV, 0⟩, ⟨2, [113], zV, 0⟩, ⟨3, [97], zV, 7⟩]
theorem e1 : EEnc.encS l1 = [2, 1, 0, 0, 0, 0, 0, 0, 0, 97, 4] := by kernel_rfl
theorem e2 : encN l1 = 0 := by kernel_rfl
theorem d1 : dcN [2, 1, 0, 0, 0, 0, 0, 0, 0, 97, 4] = 0 := by kernel_rfl
theorem d2 : (dcR [2, 1, 0, 0, 0, 0, 0, 0, 0, 97, 4]).length = 2 := by kernel_rfl
theorem d3 : dcN [5] = 160 := by kernel_rfl
theorem a1 : allE l2 = true := by kernel_rfl
theorem s1 : doL ⟨[], 0, none⟩ l2 = ⟨[([97], ⟨xV, 7, 2⟩)], 2, none⟩ := by rfl
theorem va_nil (W : World) (k : Int) (t : Bs) : VA W (.agg #[.int .i64 k, .string (mk t), .slice none 0 0, .slice none 0 0, .slice none 0 0]) ⟨k, t, [], [], []⟩ := ⟨_, _, _, rfl, ⟨none, 0, rfl, Nat.le_refl _, .inl rfl⟩, ⟨none, 0, rfl, Nat.le_refl _, .inl rfl⟩, ⟨none, 0, rfl, Nat.le_refl _, .inl rfl⟩⟩
theorem wel_nil (k : Int) (t : Bs) (h : t.length < 4294967296) : Wel ⟨k, t, [], [], []⟩ := Dec.wel_of ⟨by simp, by simp, by simp⟩ ⟨h, by simp, by simp, by simp⟩
theorem nice_nil (kd : Int) (key : Bs) (k : Int) (t : Bs) (d : Int) (hk : key.length ≤ 140737488355328) (h : t.length < 4294967296) : Nice ⟨kd, key, ⟨k, t, [], [], []⟩, d⟩ := ⟨hk, wel_nil k t h, ⟨by simp, by simp, by simp⟩⟩
abbrev nl : Value := .slice none 0 0
abbrev O1 : Obj := .cells #[.int .i64 2, .string ⟨#[97]⟩, .int .i64 0, .string ⟨#[]⟩, nl, nl, nl, .int .i64 0, .int .i64 4, .string ⟨#[]⟩, .int .i64 0, .string ⟨#[]⟩, nl, nl, nl, .int .i64 0] 40
abbrev O2 : Obj := .cells #[.int .i64 1, .string ⟨#[97]⟩, .int .i64 1, .string ⟨#[120]⟩, nl, nl, nl, .int .i64 0, .int .i64 2, .string ⟨#[113]⟩, .int .i64 0, .string ⟨#[]⟩, nl, nl, nl, .int .i64 0, .int .i64 3, .string ⟨#[97]⟩, .int .i64 0, .string ⟨#[]⟩, nl, nl, nl, .int .i64 7] 40
theorem fat_of {W : World} {g o : Nat} {f : Ef} {k : Int} {t : Bs} (c0 : W.cell? ⟨g, o, none⟩ = some (.int .i64 f.kind)) (c1 : W.cell? ⟨g, o + 1, none⟩ = some (.string (mk f.key))) (c2 : W.cell? ⟨g, o + 2, none⟩ = some (.int .i64 k)) (c3 : W.cell? ⟨g, o + 3, none⟩ = some (.string (mk t))) (c4 : W.cell? ⟨g, o + 4, none⟩ = some nl) (c5 : W.cell? ⟨g, o + 5, none⟩ = some nl) (c6 : W.cell? ⟨g, o + 6, none⟩ = some nl) (c7 : W.cell? ⟨g, o + 7, none⟩ = some (.int .i64 f.due)) (hv : f.val = ⟨k, t, [], [], []⟩) : FAt W g o f :=
  ⟨none, 0, 0, none, 0, 0, none, 0, 0, k, mk t, c0, c1, c2, c3, c4, c5, c6, c7, by rw [hv]; exact va_nil W k t⟩
theorem fs1 {W : World} {g : Nat} (h : W.heap[g]? = some O1) : FSl W (.slice (some ⟨g, 0, none⟩) 2 2) l1 := by
  refine ⟨_, 2, rfl, Nat.le_refl _, .inr ⟨g, 0, rfl, fun k hk => ?_⟩⟩
  have hk : k < 2 := hk
  have c := fun j => Lib.cell_of_heap h j
  match k, hk with
  | 0, _ => exact fat_of (k := 0) (t := []) (c 0) (c 1) (c 2) (c 3) (c 4) (c 5) (c 6) (c 7) rfl
  | 1, _ => exact fat_of (k := 0) (t := []) (c 8) (c 9) (c 10) (c 11) (c 12) (c 13) (c 14) (c 15) rfl
theorem fs2 {W : World} {g : Nat} (h : W.heap[g]? = some O2) : FSl W (.slice (some ⟨g, 0, none⟩) 3 3) l2 := by
  refine ⟨_, 3, rfl, Nat.le_refl _, .inr ⟨g, 0, rfl, fun k hk => ?_⟩⟩
  have hk : k < 3 := hk
  have c := fun j => Lib.cell_of_heap h j
  match k, hk with
  | 0, _ => exact fat_of (k := 1) (t := [120]) (c 0) (c 1) (c 2) (c 3) (c 4) (c 5) (c 6) (c 7) rfl
  | 1, _ => exact fat_of (k := 0) (t := []) (c 8) (c 9) (c 10) (c 11) (c 12) (c 13) (c 14) (c 15) rfl
  | 2, _ => exact fat_of (k := 0) (t := []) (c 16) (c 17) (c 18) (c 19) (c 20) (c 21) (c 22) (c 23) rfl
theorem ni1 : ∀ f ∈ l1, Nice f := fun f hf => by
  simp only [l1, List.mem_cons, List.not_mem_nil, or_false] at hf
  rcases hf with rfl | rfl
  · exact nice_nil _ _ _ _ _ (by decide) (by decide)
  · exact nice_nil _ _ _ _ _ (by decide) (by decide)
theorem ni2 : ∀ f ∈ l2, Nice f ∧ f.kind ≠ 4 := fun f hf => by
  simp only [l2, List.mem_cons, List.not_mem_nil, or_false] at hf
  rcases hf with rfl | rfl | rfl
  · exact ⟨nice_nil _ _ _ _ _ (by decide) (by decide), by decide⟩
  · exact ⟨nice_nil _ _ _ _ _ (by decide) (by decide), by decide⟩
  · exact ⟨nice_nil _ _ _ _ _ (by decide) (by decide), by decide⟩
set_option maxRecDepth 100000 in
theorem text_call (X : ByteArray) (w : World) : Calls Tryz.prog 28 #[.string X] w fun r w' => r = .returned (.agg #[.int .i64 1, .string X, nl, nl, nl]) ∧ Below w.heap.size w w' := by
  go_enter Tryz.func28, Tryz.ntmps28
  go_wp2_with fail
  exact bodyPost_ret (v := .agg #[.int .i64 1, .string X, nl, nl, nl]) (by simp [results, Tryz.results28, go_sem]) rfl ⟨rfl, alb _ _⟩
set_option maxHeartbeats 4000000 in
set_option maxRecDepth 100000 in
theorem sure_call (w : World) : Calls Tryz.prog 10 #[] w fun r w' => r = .returned (.bool true) ∧ Below w.heap.size w w' := by
  obtain ⟨W1, hW1⟩ : ∃ W1, W1 = w.alloc O1 := ⟨_, rfl⟩
  have HE : Hid (Calls Tryz.prog 11 #[.slice (some ⟨w.heap.size, 0, none⟩) 2 2] W1 fun e w' => e = .returned (.tuple #[.string (mk [2, 1, 0, 0, 0, 0, 0, 0, 0, 97, 4]), .int .i64 0]) ∧ Below W1.heap.size W1 w') := hid_of (by
    have := encode_call (w := W1) (v := .slice (some ⟨w.heap.size, 0, none⟩) 2 2) (l := l1) (fs1 (by rw [hW1]; exact heap_alloc_new w _)) ni1 (by decide) (fun _ => by decide)
    rw [e1, e2] at this
    exact this)
  have HD1 : Hid (∀ W, Calls Tryz.prog 7 #[.string (mk [2, 1, 0, 0, 0, 0, 0, 0, 0, 97, 4])] W fun e w' => ∃ a c, e = .returned (.tuple #[.slice a 2 c, .int .i64 0]) ∧ Below W.heap.size W w') := hid_of fun W => by
    refine (decode_call [2, 1, 0, 0, 0, 0, 0, 0, 0, 97, 4] W (by decide)).mono ?_
    rintro e w' ⟨v, rfl, ⟨C, hC⟩, hb⟩
    obtain ⟨a, c, rfl⟩ := dl_shape hC
    rw [d1, d2]
    exact ⟨a, c, rfl, hb⟩
  have HD2 : Hid (∀ W, Calls Tryz.prog 7 #[.string ⟨#[5]⟩] W fun e w' => ∃ v, e = .returned (.tuple #[v, .int .i64 160]) ∧ Below W.heap.size W w') := hid_of fun W => by
    refine (decode_call [5] W (by decide)).mono ?_
    rintro e w' ⟨v, rfl, _, hb⟩
    rw [d3]
    exact ⟨v, rfl, hb⟩
  have HNw := hid_of new_call
  have HTx := hid_of (text_call ⟨#[120]⟩)
  have HB1 := hid_of (show Below w.heap.size w W1 by rw [hW1]; exact alb _ _)
  have HW1 := hid_of hW1
  have y0 : (mk [2, 1, 0, 0, 0, 0, 0, 0, 0, 97, 4]).toList = [2, 1, 0, 0, 0, 0, 0, 0, 0, 97, 4] := mk_list _
  have y1 : ((mk [2, 1, 0, 0, 0, 0, 0, 0, 0, 97, 4]).toList == [2, 1, 0, 0, 0, 0, 0, 0, 0, 97, 4]) = true := by rw [mk_list]; rfl
  clear hW1
  generalize mk [2, 1, 0, 0, 0, 0, 0, 0, 0, 97, 4] = Y at *
  go_enter Tryz.func10, Tryz.ntmps10
  go_wp2_with fail
  rw [← HW1.out]
  refine HE.out.mono ?_
  rintro e w2 ⟨rfl, hb2⟩
  have HB2 := hid_of (HB1.out.trans (hb2.mono HB1.out.size))
  clear hb2 HE
  go_wp2_with fail
  refine (HD1.out w2).mono ?_
  rintro e w3 ⟨a, c, rfl, hb3⟩
  have HB3 := hid_of (HB2.out.trans (hb3.mono HB2.out.size))
  clear hb3 HD1
  go_wp2_with fail
  refine (HD2.out w3).mono ?_
  rintro e w4 ⟨v, rfl, hb4⟩
  have HB4 := hid_of (HB3.out.trans (hb4.mono HB3.out.size))
  clear hb4 HD2
  go_wp2_with fail
  refine (HNw.out w4).mono ?_
  rintro e w5 ⟨F, rfl, hsp, hb5, hF⟩
  have HB5 := hid_of (HB4.out.trans (hb5.mono HB4.out.size))
  have HS5 := hid_of hsp
  have HF := hid_of hF
  have hl4 : w4.heap.size < w5.heap.size := (SPut.sp_cells hsp).1
  clear hb5 hsp hF HNw
  go_wp2_with fail
  refine (HTx.out w5).mono ?_
  rintro e w6 ⟨rfl, hb6⟩
  have HB6 := hid_of hb6
  clear hb6 HTx y0 y1
  obtain ⟨W7, hW7⟩ : ∃ W7, W7 = w6.alloc O2 := ⟨_, rfl⟩
  have B7 : Below w5.heap.size w5 W7 := by rw [hW7]; exact HB6.out.trans ((alb w6 _).mono HB6.out.size)
  have x7 : W7.heap[w6.heap.size]? = some O2 := by rw [hW7]; exact heap_alloc_new w6 _
  have nF : ¬ F w6.heap.size := fun q => by have := HS5.out.lo _ q; have := HB6.out.size; omega
  have HA : Hid (Calls Tryz.prog 16 #[ptr w4.heap.size, .slice (some ⟨w6.heap.size, 0, none⟩) 3 3] W7 fun r w' => r = .returned (.int .i64 0) ∧ Dn F F w4.heap.size W7 w' ⟨[([97], ⟨xV, 7, 2⟩)], 2, none⟩) := hid_of (by
    have := apply_call (HS5.out.below B7) rfl (v := .slice (some ⟨w6.heap.size, 0, none⟩) 3 3) (l := l2) (fun W hW => fs2 ((hW.block _ (lt_of x7) nF).trans x7)) a1 (fun f hf => (ni2 f hf).2) (fun f hf => (ni2 f hf).1) (by decide) (by decide)
    rw [s1] at this
    exact this)
  have HB7 := hid_of B7
  have HW7 := hid_of hW7
  clear hW7 B7 x7 nF
  go_wp2_with fail
  rw [← HW7.out]
  refine HA.out.mono ?_
  rintro r w8 ⟨rfl, F8, s8, ev8, n8⟩
  have HS8 := hid_of s8
  have HB8 := hid_of (show Below w.heap.size w w8 from by
    have q7 := HB5.out.trans (HB7.out.mono HB5.out.size)
    have q8 : Below w4.heap.size W7 w8 := ev8.below (Nat.le_trans (Nat.le_of_lt hl4) HB7.out.size) HF.out
    exact q7.trans (q8.mono HB4.out.size))
  have HDu := hid_of (due_yes s8 [97] (by decide) 0 (e := ⟨xV, 7, 2⟩) rfl rfl)
  rw [show mk [97] = ⟨#[97]⟩ from rfl] at HDu
  clear s8 ev8 n8 HA
  go_wp2_with fail
  refine HDu.out.mono ?_
  rintro r w9 ⟨rfl, hb9⟩
  have HS9 := hid_of (HS8.out.below hb9)
  have HB9 := hid_of (HB8.out.trans (hb9.mono HB8.out.size))
  have HSn := hid_of (snap_call HS9.out (by decide))
  clear hb9 HDu
  go_wp2_with fail
  refine HSn.out.mono ?_
  rintro r w10 ⟨g, C, rfl, hr, hg, hcl, hnf, hb10⟩
  have hcl : C.length = 1 := hcl
  have HCo := hid_of (counter_call (HS9.out.below hb10))
  have HAn := hid_of (apply_nil (.slice none 0 0))
  have HB10 := hid_of (HB9.out.trans (hb10.mono HB9.out.size))
  have c7 : w10.cell? ⟨g, 7, none⟩ = some (.int .i64 7) := by
    have h0 : 0 < C.length := by rw [hcl]; omega
    obtain ⟨k2, T, a1, n1, c1, a2, n2, c2, a3, n3, c3, hcs, _⟩ := hnf 0 h0 (by decide)
    have := hr.cell h0 (j := 7) (by omega)
    rw [hcs] at this
    exact this
  rw [hcl]
  clear hr hg hcl hnf hb10 HSn
  go_wp2_with fail
  refine HCo.out.mono ?_
  rintro r w11 ⟨rfl, rfl⟩
  go_wp2_with fail
  refine (HAn.out w11).mono ?_
  rintro r w12 ⟨rfl, rfl⟩
  go_wp2_with fail
  go_ret
  exact ⟨rfl, HB10.out⟩
end Go.Proofs.YtpnigkjmofhmbabGreat.ESure
end
