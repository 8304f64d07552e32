/- Changes of names: apply, alter, settle. -/
import Derived.Test.YtilbffbmpgebmaaAppend
import Derived.Deep.RegionLaw
namespace Go.Proofs.Ytilbffbmpgebmaa.Names
open Go.RowKit Go.Maps
open Go.Proofs.Ytilbffbmpgebmaa.DiskMath
open Go.Proofs.Ytilbffbmpgebmaa.Base
open Go.Proofs.Ytilbffbmpgebmaa.Small
open Go.Proofs.Ytilbffbmpgebmaa.Find
open Go.Proofs.Ytilbffbmpgebmaa.File
open Go.Proofs.Ytilbffbmpgebmaa.File2
open Go.Proofs.Ytilbffbmpgebmaa.Append
set_option linter.unusedVariables false

theorem turned_cell {w w' : World} {b : Nat} (h : w.mapTurned w' b) (a : Addr) : w'.cell? a = w.cell? a := by
  obtain ⟨es, c, es', c', h1, rfl⟩ := h
  by_cases e : a.block = b
  · unfold World.cell?
    rw [e, h1, ChangeMaps.heap_setBlock_same h1]
  · unfold World.cell?
    rw [ChangeMaps.heap_setBlock_other h1 _ e]
theorem turned_block {w w' : World} {b : Nat} (h : w.mapTurned w' b) (k : Nat) (hk : k ≠ b) : w'.heap[k]? = w.heap[k]? := by
  obtain ⟨es, c, es', c', h1, rfl⟩ := h
  exact ChangeMaps.heap_setBlock_other h1 _ hk
theorem turned_size {w w' : World} {b : Nat} (h : w.mapTurned w' b) : w'.heap.size = w.heap.size := by
  obtain ⟨es, c, es', c', h1, rfl⟩ := h
  simp [ChangeMaps.setBlock]
def chVal (pos : Nat → Nat) (c : Ch) : Value := .agg #[.string (mk c.gone), .string (mk c.name), optPtr pos c.file]
theorem cok_sizes {n : Nat} {c : Ch} (h : COk n c) : (mk c.gone).size ≤ 281474976710656 ∧ (mk c.name).size ≤ 281474976710656 := by
  rw [mk_size, mk_size]
  cases c with
  | make k f => exact ⟨Nat.zero_le _, h.2.2⟩
  | move a b f => exact ⟨h.2.2.2.1, h.2.2.2.2⟩
  | drop k => exact ⟨h.2, Nat.zero_le _⟩
set_option maxHeartbeats 2000000 in
set_option maxRecDepth 100000 in
theorem apply_none (bm : Nat) (G : ByteArray) (P : Value) (w w1 : World) (hd : (Builtin.delete_ #[66, 9] 0 #[.map (some bm), .string G]).run Try.prog (w.alloc (.cells #[.string G, .string ⟨#[]⟩, P] 98)) = .ok (.tuple #[]) w1)
    (hc : ∀ a, w1.cell? a = (w.alloc (.cells #[.string G, .string ⟨#[]⟩, P] 98)).cell? a) :
    Calls Try.prog 61 #[.agg #[.string G, .string ⟨#[]⟩, P], .map (some bm)] w fun e w' => e = .returned (.tuple #[]) ∧ w' = w1 := by
  have c0 : (w.alloc (.cells #[.string G, .string ⟨#[]⟩, P] 98)).cell? ⟨w.heap.size, 0, none⟩ = some (.string G) := Lib.cell_of_heap (heap_alloc_new w _) 0
  have c1 : w1.cell? ⟨w.heap.size, 1, none⟩ = some (.string ⟨#[]⟩) := (hc _).trans (Lib.cell_of_heap (heap_alloc_new w _) 1)
  clear hc
  go_enter Try.func61, Try.ntmps61
  go_wp2_with fail
  go_end0
  exact ⟨rfl, rfl⟩
set_option maxHeartbeats 2000000 in
set_option maxRecDepth 100000 in
theorem apply_some (bm f : Nat) (G N : ByteArray) (w w1 w2 : World) (hN : N.toList.isEmpty = false) (hd : (Builtin.delete_ #[66, 9] 0 #[.map (some bm), .string G]).run Try.prog (w.alloc (.cells #[.string G, .string N, .pointer (some ⟨f, 0, none⟩)] 98)) = .ok (.tuple #[]) w1)
    (hc : ∀ a, w1.cell? a = (w.alloc (.cells #[.string G, .string N, .pointer (some ⟨f, 0, none⟩)] 98)).cell? a)
    (hu : (Instr.mapUpdate 66 (.map (some bm)) (.string N) (.pointer (some ⟨f, 0, none⟩))).run Try.prog w1 = .ok () w2) :
    Calls Try.prog 61 #[.agg #[.string G, .string N, .pointer (some ⟨f, 0, none⟩)], .map (some bm)] w fun e w' => e = .returned (.tuple #[]) ∧ w' = w2 := by
  have c0 : (w.alloc (.cells #[.string G, .string N, .pointer (some ⟨f, 0, none⟩)] 98)).cell? ⟨w.heap.size, 0, none⟩ = some (.string G) := Lib.cell_of_heap (heap_alloc_new w _) 0
  have c1 : w1.cell? ⟨w.heap.size, 1, none⟩ = some (.string N) := (hc _).trans (Lib.cell_of_heap (heap_alloc_new w _) 1)
  have c2 : w1.cell? ⟨w.heap.size, 2, none⟩ = some (.pointer (some ⟨f, 0, none⟩)) := (hc _).trans (Lib.cell_of_heap (heap_alloc_new w _) 2)
  clear hc
  go_enter Try.func61, Try.ntmps61
  go_wp2_with fail
  go_end0
  exact ⟨rfl, rfl⟩
theorem nonempty {l : Bs} (h : l ≠ []) : (mk l).toList.isEmpty = false := by
  rw [Lib.toList_data]
  show l.isEmpty = false
  cases l with
  | nil => exact absurd rfl h
  | cons a r => rfl
theorem apply_call (base : Nat) (pos : Nat → Nat) (bm m : Nat) (l : NL) (c : Ch) (w : World) (h : w.ownsMap Try.prog 9 RP bm l.length (toD pos l)) (hb : base ≤ bm) (hc : COk m c) (hl : NOk m l) (hn : l.length < 1099511627776) :
    Calls Try.prog 61 #[chVal pos c, .map (some bm)] w fun e w' => e = .returned (.tuple #[]) ∧ w'.ownsMap Try.prog 9 RP bm (c.on l).length (toD pos (c.on l)) ∧ (∀ k, k < w.heap.size → k ≠ bm → w'.heap[k]? = w.heap[k]?) ∧ Ev DT base w w' := by
  obtain ⟨z1, z2⟩ := cok_sizes hc
  have h1 := h.alloc (.cells #[.string (mk c.gone), .string (mk c.name), optPtr pos c.file] 98)
  obtain ⟨w1, hd, hown1, ht1⟩ := h1.drop law9 Try.underlying66 (key9 _ z1) 0
  rw [bs_mk, del_D] at hown1
  have hk1 : ∀ k, k < w.heap.size → k ≠ bm → w1.heap[k]? = w.heap[k]? := fun k hk hne => (turned_block ht1 k hne).trans (Below.heap_alloc _ _ k hk)
  have ev1 : Ev DT base w w1 := ((Ev.refl DT base w).alloc _).trans (Ev.turned ht1 hb rfl)
  have hco := code_on hl c
  have hwl := wout_len l c.gone
  have hcc := turned_cell ht1
  unfold chVal
  cases hf : c.file with
  | none =>
    have hnm : c.name = [] := by cases c <;> first | rfl | cases hf
    have E1 : c.on l = wout l c.gone := by rw [← hco]; unfold Ch.code; rw [hf]
    rw [hf, hnm] at hd hcc
    rw [E1, hnm]
    refine (apply_none bm (mk c.gone) _ w w1 hd hcc).mono ?_
    rintro e w' ⟨rfl, rfl⟩
    exact ⟨rfl, owns_norm hown1, hk1, ev1⟩
  | some f =>
    have hnm : c.name ≠ [] := by
      cases c with
      | make k f => exact hc.1
      | move a b f => exact hc.2.1
      | drop k => cases hf
    have E1 : c.on l = withL (wout l c.gone) c.name f := by rw [← hco]; unfold Ch.code; rw [hf]
    rw [hf] at hd hcc
    rw [E1]
    obtain ⟨w2, hu, hown2, ht2⟩ := (owns_norm hown1).store law9 Try.underlying66 (by unfold maxLen; omega) (key9 _ z2) (val := ptr (pos f)) (RP_at (pos f))
    rw [bs_mk, put_D] at hown2
    refine (apply_some bm (pos f) (mk c.gone) (mk c.name) w w1 w2 (nonempty hnm) hd hcc hu).mono ?_
    rintro e w' ⟨rfl, rfl⟩
    exact ⟨rfl, owns_norm hown2, fun k hk hne => (turned_block ht2 k hne).trans (hk1 k hk hne), ev1.trans (Ev.turned ht2 hb rfl)⟩
/- a change in its box -/
def Bx (w0 : World) (G N : ByteArray) (P : Value) (W : World) : Prop := W.heap[w0.heap.size]? = some (.cells #[.string G, .string N, P] 98 (0, 0)) ∧ Below w0.heap.size w0 W
theorem Bx.later {w0 : World} {G N : ByteArray} {P : Value} {W W' : World} (h : Bx w0 G N P W) (hb : Below W.heap.size W W') : Bx w0 G N P W' := ⟨(hb.block _ (lt_of h.1)).trans h.1, h.2.trans (hb.mono h.2.size)⟩
theorem bx_clone (w0 : World) (G N : ByteArray) (P : Value) (s : ByteArray) (hs : s.size ≤ 281474976710656) (W : World) (h : Bx w0 G N P W) :
    Calls Try.prog 63 #[.string s] W fun e w' => e = .returned (.string s) ∧ Bx w0 G N P w' ∧ w'.cell? ⟨w0.heap.size, 0, none⟩ = some (.string G) ∧ w'.cell? ⟨w0.heap.size, 1, none⟩ = some (.string N) ∧ w'.frozen? ⟨w0.heap.size, 0, none⟩ = false ∧ w'.frozen? ⟨w0.heap.size, 1, none⟩ = false := by
  refine (clone_call s hs W).mono ?_
  rintro e w' ⟨rfl, hb⟩
  have h' := h.later hb
  exact ⟨rfl, h', Lib.cell_of_heap h'.1 0, Lib.cell_of_heap h'.1 1, Lib.frozen_of_heap h'.1 0, Lib.frozen_of_heap h'.1 1⟩
theorem Bx.set0 {w0 : World} {G N : ByteArray} {P : Value} {W : World} (h : Bx w0 G N P W) : Bx w0 G N P (W.setCell ⟨w0.heap.size, 0, none⟩ (.string G)) := ⟨set_at h.1 _, h.2.setCell (Nat.le_refl _) _⟩
theorem Bx.set1 {w0 : World} {G N : ByteArray} {P : Value} {W : World} (h : Bx w0 G N P W) : Bx w0 G N P (W.setCell ⟨w0.heap.size, 1, none⟩ (.string N)) := ⟨set_at h.1 _, h.2.setCell (Nat.le_refl _) _⟩
section
variable {ops : Array Oper} {o : Oper} {a : Act} {Q : Exit → Act → World → Prop} {K : Act → World → Prop} {E : Prop}
theorem step_eq (hg : o.guard = none) (s x : Operand) (t tx : TypeId) (ho : o.op = .call { callee := .builtin .append, args := #[s, x], argTypes := #[t, tx] }) (v u v' : Value) (W W' : World) (hs : a.eval s = v) (hx : a.eval x = u)
    (hr : (Builtin.append_ #[t, tx] o.type #[v, u]).run Try.prog W = .ok v' W') (hK : K (a.put o.dst v') W') : if Region.wanted o (yielded ops a.tmps) = true then Oper.wp Try.prog o a W K Q else E := by
  have hw : Region.wanted o (yielded ops a.tmps) = true := by simp [Region.wanted, hg]
  rw [if_pos hw]
  unfold Oper.wp execOp
  simp only [ho, resolve, invoke, builtin, Sem.run_bind, Sem.run_pure, Result.andThen_ok, List.map_toArray, List.map_cons, List.map_nil, hs, hx, hr]
  exact hK
end
theorem one_str (s : ByteArray) : (Value.string s).oneCell' = true := rfl
theorem one_opt (pos : Nat → Nat) (o : Option Nat) : (optPtr pos o).oneCell' = true := by cases o <;> rfl
/- behind apply: the change laid behind the open ones -/
theorem alter_end {base b : Nat} {y : Lay} {d : Dk} {w w4 : World} (h : DK base b y d w) (c : Ch) (hc : COk d.files.length c) (hst : d.steps < 1099511627776) (hl1 : d.names.length + 1 ≤ d.steps) (hl2 : d.last.length + d.opens.length + 1 ≤ d.steps)
    (hm : w4.ownsMap Try.prog 9 RP y.bn (c.on d.names).length (toD y.pos (c.on d.names))) (hk : ∀ k, k < w.heap.size → k ≠ y.bn → w4.heap[k]? = w.heap[k]?) (ev : Ev DT base w w4) :
    ∃ a0 c0 a1 c1 w5, y.ov = .slice a0 d.opens.length c0 ∧ w4.drew.cell? ⟨b, 2, none⟩ = some (.slice a0 d.opens.length c0) ∧ (Builtin.append_ #[67, 67] 67 #[.slice a0 d.opens.length c0, .slice (some ⟨w4.heap.size, 0, none⟩) 1 1]).run Try.prog (w4.drew.alloc (.cells #[.string (mk c.gone), .string (mk c.name), optPtr y.pos c.file] 98)) = .ok (.slice a1 (d.opens.length + 1) c1) w5 ∧
      w5.cell? ⟨b, 2, none⟩ = some (.slice a0 d.opens.length c0) ∧ w5.frozen? ⟨b, 2, none⟩ = false ∧ (∃ ov, DK base b { y with ov := ov } (d.turn c) (w5.setCell ⟨b, 2, none⟩ (.slice a1 (d.opens.length + 1) c1))) ∧ Ev DT base w (w5.setCell ⟨b, 2, none⟩ (.slice a1 (d.opens.length + 1) c1)) := by
  have ok := h.ok
  have hol := on_len c d.names
  have k4 : DK base b y { d with names := c.on d.names } w4 := by
    refine h.maps (fun k hk2 hne => hk k hk2 (fun e => hne (by rw [e]; exact owns_kd h.nm))) ev.size hm (map_later h.ls (hk _ h.ls.lt (fun e => h.ne e.symm))) rfl rfl rfl rfl rfl ?_
    exact ⟨ok.names.on hc, ok.last, ok.opens, Nat.le_trans hol hl1, ok.llen, ok.plan⟩
  have k5 := (k4.below (Below.refl _ w4).drew).alloc (.cells #[.string (mk c.gone), .string (mk c.name), optPtr y.pos c.file] 98)
  obtain ⟨a0, c0, hv⟩ := row_shape k4.op
  have hv' : y.ov = .slice a0 d.opens.length c0 := hv
  obtain ⟨a1, c1, w5, hr, ho, hg, hw⟩ := append_ch base 67 _ y.ov d.opens.length _ w4.heap.size _ _ _ k5.op (by have := ok.llen; omega) k5.hb (heap_alloc_new w4.drew _) (one_str _) (one_str _) (one_opt _ _)
  have ev5 : Ev DT base (w4.drew.alloc (.cells #[.string (mk c.gone), .string (mk c.name), optPtr y.pos c.file] 98)) w5 := by
    rcases hw with e | ⟨hbl, _⟩
    · cases hq : y.ov.ownBlock with
      | none => rw [hq] at hg; exact Ev.none hg
      | some g =>
        rw [hq] at hg e
        obtain ⟨q1, q2, q3⟩ := row_kd k5.op hq
        exact Ev.one hg q2 q3 (by rw [q1]; rfl) (by rw [(row_kd ho e).1, q1])
    · exact Ev.of_below hbl
  have hb5 : w5.heap[b]? = _ := (hg.block b (lt_of k5.disk) (fun e => by
    have := (row_kd k5.op e.symm).1
    rw [kd_cells k5.disk] at this
    cases this)).trans k5.disk
  refine ⟨a0, c0, a1, c1, w5, hv', ?_, ?_, ?_, Lib.frozen_of_heap hb5 2, ⟨.slice a1 (d.opens.length + 1) c1, ?_⟩, ?_⟩
  · rw [← hv']; exact Lib.cell_of_heap k4.disk 2
  · rw [← hv']; exact hr
  · rw [← hv']; exact Lib.cell_of_heap hb5 2
  · refine k5.own (y' := { y with ov := .slice a1 (d.opens.length + 1) c1 }) (d' := d.turn c) (fun k hk2 hne h100 => ?_) ?_ rfl rfl rfl rfl ?_ rfl rfl rfl ?_ ?_ ?_
    · rw [set_ne hne]
      exact hg.block k hk2 (fun e => h100 (row_kd k5.op e.symm).1)
    · rw [size_set]; exact hg.size
    · exact set_at hb5 _
    · have e1 : (d.turn c).opens.length = d.opens.length + 1 := by unfold Dk.turn; simp
      have e2 : (d.turn c).opens.flatMap (chCells y.pos) = d.opens.flatMap (chCells y.pos) ++ [.string (mk c.gone), .string (mk c.name), optPtr y.pos c.file] := by unfold Dk.turn; simp [chCells]
      rw [e1, e2]
      refine row_later ho fun g h1 => set_ne (fun e => ?_) _
      have := (row_kd ho h1).1
      rw [e, kd_cells hb5] at this
      cases this
    · refine plan_later k5.pl fun k hk2 h60 => ?_
      rw [set_ne (fun e => by rw [e, kd_cells k5.disk] at h60; cases h60)]
      exact hg.block k hk2 (fun e => by rw [(row_kd k5.op e.symm).1] at h60; cases h60)
    · refine ⟨ok.names.on hc, ok.last, fun x hx => ?_, ?_, ?_, ok.plan⟩
      · rcases List.mem_append.1 hx with hx | hx
        · exact ok.opens x hx
        · rw [List.mem_singleton.1 hx]; exact hc
      · exact Nat.le_trans hol hl1
      · show d.last.length + (d.opens ++ [c]).length ≤ d.steps
        rw [List.length_append]
        simp only [List.length_singleton]
        omega
  · exact (((ev.drew).alloc _).trans ev5).trans (Ev.set hb5 h.bb rfl _)
set_option maxHeartbeats 4000000 in
set_option maxRecDepth 100000 in
theorem alter_call (base b : Nat) (y : Lay) (d : Dk) (w : World) (h : DK base b y d w) (c : Ch) (hc : COk d.files.length c) (hst : d.steps < 1099511627776) (hl1 : d.names.length + 1 ≤ d.steps) (hl2 : d.last.length + d.opens.length + 1 ≤ d.steps) :
    Calls Try.prog 56 #[ptr b, chVal y.pos c] w fun e w' => e = .returned (.tuple #[]) ∧ (∃ ov, DK base b { y with ov := ov } (d.turn c) w') ∧ Ev DT base w w' := by
  obtain ⟨z1, z2⟩ := cok_sizes hc
  unfold chVal
  obtain ⟨G, hG⟩ : ∃ G, G = mk c.gone := ⟨_, rfl⟩
  obtain ⟨N, hN⟩ : ∃ N, N = mk c.name := ⟨_, rfl⟩
  obtain ⟨P, hP⟩ : ∃ P, P = optPtr y.pos c.file := ⟨_, rfl⟩
  rw [← hG] at z1 ⊢
  rw [← hN] at z2 ⊢
  rw [← hP]
  have bx0 : Bx w G N P (w.alloc (.cells #[.string G, .string N, P] 98)) := ⟨heap_alloc_new w _, (Below.refl _ w).alloc (Nat.le_refl _) _⟩
  have BX : Hid (Bx w G N P (w.alloc (.cells #[.string G, .string N, P] 98)).drew) := bx0.later (Below.refl _ _).drew
  have k0 : (w.alloc (.cells #[.string G, .string N, P] 98)).drew.cell? ⟨w.heap.size, 0, none⟩ = some (.string G) := Lib.cell_of_heap (heap_alloc_new w _) 0
  have k1 : (w.alloc (.cells #[.string G, .string N, P] 98)).drew.cell? ⟨w.heap.size, 1, none⟩ = some (.string N) := Lib.cell_of_heap (heap_alloc_new w _) 1
  have HC := hid_of (bx_clone w G N P)
  have H := hid_of h
  have HCK := hid_of hc
  have HGN := hid_of (And.intro hG (And.intro hN hP))
  clear h hc hG hN hP bx0
  unfold ptr
  go_enter Try.func56, Try.ntmps56
  go_wp2_with fail
  go_region_with (first
    | (go_at_call_of 63 (Value.string G); refine (HC.out G z1 _ ?_).mono ?_; exact BX.out; rintro e wx ⟨rfl, bx, k0, k1, f0, f1⟩; have BX := hid_of bx; clear bx)
    | (go_at_call_of 63 (Value.string N); refine (HC.out N z2 _ ?_).mono ?_; exact BX.out; rintro e wx ⟨rfl, bx, k0, k1, f0, f1⟩; have BX := hid_of bx; clear bx))
  all_goals (
    have bx3 := BX.out.set0.set1
    clear k0 k1 f0 f1 BX
    generalize hW : (World.setCell (World.setCell wx ⟨w.heap.size, 0, none⟩ (Value.string G)) ⟨w.heap.size, 1, none⟩ (Value.string N)) = W3 at bx3 ⊢
    clear hW)
  all_goals (
    have k3 := H.out.below bx3.2
    have HAp := hid_of (apply_call base y.pos y.bn d.files.length d.names c W3.drew (k3.below (Below.refl _ W3).drew).nm k3.nb HCK.out k3.ok.names (by have := k3.ok.nlen; omega))
    unfold chVal at HAp
    obtain ⟨hG, hN, hP⟩ := id HGN.out
    rw [← hG, ← hN, ← hP] at HAp
    have q0 : W3.drew.cell? ⟨w.heap.size, 0, none⟩ = some (.string G) := Lib.cell_of_heap bx3.1 0
    have q1 : W3.drew.cell? ⟨w.heap.size, 1, none⟩ = some (.string N) := Lib.cell_of_heap bx3.1 1
    have q2 : W3.drew.cell? ⟨w.heap.size, 2, none⟩ = some P := Lib.cell_of_heap bx3.1 2
    have q3 : W3.drew.cell? ⟨b, 0, none⟩ = some (.map (some y.bn)) := k3.cell 0
    have BX3 := hid_of bx3
    have K3 := hid_of k3
    clear bx3 k3 hG hN hP
    go_wp2_with fail
    go_region_with (first | (go_at_call 61; refine HAp.out.mono ?_; rintro e w4 ⟨rfl, m4, b4, e4⟩; have M4 := hid_of (And.intro m4 (And.intro b4 e4)); clear m4 b4 e4)))
  all_goals (
    obtain ⟨a0, c0, a1, c1, w5, hv, cv, hr, c5, f5, hD, hE⟩ := alter_end (K3.out.below (Below.refl _ W3).drew) c HCK.out hst hl1 hl2 M4.out.1 M4.out.2.1 M4.out.2.2
    obtain ⟨hG, hN, hP⟩ := id HGN.out
    rw [← hG, ← hN, ← hP] at hr
    have hB4 : w4.heap[w.heap.size]? = some (.cells #[.string G, .string N, P] 98 (0, 0)) := (M4.out.2.1 w.heap.size (lt_of BX3.out.1) (fun e => by
      have := owns_kd K3.out.nm
      rw [← e, kd_cells BX3.out.1] at this
      cases this)).trans BX3.out.1
    have r0 : w4.drew.cell? ⟨w.heap.size, 0, none⟩ = some (.string G) := Lib.cell_of_heap hB4 0
    have r1 : w4.drew.cell? ⟨w.heap.size, 1, none⟩ = some (.string N) := Lib.cell_of_heap hB4 1
    have r2 : w4.drew.cell? ⟨w.heap.size, 2, none⟩ = some P := Lib.cell_of_heap hB4 2
    have cv1 : w4.cell? ⟨b, 2, none⟩ = some (.slice a0 d.opens.length c0) := cv
    have cv2 : (w4.alloc (.cells #[.string G, .string N, P] 98)).cell? ⟨b, 2, none⟩ = some (.slice a0 d.opens.length c0) := (World.cell?_alloc_lt _ _ _ (Nat.lt_of_lt_of_le (lt_of K3.out.disk) M4.out.2.2.size)).trans cv1
    have HD := hid_of hD
    have HE := hid_of ((Ev.of_below (T := DT) (base := base) (BX3.out.2.trans ((Below.refl W3.heap.size W3).drew.mono BX3.out.2.size))).trans hE)
    clear hD hE hG hN hP hv hB4 q0 q1 q2 q3
    go_wp2_with fail
    go_region_law (first | (refine step_eq rfl (.tmp 22) (.tmp 24) 67 67 rfl (.slice a0 d.opens.length c0) (.slice (some ⟨w4.heap.size, 0, none⟩) 1 1) (.slice a1 (d.opens.length + 1) c1) _ w5 (by first | (simp [Act.eval]; done) | simp [Act.eval, Act.put]) (by first | (simp [Act.eval]; done) | simp [Act.eval, Act.put]) hr ?_)))
  all_goals (
    try go_wp2_with fail
    go_end0
    exact ⟨rfl, HD.out, HE.out⟩)
end Go.Proofs.Ytilbffbmpgebmaa.Names
