/- The document's own Create, Rename, Remove, SyncNames. -/
import Derived.Test.YtilbffbmpgebmaaRefTurn
import Derived.Test.YtilbffbmpgebmaaOps3
namespace Go.Proofs.Ytilbffbmpgebmaa.RefOps
open Go.RowKit Go.Maps
open Go.Proofs.Ytilbffbmpgebmaa.DiskMath
open Go.Proofs.Ytilbffbmpgebmaa.RefMath
open Go.Proofs.Ytilbffbmpgebmaa.Base
open Go.Proofs.Ytilbffbmpgebmaa.Small
open Go.Proofs.Ytilbffbmpgebmaa.Append
open Go.Proofs.Ytilbffbmpgebmaa.Plan
open Go.Proofs.Ytilbffbmpgebmaa.File
open Go.Proofs.Ytilbffbmpgebmaa.File2
open Go.Proofs.Ytilbffbmpgebmaa.Ops2
open Go.Proofs.Ytilbffbmpgebmaa.RefNames
open Go.Proofs.Ytilbffbmpgebmaa.RefWith
open Go.Proofs.Ytilbffbmpgebmaa.RefBase
open Go.Proofs.Ytilbffbmpgebmaa.RefChange
open Go.Proofs.Ytilbffbmpgebmaa.RefFault
open Go.Proofs.Ytilbffbmpgebmaa.RefFiles
open Go.Proofs.Ytilbffbmpgebmaa.RefFiles2
open Go.Proofs.Ytilbffbmpgebmaa.RefTurn
set_option linter.unusedVariables false

theorem info103 : (Try.prog.info? 103).map (fun i => (i.zero, i.size, i.bytes)) = some (some (.agg #[.string ⟨#[]⟩, .int .i64 0]), 2, 24) := by kernel_rfl
set_option maxRecDepth 100000 in
theorem append_fl (base : Nat) (w : World) (v : Value) (n : Nat) (xs : List Value) (a0 : Nat) (u1 u2 : Value) (h : w.ownsRow base 103 2 v n xs) (hn : n < 1099511627776) (hb : base ≤ w.heap.size)
    (hs : w.heap[a0]? = some (.cells #[u1, u2] 103 (0, 0))) (o1 : u1.oneCell' = true) (o2 : u2.oneCell' = true) :
    ∃ a c w', (Builtin.append_ #[26, 26] 26 #[v, .slice (some ⟨a0, 0, none⟩) 1 1]).run Try.prog w = .ok (.slice a (n + 1) c) w' ∧ w'.ownsRow base 103 2 (.slice a (n + 1) c) (n + 1) (xs ++ [u1, u2]) ∧ w.grownBy w' v.ownBlock ∧ ((Value.slice a (n + 1) c).ownBlock = v.ownBlock ∨ (Below w.heap.size w w' ∧ ∀ g, (Value.slice a (n + 1) c).ownBlock = some g → w.heap.size ≤ g)) := by
  obtain ⟨i, hi, hz0, hz1, hz2⟩ := parts info103
  have hnews : ∀ (j : Nat) u, [u1, u2][j]? = some u → w.cell? ((⟨a0, 0, none⟩ : Addr).add j) = some u := fun j u hj => by
    have e : (⟨a0, 0, none⟩ : Addr).add j = ⟨a0, j, none⟩ := by unfold Addr.add; by_cases h0 : j = 0 <;> simp [h0]
    rw [e, Lib.cell_of_heap hs, ← hj]
    simp
  have h1 : ∀ u ∈ [u1, u2], u.oneCell' = true := fun u hu => by
    simp only [List.mem_cons, List.not_mem_nil, or_false] at hu
    rcases hu with rfl | rfl <;> assumption
  obtain ⟨v', w', hr, h2, h3, h4⟩ := run_append_own (P := Try.prog) w base 26 26 103 i _ 2 24 Try.underlying26 hi hz0 hz1 hz2 rfl (by decide) v n xs h ⟨a0, 0, none⟩ 1 1 [u1, u2] rfl hnews h1 (by unfold maxLen; omega) (by omega) hb
  obtain ⟨a, c, rfl⟩ := row_shape h2
  refine ⟨a, c, w', hr, h2, h3, ?_⟩
  rcases h.2 with ⟨rfl, hn0⟩ | ⟨g, cap, cur, rfl, hbg, hg, hnc, hcm, hcs, htake⟩
  · subst hn0
    have hx : xs = [] := List.length_eq_zero_iff.1 (by rw [h.1])
    subst hx
    obtain ⟨v2, w2, hr2, h5, _, _⟩ := run_append_own (P := Try.prog) w w.heap.size 26 26 103 i _ 2 24 Try.underlying26 hi hz0 hz1 hz2 rfl (by decide) (.slice none 0 0) 0 [] (World.ownsRow_nil _ _ _ _) ⟨a0, 0, none⟩ 1 1 [u1, u2] rfl hnews h1 (by unfold maxLen; omega) (by omega) (Nat.le_refl _)
    rw [hr] at hr2
    injection hr2 with e1 e2
    subst e1
    exact Or.inr ⟨⟨h3.os, h3.tape, h3.output, h3.size, fun k hk => h3.block k hk (by simp [Value.ownBlock])⟩, fun g hg => (h5.lt g hg).1⟩
  · by_cases hroom : n + 1 ≤ cap
    · have hr2 := run_append_room (P := Try.prog) w 26 26 103 i Try.underlying26 hi g n cap cur hg ⟨a0, 0, none⟩ 1 1 [u1, u2] (by rw [hz1]; rfl) hnews h1 hroom (by rw [hz1, hcs]; simp; omega)
      rw [hr] at hr2
      injection hr2 with e1 e2
      rw [e1]
      exact Or.inl rfl
    · have hr2 := run_append_grow (P := Try.prog) w 26 26 103 i _ Try.underlying26 hi hz0 ⟨g, 0, none⟩ n cap xs (by rw [hz1]; exact h.1) (h.cells (g := g) rfl) ⟨a0, 0, none⟩ 1 1 [u1, u2] (by rw [hz1]; rfl) hnews (by omega) (by omega) (growslice_fits (by omega) (by rw [hz2]; omega))
      rw [hr] at hr2
      injection hr2 with e1 e2
      rw [e1, e2]
      refine Or.inr ⟨(Below.refl _ w).drew.alloc (Nat.le_refl _) _, fun g2 hg2 => ?_⟩
      have e : w.heap.size = g2 := by simpa [Value.ownBlock] using hg2
      exact Nat.le_of_eq e
/- a new file -/
theorem rd_new {base b : Nat} {r : Rl} {d : Dk} {w : World} (h : RD base b r d w) (hf : d.files.length < 1099511627776) :
    ∃ a0 c0 a c w', r.fv = .slice a0 d.files.length c0 ∧ (Builtin.append_ #[26, 26] 26 #[.slice a0 d.files.length c0, .slice (some ⟨w.heap.size, 0, none⟩) 1 1]).run Try.prog (w.alloc (.cells #[.string ⟨#[]⟩, .int .i64 0] 103)) = .ok (.slice a (d.files.length + 1) c) w' ∧ w'.cell? ⟨b, 0, none⟩ = some (.slice a0 d.files.length c0) ∧ w'.frozen? ⟨b, 0, none⟩ = false ∧
      RD base b { r with fv := .slice a (d.files.length + 1) c } { d with files := d.files ++ [([], 0)] } (w'.setCell ⟨b, 0, none⟩ (.slice a (d.files.length + 1) c)) ∧ Ev ET base w (w'.setCell ⟨b, 0, none⟩ (.slice a (d.files.length + 1) c)) := by
  have hA : Below w.heap.size w (w.alloc (.cells #[.string ⟨#[]⟩, .int .i64 0] 103)) := (Below.refl _ w).alloc (Nat.le_refl _) _
  have h1 := h.below hA
  obtain ⟨a0, c0, hv⟩ := row_shape h.fl
  obtain ⟨a, c, w', hr, ho, hg, hw⟩ := append_fl base (w.alloc (.cells #[.string ⟨#[]⟩, .int .i64 0] 103)) r.fv d.files.length _ w.heap.size (.string ⟨#[]⟩) (.int .i64 0) h1.fl hf h1.hb (heap_alloc_new w _) rfl rfl
  have ev : Ev ET base (w.alloc (.cells #[.string ⟨#[]⟩, .int .i64 0] 103)) w' := by
    rcases hw with e | ⟨hbl, _⟩
    · cases hq : r.fv.ownBlock with
      | none => rw [hq] at hg; exact Ev.none hg
      | some g =>
        rw [hq] at hg e
        obtain ⟨q1, q2, q3⟩ := row_kd h1.fl hq
        exact Ev.one hg q2 q3 (by rw [q1]; rfl) (by rw [(row_kd ho e).1, q1])
    · exact Ev.of_below hbl
  have hk : ∀ k, k < (w.alloc (.cells #[.string ⟨#[]⟩, .int .i64 0] 103)).heap.size → kd (w.alloc (.cells #[.string ⟨#[]⟩, .int .i64 0] 103)) k ≠ 105 → w'.heap[k]? = (w.alloc (.cells #[.string ⟨#[]⟩, .int .i64 0] 103)).heap[k]? := fun k hk2 hne => hg.block k hk2 (fun e => hne (row_kd h1.fl e.symm).1)
  have hb5 : w'.heap[b]? = _ := (hk b (lt_of h1.disk) (by rw [kd_cells h1.disk]; decide)).trans h1.disk
  have hrow : ∀ {e sz n : Nat} {v : Value} {xs : List Value}, (w.alloc (.cells #[.string ⟨#[]⟩, .int .i64 0] 103)).ownsRow base e sz v n xs → e ≠ 103 → e ≠ 31 → (w'.setCell ⟨b, 0, none⟩ (.slice a (d.files.length + 1) c)).ownsRow base e sz v n xs := fun hrw hne hne2 => row_later hrw fun g h2 => by
    obtain ⟨q1, q2, q3⟩ := row_kd hrw h2
    rw [set_ne (fun e => by rw [e, kd_cells h1.disk] at q1; omega)]
    exact hk g q2 (by rw [q1]; omega)
  refine ⟨a0, c0, a, c, w', hv, by rw [← hv]; exact hr, by rw [← hv]; exact Lib.cell_of_heap hb5 0, Lib.frozen_of_heap hb5 0, ⟨set_at (i := 0) hb5 _, h.bb, ?_, hrow h1.nm (by decide) (by decide), hrow h1.ls (by decide) (by decide), hrow h1.op (by decide) (by decide), hrow h1.pl (by decide) (by decide), h.left, h.rn, h.rl, ?_⟩, ((Ev.of_below hA).trans ev).trans (Ev.set hb5 h.bb rfl _)⟩
  · have e1 : (d.files ++ [([], 0)]).length = d.files.length + 1 := by simp
    have e2 : (d.files ++ [(([] : Bs), 0)]).flatMap flCells = d.files.flatMap flCells ++ [.string ⟨#[]⟩, .int .i64 0] := by simp [flCells]; rfl
    show (w'.setCell ⟨b, 0, none⟩ _).ownsRow base 103 2 (.slice a (d.files.length + 1) c) (d.files ++ [([], 0)]).length ((d.files ++ [(([] : Bs), 0)]).flatMap flCells)
    rw [e1, e2]
    refine row_later ho fun g h1' => set_ne (fun e => ?_) _
    have := (row_kd ho h1').1
    rw [e, kd_cells hb5] at this
    cases this
  · rw [size_set]
    exact Nat.le_trans h1.hb hg.size
set_option maxHeartbeats 2000000 in
set_option maxRecDepth 100000 in
theorem rcreate_call (base b : Nat) (r : Rl) (d : Dk) (s : ByteArray) (w : World) (h : RD base b r d w) (ok : Ok d) (hst : d.steps + 1 < 1099511627776) (hfl : d.files.length < 1099511627776) :
    Calls Try.prog 32 #[ptr b, .string s] w fun e w' => e = .returned (.int .i64 (d.create (bs s)).2) ∧ RHas base b (d.create (bs s)).1 w' ∧ Ev ET base w w' := by
  have hl : d.names.length < 1099511627776 := Nat.lt_of_le_of_lt ok.nlen (by omega)
  have H1 := hid_of (rasked_call base b r d s w h hl)
  have H2 := hid_of (rfault_call base b r d w h (by omega))
  have HD := hid_of h
  have hol : d.opens.length < 1099511627776 := by have := ok.llen; omega
  unfold ptr at *
  by_cases ha0 : d.asked (bs s) = 0
  · have HE : Hid (d.create (bs s) = (d, 51)) := by show _ = _; unfold Dk.create; rw [if_pos ha0]
    rw [ha0] at H1
    clear h ok ha0
    go_enter Try.func32, Try.ntmps32
    go_wp2_with fail
    refine H1.out.mono ?_
    rintro e w' ⟨rfl, rfl⟩
    go_wp2_with fail
    go_ret
    rw [HE.out]
    exact ⟨rfl, ⟨r, HD.out⟩, Ev.refl _ _ _⟩
  · by_cases ha : d.asked (bs s) = 50
    · rw [ha] at H1
      by_cases he : d.fault.2.2 = 0
      · have HE : Hid (d.create (bs s) = (({ d.fault.1 with files := d.fault.1.files ++ [([], 0)] } : Dk).turn (.make (bs s) d.fault.1.files.length), 0)) := by
          show _ = _
          unfold Dk.create
          rw [if_neg ha0, if_neg (by rw [ha]; decide)]
          show (if _ then _ else _) = _
          rw [if_pos he]
        rw [he] at H2
        have hfs := fault_same d
        have hnl : d.fault.1.names.length < 1099511627776 := by rw [hfs.2.1]; exact hl
        have hop : d.fault.1.opens.length < 1099511627776 := by rw [hfs.2.2.2.1]; exact hol
        have hff : d.fault.1.files.length < 1099511627776 := by rw [hfs.1]; exact hfl
        obtain ⟨D, hDd⟩ : ∃ D, D = d.fault.1 := ⟨_, rfl⟩
        rw [← hDd] at H2 hnl hop hff HE
        have H3 := hid_of (fun (r' : Rl) (W : World) (hW : RD base b r' { D with files := D.files ++ [([], 0)] } W) => rturn_call base b r' { D with files := D.files ++ [([], 0)] } (.make (bs s) D.files.length) W hW hnl hop)
        have hrcv : rcV (.make (bs s) D.files.length) = .agg #[.int .i64 1, .string s, .string ⟨#[]⟩, .int .i64 (D.files.length : Int)] := by
          show Value.agg #[.int .i64 1, .string (mk (bs s)), .string (mk []), .int .i64 (D.files.length : Int)] = _
          rw [mk_bs]
          rfl
        rw [hrcv] at H3
        unfold ptr at H3
        clear h ok ha ha0 he hfs hrcv hDd
        go_enter Try.func32, Try.ntmps32
        go_wp2_with fail
        refine H1.out.mono ?_
        rintro e w' ⟨rfl, rfl⟩
        go_wp2_with fail
        refine H2.out.mono ?_
        rintro e w1 ⟨rfl, h1, ev⟩
        obtain ⟨a0, c0, a, c, w2, hv, hr, q0, z0, hrd, evn⟩ := rd_new h1 hff
        have c1 : w1.cell? ⟨b, 0, none⟩ = some r.fv := h1.cell 0
        rw [hv] at c1
        obtain ⟨V, hV⟩ : ∃ V, V = w2.setCell ⟨b, 0, none⟩ (.slice a (D.files.length + 1) c) := ⟨_, rfl⟩
        rw [← hV] at hrd evn
        have c2 : V.cell? ⟨b, 0, none⟩ = some (.slice a (D.files.length + 1) c) := hrd.cell 0
        have HRD := hid_of hrd
        have HEV := hid_of (ev.trans evn)
        have ew : IntKind.i64.wrap ((D.files.length : Int) + 1 - 1) = (D.files.length : Int) := by rw [show (D.files.length : Int) + 1 - 1 = (D.files.length : Int) from by omega]; exact IntWalk.i64_in _ (by omega)
        have ew2 : IntKind.i64.wrap (D.files.length : Int) = (D.files.length : Int) := IntWalk.i64_in _ (by omega)
        clear h1 ev hrd evn hv
        go_wp2_with (at_builtin; refine wpl_eq rfl _ _ 26 26 rfl (.slice a0 D.files.length c0) (.slice (some ⟨w1.heap.size, 0, none⟩) 1 1) (.slice a (D.files.length + 1) c) (w1.alloc (.cells #[.string ⟨#[]⟩, .int .i64 0] 103)) w2 rfl rfl hr ?_)
        go_wp2_with fail
        rw [← hV]
        clear hV q0 z0 hr c1
        go_wp2_with fail
        refine (H3.out _ V HRD.out).mono ?_
        rintro e w3 ⟨rfl, h3, ev3⟩
        have HR := hid_of (And.intro h3 (HEV.out.trans ev3))
        clear h3 ev3
        go_wp2_with fail
        go_ret
        rw [HE.out]
        exact ⟨rfl, HR.out.1, HR.out.2⟩
      · have HE : Hid (d.create (bs s) = (d.fault.1, d.fault.2.2)) := by
          show _ = _
          unfold Dk.create
          rw [if_neg ha0, if_neg (by rw [ha]; decide)]
          show (if _ then _ else _) = _
          rw [if_neg he]
        have heb := err_ne he
        clear h ok ha ha0 he
        go_enter Try.func32, Try.ntmps32
        go_wp2_with fail
        refine H1.out.mono ?_
        rintro e w' ⟨rfl, rfl⟩
        go_wp2_with fail
        refine H2.out.mono ?_
        rintro e w1 ⟨rfl, h1, ev⟩
        have HR := hid_of (And.intro (RHas.mk h1) ev)
        clear h1 ev
        go_wp2_with fail
        go_ret
        rw [HE.out]
        exact ⟨rfl, HR.out.1, HR.out.2⟩
    · have HE : Hid (d.create (bs s) = (d, d.asked (bs s))) := by
        show _ = _
        unfold Dk.create
        rw [if_neg ha0, if_pos ha]
      have hb := ask_ne ha0
      have hb2 : (d.asked (bs s) == 50) = false := by rw [beq_eq_false_iff_ne]; exact ha
      clear h ok ha ha0
      go_enter Try.func32, Try.ntmps32
      go_wp2_with fail
      refine H1.out.mono ?_
      rintro e w' ⟨rfl, rfl⟩
      go_wp2_with fail
      go_ret
      rw [HE.out]
      exact ⟨rfl, ⟨r, HD.out⟩, Ev.refl _ _ _⟩
end Go.Proofs.Ytilbffbmpgebmaa.RefOps
