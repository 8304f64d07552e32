/- Run: a request of a command is done. -/
import Derived.Test.YtiofnocmibjepaaGreatDoorQIncM
import Derived.Test.YtiofnocmibjepaaGreatDoorRowOfM
import Derived.Deep.DeepCutAuto
import Derived.Shelf.Abstract
namespace Go.Proofs.YtiofnocmibjepaaGreatDoor.QRun
open Go.RowKit Go.Maps
open Go.Proofs.YtiofnocmibjepaaGreatDoor.SpaceMath
open Go.Proofs.YtiofnocmibjepaaGreatDoor.Base (mk mk_list mk_size Gr hid_of SL)
open Go.Proofs.YtiofnocmibjepaaGreatDoor.Turn
open Go.Proofs.YtiofnocmibjepaaGreatDoor.Vals
open Go.Proofs.YtiofnocmibjepaaGreatDoor.SBase
open Go.Proofs.YtiofnocmibjepaaGreatDoor.SFind (alb)
open Go.Proofs.YtiofnocmibjepaaGreatDoor.Swap (law9 key9)
open Go.Proofs.YtiofnocmibjepaaGreatDoor.QCmd
open Go.Proofs.YtiofnocmibjepaaGreatDoor.QPut
open Go.Proofs.YtiofnocmibjepaaGreatDoor.QAdd (rp3 sl_cell)
open Go.Proofs.YtiofnocmibjepaaGreatDoor.QMap (fnV cmdL commands_call)
open Go.Proofs.YtiofnocmibjepaaGreatDoor.Low (low)
open Go.Proofs.YtiofnocmibjepaaGreatDoor.RowOf (checkS)
set_option linter.unusedVariables false
set_option linter.unusedSimpArgs false
abbrev zC : Obj := .cells #[.nilFunc] 54
theorem zeroC (w : World) : (zeroValue 54).run Tryz.prog w = .ok (.agg #[.nilFunc]) w := by kernel_rfl
theorem look_cmd {W : World} {m : Nat} (own : W.ownsMap Tryz.prog 9 RH m cmdL.length (toD cmdL)) (nm : Base.El) (hk : nm.length ≤ 281474976710656) :
    (Instr.lookup 51 (.map (some m)) (.string (mk nm)) true).run Tryz.prog W = .ok (.tuple #[(lkp cmdL nm).getD (.agg #[.nilFunc]), .bool (lkp cmdL nm).isSome]) W := by
  obtain ⟨v, ps, hrun, hv⟩ := own.look_ok law9 Tryz.underlying51 (zeroC W) (zd := .held (.agg #[.nilFunc])) (zp := []) rfl (key9 nm hk)
  have hv' : RH v = some (.held ((lkp cmdL nm).getD (.agg #[.nilFunc])), ps) := by rw [hv]; exact congrArg (fun d => some (d, ps)) (at_D cmdL nm _)
  have e := RH_inv hv'
  have eh : Maps.has (toD cmdL) (RowB.lS nm) = (lkp cmdL nm).isSome := has_D cmdL nm
  rw [eh, e] at hrun
  exact hrun
theorem own_low {W W' : World} {m n : Nat} {D : DataW Value} (h : W.ownsMap Tryz.prog 9 RH m n D) (b : Below W.heap.size W W') : W'.ownsMap Tryz.prog 9 RH m n D := by
  obtain ⟨es, c, q, r⟩ := h
  exact ⟨es, c, (b.block m (lt_of q)).trans q, r⟩
theorem cmds_call (w : World) : Calls Tryz.prog 14 #[] w fun e w' => ∃ m, e = .returned (.map (some m)) ∧ w'.ownsMap Tryz.prog 9 RH m cmdL.length (toD cmdL) ∧ Below w.heap.size w w' := (commands_call w).mono fun e w' ⟨h1, h2, h3⟩ => ⟨_, h1, h2, h3⟩
theorem set1 {w : World} {q : Nat} {x : Value} {t : TypeId} (h : w.heap[q]? = some (.cells #[x] t (0, 0))) (y : Value) : (w.setCell ⟨q, 0, none⟩ y).heap[q]? = some (.cells #[y] t (0, 0)) := by simpa using set_at (i := 0) h y
theorem store_func (w : World) (a : Addr) (f : Fn) (x c : Array Value) (v : Value) (hc : w.cell? a = some v) (hf : w.frozen? a = false) : (store a (.func f x c)).run Tryz.prog w = .ok () (w.setCell a (.func f x c)) := by
  rw [run_store Tryz.prog w a _ _ rfl, hc]
  simp [hf]
def Ent (K : Nat) : Prop := ∀ args w, (callFunc K args).run Tryz.prog w = .ok (.enter K args) w
theorem dn_pre {F X : Nat → Prop} {b : Nat} {w V w1 : World} {S' : Sp} (hb : Below w.heap.size w V) (h : Dn F (fun k => X k ∨ QPut.Tmp w V k) b V w1 S') : Dn F (fun k => X k ∨ QPut.Tmp w V k) b V w1 S' := h
theorem tail_cut {G : Nat → Prop} {w : World} {ga oa n c : Nat} {l : List Base.El} (h : SL G w (.slice (some ⟨ga, oa, none⟩) n c) l) (h0 : 0 < l.length) : ∃ a', SL G w (.slice a' (n - 1) (c - 1)) l.tail ∧ ∀ W : World, (Instr.slice 22 (.slice (some ⟨ga, oa, none⟩) n c) (some (.int .i64 1)) none none).run Tryz.prog W = .ok (.slice a' (n - 1) (c - 1)) W := by
  obtain ⟨a0, c0, e, hc, hr⟩ := h
  injection e with e1 e2 e3
  subst e1 e2 e3
  refine ⟨Base.ca (some ⟨ga, oa, none⟩) c 1, ⟨_, _, by rw [List.length_tail], by rw [List.length_tail]; omega, ?_⟩, fun W => Base.cut_lo (some ⟨ga, oa, none⟩) l.length c 1 1 rfl (by omega) W⟩
  by_cases h1 : l.length = 1
  · refine .inl ?_
    cases l with
    | nil => rfl
    | cons x r => simp at h1; exact h1
  · obtain ⟨g, o, eg, hG, hcs⟩ := Base.Rd.get hr h0
    injection eg with eg
    injection eg with g1 g2
    subst g1 g2
    refine .inr ⟨ga, oa + 1, Base.ca_some _ _ _ _ (by omega), hG, fun j x hj => ?_⟩
    have : l[j + 1]? = some x := by rw [← hj]; cases l <;> simp
    rw [show oa + 1 + j = oa + (j + 1) by omega]
    exact hcs (j + 1) x this
section
variable {F X : Nat → Prop} {b : Nat} {w : World} {S S' : Sp}
set_option maxHeartbeats 8000000 in
set_option maxRecDepth 100000 in
theorem run_do (h : SP F X b w S) (now : Int) {G : Nat → Prop} {a : Option Addr} {n c : Nat} {l : List Base.El} (hl : SL G w (.slice a n c) l) (hl0 : 0 < l.length) (hll : l.length < 9223372036854775808) (hbl : ∀ x ∈ l, x.length ≤ 281474976710656) (hch : checkS l = [])
    (f : FuncId) (hf : lkp cmdL (l[0].map low) = some (fnV f)) (hent : Ent f) (r : Int × ByteArray × Int)
    (hc : ∀ V a' c', Below w.heap.size w V → SL G V (.slice a' (n - 1) c') l.tail → Calls Tryz.prog f #[cV b now a' (n - 1) c'] V fun e w' => e = .returned (rp3 r) ∧ Dn F (fun k => X k ∨ QPut.Tmp w V k) b V w' S') :
    Calls Tryz.prog 8 #[ptr b, .int .i64 now, .slice a n c] w fun e w' => e = .returned (.tuple #[rp3 r, .bool true]) ∧ Dn F X b w w' S' := by
  obtain ⟨W, hW⟩ : ∃ W, W = w.alloc (rO 0 ⟨#[]⟩ 0 (.slice none 0 0)) := ⟨_, rfl⟩
  have bW : Below w.heap.size w W := by rw [hW]; exact alb _ _
  have HX := hid_of (show W.heap[w.heap.size]? = some (rO 0 ⟨#[]⟩ 0 (.slice none 0 0)) by rw [hW]; exact heap_alloc_new w _)
  have HCk := hid_of (Chk.check_call (hl.below bW) hll (fun x hx => Nat.lt_of_le_of_lt (hbl x hx) (by decide)))
  rw [hch, show mk ([] : List UInt8) = (⟨#[]⟩ : ByteArray) from rfl] at HCk
  have HC := hid_of fun V => cmds_call V
  have HL := hid_of fun V => Low.lower_call l[0] V (Nat.lt_of_le_of_lt (hbl _ (List.getElem_mem hl0)) (by decide))
  have HLk := hid_of fun (V : World) (m : Nat) (own : V.ownsMap Tryz.prog 9 RH m cmdL.length (toD cmdL)) => look_cmd own (l[0].map low) (by rw [List.length_map]; exact hbl _ (List.getElem_mem hl0))
  rw [hf] at HLk
  simp only [Option.getD_some, Option.isSome_some] at HLk
  obtain ⟨ga, oa, rfl, hc0⟩ := sl_cell hl hl0
  rw [Nat.add_zero] at hc0
  have hga : ga < w.heap.size := Base.cell_lt hc0
  have HG := hid_of (And.intro hga hc0)
  have hn0 : 0 < n := by
    obtain ⟨a', c', e', hc', -⟩ := hl
    injection e' with e1 e2 e3
    omega
  have HH := hid_of h
  have HB := hid_of bW
  have HW := hid_of hW
  have HCC := hid_of hc
  have HSL := hid_of hl
  have HN0 := hid_of hn0
  clear hW bW h hch hll hbl hf hc hl
  generalize mk (l[0].map low) = NM at *
  generalize mk l[0] = N0 at *
  go_enter Tryz.func8, Tryz.ntmps8
  go_wp2_with fail
  rw [← HW.out]
  refine HCk.out.mono ?_
  rintro e w1 ⟨rfl, b1⟩
  have B1 := hid_of (FRow.bel HB.out b1 (Nat.le_refl _))
  have X1 := hid_of ((b1.block _ (lt_of HX.out)).trans HX.out)
  have hc1 := (B1.out.cell (p := ⟨ga, oa, none⟩) hga).trans hc0
  clear b1 HCk HX HB
  go_wp2_with fail
  have hg1 : ga < w1.heap.size := Base.cell_lt hc1
  have t0 : QPut.Tmp w w1 w.heap.size := ⟨Nat.le_refl _, lt_of X1.out⟩
  go_cut [8, 9] (fun s8 s9 wx => ∃ q, s8 = .pointer (some ⟨q, 0, none⟩) ∧ s9 = .bool true ∧ Hid (wx.heap[q]? = some (.cells #[.func (.func f) #[] #[]] 54 (0, 0)) ∧ Below w1.heap.size w1 wx))
  case first =>
    go_region_with (first
      | (go_at_call 14; refine (HC.out _).mono ?_; rintro e w3 ⟨m, rfl, hm, b3⟩; have B3 : Below w1.heap.size w1 w3 := (by first | exact FRow.bel (Below.refl _ w1).drew b3 (Nat.le_refl _) | exact FRow.bel (FRow.bel (Below.refl _ w1).drew (alb w1.drew zC) (Nat.le_refl _)) b3 (Nat.le_refl _)); have HM := hid_of hm; have HB3 := hid_of B3; have hc3 := (B3.cell (p := ⟨ga, oa, none⟩) (Base.cell_lt hc1)).trans hc1; have hg3 : ga < w3.heap.size := Base.cell_lt hc3; (try have x3 : w3.heap[w1.heap.size]? = some zC := (b3.block _ (by simp)).trans (heap_alloc_new w1.drew zC)); clear hm)
      | (go_at_call 19; refine (HL.out _).mono ?_; rintro e w4 ⟨rfl, b4⟩; have B34 : Below w3.heap.size w3 w4 := (by first | exact b4 | exact FRow.bel (alb w3 zC) b4 (Nat.le_refl _)); have B4 := hid_of (FRow.bel HB3.out B34 (Nat.le_refl _)); have k4 := HLk.out w4 _ (own_low HM.out B34); have k4a := HLk.out (w4.alloc zC) _ ((own_low HM.out B34).alloc zC); have xn := heap_alloc_new w4 zC; have e1 := store_func (w4.alloc zC) ⟨w4.heap.size, 0, none⟩ (.func f) #[] #[] .nilFunc (Lib.cell_of_heap xn 0) (Lib.frozen_of_heap xn 0); have x1s := hid_of (And.intro (set1 xn (.func (.func f) #[] #[])) (bset (FRow.bel B4.out (alb w4 zC) (Nat.le_refl _)) B4.out.size (.func (.func f) #[] #[]) (i := 0))); clear xn; (try (have x4 : w4.heap[w3.heap.size]? = some zC := (b4.block _ (by simp)).trans (heap_alloc_new w3 zC); have e4 := store_func w4 ⟨w3.heap.size, 0, none⟩ (.func f) #[] #[] .nilFunc (Lib.cell_of_heap x4 0) (Lib.frozen_of_heap x4 0); have x4s := hid_of (And.intro (set1 x4 (.func (.func f) #[] #[])) (bset B4.out HB3.out.size (.func (.func f) #[] #[]) (i := 0))))); (try (have x5 : w4.heap[w1.heap.size]? = some zC := (B34.block _ (lt_of x3)).trans x3; have e5 := store_func w4 ⟨w1.heap.size, 0, none⟩ (.func f) #[] #[] .nilFunc (Lib.cell_of_heap x5 0) (Lib.frozen_of_heap x5 0); have x5s := hid_of (And.intro (set1 x5 (.func (.func f) #[] #[])) (bset B4.out (Nat.le_refl _) (.func (.func f) #[] #[]) (i := 0)))))))
    all_goals
      go_wp2_with fail
      go_meet
      case rel => first
        | exact ⟨w4.heap.size, rfl, rfl, hid_of ⟨heap_alloc_new w4 _, FRow.bel B4.out (alb w4 _) (Nat.le_refl _)⟩⟩
        | exact ⟨w4.heap.size, rfl, rfl, x1s⟩
        | exact ⟨w3.heap.size, rfl, rfl, x4s⟩
        | exact ⟨w1.heap.size, rfl, rfl, x5s⟩
  case rest =>
    obtain ⟨q, rfl, rfl, HQ⟩ := hcut
    have hcq := Lib.cell_of_heap HQ.out.1 0
    have HBw := hid_of (FRow.bel B1.out HQ.out.2 (Nat.le_refl _))
    have XR := hid_of ((HQ.out.2.block _ t0.2).trans X1.out)
    obtain ⟨cut, hcut'⟩ := tail_cut HSL.out hl0
    have t1 : QPut.Tmp w wc w.heap.size := ⟨Nat.le_refl _, lt_of XR.out⟩
    have HCD := hid_of (HCC.out wc.drew _ (c - 1) (HBw.out.drew) (hcut'.1.below (HBw.out.drew)))
    obtain ⟨rk, rT, rn⟩ := r
    simp only [rp3] at HCD ⊢
    have hcu := hcut'.2
    unfold Ent at hent
    clear HC HL HLk HQ X1 hcut' HCC hc1 hga hg1
    go_wp2_with fail
    go_region_with (first | (go_at_fn f; refine HCD.out.mono ?_; rintro e w5 ⟨rfl, d5⟩; have D5 := hid_of (dn_pre (HBw.out.drew) d5); have z5 := (dn_block HH.out (HBw.out.drew) D5.out t1).trans XR.out; have Z5 := hid_of z5; obtain ⟨⟨v0, v1, v2, v3⟩, fv⟩ := box4 z5; have fv0 := fv 0; have fv1 := fv 1; have fv2 := fv 2; have fv3 := fv 3; clear fv z5 d5))
    go_wp2_with fail
    have hz := fin4_at Z5.out (.int .i64 rk) (.string rT) (.int .i64 rn) (.slice none 0 0)
    have hdn := dn_tmp HH.out (HBw.out.drew) D5.out (ev_fin4 (w := w) (W := wc.drew) t1 (.int .i64 rk) (.string rT) (.int .i64 rn) (.slice none 0 0))
    unfold fin4 at hz hdn
    obtain ⟨⟨g0, g1, g2, g3⟩, -⟩ := box4 hz
    exact bodyPost_ret (v := .tuple #[rp rk rT rn, .bool true]) (by simp [results, Tryz.results8, go_sem, Act.put, g0, g1, g2, g3]) rfl ⟨rfl, hdn⟩
end
end Go.Proofs.YtiofnocmibjepaaGreatDoor.QRun
