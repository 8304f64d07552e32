/- DueTakes: all that is due, taken bit by bit. -/
import Derived.Test.YtiaggddpoddbcaaTakesM
import Derived.Test.YtiaggddpoddbcaaTakesL
namespace Go.Proofs.Ytiaggddpoddbcaa.LawT
open Go.RowKit Go.Maps Go.Shelf
open Go.Proofs.Ytiaggddpoddbcaa.HeapMath
open Go.Proofs.Ytiaggddpoddbcaa.Heap
open Go.Proofs.Ytiaggddpoddbcaa.Turn
open Go.Proofs.Ytiaggddpoddbcaa.Before
open Go.Proofs.Ytiaggddpoddbcaa.RowB
open Go.Proofs.Ytiaggddpoddbcaa.Spots
open Go.Proofs.Ytiaggddpoddbcaa.ThingS
open Go.Proofs.Ytiaggddpoddbcaa.IndexS
open Go.Proofs.Ytiaggddpoddbcaa.SetS
open Go.Proofs.Ytiaggddpoddbcaa.Peek
open Go.Proofs.Ytiaggddpoddbcaa.PeekS
open Go.Proofs.Ytiaggddpoddbcaa.Take
open Go.Proofs.Ytiaggddpoddbcaa.NewS
open Go.Proofs.Ytiaggddpoddbcaa.Awake
open Go.Proofs.Ytiaggddpoddbcaa.RefP
open Go.Proofs.Ytiaggddpoddbcaa.RefT
open Go.Proofs.Ytiaggddpoddbcaa.RefD
open Go.Proofs.Ytiaggddpoddbcaa.RefS
open Go.Proofs.Ytiaggddpoddbcaa.SortM
open Go.Proofs.Ytiaggddpoddbcaa.Both
open Go.Proofs.Ytiaggddpoddbcaa.Do
open Go.Proofs.Ytiaggddpoddbcaa.TakesM
open Go.Proofs.Ytiaggddpoddbcaa.TakesL
set_option linter.unusedVariables false
set_option linter.unusedSimpArgs false
structure Iv (w : World) (b B4 B5 : Nat) (S : Es) (now : Int) (vw : Value) (k j : Nat) (v : Value) (wx : World) : Prop where
  jl : j ≤ (dueL S now).length
  kj : k ≤ j ∨ j = (dueL S now).length
  ix : IX w.heap.size b wx (S.drop j)
  row : wx.ownsRow B5 9 1 v j ((keysOf ((dueL S now).take j)).map sv)
  want : wx.ownsRow B4 9 1 vw (dueL S now).length ((keysOf (dueL S now)).map sv)
  wb : ∀ g, vw.ownBlock = some g → g < B5
  bel : Below w.heap.size w wx
  sz : B5 ≤ wx.heap.size
  b5 : w.heap.size ≤ B5
theorem srt_drop {S : Es} (h : S.Pairwise ltS) (j : Nat) : Sorted ltS (S.drop j) (S.drop j) := ⟨List.Perm.refl _, h.sublist (List.drop_sublist _ _)⟩
theorem keys_app (a b : Es) : keysOf (a ++ b) = keysOf a ++ keysOf b := by simp [keysOf]
theorem keys_len (a : Es) : (keysOf a).length = a.length := by simp [keysOf]
/- one round: what is taken is laid behind -/
theorem iv_next {w wx w1 : World} {b B4 B5 k j : Nat} {S : Es} {now most : Int} {vw v u : Value} (hS : S.Pairwise ltS) (hl : S.length < 1099511627776) (h : Iv w b B4 B5 S now vw k j v wx) (hm : 1 ≤ most)
    (hr : w1.ownsRow wx.heap.size 9 1 u (got (S.drop j) now most).length ((keysOf (got (S.drop j) now most)).map sv)) (hi : IX w.heap.size b w1 ((S.drop j).drop (got (S.drop j) now most).length)) (he : Ev DT w.heap.size wx w1) (ty : TypeId) :
    ∃ v' w', (Builtin.append_ #[52, 52] ty #[v, u]).run Try.prog w1 = .ok v' w' ∧ Iv w b B4 B5 S now vw (k + 1) (j + (got (S.drop j) now most).length) v' w' := by
  have ha := part_all (most := most) h.jl hm h.kj
  have hd := due_len S now
  have hrow := row_ev h.row he
  obtain ⟨v', w', h1, h2, h3⟩ := tk_app hrow hr (by rw [keys_len, List.length_take]; have := h.jl; omega) (keys_len _).symm (by omega) (Nat.le_trans h.sz he.size) ty
  refine ⟨v', w', h1, ⟨ha.1, ha.2, ?_, ?_, ?_, h.wb, ?_, ?_, h.b5⟩⟩
  · have := ix_grown hi hrow h3
    rw [List.drop_drop] at this
    exact this
  · rw [← keys_app, part_next h.jl] at h2
    exact h2
  · exact row_grown (row_ev h.want he) h.wb (fun g hg => (hrow.lt g hg).1) h3
  · have b1 := h.bel.trans (he.below h.bel.size)
    refine b1.trans ⟨h3.os, h3.tape, h3.output, h3.size, fun g hg => h3.block g (Nat.lt_of_lt_of_le hg b1.size) fun e => ?_⟩
    have := (hrow.lt g e.symm).1
    have hw5 := h.b5
    omega
  · exact Nat.le_trans (Nat.le_trans h.sz he.size) h3.size
theorem wp_eq {o : Oper} {a : Act} {K : Act → World → Prop} {Q : Exit → Act → World → Prop} (s x : Operand) (t tx : TypeId) (ho : o.op = .call { callee := .builtin .append, args := #[s, x], argTypes := #[t, tx] }) (v u v' : Value) (W W' : World) (hs : a.eval s = v) (hx : a.eval x = u)
    (hr : (Builtin.append_ #[t, tx] o.type #[v, u]).run Try.prog W = .ok v' W') (hK : K (a.put o.dst v') W') : Oper.wp Try.prog o a W K Q := by
  unfold Oper.wp execOp
  simp only [ho, resolve, invoke, builtin, Sem.run_bind, Sem.run_pure, Result.andThen_ok, List.map_toArray, List.map_cons, List.map_nil, hs, hx, hr]
  exact hK
set_option maxHeartbeats 8000000 in
set_option maxRecDepth 100000 in
theorem law_call (a : Option Addr) (cap : Nat) (l : List Dd) (now most : Int) (w : World) (hD : DSl w a l) (hkeys : ∀ x ∈ l, x.key.length ≤ 281474976710656) (hlen : l.length + 2 < 1099511627776) :
    Calls Try.prog 5 #[.slice a l.length cap, .int .i64 now, .int .i64 most] w fun e w' => e = .returned (.bool true) ∧ Below w.heap.size w w' := by
  have HN := hid_of (new_call w)
  have HAW := hid_of awake_call
  obtain ⟨n, hn⟩ : ∃ n, n = l.length := ⟨_, rfl⟩
  rw [← hn] at hlen ⊢
  have HL := hid_of hn
  have HD := hid_of hD
  have HKEY := hid_of hkeys
  clear hn hD hkeys
  go_enter Try.func5, Try.ntmps5
  go_wp2_with fail
  refine HN.out.mono ?_
  rintro e w1 ⟨rfl, hw1⟩
  have hs1 : w1.heap.size = w.heap.size + 1 := by
    rw [hw1]
    show (w.heap.push _).size = _
    exact Array.size_push _
  obtain ⟨b, hb⟩ : ∃ b, b = w.heap.size := ⟨_, rfl⟩
  obtain ⟨y, hy⟩ : ∃ y, y = w1.heap.size := ⟨_, rfl⟩
  obtain ⟨W1, hW1⟩ : ∃ W1, W1 = w1.alloc (.cells #[.slice none 0 0] 28) := ⟨_, rfl⟩
  have P1 : Hid (St w b y 0 W1) := hid_of ⟨⟨[], [], by rw [hW1, hw1, hy, hs1, hb]; exact pr_new w, Nat.le_refl _⟩, by rw [hW1, hw1]; exact ((Below.refl _ w).alloc (Nat.le_refl _) _).alloc (by show _ ≤ (w.heap.push _).size; rw [Array.size_push]; omega) _⟩
  have HY : Hid (w.heap.size ≤ y) := hid_of (by rw [hy, hs1]; omega)
  rw [← hb]
  clear HN hs1 hw1 hb
  go_wp2_with fail
  rw [← hW1, ← hy]
  clear hW1 hy
  refine (HAW.out _).mono ?_
  rintro e w2 ⟨rfl, b2⟩
  have P2 : Hid (St w b y 0 w2) := hid_of ⟨pr_more P1.out.pr b2, P1.out.bel.trans (b2.mono P1.out.bel.size)⟩
  clear b2 P1 W1 w1 HAW
  go_wp2_with fail
  go_loopg [9] n (fun g si wx => ∃ (k : Nat), k + g = n ∧ si = .int .i64 k ∧ Hid (St w b y k wx))
  case atStart => exact ⟨0, by omega, rfl, P2⟩
  case round =>
    obtain ⟨k, hk, rfl, R⟩ := hrel
    by_cases hlt : k < n
    · obtain ⟨g', rfl⟩ : ∃ g', gk = g' + 1 := ⟨gk - 1, by omega⟩
      have hll : k < l.length := by rw [← HL.out]; exact hlt
      obtain ⟨q, o, rfl, c0, c1, c2, c3⟩ := HD.out k hll
      have HK := hid_of (HKEY.out _ (List.getElem_mem hll))
      generalize l[k].k = dk at *
      generalize l[k].key = dkey at *
      generalize l[k].n = dn at *
      generalize l[k].m = dm at *
      have d0 := (R.out.bel.cell (block_lt_of_cell c0)).trans c0
      have d1 := (R.out.bel.cell (block_lt_of_cell c1)).trans c1
      have d2 := (R.out.bel.cell (block_lt_of_cell c2)).trans c2
      have d3 := (R.out.bel.cell (block_lt_of_cell c3)).trans c3
      have gi : (k : Int) < (n : Int) := by omega
      have ew : IntKind.i64.wrap ((k : Int) + 1) = (k : Int) + 1 := IntWalk.i64_in _ (by omega)
      have HDO : Hid (∀ W, Below wr.heap.size wr W → Calls Try.prog 10 #[.pointer (some ⟨b, 0, none⟩), .pointer (some ⟨y, 0, none⟩), .agg #[.int .i64 dk, .string (mk dkey), .int .i64 dn, .int .i64 dm]] W fun e w' => e = .returned (.bool true) ∧ St w b y (k + 1) w') := hid_of fun W hW => by
        obtain ⟨s, S, hp, hsn⟩ := R.out.pr
        refine (do_call (hp.below hW) HY.out (by omega) dk dkey HK.out dn dm).mono ?_
        rintro e w' ⟨rfl, ⟨s', S', h1, h2⟩, h3⟩
        exact ⟨rfl, ⟨s', S', h1, by omega⟩, (R.out.bel.trans (hW.mono R.out.bel.size)).trans (h3.below (Nat.le_trans R.out.bel.size hW.size))⟩
      clear c0 c1 c2 c3 hll HK P2
      go_wp2_with fail
      refine (HDO.out _ (by first | exact Below.refl _ _ | exact (Below.refl _ _).drew)).mono ?_
      rintro e w3 ⟨rfl, R3⟩
      have R3 := hid_of R3
      go_wp2_with fail
      go_roundg g'
      case measure => omega
      case rel => exact ⟨k + 1, by omega, by rw [show ((k + 1 : Nat) : Int) = (k : Int) + 1 from by omega], R3⟩
    · obtain rfl : k = n := by omega
      have gi : ¬ (k : Int) < (k : Int) := by omega
      by_cases hm : most < 1
      · have hm1 : (1 : Int) ≤ 1 := by omega
        obtain ⟨s, S, hp, hsn⟩ := R.out.pr
        have hSl := ry_len hp
        have HP : Hid (Calls Try.prog 20 #[.pointer (some ⟨b, 0, none⟩), .int .i64 now, .int .i64 1099511627776] wr fun e w' => ∃ v, e = .returned v ∧ w'.ownsRow wr.heap.size 9 1 v (dueL S now).length ((keysOf (dueL S now)).map sv) ∧ Below wr.heap.size wr w') := hid_of (by
          have q := peek_call hp.ix hp.srt (by omega) now 1099511627776
          rw [got_due (by omega)] at q
          exact q)
        have HQ : Hid (∀ W, RY y W S → Calls Try.prog 22 #[.pointer (some ⟨y, 0, none⟩), .int .i64 now, .int .i64 1099511627776] W fun e w' => ∃ r, e = .returned r ∧ w'.ownsRow W.heap.size 9 1 r (dueL S now).length ((keysOf (dueL S now)).map sv) ∧ Below W.heap.size W w') := hid_of (fun W hW => by
          have q := rpeek_ry hW (by omega) now 1099511627776
          rw [got_due (by omega)] at q
          exact q)
        have HS := hid_of (And.intro hp.srt.inc (And.intro (ix_perm hp.ix hp.srt.perm.symm) hp.ry))
        have HDL := hid_of (due_len S now)
        have hSS : S.length + 1 < 1099511627776 := by omega
        have HB := hid_of R.out.bel
        clear hp hSl hsn HD HKEY HL
        go_wp2_with fail
        refine HP.out.mono ?_
        rintro e w4 ⟨vw, rfl, r4, b4⟩
        obtain ⟨aw, cw, rfl⟩ := rshape r4
        have R4 := hid_of (And.intro r4 b4)
        clear r4 b4 HP
        go_wp2_with fail
        refine (HQ.out _ (HS.out.2.2.below R4.out.2)).mono ?_
        rintro e w5 ⟨vr, rfl, r5, b5⟩
        have R5 := hid_of (And.intro r5 b5)
        clear r5 b5 HQ
        go_wp2_with fail
        refine (texts_same (base := 0) (row_bel R4.out.1 R5.out.2) R5.out.1 (by have := HDL.out; omega)).mono ?_
        rintro e w6 ⟨rfl, b6⟩
        have I0 : Hid (Iv w b wr.heap.size w6.heap.size S now (.slice aw (dueL S now).length cw) 0 0 (.slice none 0 0) w6) := hid_of (by
          have z5 := R4.out.2.trans (R5.out.2.mono R4.out.2.size)
          have z6 := z5.trans (b6.mono z5.size)
          have r6 := row_bel (row_bel R4.out.1 R5.out.2) b6
          exact ⟨Nat.zero_le _, .inl (Nat.le_refl _), ix_below HS.out.2.1 z6, World.ownsRow_nil _ _ _ _, r6, fun g hg => (r6.lt g hg).2, HB.out.trans (z6.mono HB.out.size), Nat.le_refl _, Nat.le_trans HB.out.size z6.size⟩)
        obtain ⟨B4, hB4⟩ : ∃ B4, B4 = wr.heap.size := ⟨_, rfl⟩
        obtain ⟨B5, hB5⟩ : ∃ B5, B5 = w6.heap.size := ⟨_, rfl⟩
        rw [← hB4, ← hB5] at I0
        have HI := hid_of HS.out.1
        obtain ⟨N, hN⟩ : ∃ N, N = (dueL S now).length := ⟨_, rfl⟩
        have HN := hid_of hN
        have hNS : N < 1099511627776 := by have := HDL.out; omega
        rw [← hN] at I0 ⊢
        clear b6 R4 R5 HS hB4 hB5 hN R HB HY HDL
        go_wp2_with fail
        go_loopg [11, 12] (N + 1) (fun g s11 s12 wx => ∃ (k j : Nat) (ag : Option Addr) (cg : Nat), k + g = N + 1 ∧ s12 = .int .i64 (k : Int) ∧ s11 = .slice ag j cg ∧ Hid (Iv w b B4 B5 S now (.slice aw N cw) k j (.slice ag j cg) wx))
        case atStart => exact ⟨0, 0, none, 0, by omega, rfl, rfl, I0⟩
        case round =>
          obtain ⟨k, j, ag, cg, hk, rfl, rfl, I⟩ := hrel
          by_cases hlt : k ≤ N
          · obtain ⟨g', rfl⟩ : ∃ g', gk = g' + 1 := ⟨gk - 1, by omega⟩
            have gi : (k : Int) ≤ (N : Int) := by omega
            have ew : IntKind.i64.wrap ((k : Int) + 1) = (k : Int) + 1 := IntWalk.i64_in _ (by omega)
            have HT := hid_of (take_call I.out.ix (srt_drop HI.out j) (by rw [List.length_drop]; have := hSS; omega) now 1)
            go_wp2_with fail
            refine HT.out.mono ?_
            rintro e w7 ⟨u, rfl, r7, i7, e7⟩
            obtain ⟨v', w8, hrun, I8⟩ := iv_next HI.out (by omega) I.out hm1 r7 i7 e7 52
            obtain ⟨au, cu, rfl⟩ := rshape r7
            have HJ := hid_of I8
            obtain ⟨a8, c8, rfl⟩ := rshape I8.row
            generalize hj : j + (got (S.drop j) now 1).length = j' at *
            clear I8 r7 i7 e7 HT
            rename_i hKK
            refine hKK _ _ ?_
            refine wpl_eq rfl _ _ 52 52 rfl (.slice ag j cg) (.slice au (got (S.drop j) now 1).length cu) _ _ _ rfl rfl hrun ?_
            go_wp2_with fail
            go_roundg g'
            case measure => omega
            case rel => exact ⟨k + 1, j', a8, c8, by omega, by rw [show ((k + 1 : Nat) : Int) = (k : Int) + 1 from by omega], rfl, HJ⟩
          · obtain rfl : k = N + 1 := by omega
            obtain rfl : j = N := by have h1 := I.out.kj; have h2 := I.out.jl; rw [← HN.out] at h1 h2; omega
            have gi : ¬ ((j + 1 : Nat) : Int) ≤ (j : Int) := by omega
            have HX : Hid (Calls Try.prog 21 #[.slice ag j cg, .slice aw j cw] wr fun e w' => e = .returned (.bool true) ∧ Below wr.heap.size wr w') := hid_of (by
              have r1 := I.out.row
              have r2 := I.out.want
              rw [← HN.out] at r2
              rw [HN.out, List.take_length, ← HN.out] at r1
              have r3 := r1
              have r4 := r2
              rw [HN.out] at r3 r4
              have q := texts_same (base := 0) r3 r4 (by rw [← HN.out]; omega)
              rw [← HN.out] at q
              exact q)
            have HT : Hid (∀ W, Below wr.heap.size wr W → Calls Try.prog 23 #[.pointer (some ⟨b, 0, none⟩), .int .i64 now, .int .i64 1] W fun e w' => ∃ v, e = .returned v ∧ w'.ownsRow W.heap.size 9 1 v 0 [] ∧ IX w.heap.size b w' (S.drop j) ∧ Ev DT w.heap.size W w') := hid_of fun W hW => by
              have q := take_call (ix_below I.out.ix hW) (srt_drop HI.out j) (by rw [List.length_drop]; have := hSS; omega) now 1
              rw [show got (S.drop j) now 1 = [] from by rw [HN.out]; exact left_none] at q
              exact q
            have HLT : Hid (∀ x ∈ S.drop j, now < x.2) := hid_of (by rw [HN.out]; exact left_late HI.out)
            have HBL := hid_of I.out.bel
            clear I I0 HN HI
            go_wp2_with fail
            refine HX.out.mono ?_
            rintro e w9 ⟨rfl, b9⟩
            have B9 := hid_of b9
            clear b9
            go_wp2_with fail
            refine (HT.out _ B9.out).mono ?_
            rintro e w10 ⟨u, rfl, r10, i10, e10⟩
            obtain ⟨au, cu, rfl⟩ := rshape r10
            have HNX := hid_of (NextS.next_call i10)
            have B10 : Hid (Below w.heap.size w w10) := hid_of (by
              have z := HBL.out.trans (B9.out.mono HBL.out.size)
              exact z.trans (e10.below z.size))
            clear r10 i10 e10
            go_wp2_with fail
            refine HNX.out.mono ?_
            rintro e w11 ⟨h, b11⟩
            have B11 : Hid (Below w.heap.size w w11) := hid_of (B10.out.trans (b11.mono B10.out.size))
            rcases h with ⟨x, hx, _, rfl⟩ | ⟨_, rfl⟩
            · have hx2 := HLT.out x hx
              go_wp2_with fail
              go_ret
              exact ⟨rfl, B11.out⟩
            · have hmt : (mk []).toList = [] := by first | kernel_rfl | simp [mk, ByteArray.toList]
              go_wp2_with fail
              go_ret
              exact ⟨rfl, B11.out⟩
      · have hm1 : 1 ≤ most := by omega
        obtain ⟨s, S, hp, hsn⟩ := R.out.pr
        have hSl := ry_len hp
        have HP : Hid (Calls Try.prog 20 #[.pointer (some ⟨b, 0, none⟩), .int .i64 now, .int .i64 1099511627776] wr fun e w' => ∃ v, e = .returned v ∧ w'.ownsRow wr.heap.size 9 1 v (dueL S now).length ((keysOf (dueL S now)).map sv) ∧ Below wr.heap.size wr w') := hid_of (by
          have q := peek_call hp.ix hp.srt (by omega) now 1099511627776
          rw [got_due (by omega)] at q
          exact q)
        have HQ : Hid (∀ W, RY y W S → Calls Try.prog 22 #[.pointer (some ⟨y, 0, none⟩), .int .i64 now, .int .i64 1099511627776] W fun e w' => ∃ r, e = .returned r ∧ w'.ownsRow W.heap.size 9 1 r (dueL S now).length ((keysOf (dueL S now)).map sv) ∧ Below W.heap.size W w') := hid_of (fun W hW => by
          have q := rpeek_ry hW (by omega) now 1099511627776
          rw [got_due (by omega)] at q
          exact q)
        have HS := hid_of (And.intro hp.srt.inc (And.intro (ix_perm hp.ix hp.srt.perm.symm) hp.ry))
        have HDL := hid_of (due_len S now)
        have hSS : S.length + 1 < 1099511627776 := by omega
        have HB := hid_of R.out.bel
        clear hp hSl hsn HD HKEY HL
        go_wp2_with fail
        refine HP.out.mono ?_
        rintro e w4 ⟨vw, rfl, r4, b4⟩
        obtain ⟨aw, cw, rfl⟩ := rshape r4
        have R4 := hid_of (And.intro r4 b4)
        clear r4 b4 HP
        go_wp2_with fail
        refine (HQ.out _ (HS.out.2.2.below R4.out.2)).mono ?_
        rintro e w5 ⟨vr, rfl, r5, b5⟩
        have R5 := hid_of (And.intro r5 b5)
        clear r5 b5 HQ
        go_wp2_with fail
        refine (texts_same (base := 0) (row_bel R4.out.1 R5.out.2) R5.out.1 (by have := HDL.out; omega)).mono ?_
        rintro e w6 ⟨rfl, b6⟩
        have I0 : Hid (Iv w b wr.heap.size w6.heap.size S now (.slice aw (dueL S now).length cw) 0 0 (.slice none 0 0) w6) := hid_of (by
          have z5 := R4.out.2.trans (R5.out.2.mono R4.out.2.size)
          have z6 := z5.trans (b6.mono z5.size)
          have r6 := row_bel (row_bel R4.out.1 R5.out.2) b6
          exact ⟨Nat.zero_le _, .inl (Nat.le_refl _), ix_below HS.out.2.1 z6, World.ownsRow_nil _ _ _ _, r6, fun g hg => (r6.lt g hg).2, HB.out.trans (z6.mono HB.out.size), Nat.le_refl _, Nat.le_trans HB.out.size z6.size⟩)
        obtain ⟨B4, hB4⟩ : ∃ B4, B4 = wr.heap.size := ⟨_, rfl⟩
        obtain ⟨B5, hB5⟩ : ∃ B5, B5 = w6.heap.size := ⟨_, rfl⟩
        rw [← hB4, ← hB5] at I0
        have HI := hid_of HS.out.1
        obtain ⟨N, hN⟩ : ∃ N, N = (dueL S now).length := ⟨_, rfl⟩
        have HN := hid_of hN
        have hNS : N < 1099511627776 := by have := HDL.out; omega
        rw [← hN] at I0 ⊢
        clear b6 R4 R5 HS hB4 hB5 hN R HB HY HDL
        go_wp2_with fail
        go_loopg [11, 12] (N + 1) (fun g s11 s12 wx => ∃ (k j : Nat) (ag : Option Addr) (cg : Nat), k + g = N + 1 ∧ s12 = .int .i64 (k : Int) ∧ s11 = .slice ag j cg ∧ Hid (Iv w b B4 B5 S now (.slice aw N cw) k j (.slice ag j cg) wx))
        case atStart => exact ⟨0, 0, none, 0, by omega, rfl, rfl, I0⟩
        case round =>
          obtain ⟨k, j, ag, cg, hk, rfl, rfl, I⟩ := hrel
          by_cases hlt : k ≤ N
          · obtain ⟨g', rfl⟩ : ∃ g', gk = g' + 1 := ⟨gk - 1, by omega⟩
            have gi : (k : Int) ≤ (N : Int) := by omega
            have ew : IntKind.i64.wrap ((k : Int) + 1) = (k : Int) + 1 := IntWalk.i64_in _ (by omega)
            have HT := hid_of (take_call I.out.ix (srt_drop HI.out j) (by rw [List.length_drop]; have := hSS; omega) now most)
            go_wp2_with fail
            refine HT.out.mono ?_
            rintro e w7 ⟨u, rfl, r7, i7, e7⟩
            obtain ⟨v', w8, hrun, I8⟩ := iv_next HI.out (by omega) I.out hm1 r7 i7 e7 52
            obtain ⟨au, cu, rfl⟩ := rshape r7
            have HJ := hid_of I8
            obtain ⟨a8, c8, rfl⟩ := rshape I8.row
            generalize hj : j + (got (S.drop j) now most).length = j' at *
            clear I8 r7 i7 e7 HT
            rename_i hKK
            refine hKK _ _ ?_
            refine wpl_eq rfl _ _ 52 52 rfl (.slice ag j cg) (.slice au (got (S.drop j) now most).length cu) _ _ _ rfl rfl hrun ?_
            go_wp2_with fail
            go_roundg g'
            case measure => omega
            case rel => exact ⟨k + 1, j', a8, c8, by omega, by rw [show ((k + 1 : Nat) : Int) = (k : Int) + 1 from by omega], rfl, HJ⟩
          · obtain rfl : k = N + 1 := by omega
            obtain rfl : j = N := by have h1 := I.out.kj; have h2 := I.out.jl; rw [← HN.out] at h1 h2; omega
            have gi : ¬ ((j + 1 : Nat) : Int) ≤ (j : Int) := by omega
            have HX : Hid (Calls Try.prog 21 #[.slice ag j cg, .slice aw j cw] wr fun e w' => e = .returned (.bool true) ∧ Below wr.heap.size wr w') := hid_of (by
              have r1 := I.out.row
              have r2 := I.out.want
              rw [← HN.out] at r2
              rw [HN.out, List.take_length, ← HN.out] at r1
              have r3 := r1
              have r4 := r2
              rw [HN.out] at r3 r4
              have q := texts_same (base := 0) r3 r4 (by rw [← HN.out]; omega)
              rw [← HN.out] at q
              exact q)
            have HT : Hid (∀ W, Below wr.heap.size wr W → Calls Try.prog 23 #[.pointer (some ⟨b, 0, none⟩), .int .i64 now, .int .i64 most] W fun e w' => ∃ v, e = .returned v ∧ w'.ownsRow W.heap.size 9 1 v 0 [] ∧ IX w.heap.size b w' (S.drop j) ∧ Ev DT w.heap.size W w') := hid_of fun W hW => by
              have q := take_call (ix_below I.out.ix hW) (srt_drop HI.out j) (by rw [List.length_drop]; have := hSS; omega) now most
              rw [show got (S.drop j) now most = [] from by rw [HN.out]; exact left_none] at q
              exact q
            have HLT : Hid (∀ x ∈ S.drop j, now < x.2) := hid_of (by rw [HN.out]; exact left_late HI.out)
            have HBL := hid_of I.out.bel
            clear I I0 HN HI
            go_wp2_with fail
            refine HX.out.mono ?_
            rintro e w9 ⟨rfl, b9⟩
            have B9 := hid_of b9
            clear b9
            go_wp2_with fail
            refine (HT.out _ B9.out).mono ?_
            rintro e w10 ⟨u, rfl, r10, i10, e10⟩
            obtain ⟨au, cu, rfl⟩ := rshape r10
            have HNX := hid_of (NextS.next_call i10)
            have B10 : Hid (Below w.heap.size w w10) := hid_of (by
              have z := HBL.out.trans (B9.out.mono HBL.out.size)
              exact z.trans (e10.below z.size))
            clear r10 i10 e10
            go_wp2_with fail
            refine HNX.out.mono ?_
            rintro e w11 ⟨h, b11⟩
            have B11 : Hid (Below w.heap.size w w11) := hid_of (B10.out.trans (b11.mono B10.out.size))
            rcases h with ⟨x, hx, _, rfl⟩ | ⟨_, rfl⟩
            · have hx2 := HLT.out x hx
              go_wp2_with fail
              go_ret
              exact ⟨rfl, B11.out⟩
            · have hmt : (mk []).toList = [] := by first | kernel_rfl | simp [mk, ByteArray.toList]
              go_wp2_with fail
              go_ret
              exact ⟨rfl, B11.out⟩
end Go.Proofs.Ytiaggddpoddbcaa.LawT
