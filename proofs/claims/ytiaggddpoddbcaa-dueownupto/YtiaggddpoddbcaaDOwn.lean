/- DueOwn: answers are new memory; an index that is none. -/
import Derived.Test.YtiaggddpoddbcaaDOwnM
import Derived.Deep.RegionHeld3
import Derived.Test.YtiaggddpoddbcaaLast3
namespace Go.Proofs.Ytiaggddpoddbcaa.DOwn
open Go.RowKit Go.Maps Go.Shelf
open Go.Proofs.Ytiaggddpoddbcaa.HeapMath
open Go.Proofs.Ytiaggddpoddbcaa.Heap
open Go.Proofs.Ytiaggddpoddbcaa.Turn
open Go.Proofs.Ytiaggddpoddbcaa.Before
open Go.Proofs.Ytiaggddpoddbcaa.RowB
open Go.Proofs.Ytiaggddpoddbcaa.IndexS
open Go.Proofs.Ytiaggddpoddbcaa.Peek
open Go.Proofs.Ytiaggddpoddbcaa.PeekS
open Go.Proofs.Ytiaggddpoddbcaa.Take
open Go.Proofs.Ytiaggddpoddbcaa.NewS
open Go.Proofs.Ytiaggddpoddbcaa.Awake
open Go.Proofs.Ytiaggddpoddbcaa.RefP
open Go.Proofs.Ytiaggddpoddbcaa.RefD
open Go.Proofs.Ytiaggddpoddbcaa.RefS
open Go.Proofs.Ytiaggddpoddbcaa.Both
open Go.Proofs.Ytiaggddpoddbcaa.Do
open Go.Proofs.Ytiaggddpoddbcaa.TakesM
open Go.Proofs.Ytiaggddpoddbcaa.TakesL
open Go.Proofs.Ytiaggddpoddbcaa.NilS
open Go.Proofs.Ytiaggddpoddbcaa.IterN
open Go.Proofs.Ytiaggddpoddbcaa.DOwnM
set_option linter.unusedVariables false
set_option linter.unusedSimpArgs false
attribute [local go_sem] Oper.semAt_some
/- a post that no panic meets -/
def calm (Q : Exit → Act → World → Prop) : Exit → Act → World → Prop
  | .normal, a, w => Q .normal a w
  | _, _, _ => False
theorem calm_le (Q : Exit → Act → World → Prop) : ∀ e a w, calm Q e a w → Q e a w
  | .normal, _, _, h => h
set_option maxHeartbeats 8000000 in
set_option maxRecDepth 100000 in
theorem law_call (a : Option Addr) (cap : Nat) (l : List Dd) (now : Int) (w : World) (hD : DSl w a l) (hkeys : ∀ x ∈ l, x.key.length ≤ 281474976710656) (hlen : l.length + 20 < 1099511627776) :
    Calls Try.prog 7 #[.slice a l.length cap, .int .i64 now] w fun e w' => e = .returned (.bool true) ∧ Below w.heap.size w w' := by
  have HNx := hid_of next_nil
  have HDu := hid_of due_nil
  have HSe := hid_of set_nil
  have HDr := hid_of NilS.drop_nil
  have HLe := hid_of NilS.len_nil
  have HPe := hid_of fun (W : World) => peek_nobody (w := W) now 9
  have HTa := hid_of fun (W : World) => take_nil W now 9
  have HAl := hid_of all_nil
  have HN := hid_of new_call
  have HAW := hid_of awake_call
  obtain ⟨n, hn⟩ : ∃ n, n = l.length := ⟨_, rfl⟩
  rw [← hn] at hlen ⊢
  have HL := hid_of hn
  have HD := hid_of hD
  have HKEY := hid_of hkeys
  clear hn hD hkeys
  refine (callsIn_wide (n := 5)).1 ?_
  refine callsIn_of_wp_marks Try.func7 rfl trivial ?_ rfl
  refine wpIn_wide.2 ?_
  simp only [Try.ntmps7, List.size_toArray, List.length_cons, List.length_nil, Nat.reduceAdd, Nat.reduceSub, Array.replicate_succ, Array.replicate_zero, List.push_toArray, List.append_toArray, List.nil_append, List.cons_append]
  go_wp2_with fail
  refine (HNx.out _).mono ?_
  rintro e w1 ⟨rfl, b1⟩
  have S1 : Hid (So w w1) := (So.start w).read b1
  clear b1
  go_wp2_with fail
  refine (HDu.out _ _).mono ?_
  rintro e w2 ⟨rfl, hw2⟩
  rw [hw2]
  clear hw2
  go_wp2_with fail
  refine (HSe.out _ _ _).mono ?_
  rintro e w3 ⟨rfl, hw3⟩
  rw [hw3]
  clear hw3
  go_wp2_with fail
  refine (HDr.out _ _).mono ?_
  rintro e w4 ⟨rfl, hw4⟩
  rw [hw4]
  clear hw4
  go_wp2_with fail
  refine (HLe.out _).mono ?_
  rintro e w5 ⟨rfl, hw5⟩
  rw [hw5]
  clear hw5
  go_wp2_with fail
  refine (HPe.out _).mono ?_
  rintro e w6 ⟨rfl, b6⟩
  have S6 : Hid (So w w6) := S1.out.read b6
  clear b6
  go_wp2_with fail
  refine (HTa.out _).mono ?_
  rintro e w7 ⟨rfl, b7⟩
  have S7 : Hid (So w w7) := S6.out.read b7
  clear b7
  go_wp2_with fail
  refine (HAl.out _).mono ?_
  rintro e w8 ⟨Bx, rfl, hB, hx, b8⟩
  have S8 : Hid (So w w8) := S7.out.read b8
  have HX := hid_of (And.intro hB hx)
  have hne := ne_nilF
  clear b8 hB hx
  go_wp2_with fail
  have hIt := iter_none (fun _ => #[.string ⟨#[]⟩, .int .i64 0]) 4 (by decide) (fun _ => False) Bx none 0 w8 (Lib.cell_of_heap HX.out.2 0)
  have hKb : ∀ (W : World) (q : Nat) (o o' : Obj), w8.heap.size ≤ q → W.heap[q]? = some o → o.isCells = false → o.isWalk = false → IterN.Kp (fun _ => False) W (W.putObj q o') := fun W q o o' _ _ _ _ k hk => hk.elim
  have hsz : w.heap.size + 1 ≤ w8.heap.size := lt_of S8.out.rb
  refine (wpIn_wide (n := 5)).1 ?_
  apply wpIn_rangeFunc_ownG (F := Fence.wide) (n := 5) (P := Try.prog) (w := w8) rfl (by decide) (gf := 44) (lb := #[.pointer (some ⟨Bx, 0, none⟩)]) rfl trivial (enters_of Try.func44 (by kernel_rfl) rfl) hIt kp_t hKb (Below.refl _ _) (fun _ => rfl)
    (fun pre W => So w W) (fun c pre W => False) (so_own w _ hsz) (fun c => ownFrom_pure _ _) S8.out
  case hassign =>
    intro lp x W K hK
    gi_wp2
    exact hK
  case hbody =>
    rintro lp pre x W hIv hpl
    exact absurd hpl (Nat.not_lt_zero _)
  case hstop =>
    rintro D2 c pre W hD _ hf _
    exact hf.elim
  case hdone =>
    rintro D xs W hDs hxs hIv hK
    have SW := hid_of (show So w W ∧ W.heap[D]? = some (.deferred (some [])) ∧ w.heap.size < D from ⟨hIv, hK, by omega⟩)
    have hDW : D < W.heap.size := lt_of hK
    have hwW : w.heap.size < W.heap.size := lt_of hIv.rb
    clear hIt hKb hxs hIv hK hDs hne
    go_wp2_with fail
    refine (HN.out _).mono ?_
    rintro e w9 ⟨rfl, hw9⟩
    obtain ⟨b, hb⟩ : ∃ b, b = W.heap.size := ⟨_, rfl⟩
    have hs9 : w9.heap.size = b + 1 := by rw [hw9, hb]; simp
    obtain ⟨y, hy⟩ : ∃ y, y = w9.heap.size := ⟨_, rfl⟩
    obtain ⟨W1, hW1⟩ : ∃ W1, W1 = w9.alloc (.cells #[.slice none 0 0] 28) := ⟨_, rfl⟩
    have B1 : Below W.heap.size W W1 := by rw [hW1, hw9]; exact ((Below.refl _ W).alloc (Nat.le_refl _) _).alloc (by simp) _
    have Q1 : Hid (Iq w D b b y 0 W1) := hid_of ⟨SW.out.1.read B1, (B1.block D hDW).trans SW.out.2.1, ⟨[], [], by rw [hW1, hw9, hy, hs9, hb]; exact pr_new W, Nat.le_refl _⟩, by rw [hb]; exact hDW, by rw [hb]; exact hwW, by rw [hb]; exact B1.size⟩
    have HY : Hid (b ≤ y) := hid_of (by rw [hy, hs9]; omega)
    rw [← hb]
    clear hs9 hw9 hb B1
    go_wp2_with fail
    rw [← hW1, ← hy]
    clear hW1 hy
    refine (HAW.out _).mono ?_
    rintro e w10 ⟨rfl, b10⟩
    have Q2 : Hid (Iq w D b b y 0 w10) := hid_of (Q1.out.read b10)
    clear b10 Q1 w9
    go_wp2_with fail
    go_loopg [14] n (fun g si wx => ∃ (k : Nat), k + g = n ∧ si = .int .i64 k ∧ Hid (Iq w D b b y k wx))
    case atStart => exact ⟨0, by omega, rfl, Q2⟩
    case round =>
      obtain ⟨k, hk, rfl, R⟩ := hrel
      by_cases hlt : k < n
      · obtain ⟨g', rfl⟩ : ∃ g', gk = g' + 1 := ⟨gk - 1, by omega⟩
        have hll : k < l.length := by rw [← HL.out]; exact hlt
        obtain ⟨q, o, rfl, c0, c1, c2, c3⟩ := HD.out k hll
        have HK := hid_of (HKEY.out _ (List.getElem_mem hll))
        generalize l[k].k = dk at *
        generalize l[k].key = dkey at *
        generalize l[k].n = dn at *
        generalize l[k].m = dm at *
        have d0 := (R.out.so.bel.cell (block_lt_of_cell c0)).trans c0
        have d1 := (R.out.so.bel.cell (block_lt_of_cell c1)).trans c1
        have d2 := (R.out.so.bel.cell (block_lt_of_cell c2)).trans c2
        have d3 := (R.out.so.bel.cell (block_lt_of_cell c3)).trans c3
        have gi : (k : Int) < (n : Int) := by omega
        have ew : IntKind.i64.wrap ((k : Int) + 1) = (k : Int) + 1 := IntWalk.i64_in _ (by omega)
        have HDO : Hid (∀ V, Below wr.heap.size wr V → Calls Try.prog 10 #[.pointer (some ⟨b, 0, none⟩), .pointer (some ⟨y, 0, none⟩), .agg #[.int .i64 dk, .string (mk dkey), .int .i64 dn, .int .i64 dm]] V fun e w' => e = .returned (.bool true) ∧ Iq w D b b y (k + 1) w') := hid_of fun V hV => by
          have q := R.out.read hV
          obtain ⟨s, S, hp, hsn⟩ := q.pr
          refine (do_call hp HY.out (by omega) dk dkey HK.out dn dm).mono ?_
          rintro e w' ⟨rfl, ⟨s', S', h1, h2⟩, h3⟩
          exact ⟨rfl, q.ev h3 ⟨s', S', h1, by omega⟩⟩
        clear c0 c1 c2 c3 hll HK Q2
        go_wp2_with fail
        refine (HDO.out _ (by first | exact Below.refl _ _ | exact (Below.refl _ _).drew)).mono ?_
        rintro e w3 ⟨rfl, R3⟩
        have R3 := hid_of R3
        go_wp2_with fail
        go_roundg g'
        case measure => omega
        case rel => exact ⟨k + 1, by omega, by rw [show ((k + 1 : Nat) : Int) = (k : Int) + 1 from by omega], R3⟩
      · obtain rfl : k = n := by omega
        have gi : ¬ (k : Int) < (k : Int) := by omega
        obtain ⟨s, S, hp, hsn⟩ := R.out.pr
        have hSl := ry_len hp
        obtain ⟨Pk, hPk⟩ : ∃ Pk, Pk = keysOf (dueL S now) := ⟨_, rfl⟩
        obtain ⟨N, hN⟩ : ∃ N, N = (dueL S now).length := ⟨_, rfl⟩
        have hPN : Pk.length = N := by rw [hPk, hN]; simp [keysOf]
        have hNS : N ≤ S.length := by rw [hN]; exact due_len S now
        have hSb : s.length + 20 < 1099511627776 := by omega
        have HP1 : Hid (∀ V, PR b b y V s S → Calls Try.prog 20 #[.pointer (some ⟨b, 0, none⟩), .int .i64 now, .int .i64 1099511627776] V fun e w' => ∃ a c, e = .returned (.slice a N c) ∧ w'.ownsRow V.heap.size 9 1 (.slice a N c) N (Pk.map sv) ∧ Below V.heap.size V w') := hid_of fun V hP => by
          have q := peek_call hP.ix hP.srt (by omega) now 1099511627776
          rw [got_due (by omega)] at q
          refine q.mono ?_
          rintro e w' ⟨v, rfl, r, k⟩
          rw [← hN, ← hPk] at r
          obtain ⟨a, c, rfl⟩ := rshape r
          exact ⟨a, c, rfl, r, k⟩
        have HP2 : Hid (∀ V, PR b b y V s S → Calls Try.prog 22 #[.pointer (some ⟨y, 0, none⟩), .int .i64 now, .int .i64 1099511627776] V fun e w' => ∃ a c, e = .returned (.slice a N c) ∧ w'.ownsRow V.heap.size 9 1 (.slice a N c) N (Pk.map sv) ∧ Below V.heap.size V w') := hid_of fun V hP => by
          have q := rpeek_ry hP.ry (by omega) now 1099511627776
          rw [got_due (by omega)] at q
          refine q.mono ?_
          rintro e w' ⟨v, rfl, r, k⟩
          rw [← hN, ← hPk] at r
          obtain ⟨a, c, rfl⟩ := rshape r
          exact ⟨a, c, rfl, r, k⟩
        have HT1 : Hid (∀ V, PR b b y V s S → Calls Try.prog 23 #[.pointer (some ⟨b, 0, none⟩), .int .i64 now, .int .i64 1099511627776] V fun e w' => ∃ a c, e = .returned (.slice a N c) ∧ w'.ownsRow V.heap.size 9 1 (.slice a N c) N (Pk.map sv) ∧ IX b b w' (S.drop N) ∧ Ev DT b V w') := hid_of fun V hP => by
          have q := take_call hP.ix hP.srt (by omega) now 1099511627776
          rw [got_due (by omega)] at q
          refine q.mono ?_
          rintro e w' ⟨v, rfl, r, k⟩
          rw [← hN, ← hPk] at r
          rw [← hN] at k
          obtain ⟨a, c, rfl⟩ := rshape r
          exact ⟨a, c, rfl, r, k⟩
        have HPR := hid_of hp
        have HSL := hid_of hSl
        have HNS := hid_of hNS
        have HPN := hid_of hPN
        have hNb : N + 20 < 1099511627776 := by omega
        clear hp hsn hSl hNS hPN hPk hN HD HKEY HL Q2
        go_wp2_with fail
        refine (HP1.out _ HPR.out).mono ?_
        rintro e w11 ⟨aa, ca, rfl, ra, b11⟩
        have R11 := hid_of (And.intro ra b11)
        clear ra b11
        go_wp2_with fail
        refine (HP1.out _ (HPR.out.below R11.out.2)).mono ?_
        rintro e w12 ⟨ab, cb, rfl, rb, b12⟩
        have R12 := hid_of (And.intro rb b12)
        clear rb b12
        go_wp2_with fail
        refine (HP2.out _ ((HPR.out.below R11.out.2).below R12.out.2)).mono ?_
        rintro e w13 ⟨aw, cw, rfl, rw', b13⟩
        have O0 : Hid (Ow w D b b y s S Pk (.slice ab N cb) (.slice aw N cw) (.slice aa N ca) N w13) := hid_of (by
          have i13 := ((R.out.read R11.out.2).read R12.out.2).read b13
          have s11 := R11.out.2.size
          have s12 := R12.out.2.size
          have l1 := fun g q => (R11.out.1.lt g q).2
          have l2 := fun g q => (R12.out.1.lt g q).2
          have g2 := fun g q => (R12.out.1.lt g q).1
          have g3 := fun g q => (rw'.lt g q).1
          refine ⟨i13.so, i13.mrk, ((HPR.out.below R11.out.2).below R12.out.2).below b13, i13.db, i13.wb, i13.bz, ?_, ?_, ⟨Pk, HPN.out, row_lo (row_bel (row_bel R11.out.1 R12.out.2) b13) R.out.bz⟩, fun g q => ⟨fun c => ?_, fun c => ?_⟩⟩
          · rw [HPN.out]; exact row_lo (row_bel R12.out.1 b13) (Nat.zero_le _)
          · rw [HPN.out]; exact row_lo rw' (Nat.zero_le _)
          · have := l1 g q; have := g2 g c; omega
          · have := l1 g q; have := g3 g c; omega)
        clear rw' b13 R11 R12
        go_wp2_with fail
        go_loopg [18] N (fun g si wx => ∃ (i : Nat), i + g = N ∧ si = .int .i64 i ∧ Hid (Ow w D b b y s S Pk (.slice ab N cb) (.slice aw N cw) (.slice aa N ca) N wx))
        case atStart => exact ⟨0, by omega, rfl, O0⟩
        case round =>
          obtain ⟨i, hi, rfl, O⟩ := hrel
          by_cases hlt : i < N
          · obtain ⟨g', rfl⟩ : ∃ g', gk = g' + 1 := ⟨gk - 1, by omega⟩
            obtain ⟨g, rfl, ⟨z, cz⟩, fz, on⟩ := O.out.spoil i hlt [115, 112, 111, 105, 108, 116]
            have ON := hid_of on
            have gi2 : (i : Int) < (N : Int) := by omega
            have ew : IntKind.i64.wrap ((i : Int) + 1) = (i : Int) + 1 := IntWalk.i64_in _ (by omega)
            clear on
            go_wp2_with fail
            go_roundg g'
            case measure => omega
            case rel => exact ⟨i + 1, by omega, by rw [show ((i + 1 : Nat) : Int) = (i : Int) + 1 from by omega], ON⟩
          · obtain rfl : i = N := by omega
            have gi2 : ¬ (i : Int) < (i : Int) := by omega
            have O1 : Hid (Ow w D b b y s S Pk (.slice ab i cb) (.slice aw i cw) (.slice aa (i + 0) ca) (i + 0) wr) := O
            clear O O0
            go_wp2_with fail
            go_loopg [15, 19] 9 (fun g s15 s19 wx => ∃ (j : Nat) (a0 : Option Addr) (k0 : Nat), j ≤ 9 ∧ 9 ≤ j + g ∧ s15 = .slice a0 (i + j) k0 ∧ s19 = .int .i64 j ∧ Hid (Ow w D b b y s S Pk (.slice ab i cb) (.slice aw i cw) (.slice a0 (i + j) k0) (i + j) wx))
            case atStart => exact ⟨0, aa, ca, by omega, by omega, rfl, rfl, O1⟩
            case round =>
              obtain ⟨j, a0, k0, hj, hg, rfl, rfl, O⟩ := hrel
              clear O1
              by_cases hlt : j < 9
              · obtain ⟨g', rfl⟩ : ∃ g', gk = g' + 1 := ⟨gk - 1, by omega⟩
                have gj : (j : Int) < 9 := by omega
                obtain ⟨a1, k1, wA, hrun, on⟩ := O.out.more (by omega) [98, 101, 104, 105, 110, 100] 52
                have ON := hid_of on
                have ew : IntKind.i64.wrap ((j : Int) + 1) = (j : Int) + 1 := IntWalk.i64_in _ (by omega)
                clear on
                go_wp2_with (first
                  | (at_builtin; refine wpl_eq rfl _ _ 52 52 rfl (.slice a0 (i + j) k0) (.slice (some ⟨wr.heap.size, 0, none⟩) 1 1) (.slice a1 (i + j + 1) k1) _ wA rfl rfl hrun ?_; clear hrun))
                go_roundg g'
                case measure => omega
                case rel => exact ⟨j + 1, a1, k1, by omega, by omega, rfl, by rw [show ((j + 1 : Nat) : Int) = (j : Int) + 1 from by omega], ON⟩
              · have gj : ¬ (j : Int) < 9 := by omega
                have HT := hid_of (HT1.out _ O.out.pr)
                clear HT1 HP1 HP2
                go_wp2_with fail
                refine HT.out.mono ?_
                rintro e w20 ⟨ac, cc, rfl, rc, ix20, e20⟩
                obtain ⟨yv, hy1, hy2⟩ := O.out.pr.ry.ev e20
                obtain ⟨ya, yc, rfl, _, _⟩ := id hy2
                have F0 : Hid (Fin w D b y (S.drop i) Pk (.slice ab i cb) (.slice aw i cw) (.slice ac i cc) ya S.length yc w20) := hid_of (by
                  have bb := e20.below O.out.bz
                  refine ⟨O.out.so.low bb O.out.wb, (bb.block D O.out.db).trans O.out.mrk, ⟨_, ix20⟩, hy1, ?_, ?_, ?_⟩
                  · exact row_ev O.out.rb e20
                  · exact row_ev O.out.rw e20
                  · rw [HPN.out]; exact row_lo rc (Nat.zero_le _))
                have HX1 : Hid (∀ U, Fin w D b y (S.drop i) Pk (.slice ab i cb) (.slice aw i cw) (.slice ac i cc) ya S.length yc U → Calls Try.prog 21 #[.slice ab i cb, .slice aw i cw] U fun e w' => e = .returned (.bool true) ∧ Fin w D b y (S.drop i) Pk (.slice ab i cb) (.slice aw i cw) (.slice ac i cc) ya S.length yc w') := hid_of fun U f => (texts_rows f.rb f.rw (by rw [HPN.out]; omega)).mono fun e w' q => ⟨q.1, f.below q.2⟩
                have HX2 : Hid (∀ U, Fin w D b y (S.drop i) Pk (.slice ab i cb) (.slice aw i cw) (.slice ac i cc) ya S.length yc U → Calls Try.prog 21 #[.slice ac i cc, .slice aw i cw] U fun e w' => e = .returned (.bool true) ∧ Fin w D b y (S.drop i) Pk (.slice ab i cb) (.slice aw i cw) (.slice ac i cc) ya S.length yc w') := hid_of fun U f => (texts_rows f.rc f.rw (by rw [HPN.out]; omega)).mono fun e w' q => ⟨q.1, f.below q.2⟩
                obtain ⟨M, hM⟩ : ∃ M, M = S.length - i := ⟨_, rfl⟩
                have HX3 : Hid (∀ U, Fin w D b y (S.drop i) Pk (.slice ab i cb) (.slice aw i cw) (.slice ac i cc) ya S.length yc U → Calls Try.prog 29 #[.pointer (some ⟨b, 0, none⟩)] U fun e w' => e = .returned (.int .i64 (M : Int)) ∧ w' = U) := hid_of fun U f => by
                  obtain ⟨base, ix⟩ := f.ix
                  have q := ix_len ix
                  rw [List.length_drop, ← hM] at q
                  exact q
                obtain ⟨SL, hSL⟩ : ∃ SL, SL = S.length := ⟨_, rfl⟩
                have hsub : (SL : Int) - (i : Int) = (M : Int) := by have := HNS.out; omega
                have hSLb : SL < 1099511627776 := by have := HSL.out; omega
                have hwr : IntKind.i64.wrap ((SL : Int) - (i : Int)) = (SL : Int) - (i : Int) := IntWalk.i64_in _ (by omega)
                have hDne : D ≠ w.heap.size := by have := SW.out.2.2; omega
                have hyw : y ≠ w.heap.size := by have h1 := HY.out; have h2 := O.out.wb; omega
                clear rc ix20 e20 hy1 hy2 O HT
                rw [← hSL] at F0 HX1 HX2 HX3
                have f0 : w20.cell? ⟨y, 0, none⟩ = some (.slice ya SL yc) := Lib.cell_of_heap F0.out.cy 0
                have f1 : w20.cell? ⟨w.heap.size, 0, none⟩ = some (.bool false) := Lib.cell_of_heap F0.out.so.rb 0
                have f2 : w20.frozen? ⟨w.heap.size, 0, none⟩ = false := Lib.frozen_of_heap F0.out.so.rb 0
                clear hM hSL
                go_wp2_with fail
                refine Code.wp_mono (calm_le _) ?_
                refine Last.start (fun U : World => U.cell? ⟨y, 0, none⟩ = some (.slice ya SL yc)) 21 (by kernel_rfl) ?_
                have hs0 : (fun U : World => U.cell? ⟨y, 0, none⟩ = some (.slice ya SL yc)) w20.drew := f0
                refine Last.take3 (i := 0) (v := .slice ab i cb) rfl (by kernel_rfl) (by kernel_rfl) (by kernel_rfl) (by kernel_rfl) (by kernel_rfl) (fun _ _ _ h => h) (Or.inl ⟨by kernel_rfl, ?_⟩) (by assumption) ?_
                · intro U hSU
                  have s0 : U.cell? ⟨y, 0, none⟩ = some (.slice ya SL yc) := hSU
                  go_simp
                simp only [Act.put, List.setIfInBounds_toArray, List.set_cons_zero, List.set_cons_succ]
                refine Last.take3 (i := 1) (v := .slice aw i cw) rfl (by kernel_rfl) (by kernel_rfl) (by kernel_rfl) (by kernel_rfl) (by kernel_rfl) (fun _ _ _ h => h) (Or.inl ⟨by kernel_rfl, ?_⟩) (by assumption) ?_
                · intro U hSU
                  have s0 : U.cell? ⟨y, 0, none⟩ = some (.slice ya SL yc) := hSU
                  go_simp
                simp only [Act.put, List.setIfInBounds_toArray, List.set_cons_zero, List.set_cons_succ]
                refine Last.one (i := 2) rfl (by kernel_rfl) ?_
                intro K' hK0
                have hK := hid_of hK0
                clear hK0
                go_simp
                refine (HX1.out _ (F0.out.below (Below.refl _ _).drew)).mono ?_
                rintro e w21 ⟨rfl, q21⟩
                have F21 := hid_of q21
                have hs1 : (fun U : World => U.cell? ⟨y, 0, none⟩ = some (.slice ya SL yc)) w21 := Lib.cell_of_heap q21.cy 0
                clear q21
                refine hK.out _ _ (fun _ => hs1) ?_
                clear hK K'
                try simp only [Act.put, List.setIfInBounds_toArray, List.set_cons_zero, List.set_cons_succ]
                refine Last.one (i := 3) rfl (by kernel_rfl) ?_
                intro K' hK0
                have hK := hid_of hK0
                clear hK0
                go_simp
                refine hK.out _ _ (fun _ => hs1) ?_
                clear hK K'
                try simp only [Act.put, List.setIfInBounds_toArray, List.set_cons_zero, List.set_cons_succ]
                refine Last.take3 (i := 4) (v := .slice ac i cc) rfl (by kernel_rfl) (by kernel_rfl) (by kernel_rfl) (by kernel_rfl) (by kernel_rfl) (fun _ _ _ h => h) (Or.inl ⟨by kernel_rfl, ?_⟩) (by assumption) ?_
                · intro U hSU
                  have s0 : U.cell? ⟨y, 0, none⟩ = some (.slice ya SL yc) := hSU
                  go_simp
                simp only [Act.put, List.setIfInBounds_toArray, List.set_cons_zero, List.set_cons_succ]
                refine Last.take3 (i := 5) (v := .slice aw i cw) rfl (by kernel_rfl) (by kernel_rfl) (by kernel_rfl) (by kernel_rfl) (by kernel_rfl) (fun _ _ _ h => h) (Or.inl ⟨by kernel_rfl, ?_⟩) (by assumption) ?_
                · intro U hSU
                  have s0 : U.cell? ⟨y, 0, none⟩ = some (.slice ya SL yc) := hSU
                  go_simp
                simp only [Act.put, List.setIfInBounds_toArray, List.set_cons_zero, List.set_cons_succ]
                refine Last.one (i := 6) rfl (by kernel_rfl) ?_
                intro K' hK0
                have hK := hid_of hK0
                clear hK0
                go_simp
                refine (HX2.out _ F21.out).mono ?_
                rintro e w22 ⟨rfl, q22⟩
                have F22 := hid_of q22
                have hs2 : (fun U : World => U.cell? ⟨y, 0, none⟩ = some (.slice ya SL yc)) w22 := Lib.cell_of_heap q22.cy 0
                clear q22
                refine hK.out _ _ (fun _ => hs2) ?_
                clear hK K'
                try simp only [Act.put, List.setIfInBounds_toArray, List.set_cons_zero, List.set_cons_succ]
                refine Last.one (i := 7) rfl (by kernel_rfl) ?_
                intro K' hK0
                have hK := hid_of hK0
                clear hK0
                go_simp
                refine hK.out _ _ (fun _ => hs2) ?_
                clear hK K'
                try simp only [Act.put, List.setIfInBounds_toArray, List.set_cons_zero, List.set_cons_succ]
                refine Last.one (i := 8) rfl (by kernel_rfl) ?_
                intro K' hK0
                have hK := hid_of hK0
                clear hK0
                go_simp
                refine hK.out _ _ (fun _ => hs2) ?_
                clear hK K'
                try simp only [Act.put, List.setIfInBounds_toArray, List.set_cons_zero, List.set_cons_succ]
                refine Last.take3 (i := 9) (v := .pointer (some ⟨b, 0, none⟩)) rfl (by kernel_rfl) (by kernel_rfl) (by kernel_rfl) (by kernel_rfl) (by kernel_rfl) (fun _ _ _ h => h) (Or.inl ⟨by kernel_rfl, ?_⟩) (by assumption) ?_
                · intro U hSU
                  have s0 : U.cell? ⟨y, 0, none⟩ = some (.slice ya SL yc) := hSU
                  go_simp
                simp only [Act.put, List.setIfInBounds_toArray, List.set_cons_zero, List.set_cons_succ]
                refine Last.take3 (i := 11) (v := .pointer (some ⟨y, 0, none⟩)) rfl (by kernel_rfl) (by kernel_rfl) (by kernel_rfl) (by kernel_rfl) (by kernel_rfl) (fun _ _ _ h => h) (Or.inl ⟨by kernel_rfl, ?_⟩) (by assumption) ?_
                · intro U hSU
                  have s0 : U.cell? ⟨y, 0, none⟩ = some (.slice ya SL yc) := hSU
                  go_simp
                simp only [Act.put, List.setIfInBounds_toArray, List.set_cons_zero, List.set_cons_succ]
                refine Last.take3 (i := 12) (v := .pointer (some ⟨y, 0, none⟩)) rfl (by kernel_rfl) (by kernel_rfl) (by kernel_rfl) (by kernel_rfl) (by kernel_rfl) (fun _ _ _ h => h) (Or.inl ⟨by kernel_rfl, ?_⟩) (by assumption) ?_
                · intro U hSU
                  have s0 : U.cell? ⟨y, 0, none⟩ = some (.slice ya SL yc) := hSU
                  go_simp
                simp only [Act.put, List.setIfInBounds_toArray, List.set_cons_zero, List.set_cons_succ]
                refine Last.take3 (i := 13) (v := .pointer (some ⟨y, 0, none⟩)) rfl (by kernel_rfl) (by kernel_rfl) (by kernel_rfl) (by kernel_rfl) (by kernel_rfl) (fun _ _ _ h => h) (Or.inl ⟨by kernel_rfl, ?_⟩) (by assumption) ?_
                · intro U hSU
                  have s0 : U.cell? ⟨y, 0, none⟩ = some (.slice ya SL yc) := hSU
                  go_simp
                simp only [Act.put, List.setIfInBounds_toArray, List.set_cons_zero, List.set_cons_succ]
                refine Last.take3 (i := 14) (v := .slice ya SL yc) rfl (by kernel_rfl) (by kernel_rfl) (by kernel_rfl) (by kernel_rfl) (by kernel_rfl) (fun _ _ _ h => h) (Or.inl ⟨by kernel_rfl, ?_⟩) (by assumption) ?_
                · intro U hSU
                  have s0 : U.cell? ⟨y, 0, none⟩ = some (.slice ya SL yc) := hSU
                  go_simp
                simp only [Act.put, List.setIfInBounds_toArray, List.set_cons_zero, List.set_cons_succ]
                refine Last.take3 (i := 15) (v := .int .i64 (SL : Int)) rfl (by kernel_rfl) (by kernel_rfl) (by kernel_rfl) (by kernel_rfl) (by kernel_rfl) (fun _ _ _ h => h) (Or.inl ⟨by kernel_rfl, ?_⟩) (by assumption) ?_
                · intro U hSU
                  have s0 : U.cell? ⟨y, 0, none⟩ = some (.slice ya SL yc) := hSU
                  go_simp
                simp only [Act.put, List.setIfInBounds_toArray, List.set_cons_zero, List.set_cons_succ]
                refine Last.take3 (i := 16) (v := .slice aw i cw) rfl (by kernel_rfl) (by kernel_rfl) (by kernel_rfl) (by kernel_rfl) (by kernel_rfl) (fun _ _ _ h => h) (Or.inl ⟨by kernel_rfl, ?_⟩) (by assumption) ?_
                · intro U hSU
                  have s0 : U.cell? ⟨y, 0, none⟩ = some (.slice ya SL yc) := hSU
                  go_simp
                simp only [Act.put, List.setIfInBounds_toArray, List.set_cons_zero, List.set_cons_succ]
                refine Last.take3 (i := 17) (v := .int .i64 (i : Int)) rfl (by kernel_rfl) (by kernel_rfl) (by kernel_rfl) (by kernel_rfl) (by kernel_rfl) (fun _ _ _ h => h) (Or.inl ⟨by kernel_rfl, ?_⟩) (by assumption) ?_
                · intro U hSU
                  have s0 : U.cell? ⟨y, 0, none⟩ = some (.slice ya SL yc) := hSU
                  go_simp
                simp only [Act.put, List.setIfInBounds_toArray, List.set_cons_zero, List.set_cons_succ]
                refine Last.take3 (i := 18) (v := .int .i64 (M : Int)) rfl (by kernel_rfl) (by kernel_rfl) (by kernel_rfl) (by kernel_rfl) (by kernel_rfl) (fun _ _ _ h => h) (Or.inl ⟨by kernel_rfl, ?_⟩) (by assumption) ?_
                · intro U hSU
                  have s0 : U.cell? ⟨y, 0, none⟩ = some (.slice ya SL yc) := hSU
                  go_simp
                  exact IntWalk.i64_in _ (by omega)
                simp only [Act.put, List.setIfInBounds_toArray, List.set_cons_zero, List.set_cons_succ]
                refine Last.one (i := 10) rfl (by kernel_rfl) ?_
                intro K' hK0
                have hK := hid_of hK0
                clear hK0
                go_simp
                refine (HX3.out _ F22.out).mono ?_
                rintro e w23 ⟨rfl, hw23⟩
                subst hw23
                refine hK.out _ _ (fun _ => hs2) ?_
                clear hK K'
                try simp only [Act.put, List.setIfInBounds_toArray, List.set_cons_zero, List.set_cons_succ]
                refine Last.one (i := 19) rfl (by kernel_rfl) ?_
                intro K' hK0
                have hK := hid_of hK0
                clear hK0
                go_simp
                refine hK.out _ _ (fun _ => hs2) ?_
                clear hK K'
                try simp only [Act.put, List.setIfInBounds_toArray, List.set_cons_zero, List.set_cons_succ]
                refine Last.one (i := 20) rfl (by kernel_rfl) ?_
                intro K' hK0
                have hK := hid_of hK0
                clear hK0
                go_simp
                refine hK.out _ _ (fun _ => hs2) ?_
                clear hK K'
                try simp only [Act.put, List.setIfInBounds_toArray, List.set_cons_zero, List.set_cons_succ]
                have h1 : w23.cell? ⟨w.heap.size, 0, none⟩ = some (.bool false) := Lib.cell_of_heap F22.out.so.rb 0
                have h2 : w23.frozen? ⟨w.heap.size, 0, none⟩ = false := Lib.frozen_of_heap F22.out.so.rb 0
                refine Last.one (i := 21) rfl (by kernel_rfl) ?_
                intro K' hK0
                have hK := hid_of hK0
                clear hK0
                go_simp
                refine hK.out _ _ (fun h => absurd rfl h) ?_
                clear hK K'
                refine Last.fin (by kernel_rfl) ?_ _
                have hK2 : (w23.setCell ⟨w.heap.size, 0, none⟩ (.bool true)).heap[D]? = some (.deferred (some [])) := (Below.heap_setCell _ _ _ _ hDne).trans F22.out.mrk
                have hR2 : (w23.setCell ⟨w.heap.size, 0, none⟩ (.bool true)).heap[w.heap.size]? = some (.cells #[.bool true] 4 (0, 0)) := by
                  have := set_at (i := 0) F22.out.so.rb (.bool true)
                  simpa using this
                have HB2 := hid_of (F22.out.so.bel.setCell (Nat.le_refl w.heap.size) (.bool true) : Below w.heap.size w (w23.setCell ⟨w.heap.size, 0, none⟩ (.bool true)))
                have HK2 := hid_of (And.intro hK2 hR2)
                clear hK2 hR2
                unfold calm
                go_wp2_with fail
                refine ⟨by simp, .inl ⟨_, _, rfl, run_takeDeferred HK2.out.1, ?_⟩⟩
                have hKw : ((w23.setCell ⟨w.heap.size, 0, none⟩ (.bool true)).putObj D (.deferred none)).heap[w.heap.size]? = some (.cells #[.bool true] 4 (0, 0)) := ((grownBy_putObj' _ D (.deferred none)).block w.heap.size (lt_of HK2.out.2) (fun e => hDne (by cases e; rfl))).trans HK2.out.2
                have hcr : ((w23.setCell ⟨w.heap.size, 0, none⟩ (.bool true)).putObj D (.deferred none)).cell? ⟨w.heap.size, 0, none⟩ = some (.bool true) := Lib.cell_of_heap hKw 0
                have bG : Below w.heap.size w ((w23.setCell ⟨w.heap.size, 0, none⟩ (.bool true)).putObj D (.deferred none)) := HB2.out.grown (grownBy_putObj' _ D (.deferred none)) HB2.out.size (fun j hj => by cases hj; have := SW.out.2.2; omega)
                refine ⟨.bool true, ?_, rfl, bG⟩
                simp [results, Try.results7]
                exact ret_cell _ _ hcr
end Go.Proofs.Ytiaggddpoddbcaa.DOwn
