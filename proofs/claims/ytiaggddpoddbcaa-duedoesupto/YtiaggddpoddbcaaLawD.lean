/- DueDoes: every call of every script. -/
import Derived.Test.YtiaggddpoddbcaaTakesM
import Derived.Test.YtiaggddpoddbcaaTakesL
import Derived.Test.YtiaggddpoddbcaaEntr
import Derived.Deep.RegionHeld3
namespace Go.Proofs.Ytiaggddpoddbcaa.LawD
open Go.RowKit Go.Maps Go.Shelf
open Go.Proofs.Ytiaggddpoddbcaa.HeapMath
open Go.Proofs.Ytiaggddpoddbcaa.Heap
open Go.Proofs.Ytiaggddpoddbcaa.Turn
open Go.Proofs.Ytiaggddpoddbcaa.Before
open Go.Proofs.Ytiaggddpoddbcaa.RowB
open Go.Proofs.Ytiaggddpoddbcaa.Spots
open Go.Proofs.Ytiaggddpoddbcaa.ThingS
open Go.Proofs.Ytiaggddpoddbcaa.IndexS
open Go.Proofs.Ytiaggddpoddbcaa.SetS
open Go.Proofs.Ytiaggddpoddbcaa.Peek
open Go.Proofs.Ytiaggddpoddbcaa.PeekS
open Go.Proofs.Ytiaggddpoddbcaa.Take
open Go.Proofs.Ytiaggddpoddbcaa.NewS
open Go.Proofs.Ytiaggddpoddbcaa.Awake
open Go.Proofs.Ytiaggddpoddbcaa.RefP
open Go.Proofs.Ytiaggddpoddbcaa.RefT
open Go.Proofs.Ytiaggddpoddbcaa.RefD
open Go.Proofs.Ytiaggddpoddbcaa.RefS
open Go.Proofs.Ytiaggddpoddbcaa.SortM
open Go.Proofs.Ytiaggddpoddbcaa.Both
open Go.Proofs.Ytiaggddpoddbcaa.Do
open Go.Proofs.Ytiaggddpoddbcaa.TakesM
open Go.Proofs.Ytiaggddpoddbcaa.TakesL
open Go.Proofs.Ytiaggddpoddbcaa.Entr
set_option linter.unusedVariables false
set_option linter.unusedSimpArgs false
set_option maxHeartbeats 8000000 in
set_option maxRecDepth 100000 in
theorem law_call (a : Option Addr) (cap : Nat) (l : List Dd) (w : World) (hD : DSl w a l) (hkeys : ∀ x ∈ l, x.key.length ≤ 281474976710656) (hlen : l.length + 2 < 1099511627776) :
    Calls Try.prog 3 #[.slice a l.length cap] w fun e w' => e = .returned (.bool true) ∧ Below w.heap.size w w' := by
  have HN := hid_of (new_call w)
  have HAW := hid_of awake_call
  obtain ⟨n, hn⟩ : ∃ n, n = l.length := ⟨_, rfl⟩
  rw [← hn] at hlen ⊢
  have HL := hid_of hn
  have HD := hid_of hD
  have HKEY := hid_of hkeys
  clear hn hD hkeys
  go_enter Try.func3, Try.ntmps3
  go_wp2_with fail
  refine HN.out.mono ?_
  rintro e w1 ⟨rfl, hw1⟩
  have hs1 : w1.heap.size = w.heap.size + 1 := by
    rw [hw1]
    show (w.heap.push _).size = _
    exact Array.size_push _
  obtain ⟨b, hb⟩ : ∃ b, b = w.heap.size := ⟨_, rfl⟩
  obtain ⟨y, hy⟩ : ∃ y, y = w1.heap.size := ⟨_, rfl⟩
  obtain ⟨W1, hW1⟩ : ∃ W1, W1 = w1.alloc (.cells #[.slice none 0 0] 28) := ⟨_, rfl⟩
  have P1 : Hid (St w b y 0 W1) := hid_of ⟨⟨[], [], by rw [hW1, hw1, hy, hs1, hb]; exact pr_new w, Nat.le_refl _⟩, by rw [hW1, hw1]; exact ((Below.refl _ w).alloc (Nat.le_refl _) _).alloc (by show _ ≤ (w.heap.push _).size; rw [Array.size_push]; omega) _⟩
  have HY : Hid (w.heap.size ≤ y) := hid_of (by rw [hy, hs1]; omega)
  rw [← hb]
  clear HN hs1 hw1 hb
  go_wp2_with fail
  rw [← hW1, ← hy]
  clear hW1 hy
  refine (HAW.out _).mono ?_
  rintro e w2 ⟨rfl, b2⟩
  have P2 : Hid (St w b y 0 w2) := hid_of ⟨pr_more P1.out.pr b2, P1.out.bel.trans (b2.mono P1.out.bel.size)⟩
  clear b2 P1 W1 w1 HAW
  go_wp2_with fail
  go_loopg [5] n (fun g si wx => ∃ (k : Nat), k + g = n ∧ si = .int .i64 k ∧ Hid (St w b y k wx))
  case atStart => exact ⟨0, by omega, rfl, P2⟩
  case round =>
    obtain ⟨k, hk, rfl, R⟩ := hrel
    by_cases hlt : k < n
    · obtain ⟨g', rfl⟩ : ∃ g', gk = g' + 1 := ⟨gk - 1, by omega⟩
      have hll : k < l.length := by rw [← HL.out]; exact hlt
      obtain ⟨q, o, rfl, c0, c1, c2, c3⟩ := HD.out k hll
      have HK := hid_of (HKEY.out _ (List.getElem_mem hll))
      generalize l[k].k = dk at *
      generalize l[k].key = dkey at *
      generalize l[k].n = dn at *
      generalize l[k].m = dm at *
      have d0 := (R.out.bel.cell (block_lt_of_cell c0)).trans c0
      have d1 := (R.out.bel.cell (block_lt_of_cell c1)).trans c1
      have d2 := (R.out.bel.cell (block_lt_of_cell c2)).trans c2
      have d3 := (R.out.bel.cell (block_lt_of_cell c3)).trans c3
      have gi : (k : Int) < (n : Int) := by omega
      have ew : IntKind.i64.wrap ((k : Int) + 1) = (k : Int) + 1 := IntWalk.i64_in _ (by omega)
      have HDO : Hid (∀ W, Below wr.heap.size wr W → Calls Try.prog 10 #[.pointer (some ⟨b, 0, none⟩), .pointer (some ⟨y, 0, none⟩), .agg #[.int .i64 dk, .string (mk dkey), .int .i64 dn, .int .i64 dm]] W fun e w' => e = .returned (.bool true) ∧ St w b y (k + 1) w') := hid_of fun W hW => by
        obtain ⟨s, S, hp, hsn⟩ := R.out.pr
        refine (do_call (hp.below hW) HY.out (by omega) dk dkey HK.out dn dm).mono ?_
        rintro e w' ⟨rfl, ⟨s', S', h1, h2⟩, h3⟩
        exact ⟨rfl, ⟨s', S', h1, by omega⟩, (R.out.bel.trans (hW.mono R.out.bel.size)).trans (h3.below (Nat.le_trans R.out.bel.size hW.size))⟩
      have HLK : Hid (∀ W, St w b y (k + 1) W → Calls Try.prog 11 #[.pointer (some ⟨b, 0, none⟩), .pointer (some ⟨y, 0, none⟩), .string (mk dkey)] W fun e w' => e = .returned (.bool true) ∧ St w b y (k + 1) w') := hid_of fun W hW => by
        obtain ⟨s, S, hp, hsn⟩ := hW.pr
        refine (LikeU.like_call hp (by have := ry_len hp; omega) dkey HK.out).mono ?_
        rintro e w' ⟨rfl, k9⟩
        exact ⟨rfl, pr_more hW.pr k9, hW.bel.trans (k9.mono hW.bel.size)⟩
      have HCC : Hid (∀ W, Below w.heap.size w W → W.cell? ⟨q, o + k * 4 + 1, none⟩ = some (.string (mk dkey))) := hid_of fun W hW => (hW.cell (block_lt_of_cell c1)).trans c1
      clear c0 c1 c2 c3 hll HK P2
      go_wp2_with fail
      refine (HDO.out _ (by first | exact Below.refl _ _ | exact (Below.refl _ _).drew)).mono ?_
      rintro e w3 ⟨rfl, R3⟩
      have d5 := HCC.out w3 R3.bel
      have R3 := hid_of R3
      go_wp2_with fail
      refine (HLK.out _ R3.out).mono ?_
      rintro e w4 ⟨rfl, R4⟩
      have R4 := hid_of R4
      go_wp2_with fail
      go_roundg g'
      case measure => omega
      case rel => exact ⟨k + 1, by omega, by rw [show ((k + 1 : Nat) : Int) = (k : Int) + 1 from by omega], R4⟩
    · obtain rfl : k = n := by omega
      have gi : ¬ (k : Int) < (k : Int) := by omega
      obtain ⟨s, S, hp, hsn⟩ := R.out.pr
      have hSl := ry_len hp
      obtain ⟨yv, hy1, hy2⟩ := id hp.ry
      obtain ⟨ya, yc, rfl, _, _⟩ := id hy2
      have hle := LE.of_yl hy2
      have HWk := hid_of (Walk.walked_call (ix_below hp.ix (Below.refl _ wr).drew) hp.srt (by omega))
      have HEn : Hid (∀ W v, Below wr.heap.size wr W → W.ownsRow wr.heap.size 62 2 v S.length (S.flatMap cS) → Calls Try.prog 12 #[v, .slice ya S.length yc] W fun e w' => e = .returned (.bool true) ∧ Below W.heap.size W w') := hid_of fun W v hW hv => (entries_call (LE.of_row hv) (hle.below hW) (by omega)).mono fun e w' ⟨h1, m, h2⟩ => ⟨h1, by rw [h2]; exact ⟨rfl, rfl, rfl, Nat.le_refl _, fun _ _ => rfl⟩⟩
      have cy0 : wr.drew.cell? ⟨y, 0, none⟩ = some (.slice ya S.length yc) := Lib.cell_of_heap hy1 0
      have HCY : Hid (∀ W, Below wr.heap.size wr W → W.cell? ⟨y, 0, none⟩ = some (.slice ya S.length yc)) := hid_of fun W hW => Lib.cell_of_heap ((hW.block y (lt_of hy1)).trans hy1) 0
      have HBL := hid_of R.out.bel
      clear hp hsn hSl hy1 hy2 hle P2 HD HKEY HL
      go_wp2_with fail
      go_region_held3 (fun U => U.cell? ⟨y, 0, none⟩ = some (.slice ya S.length yc)) (first | with_reducible exact cy0 | with_reducible exact cy1 | with_reducible exact cy2) (first
        | (go_at_call 13; refine HWk.out.mono ?_; rintro e w7 ⟨v7, rfl, r7, b7⟩; have B7 : Hid (Below wr.heap.size wr w7) := hid_of ((Below.refl _ wr).drew.trans b7); have R7 := hid_of r7; have cy1 := HCY.out w7 B7.out; clear b7 r7)
        | (go_at_call 12; refine (HEn.out _ _ B7.out R7.out).mono ?_; rintro e w8 ⟨rfl, b8⟩; have B8 : Hid (Below wr.heap.size wr w8) := hid_of (B7.out.trans (b8.mono B7.out.size)); have cy2 := HCY.out w8 B8.out; clear b8))
      go_wp2_with fail
      go_ret
      exact ⟨rfl, HBL.out.trans (B8.out.mono HBL.out.size)⟩
end Go.Proofs.Ytiaggddpoddbcaa.LawD
