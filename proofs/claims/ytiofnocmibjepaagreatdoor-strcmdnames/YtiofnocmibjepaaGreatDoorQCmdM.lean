/- Commands on strings: what their small calls answer. Commands on strings: putting; numbers added to. A list's cell. -/
import Derived.Test.YtiofnocmibjepaaGreatDoorQBaseM
import Derived.Test.YtiofnocmibjepaaGreatDoorBIncrM
import Derived.Deep.RegionHeld3
import Derived.Test.YtiofnocmibjepaaGreatDoorEqualM
section
namespace Go.Proofs.YtiofnocmibjepaaGreatDoor.QCmd
open Go.RowKit Go.Maps
open Go.Proofs.YtiofnocmibjepaaGreatDoor.SpaceMath (wout withL lkp keys Ris toD)
open Go.Proofs.YtiofnocmibjepaaGreatDoor.ValueMath (Vl chk small)
open Go.Proofs.YtiofnocmibjepaaGreatDoor.Base (mk mk_list mk_size Gr hid_of SL)
open Go.Proofs.YtiofnocmibjepaaGreatDoor.Turn
open Go.Proofs.YtiofnocmibjepaaGreatDoor.Vals
open Go.Proofs.YtiofnocmibjepaaGreatDoor.Check0 (Wel)
open Go.Proofs.YtiofnocmibjepaaGreatDoor.SBase
open Go.Proofs.YtiofnocmibjepaaGreatDoor.SFind
open Go.Proofs.YtiofnocmibjepaaGreatDoor.SSet (box8)
open Go.Proofs.YtiofnocmibjepaaGreatDoor.SPut (vO)
open Go.Proofs.YtiofnocmibjepaaGreatDoor.QBase
set_option linter.unusedVariables false
set_option linter.unusedSimpArgs false
abbrev wrongB : ByteArray := ⟨#[87, 82, 79, 78, 71, 84, 89, 80, 69, 32, 116, 104, 101, 32, 107, 101, 121, 32, 104, 111, 108, 100, 115, 32, 97, 110, 111, 116, 104, 101, 114, 32, 107, 105, 110, 100, 32, 111, 102, 32, 118, 97, 108, 117, 101]⟩
abbrev numB : ByteArray := ⟨#[69, 82, 82, 32, 97, 32, 110, 117, 109, 98, 101, 114, 32, 105, 115, 32, 119, 97, 110, 116, 101, 100]⟩
abbrev overB : ByteArray := ⟨#[69, 82, 82, 32, 116, 104, 101, 32, 110, 117, 109, 98, 101, 114, 32, 119, 111, 117, 108, 100, 32, 108, 101, 97, 118, 101, 32, 105, 116, 115, 32, 114, 97, 110, 103, 101]⟩
abbrev longB : ByteArray := ⟨#[69, 82, 82, 32, 116, 104, 101, 32, 118, 97, 108, 117, 101, 32, 119, 111, 117, 108, 100, 32, 98, 101, 32, 116, 111, 111, 32, 108, 111, 110, 103]⟩
abbrev rp (k : Int) (T : ByteArray) (n : Int) : Value := .agg #[.int .i64 k, .string T, .int .i64 n, .slice none 0 0]
abbrev rO (k : Int) (T : ByteArray) (n : Int) (L : Value) : Obj := .cells #[.int .i64 k, .string T, .int .i64 n, L] 28
theorem box4 {w : World} {b : Nat} {x0 x1 x2 x3 : Value} {t : TypeId} (h : w.heap[b]? = some (.cells #[x0, x1, x2, x3] t (0, 0))) :
    (w.cell? ⟨b, 0, none⟩ = some x0 ∧ w.cell? ⟨b, 1, none⟩ = some x1 ∧ w.cell? ⟨b, 2, none⟩ = some x2 ∧ w.cell? ⟨b, 3, none⟩ = some x3) ∧ ∀ i, w.frozen? ⟨b, i, none⟩ = false :=
  ⟨⟨Lib.cell_of_heap h 0, Lib.cell_of_heap h 1, Lib.cell_of_heap h 2, Lib.cell_of_heap h 3⟩, fun i => Lib.frozen_of_heap h i⟩
def fin4 (w : World) (q : Nat) (y0 y1 y2 y3 : Value) : World := (((w.setCell ⟨q, 0, none⟩ y0).setCell ⟨q, 1, none⟩ y1).setCell ⟨q, 2, none⟩ y2).setCell ⟨q, 3, none⟩ y3
theorem fin4_at {w : World} {q : Nat} {x0 x1 x2 x3 : Value} {t : TypeId} (h : w.heap[q]? = some (.cells #[x0, x1, x2, x3] t (0, 0))) (y0 y1 y2 y3 : Value) : (fin4 w q y0 y1 y2 y3).heap[q]? = some (.cells #[y0, y1, y2, y3] t (0, 0)) := by
  unfold fin4
  simpa using set_at (i := 3) (set_at (i := 2) (set_at (i := 1) (set_at (i := 0) h y0) y1) y2) y3
theorem fin4_b {B q : Nat} {w0 w : World} {y0 y1 y2 y3 : Value} (h : Below B w0 w) (hq : B ≤ q) : Below B w0 (fin4 w q y0 y1 y2 y3) := bset (bset (bset (bset h hq y0) hq y1) hq y2) hq y3
set_option maxRecDepth 100000 in
theorem refused_call (T : ByteArray) (w : World) : Calls Tryz.prog 69 #[.string T] w fun e w' => e = .returned (rp 2 T 0) ∧ Below w.heap.size w w' := by
  go_enter Tryz.func69, Tryz.ntmps69
  go_wp2_with fail
  exact bodyPost_ret (v := rp 2 T 0) (by simp [results, Tryz.results69, go_sem]) rfl ⟨rfl, alb _ _⟩
set_option maxRecDepth 100000 in
theorem count_call (n : Int) (w : World) : Calls Tryz.prog 71 #[.int .i64 n] w fun e w' => e = .returned (rp 3 ⟨#[]⟩ n) ∧ Below w.heap.size w w' := by
  go_enter Tryz.func71, Tryz.ntmps71
  go_wp2_with fail
  exact bodyPost_ret (v := rp 3 ⟨#[]⟩ n) (by simp [results, Tryz.results71, go_sem]) rfl ⟨rfl, alb _ _⟩
set_option maxRecDepth 100000 in
theorem bulk_call (T : ByteArray) (w : World) : Calls Tryz.prog 90 #[.string T] w fun e w' => e = .returned (rp 4 T 0) ∧ Below w.heap.size w w' := by
  go_enter Tryz.func90, Tryz.ntmps90
  go_wp2_with fail
  exact bodyPost_ret (v := rp 4 T 0) (by simp [results, Tryz.results90, go_sem]) rfl ⟨rfl, alb _ _⟩
set_option maxRecDepth 100000 in
theorem null_call  (w : World) : Calls Tryz.prog 97 #[] w fun e w' => e = .returned (rp 5 ⟨#[]⟩ 0) ∧ Below w.heap.size w w' := by
  go_enter Tryz.func97, Tryz.ntmps97
  go_wp2_with fail
  exact bodyPost_ret (v := rp 5 ⟨#[]⟩ 0) (by simp [results, Tryz.results97, go_sem]) rfl ⟨rfl, alb _ _⟩
set_option maxRecDepth 100000 in
theorem hbulk_call (T : ByteArray) (q : Bool) (w : World) : Calls Tryz.prog 84 #[.agg #[.string T, .bool q]] w fun e w' => e = .returned (if q then rp 4 T 0 else rp 5 ⟨#[]⟩ 0) ∧ Below w.heap.size w w' := by
  obtain ⟨W, hW⟩ : ∃ W, W = (w.alloc (.cells #[.string T, .bool q] 102)).alloc (rO 0 ⟨#[]⟩ 0 (.slice none 0 0)) := ⟨_, rfl⟩
  have bW : Below w.heap.size w W := by rw [hW]; exact FRow.bel (alb _ _) (alb _ _) (Nat.le_refl _)
  have xr : W.heap[w.heap.size + 1]? = some (rO 0 ⟨#[]⟩ 0 (.slice none 0 0)) := by
    have := heap_alloc_new (w.alloc (.cells #[.string T, .bool q] 102)) (rO 0 ⟨#[]⟩ 0 (.slice none 0 0))
    rw [hW]
    simpa using this
  have HX := hid_of xr
  have HB := hid_of bW
  have HW := hid_of hW
  have HN := hid_of (null_call W)
  have HK := hid_of (bulk_call T W)
  clear hW bW xr
  cases q
  · go_enter Tryz.func84, Tryz.ntmps84
    go_wp2_with fail
    rw [← HW.out]
    refine HN.out.mono ?_
    rintro e w1 ⟨rfl, b1⟩
    have x1 := (b1.block _ (lt_of HX.out)).trans HX.out
    have B1 := FRow.bel HB.out b1 (Nat.le_refl _)
    obtain ⟨⟨y0, y1, y2, y3⟩, fy⟩ := box4 x1
    have fy0 := fy 0
    have fy1 := fy 1
    have fy2 := fy 2
    have fy3 := fy 3
    have hz := fin4_at x1 (.int .i64 5) (.string ⟨#[]⟩) (.int .i64 0) (.slice none 0 0)
    have hb := fin4_b (y0 := .int .i64 5) (y1 := .string ⟨#[]⟩) (y2 := .int .i64 0) (y3 := .slice none 0 0) B1 (Nat.le_succ w.heap.size)
    unfold fin4 at hz hb
    clear b1 fy x1 HN HK B1
    go_wp2_with fail
    obtain ⟨⟨g0, g1, g2, g3⟩, -⟩ := box4 hz
    exact bodyPost_ret (v := rp 5 ⟨#[]⟩ 0) (by simp [results, Tryz.results84, go_sem, g0, g1, g2, g3]) rfl ⟨rfl, hb⟩
  · go_enter Tryz.func84, Tryz.ntmps84
    go_wp2_with fail
    rw [← HW.out]
    refine HK.out.mono ?_
    rintro e w1 ⟨rfl, b1⟩
    have x1 := (b1.block _ (lt_of HX.out)).trans HX.out
    have B1 := FRow.bel HB.out b1 (Nat.le_refl _)
    obtain ⟨⟨y0, y1, y2, y3⟩, fy⟩ := box4 x1
    have fy0 := fy 0
    have fy1 := fy 1
    have fy2 := fy 2
    have fy3 := fy 3
    have hz := fin4_at x1 (.int .i64 4) (.string T) (.int .i64 0) (.slice none 0 0)
    have hb := fin4_b (y0 := .int .i64 4) (y1 := .string T) (y2 := .int .i64 0) (y3 := .slice none 0 0) B1 (Nat.le_succ w.heap.size)
    unfold fin4 at hz hb
    clear b1 fy x1 HN HK B1
    go_wp2_with fail
    obtain ⟨⟨g0, g1, g2, g3⟩, -⟩ := box4 hz
    exact bodyPost_ret (v := rp 4 T 0) (by simp [results, Tryz.results84, go_sem, g0, g1, g2, g3]) rfl ⟨rfl, hb⟩
/- the string at a key -/
structure Sa where
  t : Bs
  there : Bool
  wrong : Bool
def sa (o : Option En) : Sa := match o with
  | none => ⟨[], false, false⟩
  | some e => if e.val.kind = 1 then ⟨e.val.text, true, false⟩ else ⟨[], false, true⟩
abbrev wt (q : Bool) : ByteArray := if q then wrongB else ⟨#[]⟩
abbrev cV (b : Nat) (now : Int) (a : Option Addr) (n c : Nat) : Value := .agg #[ptr b, .int .i64 now, .slice a n c]
abbrev cO (b : Nat) (now : Int) (a : Option Addr) (n c : Nat) : Obj := .cells #[ptr b, .int .i64 now, .slice a n c] 63
abbrev hO (T : ByteArray) (q : Bool) : Obj := .cells #[.string T, .bool q] 102
/- two boxes laid one behind the other -/
theorem two_boxes (w : World) (o1 o2 : Obj) (h1 : ∃ cs t, o1 = .cells cs t (0, 0)) : Below w.heap.size w ((w.alloc o1).alloc o2) ∧ ((w.alloc o1).alloc o2).heap[w.heap.size]? = some o1 ∧ ((w.alloc o1).alloc o2).heap[w.heap.size + 1]? = some o2 ∧ ((w.alloc o1).alloc o2).heap.size = w.heap.size + 2 := by
  refine ⟨FRow.bel (alb _ _) (alb _ _) (Nat.le_refl _), ?_, ?_, by simp⟩
  · rw [Below.heap_alloc _ _ _ (by simp)]
    exact heap_alloc_new w _
  · have := heap_alloc_new (w.alloc o1) o2
    simpa using this
theorem fin2_alloc {w w1 : World} {q : Nat} {x0 x1 : Value} {t : TypeId} {o : Obj} (h : w1.heap[q]? = some (.cells #[x0, x1] t (0, 0))) (B1 : Below w.heap.size w w1) (hq : w.heap.size ≤ q) (y0 y1 : Value) : (((w1.setCell ⟨q, 0, none⟩ y0).setCell ⟨q, 1, none⟩ y1).alloc o).heap[q]? = some (.cells #[y0, y1] t (0, 0)) ∧ Below w.heap.size w (((w1.setCell ⟨q, 0, none⟩ y0).setCell ⟨q, 1, none⟩ y1).alloc o) := by
  have z : ((w1.setCell ⟨q, 0, none⟩ y0).setCell ⟨q, 1, none⟩ y1).heap[q]? = some (.cells #[y0, y1] t (0, 0)) := by simpa using set_at (i := 1) (set_at (i := 0) h y0) y1
  have b : Below w.heap.size w ((w1.setCell ⟨q, 0, none⟩ y0).setCell ⟨q, 1, none⟩ y1) := bset (bset B1 hq y0) hq y1
  exact ⟨(Below.heap_alloc _ _ _ (lt_of z)).trans z, b.alloc b.size o⟩
theorem vn_form {B : Nat} {w : World} {v : Value} {x : Vl} (h : VN B w v x) : ∃ a n c a' n' c' a'' n'' c'', v = .agg #[.int .i64 x.kind, .string (mk x.text), .slice a n c, .slice a' n' c', .slice a'' n'' c''] := by
  obtain ⟨a, b, c, rfl, h1, h2, h3⟩ := h
  obtain ⟨a1, c1, rfl, _⟩ := h1.shape
  obtain ⟨a2, c2, rfl⟩ := shapeFRow h2
  obtain ⟨a3, c3, rfl⟩ := shapeERow h3
  exact ⟨_, _, _, _, _, _, _, _, _, rfl⟩
section
variable {F X : Nat → Prop} {b : Nat} {w : World} {S : Sp}
set_option maxHeartbeats 2000000 in
set_option maxRecDepth 100000 in
theorem stringAt_call (h : SP F X b w S) (k : Bs) (hk : k.length ≤ 281474976710656) (now : Int) (a : Option Addr) (n c : Nat) :
    Calls Tryz.prog 68 #[cV b now a n c, .string (mk k)] w fun e w' => e = .returned (.tuple #[.agg #[.string (mk (sa (gt S now k)).t), .bool (sa (gt S now k)).there], .string (wt (sa (gt S now k)).wrong)]) ∧ Below w.heap.size w w' := by
  obtain ⟨W, hW⟩ : ∃ W, W = (w.alloc (cO b now a n c)).alloc (hO ⟨#[]⟩ false) := ⟨_, rfl⟩
  obtain ⟨bW, x0, x1, sW⟩ := two_boxes w (cO b now a n c) (hO ⟨#[]⟩ false) ⟨_, _, rfl⟩
  rw [← hW] at bW x0 x1 sW
  have HB := hid_of bW
  have HX := hid_of x1
  have HW := hid_of hW
  have HS := hid_of (h.below bW)
  obtain ⟨en, hen⟩ : ∃ en, gt S now k = en := ⟨_, rfl⟩
  rw [hen]
  cases en with
  | none =>
    have H1 := hid_of (get_no HS.out k hk now hen)
    clear hW bW x0 x1 sW hen h
    show Calls Tryz.prog 68 #[cV b now a n c, .string (mk k)] w fun e w' => e = .returned (.tuple #[.agg #[.string ⟨#[]⟩, .bool false], .string ⟨#[]⟩]) ∧ Below w.heap.size w w'
    go_enter Tryz.func68, Tryz.ntmps68
    go_wp2_with fail
    rw [← HW.out]
    refine H1.out.mono ?_
    rintro e w1 ⟨rfl, b1⟩
    have z1 := (b1.block _ (lt_of HX.out)).trans HX.out
    have B1 := FRow.bel HB.out b1 (Nat.le_refl _)
    obtain ⟨⟨y0, y1⟩, fy⟩ := Vals.box2 z1
    have fy0 := fy 0
    have fy1 := fy 1
    have hlt : w.heap.size + 1 < w1.heap.size := lt_of z1
    have hz := fin2_alloc (o := vO 0 ⟨#[]⟩ (.slice none 0 0) (.slice none 0 0) (.slice none 0 0)) z1 B1 (Nat.le_succ w.heap.size) (.string ⟨#[]⟩) (.bool false)
    clear b1 z1 B1 fy H1
    go_wp2_with fail
    obtain ⟨⟨g0, g1⟩, -⟩ := box2 hz.1
    exact bodyPost_ret (v := .tuple #[.agg #[.string ⟨#[]⟩, .bool false], .string ⟨#[]⟩]) (by simp [results, Tryz.results68, go_sem, g0, g1]) rfl ⟨rfl, hz.2⟩
  | some en =>
    have H1 := hid_of (get_yes HS.out k hk now hen)
    clear hW bW x0 x1 sW hen h
    by_cases hk1 : en.val.kind = 1
    · have e1 : (en.val.kind == 1) = true := by simp [hk1]
      have HR := hid_of (show sa (some en) = ⟨en.val.text, true, false⟩ by unfold sa; simp only; rw [if_pos hk1])
      rw [HR.out]
      show Calls Tryz.prog 68 #[cV b now a n c, .string (mk k)] w fun e w' => e = .returned (.tuple #[.agg #[.string (mk en.val.text), .bool true], .string ⟨#[]⟩]) ∧ Below w.heap.size w w'
      clear hk1
      go_enter Tryz.func68, Tryz.ntmps68
      go_wp2_with fail
      rw [← HW.out]
      refine H1.out.mono ?_
      rintro e w1 ⟨u, rfl, hu, b1⟩
      obtain ⟨a1, n1, c1, a2, n2, c2, a3, n3, c3, rfl⟩ := vn_form hu
      have z1 := (b1.block _ (lt_of HX.out)).trans HX.out
      have B1 := FRow.bel HB.out b1 (Nat.le_refl _)
      obtain ⟨⟨y0, y1⟩, fy⟩ := box2 z1
      have fy0 := fy 0
      have fy1 := fy 1
      have hlt : w.heap.size + 1 < w1.heap.size := lt_of z1
      have hz := fin2_alloc (o := vO en.val.kind (mk en.val.text) (.slice a1 n1 c1) (.slice a2 n2 c2) (.slice a3 n3 c3)) z1 B1 (Nat.le_succ w.heap.size) (.string (mk en.val.text)) (.bool true)
      clear b1 z1 B1 fy H1 hu
      go_wp2_with fail
      obtain ⟨⟨g0, g1⟩, -⟩ := box2 hz.1
      exact bodyPost_ret (v := .tuple #[.agg #[.string (mk en.val.text), .bool true], .string ⟨#[]⟩]) (by simp [results, Tryz.results68, go_sem, g0, g1]) rfl ⟨rfl, hz.2⟩
    · have e1 : (en.val.kind == 1) = false := by simp [hk1]
      have HR := hid_of (show sa (some en) = ⟨[], false, true⟩ by unfold sa; simp only; rw [if_neg hk1])
      rw [HR.out]
      show Calls Tryz.prog 68 #[cV b now a n c, .string (mk k)] w fun e w' => e = .returned (.tuple #[.agg #[.string ⟨#[]⟩, .bool false], .string wrongB]) ∧ Below w.heap.size w w'
      clear hk1
      go_enter Tryz.func68, Tryz.ntmps68
      go_wp2_with fail
      rw [← HW.out]
      refine H1.out.mono ?_
      rintro e w1 ⟨u, rfl, hu, b1⟩
      obtain ⟨a1, n1, c1, a2, n2, c2, a3, n3, c3, rfl⟩ := vn_form hu
      have z1 := (b1.block _ (lt_of HX.out)).trans HX.out
      have B1 := FRow.bel HB.out b1 (Nat.le_refl _)
      obtain ⟨⟨y0, y1⟩, fy⟩ := box2 z1
      have fy0 := fy 0
      have fy1 := fy 1
      have hlt : w.heap.size + 1 < w1.heap.size := lt_of z1
      have hz := fin2_alloc (o := vO en.val.kind (mk en.val.text) (.slice a1 n1 c1) (.slice a2 n2 c2) (.slice a3 n3 c3)) z1 B1 (Nat.le_succ w.heap.size) (.string ⟨#[]⟩) (.bool false)
      clear b1 z1 B1 fy H1 hu
      go_wp2_with fail
      obtain ⟨⟨g0, g1⟩, -⟩ := box2 hz.1
      exact bodyPost_ret (v := .tuple #[.agg #[.string ⟨#[]⟩, .bool false], .string wrongB]) (by simp [results, Tryz.results68, go_sem, g0, g1]) rfl ⟨rfl, hz.2⟩
set_option maxHeartbeats 2000000 in
set_option maxRecDepth 100000 in
theorem dueOf_call (h : SP F X b w S) (k : Bs) (hk : k.length ≤ 281474976710656) (now : Int) (a : Option Addr) (n c : Nat) :
    Calls Tryz.prog 88 #[cV b now a n c, .string (mk k)] w fun e w' => e = .returned (.int .i64 (dueV S now k)) ∧ Below w.heap.size w w' := by
  obtain ⟨W, hW⟩ : ∃ W, W = w.alloc (cO b now a n c) := ⟨_, rfl⟩
  have bW : Below w.heap.size w W := by rw [hW]; exact alb _ _
  have HB := hid_of bW
  have HW := hid_of hW
  have H1 := hid_of (due_call (h.below bW) k hk now)
  clear hW bW h
  generalize dueV S now k = d at *
  generalize (gt S now k).isSome = q at *
  go_enter Tryz.func88, Tryz.ntmps88
  go_wp2_with fail
  rw [← HW.out]
  refine H1.out.mono ?_
  rintro e w1 ⟨rfl, b1⟩
  have HB1 := hid_of (FRow.bel HB.out b1 (Nat.le_refl _))
  clear b1
  go_wp2_with fail
  go_ret
  exact ⟨rfl, HB1.out⟩
end
end Go.Proofs.YtiofnocmibjepaaGreatDoor.QCmd
end
section
namespace Go.Proofs.YtiofnocmibjepaaGreatDoor.QPut
open Go.RowKit Go.Maps
open Go.Lib (decDigits itoa)
open Go.Proofs.YtiofnocmibjepaaGreatDoor.TextMath
open Go.Proofs.YtiofnocmibjepaaGreatDoor.SpaceMath (wout withL lkp keys Ris toD)
open Go.Proofs.YtiofnocmibjepaaGreatDoor.ValueMath (Vl chk small)
open Go.Proofs.YtiofnocmibjepaaGreatDoor.Base (mk mk_list mk_size Gr hid_of SL)
open Go.Proofs.YtiofnocmibjepaaGreatDoor.Turn
open Go.Proofs.YtiofnocmibjepaaGreatDoor.Vals
open Go.Proofs.YtiofnocmibjepaaGreatDoor.Check0 (Wel)
open Go.Proofs.YtiofnocmibjepaaGreatDoor.SBase
open Go.Proofs.YtiofnocmibjepaaGreatDoor.SFind
open Go.Proofs.YtiofnocmibjepaaGreatDoor.QBase
open Go.Proofs.YtiofnocmibjepaaGreatDoor.QCmd
open Go.Proofs.YtiofnocmibjepaaGreatDoor.BIncr
open Go.Proofs.YtiofnocmibjepaaGreatDoor.Parse (Has)
set_option linter.unusedVariables false
set_option linter.unusedSimpArgs false
/- boxes of a call's own beside a space -/
abbrev Tmp (w W : World) (k : Nat) : Prop := w.heap.size ≤ k ∧ k < W.heap.size
section
variable {F X : Nat → Prop} {b : Nat} {w W w1 w2 : World} {S S' : Sp}
theorem sp_wide (h : SP F X b w S) (hb : Below w.heap.size w W) : SP F (fun k => X k ∨ Tmp w W k) b W S :=
  h.re (fun k q => hb.block k (h.lo k q)) (Ev.of_below hb) (fun k hk q => q.elim id (fun q => by unfold Tmp at q; omega)) (fun k q => .inl (h.fx k q)) (fun k q => q.elim (fun q => Nat.lt_of_lt_of_le (h.xl k q) hb.size) (fun q => q.2))
theorem dn_tmp (h0 : SP F X b w S) (hb : Below w.heap.size w W) (h : Dn F (fun k => X k ∨ Tmp w W k) b W w1 S') (e : Ev (Tmp w W) w1 w2) : Dn F X b w w2 S' := by
  obtain ⟨F', s, ev, n⟩ := h
  have nt : ∀ k, F' k → ¬ Tmp w W k := fun k q t => by
    unfold Tmp at t
    rcases n k q with q | q
    · have := h0.lo k q; omega
    · omega
  have eW : Ev F w W := Ev.of_below hb
  refine ⟨F', s.re (fun k q => e.block k (s.lo k q) (nt k q)) (e.mono fun k _ q => .inl (.inr q)) (fun k _ q => q.elim (fun q => .inl (.inl q)) .inr) (fun k q => .inr q) (fun k q => q.elim (fun q => Nat.lt_of_lt_of_le (s.xl k (.inl (.inl q))) e.size) (fun q => Nat.lt_of_lt_of_le (s.lo k q) e.size)), ?_, fun k q => (n k q).imp id (fun q => Nat.le_trans hb.size q)⟩
  have e1 : Ev F w w1 := eW.trans ev
  refine ⟨e.os.trans e1.os, e.tape.trans e1.tape, e.output.trans e1.output, Nat.le_trans e1.size e.size, fun k hk hn => (e.block k (Nat.lt_of_lt_of_le hk e1.size) (fun t => by unfold Tmp at t; omega)).trans (e1.block k hk hn)⟩
/-- what stands beside -/
theorem dn_block {Y : Nat → Prop} (h0 : SP F Y b w S) (hb : Below w.heap.size w W) (h : Dn F X b W w1 S') {k : Nat} (hk : Tmp w W k) : w1.heap[k]? = W.heap[k]? := by
  obtain ⟨F', s, ev, n⟩ := h
  exact ev.block k hk.2 (fun q => by have := h0.lo k q; unfold Tmp at hk; omega)
theorem dn_size (h : Dn F X b W w1 S') : W.heap.size ≤ w1.heap.size := by
  obtain ⟨F', s, ev, n⟩ := h
  exact ev.size
end
/- strings -/
abbrev sV (T : Bs) : Vl := ⟨1, T, [], [], []⟩
theorem chk_s {T : Bs} (h : T.length ≤ 1048576) : chk (sV T) = 0 := by
  unfold chk ValueMath.stray ValueMath.mayBe ValueMath.tOk
  simp [h]
theorem wel_s {T : Bs} (h : T.length ≤ 1048576) : Wel (sV T) := Dec.wel_of (by unfold small; simp) ⟨by show T.length < _; omega, fun y hy => by simp at hy, fun y hy => by simp at hy, fun y hy => by simp at hy⟩
theorem small_s (T : Bs) : small (sV T) := by unfold small; simp
theorem va_s (T : Bs) (w : World) : VA w (.agg #[.int .i64 1, .string (mk T), .slice none 0 0, .slice none 0 0, .slice none 0 0]) (sV T) := ⟨_, _, _, rfl, SL.nil _ _, FRow.fs_row (FRow.or_nil 0 _), ERow.fs_row (ERow.or_nil 0 _)⟩
def pS (S : Sp) (k T : Bs) (d : Int) : Sp := ⟨withL S.l k ⟨sV T, d, S.cnt + 1⟩, S.cnt + 1, none⟩
/-- a space that a step more may be done on -/
structure Room (S : Sp) : Prop where
  m : S.mrk = none
  c : S.cnt + 1 < 18446744073709551616
  n : S.l.length + 1 < 1099511627776
theorem three_boxes (w : World) (o1 o2 o3 : Obj) : Below w.heap.size w (((w.alloc o1).alloc o2).alloc o3) ∧ (((w.alloc o1).alloc o2).alloc o3).heap[w.heap.size]? = some o1 ∧ (((w.alloc o1).alloc o2).alloc o3).heap[w.heap.size + 1]? = some o2 ∧ (((w.alloc o1).alloc o2).alloc o3).heap[w.heap.size + 2]? = some o3 ∧ (((w.alloc o1).alloc o2).alloc o3).heap.size = w.heap.size + 3 := by
  refine ⟨FRow.bel (FRow.bel (alb _ _) (alb _ _) (Nat.le_refl _)) (alb _ _) (Nat.le_refl _), ?_, ?_, ?_, by simp⟩
  · rw [Below.heap_alloc _ _ _ (by simp; omega), Below.heap_alloc _ _ _ (by simp)]
    exact heap_alloc_new w _
  · rw [Below.heap_alloc _ _ _ (by simp)]
    have := heap_alloc_new (w.alloc o1) o2
    simpa using this
  · have := heap_alloc_new ((w.alloc o1).alloc o2) o3
    simpa using this
theorem ev_fin4 {w W w1 : World} {q : Nat} (hq : Tmp w W q) (y0 y1 y2 y3 : Value) : Ev (Tmp w W) w1 (fin4 w1 q y0 y1 y2 y3) := by
  unfold fin4
  exact (((Ev.set (M := Tmp w W) hq y0).trans (Ev.set (M := Tmp w W) hq y1)).trans (Ev.set (M := Tmp w W) hq y2)).trans (Ev.set (M := Tmp w W) hq y3)
theorem fin4_ne {w : World} {q k : Nat} (h : k ≠ q) {y0 y1 y2 y3 : Value} : (fin4 w q y0 y1 y2 y3).heap[k]? = w.heap[k]? := by
  unfold fin4
  rw [set_ne h, set_ne h, set_ne h, set_ne h]
section
variable {F X : Nat → Prop} {b : Nat} {w : World} {S : Sp}
set_option maxHeartbeats 4000000 in
set_option maxRecDepth 100000 in
theorem put_call (h : SP F X b w S) (hr : Room S) (k : Bs) (hk : k.length ≤ 281474976710656) (T : Bs) (hT : T.length ≤ 1048576) (d : Int) (hd : 0 ≤ d ∧ d ≤ 9007199254740992) (now : Int) (a : Option Addr) (n c : Nat) (ak : Int) (aT : ByteArray) (an : Int) :
    Calls Tryz.prog 78 #[cV b now a n c, .string (mk k), .string (mk T), .int .i64 d, rp ak aT an] w fun e w' => e = .returned (rp ak aT an) ∧ Dn F X b w w' (pS S k T d) := by
  obtain ⟨W, hW⟩ : ∃ W, W = ((w.alloc (cO b now a n c)).alloc (rO ak aT an (.slice none 0 0))).alloc (rO 0 ⟨#[]⟩ 0 (.slice none 0 0)) := ⟨_, rfl⟩
  obtain ⟨bW, x0, x1, x2, sW⟩ := three_boxes w (cO b now a n c) (rO ak aT an (.slice none 0 0)) (rO 0 ⟨#[]⟩ 0 (.slice none 0 0))
  rw [← hW] at bW x0 x1 x2 sW
  have H1 := hid_of (SPut.put_ok (sp_wide h bW) hr.m hr.c hr.n k hk (va_s T W) (wel_s hT) (small_s T) (chk_s hT) d hd)
  have HH := hid_of h
  have HB := hid_of bW
  have HX1 := hid_of x1
  have HX2 := hid_of x2
  have HSW := hid_of sW
  have HW := hid_of hW
  unfold pS
  clear hW bW x0 x1 x2 sW h
  go_enter Tryz.func78, Tryz.ntmps78
  go_wp2_with fail
  rw [← HW.out]
  refine H1.out.mono ?_
  rintro e w1 ⟨rfl, d1⟩
  have t1 : Tmp w W (w.heap.size + 1) := ⟨by omega, by rw [HSW.out]; omega⟩
  have t2 : Tmp w W (w.heap.size + 2) := ⟨by omega, by rw [HSW.out]; omega⟩
  have z1 := (dn_block HH.out HB.out d1 t1).trans HX1.out
  have z2 := (dn_block HH.out HB.out d1 t2).trans HX2.out
  have hz := fin4_at z2 (.int .i64 ak) (.string aT) (.int .i64 an) (.slice none 0 0)
  have hdn := dn_tmp HH.out HB.out d1 (ev_fin4 t2 (.int .i64 ak) (.string aT) (.int .i64 an) (.slice none 0 0))
  unfold fin4 at hz hdn
  obtain ⟨⟨y0, y1, y2, y3⟩, fy⟩ := box4 z1
  have fy0 := fy 0
  have fy1 := fy 1
  have fy2 := fy 2
  have fy3 := fy 3
  clear fy
  obtain ⟨⟨v0, v1, v2, v3⟩, fv⟩ := box4 z2
  have fv0 := fv 0
  have fv1 := fv 1
  have fv2 := fv 2
  have fv3 := fv 3
  clear fv
  clear d1 z1 z2 H1 t1 t2
  go_wp2_with fail
  obtain ⟨⟨g0, g1, g2, g3⟩, -⟩ := box4 hz
  exact bodyPost_ret (v := rp ak aT an) (by simp [results, Tryz.results78, go_sem, g0, g1, g2, g3]) rfl ⟨rfl, hdn⟩
theorem due_bd (h : SP F X b w S) (k : Bs) (now : Int) : 0 ≤ dueV S now k ∧ dueV S now k ≤ 9007199254740992 := by
  unfold dueV
  cases hg : gt S now k with
  | none => simp
  | some e =>
    obtain ⟨FI, bm, bi, mv, L, s, h⟩ := h
    have he := h.ent k
    rw [(gt_some hg).1] at he
    cases q : lkp L k with
    | none => rw [q] at he; exact absurd he (by simp [Two])
    | some v =>
      rw [q] at he
      exact EnAt.due he
set_option maxHeartbeats 4000000 in
set_option maxRecDepth 100000 in
theorem change_call (h : SP F X b w S) (hr : Room S) (k : Bs) (hk : k.length ≤ 281474976710656) (T : Bs) (hT : T.length ≤ 1048576) (now : Int) (a : Option Addr) (n c : Nat) (ak : Int) (aT : ByteArray) (an : Int) :
    Calls Tryz.prog 70 #[cV b now a n c, .string (mk k), .string (mk T), rp ak aT an] w fun e w' => e = .returned (rp ak aT an) ∧ Dn F X b w w' (pS S k T (dueV S now k)) := by
  obtain ⟨W, hW⟩ : ∃ W, W = ((w.alloc (cO b now a n c)).alloc (rO ak aT an (.slice none 0 0))).alloc (rO 0 ⟨#[]⟩ 0 (.slice none 0 0)) := ⟨_, rfl⟩
  obtain ⟨bW, x0, x1, x2, sW⟩ := three_boxes w (cO b now a n c) (rO ak aT an (.slice none 0 0)) (rO 0 ⟨#[]⟩ 0 (.slice none 0 0))
  rw [← hW] at bW x0 x1 x2 sW
  have H1 := hid_of (dueOf_call ((sp_wide h bW).below (Below.refl _ W).drew) k hk now a n c)
  have hdb := due_bd h k now
  have H2 := hid_of fun (V : World) (hV : Below W.heap.size W V) => put_call ((sp_wide h bW).below hV) hr k hk T hT (dueV S now k) hdb now a n c ak aT an
  have HH := hid_of h
  have HB := hid_of bW
  have HX0 := hid_of x0
  have HX1 := hid_of x1
  have HX2 := hid_of x2
  have HSW := hid_of sW
  have HW := hid_of hW
  clear hW bW x0 x1 x2 sW h hdb
  generalize dueV S now k = d at *
  generalize pS S k T d = S' at *
  go_enter Tryz.func70, Tryz.ntmps70
  go_wp2_with fail
  rw [← HW.out]
  have t0 : Tmp w W w.heap.size := ⟨Nat.le_refl _, by rw [HSW.out]; omega⟩
  have t1 : Tmp w W (w.heap.size + 1) := ⟨by omega, by rw [HSW.out]; omega⟩
  have t2 : Tmp w W (w.heap.size + 2) := ⟨by omega, by rw [HSW.out]; omega⟩
  have s0 : (W.drew.cell? ⟨w.heap.size, 0, none⟩ = some (ptr b) ∧ W.drew.cell? ⟨w.heap.size, 1, none⟩ = some (.int .i64 now) ∧ W.drew.cell? ⟨w.heap.size, 2, none⟩ = some (.slice a n c)) ∧ (W.drew.cell? ⟨w.heap.size + 1, 0, none⟩ = some (.int .i64 ak) ∧ W.drew.cell? ⟨w.heap.size + 1, 1, none⟩ = some (.string aT) ∧ W.drew.cell? ⟨w.heap.size + 1, 2, none⟩ = some (.int .i64 an) ∧ W.drew.cell? ⟨w.heap.size + 1, 3, none⟩ = some (.slice none 0 0)) := ⟨(box3 HX0.out).1, (box4 HX1.out).1⟩
  go_region_held3 (fun V => (V.cell? ⟨w.heap.size, 0, none⟩ = some (ptr b) ∧ V.cell? ⟨w.heap.size, 1, none⟩ = some (.int .i64 now) ∧ V.cell? ⟨w.heap.size, 2, none⟩ = some (.slice a n c)) ∧ (V.cell? ⟨w.heap.size + 1, 0, none⟩ = some (.int .i64 ak) ∧ V.cell? ⟨w.heap.size + 1, 1, none⟩ = some (.string aT) ∧ V.cell? ⟨w.heap.size + 1, 2, none⟩ = some (.int .i64 an) ∧ V.cell? ⟨w.heap.size + 1, 3, none⟩ = some (.slice none 0 0))) (first | with_reducible exact s0 | with_reducible exact s1 | with_reducible exact s2 | with_reducible exact k2) (first
    | (go_at_call 88; refine H1.out.mono ?_; rintro e w1 ⟨rfl, b1⟩; have B1 := hid_of (FRow.bel (Below.refl _ W).drew b1 (Nat.le_refl _)); have s1 : (w1.cell? ⟨w.heap.size, 0, none⟩ = some (ptr b) ∧ w1.cell? ⟨w.heap.size, 1, none⟩ = some (.int .i64 now) ∧ w1.cell? ⟨w.heap.size, 2, none⟩ = some (.slice a n c)) ∧ (w1.cell? ⟨w.heap.size + 1, 0, none⟩ = some (.int .i64 ak) ∧ w1.cell? ⟨w.heap.size + 1, 1, none⟩ = some (.string aT) ∧ w1.cell? ⟨w.heap.size + 1, 2, none⟩ = some (.int .i64 an) ∧ w1.cell? ⟨w.heap.size + 1, 3, none⟩ = some (.slice none 0 0)) := ⟨(box3 ((B1.out.block _ t0.2).trans HX0.out)).1, (box4 ((B1.out.block _ t1.2).trans HX1.out)).1⟩; clear b1)
    | (go_at_call 78; refine (H2.out w1 B1.out).mono ?_; rintro e w2 ⟨rfl, d2⟩; have D2 := hid_of (SDrop.dn_after B1.out d2); have zz0 := (dn_block HH.out HB.out D2.out t0).trans HX0.out; have zz1 := (dn_block HH.out HB.out D2.out t1).trans HX1.out; have zz2 := (dn_block HH.out HB.out D2.out t2).trans HX2.out; have Z2 := hid_of zz2; have s2 : (w2.cell? ⟨w.heap.size, 0, none⟩ = some (ptr b) ∧ w2.cell? ⟨w.heap.size, 1, none⟩ = some (.int .i64 now) ∧ w2.cell? ⟨w.heap.size, 2, none⟩ = some (.slice a n c)) ∧ (w2.cell? ⟨w.heap.size + 1, 0, none⟩ = some (.int .i64 ak) ∧ w2.cell? ⟨w.heap.size + 1, 1, none⟩ = some (.string aT) ∧ w2.cell? ⟨w.heap.size + 1, 2, none⟩ = some (.int .i64 an) ∧ w2.cell? ⟨w.heap.size + 1, 3, none⟩ = some (.slice none 0 0)) := ⟨(box3 zz0).1, (box4 zz1).1⟩; have k2 : (((((w2.setCell ⟨w.heap.size + 2, 0, none⟩ (.int .i64 ak)).setCell ⟨w.heap.size + 2, 1, none⟩ (.string aT)).setCell ⟨w.heap.size + 2, 2, none⟩ (.int .i64 an)).setCell ⟨w.heap.size + 2, 3, none⟩ (.slice none 0 0)).cell? ⟨w.heap.size, 0, none⟩ = some (ptr b) ∧ ((((w2.setCell ⟨w.heap.size + 2, 0, none⟩ (.int .i64 ak)).setCell ⟨w.heap.size + 2, 1, none⟩ (.string aT)).setCell ⟨w.heap.size + 2, 2, none⟩ (.int .i64 an)).setCell ⟨w.heap.size + 2, 3, none⟩ (.slice none 0 0)).cell? ⟨w.heap.size, 1, none⟩ = some (.int .i64 now) ∧ ((((w2.setCell ⟨w.heap.size + 2, 0, none⟩ (.int .i64 ak)).setCell ⟨w.heap.size + 2, 1, none⟩ (.string aT)).setCell ⟨w.heap.size + 2, 2, none⟩ (.int .i64 an)).setCell ⟨w.heap.size + 2, 3, none⟩ (.slice none 0 0)).cell? ⟨w.heap.size, 2, none⟩ = some (.slice a n c)) ∧ (((((w2.setCell ⟨w.heap.size + 2, 0, none⟩ (.int .i64 ak)).setCell ⟨w.heap.size + 2, 1, none⟩ (.string aT)).setCell ⟨w.heap.size + 2, 2, none⟩ (.int .i64 an)).setCell ⟨w.heap.size + 2, 3, none⟩ (.slice none 0 0)).cell? ⟨w.heap.size + 1, 0, none⟩ = some (.int .i64 ak) ∧ ((((w2.setCell ⟨w.heap.size + 2, 0, none⟩ (.int .i64 ak)).setCell ⟨w.heap.size + 2, 1, none⟩ (.string aT)).setCell ⟨w.heap.size + 2, 2, none⟩ (.int .i64 an)).setCell ⟨w.heap.size + 2, 3, none⟩ (.slice none 0 0)).cell? ⟨w.heap.size + 1, 1, none⟩ = some (.string aT) ∧ ((((w2.setCell ⟨w.heap.size + 2, 0, none⟩ (.int .i64 ak)).setCell ⟨w.heap.size + 2, 1, none⟩ (.string aT)).setCell ⟨w.heap.size + 2, 2, none⟩ (.int .i64 an)).setCell ⟨w.heap.size + 2, 3, none⟩ (.slice none 0 0)).cell? ⟨w.heap.size + 1, 2, none⟩ = some (.int .i64 an) ∧ ((((w2.setCell ⟨w.heap.size + 2, 0, none⟩ (.int .i64 ak)).setCell ⟨w.heap.size + 2, 1, none⟩ (.string aT)).setCell ⟨w.heap.size + 2, 2, none⟩ (.int .i64 an)).setCell ⟨w.heap.size + 2, 3, none⟩ (.slice none 0 0)).cell? ⟨w.heap.size + 1, 3, none⟩ = some (.slice none 0 0)) := ⟨(box3 (((fin4_ne (by omega)).trans zz0))).1, (box4 ((fin4_ne (by omega)).trans zz1)).1⟩; obtain ⟨⟨v0, v1, v2, v3⟩, fv⟩ := box4 zz2; have fv0 := fv 0; have fv1 := fv 1; have fv2 := fv 2; have fv3 := fv 3; clear fv zz0 zz1 zz2 d2))
  go_wp2_with fail
  have hz := fin4_at Z2.out (.int .i64 ak) (.string aT) (.int .i64 an) (.slice none 0 0)
  have hdn := dn_tmp HH.out HB.out D2.out (ev_fin4 t2 (.int .i64 ak) (.string aT) (.int .i64 an) (.slice none 0 0))
  unfold fin4 at hz hdn
  obtain ⟨⟨g0, g1, g2, g3⟩, -⟩ := box4 hz
  exact bodyPost_ret (v := rp ak aT an) (by simp [results, Tryz.results70, go_sem, g0, g1, g2, g3]) rfl ⟨rfl, hdn⟩
end
end Go.Proofs.YtiofnocmibjepaaGreatDoor.QPut
end
section
namespace Go.Proofs.YtiofnocmibjepaaGreatDoor.Write
open Go.RowKit Go.Maps
open Go.Proofs.YtiofnocmibjepaaGreatDoor.SetMath
open Go.Proofs.YtiofnocmibjepaaGreatDoor.Base
open Go.Proofs.YtiofnocmibjepaaGreatDoor.Vals
set_option linter.unusedVariables false
set_option linter.unusedSimpArgs false
theorem sl_at {G : Nat → Prop} {w : World} {a : Option Addr} {L c : Nat} {l : List El} (h : SL G w (.slice a L c) l) {j : Nat} (hj : j < l.length) : ∃ g o, a = some ⟨g, o, none⟩ ∧ w.cell? ⟨g, o + j, none⟩ = some (.string (mk l[j])) := by
  obtain ⟨a1, c1, e, _, hr⟩ := h
  injection e with e1 _ _
  subst e1
  obtain ⟨g, o, rfl, _, q⟩ := Rd.get hr (by omega)
  exact ⟨g, o, rfl, q j _ (List.getElem?_eq_getElem hj)⟩
end Go.Proofs.YtiofnocmibjepaaGreatDoor.Write
end
